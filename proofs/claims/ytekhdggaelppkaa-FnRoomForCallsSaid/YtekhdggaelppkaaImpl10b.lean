/- Contracts of the program's chapter 10: the check of holidays and calls, the place of a number, the calls for a day. (written by impl10.py) -/
import Derived.Test.YtekhdggaelppkaaChecked
import Derived.Test.YtekhdggaelppkaaBase0
import Derived.Test.YtekhdggaelppkaaInfo
import Derived.Test.YtekhdggaelppkaaCallB
import Derived.Test.YtekhdggaelppkaaCallC
import Derived.Test.YtekhdggaelppkaaCallD
import Derived.Test.YtekhdggaelppkaaPure100
import Derived.Test.YtekhdggaelppkaaMarkI
import Derived.Test.YtekhdggaelppkaaIntL
import Derived.Test.YtekhdggaelppkaaBuildI
import Derived.Test.YtekhdggaelppkaaPersNum
import Derived.Test.YtekhdggaelppkaaWithin
import Derived.Test.YtekhdggaelppkaaAreDays
import Derived.Test.YtekhdggaelppkaaDay1
import Derived.Test.YtekhdggaelppkaaDay2
import Derived.Test.YtekhdggaelppkaaFind10
import Derived.Test.YtekhdggaelppkaaImpl10a
import Derived.WalkKit
import Derived.WalkSpells
import Derived.WalkLawsBesides
import Derived.Lib.Hide
import Derived.Lib.QuietBelow
import Derived.IntWalk
import Derived.Deep.QuietTactic
import Derived.BigQuiet
import Derived.BigRegion
import Derived.OwnWalk
import Derived.RegionTactic
import Derived.Outline
import Derived.Shelf.Abstract
namespace Go.Proofs.Ytekhdggaelppkaa
open Go.Shelf Go.RowKit Go.Sort Pure1 Pure2 Pure20 Pure21 Pure40

set_option maxHeartbeats 1000000 in
theorem implIsRoom_any (n : Int) (w : World) :
    Calls Try.prog 78 #[.int .i64 n] w fun e w' => e = .returned (.bool (inR n 0 20)) ∧ w' = w := by
  have HC := Lib.hid (implWithin_any n 0 20 w)
  go_enter Try.func78, Try.ntmps78
  go_wp2_with fail
  refine HC.out.mono ?_; rintro e w1 ⟨rfl, rfl⟩
  go_wp2_with fail
  go_ret
  exact ⟨rfl, rfl⟩
theorem implDays10_one (d : Int) (W : World) : Calls Try.prog 51 #[.slice (some ⟨W.heap.size, 0, none⟩) 1 1] (W.alloc (.cells #[.int .i64 d] 2)) fun e w' => e = .returned (.bool (isDay d)) ∧ w' = W.alloc (.cells #[.int .i64 d] 2) := by
  have := implAreDays_any (some ⟨W.heap.size, 0, none⟩) 1 1 [d] (W.alloc (.cells #[.int .i64 d] 2)) rfl (by omega) (one_day10 W d)
  rw [all_one10] at this
  exact this.mono (fun e w' h => ⟨h.1, h.2.symm⟩)
set_option maxRecDepth 100000 in
set_option maxHeartbeats 4000000 in
theorem implCallsErr_any (ha : Option Addr) (hn hc : Nat) (hs : List Int) (a : Option Addr) (len cap : Nat) (ts : List Call) (b : Bool) (w : World) (hhl : hs.length = hn) (hhm : hn ≤ maxLen) (hh : IntsAt w ha hs) (hl : ts.length = len) (hm : len ≤ maxLen) (h : Call.ListAt w a ts) :
    Calls Try.prog 64 #[.slice ha hn hc, .slice a len cap, .bool b] w fun e w' => e = .returned (.int .i64 (codeC hs ts b)) ∧ Below w.heap.size w w' := by
  have HH := Lib.hid (implAreHol_any ha hn hc hs w hhl hhm hh)
  have HT := Lib.hid (implAreC_any a len cap ts w hl hm h)
  clear hhl hhm hh hl hm h
  cases hb1 : hol hs
  · have HN := Lib.hid (codeC_h (ts := ts) (b := b) hb1)
    rw [hb1] at HH; clear hb1
    go_enter Try.func64, Try.ntmps64
    go_wp2_with fail
    refine HH.out.mono ?_; rintro e w1 ⟨rfl, rfl⟩
    go_wp2_with fail
    go_ret
    exact ⟨ret_i64 HN.out.symm, Below.refl _ _⟩
  cases hb2 : areC ts
  · have HN := Lib.hid (codeC_c (hs := hs) (b := b) hb2)
    rw [hb1] at HH; rw [hb2] at HT; clear hb1 hb2
    go_enter Try.func64, Try.ntmps64
    go_wp2_with fail
    refine HH.out.mono ?_; rintro e w1 ⟨rfl, rfl⟩
    go_wp2_with fail
    refine HT.out.mono ?_; rintro e w1 ⟨rfl, hB⟩
    have HB := Lib.hid hB; clear hB
    go_wp2_with fail
    go_ret
    exact ⟨ret_i64 HN.out.symm, HB.out⟩
  cases b
  · have HN := Lib.hid (codeC_2 hb1 hb2)
    rw [hb1] at HH; rw [hb2] at HT; clear hb1 hb2
    go_enter Try.func64, Try.ntmps64
    go_wp2_with fail
    refine HH.out.mono ?_; rintro e w1 ⟨rfl, rfl⟩
    go_wp2_with fail
    refine HT.out.mono ?_; rintro e w1 ⟨rfl, hB⟩
    have HB := Lib.hid hB; clear hB
    go_wp2_with fail
    go_ret
    exact ⟨ret_i64 HN.out.symm, HB.out⟩
  · have HN := Lib.hid (codeC_0 hb1 hb2)
    rw [hb1] at HH; rw [hb2] at HT; clear hb1 hb2
    go_enter Try.func64, Try.ntmps64
    go_wp2_with fail
    refine HH.out.mono ?_; rintro e w1 ⟨rfl, rfl⟩
    go_wp2_with fail
    refine HT.out.mono ?_; rintro e w1 ⟨rfl, hB⟩
    have HB := Lib.hid hB; clear hB
    go_wp2_with fail
    go_ret
    exact ⟨ret_i64 HN.out.symm, HB.out⟩

/-- the place and the code -/
noncomputable def plC (hs : List Int) (ts : List Call) (b : Bool) (n : Int) : Int := if findC hs ts b n = 0 then (placeC ts n : Int) else 0
def SaysPl (hs : List Int) (ts : List Call) (b : Bool) (n : Int) (w : World) (e : Ending) (w' : World) : Prop := e = .returned (.tuple #[.int .i64 (plC hs ts b n), .int .i64 (findC hs ts b n)]) ∧ Below w.heap.size w w'
set_option maxRecDepth 100000 in
set_option maxHeartbeats 4000000 in
theorem implPlace10_code (ha : Option Addr) (hn hc : Nat) (hs : List Int) (a : Option Addr) (len cap : Nat) (ts : List Call) (b : Bool) (n : Int) (w : World) (hhl : hs.length = hn) (hhm : hn ≤ maxLen) (hh : IntsAt w ha hs) (hl : ts.length = len) (hm : len ≤ maxLen) (h : Call.ListAt w a ts) :
    Calls Try.prog 50 #[.slice ha hn hc, .slice a len cap, .bool b, .int .i64 n] w (SaysPl hs ts b n w) := by
  have HC := Lib.hid (implCallsErr_any ha hn hc hs a len cap ts b w hhl hhm hh hl hm h)
  unfold SaysPl
  clear hhl hhm hh
  rcases codeC_cases hs ts b with ⟨hc, _, hA, rfl⟩ | hc | hc
  · have HP := Lib.hid (fun (W : World) (hB : Below w.heap.size w W) => implPlace10_any a len cap ts n W hl hA (h.below hB))
    clear hl hm h hA
    cases hw : whoC ts n with
    | none =>
      have HF := Lib.hid (findC_none hc hw)
      rw [hc] at HC; clear hc
      have HN := Lib.hid (show plC hs ts true n = 0 by unfold plC; rw [if_neg (by rw [HF.out]; omega)])
      generalize plC hs ts true n = p at HN ⊢
      generalize findC hs ts true n = q at HF ⊢
      unfold SaysPlaceC at HP
      rw [hw] at HP
      clear hw
      go_enter Try.func50, Try.ntmps50
      go_wp2_with fail
      refine HC.out.mono ?_; rintro e w1 ⟨rfl, hB⟩
      have HB := Lib.hid hB; clear hB
      go_wp2_with fail
      refine (HP.out w1 HB.out).mono ?_; rintro e w2 ⟨rfl, hB⟩
      have HB2 := Lib.hid (HB.out.trans (hB.mono HB.out.size)); clear hB
      go_wp2_with fail
      go_ret2
      rw [HN.out, HF.out]
      exact ⟨rfl, HB2.out⟩
    | some c =>
      have HF := Lib.hid (findC_some hc hw)
      rw [hc] at HC; clear hc
      have HN := Lib.hid (show plC hs ts true n = (placeC ts n : Int) by unfold plC; rw [if_pos HF.out])
      generalize plC hs ts true n = p at HN ⊢
      generalize findC hs ts true n = q at HF ⊢
      unfold SaysPlaceC at HP
      rw [hw] at HP
      clear hw
      go_enter Try.func50, Try.ntmps50
      go_wp2_with fail
      refine HC.out.mono ?_; rintro e w1 ⟨rfl, hB⟩
      have HB := Lib.hid hB; clear hB
      go_wp2_with fail
      refine (HP.out w1 HB.out).mono ?_; rintro e w2 ⟨rfl, hB⟩
      have HB2 := Lib.hid (HB.out.trans (hB.mono HB.out.size)); clear hB
      go_wp2_with fail
      go_ret2
      rw [HN.out, HF.out]
      exact ⟨rfl, HB2.out⟩
  · have HF := Lib.hid (findC_bad (n := n) hc (by omega))
    rw [hc] at HC; clear hc
    have HN := Lib.hid (show plC hs ts b n = 0 by unfold plC; rw [if_neg (by rw [HF.out]; omega)])
    generalize plC hs ts b n = p at HN ⊢
    generalize findC hs ts b n = q at HF ⊢
    go_enter Try.func50, Try.ntmps50
    go_wp2_with fail
    refine HC.out.mono ?_; rintro e w1 ⟨rfl, hB⟩
    have HB := Lib.hid hB; clear hB
    go_wp2_with fail
    go_ret2
    rw [HN.out, HF.out]
    exact ⟨rfl, HB.out⟩
  · have HF := Lib.hid (findC_bad (n := n) hc (by omega))
    rw [hc] at HC; clear hc
    have HN := Lib.hid (show plC hs ts b n = 0 by unfold plC; rw [if_neg (by rw [HF.out]; omega)])
    generalize plC hs ts b n = p at HN ⊢
    generalize findC hs ts b n = q at HF ⊢
    go_enter Try.func50, Try.ntmps50
    go_wp2_with fail
    refine HC.out.mono ?_; rintro e w1 ⟨rfl, hB⟩
    have HB := Lib.hid hB; clear hB
    go_wp2_with fail
    go_ret2
    rw [HN.out, HF.out]
    exact ⟨rfl, HB.out⟩

/-- numbers of our own and a code are returned -/
def SaysBI10 (zs : List Int) (n : Int) (w : World) (e : Ending) (w' : World) : Prop := ∃ v, e = .returned (.tuple #[v, .int .i64 n]) ∧ BuildI w.heap.size w' v zs ∧ Below w.heap.size w w'
def SaysB10 (zs : List Int) (w : World) (e : Ending) (w' : World) : Prop := ∃ v, e = .returned v ∧ BuildI w.heap.size w' v zs ∧ Below w.heap.size w w'
set_option maxRecDepth 100000 in
set_option maxHeartbeats 4000000 in
theorem implOn10_any (a : Option Addr) (len cap : Nat) (ts : List Call) (d : Int) (w : World) (hl : ts.length = len) (hm : len ≤ 20) (h : Call.ListAt w a ts) :
    Calls Try.prog 76 #[.slice a len cap, .int .i64 d] w (SaysB10 (numsC (dayC d) ts) w) := by
  have HL := Lib.hid hl; have HI := Lib.hid h; clear hl h
  go_enter Try.func76, Try.ntmps76
  go_wp2_with fail
  go_loopw [5, 7, 10] (fun v _ i wr => ∃ k : Nat, k ≤ len ∧ i = .int .i64 k ∧ BuildI w.heap.size wr v (numsCo (dayC d) ts k) ∧ Below w.heap.size w wr) (fun _ _ i _ => len - (intOf i).toNat)
  case atStart => exact ⟨0, Nat.zero_le _, rfl, BuildI.nil _ _, Below.refl _ _⟩
  case round =>
    obtain ⟨k, hk, rfl, ho, hB⟩ := hrel
    have HO := Lib.hid ho; have HB := Lib.hid hB; clear ho hB
    by_cases hlt : k < len
    · obtain ⟨b, off, c, ha, hc, hp⟩ := (HI.out.below HB.out).at HL.out hlt
      have HP := Lib.hid hp; clear hp
      subst ha
      obtain ⟨c0, c1, c2, c3⟩ := hc
      have HX := Lib.hid (Call.boxed wr c 41)
      have HO2 := Lib.hid (HO.out.alloc (.cells #[.int .i64 c.num, .int .i64 c.fst, .int .i64 c.day, .int .i64 c.moves] 41))
      have HB2 := Lib.hid (HB.out.alloc HB.out.size (.cells #[.int .i64 c.num, .int .i64 c.fst, .int .i64 c.day, .int .i64 c.moves] 41))
      have HZ := Lib.hid (Nat.le_trans (numsCo_len (dayC d) ts k) (show k ≤ 20 by omega))
      obtain ⟨d0, d1, d2, d3⟩ := HX.out
      by_cases hd : c.day = d
      · have HN := Lib.hid (numsCo_yes HP.out (show dayC d c = true from decide_eq_true hd))
        have hdb : (c.day == d) = true := beq_iff_eq.2 hd
        have HO4 := Lib.hid (HO2.out.alloc (.cells #[.int .i64 c.num] 2))
        have HB4 := Lib.hid (HB2.out.alloc HB2.out.size (.cells #[.int .i64 c.num] 2))
        clear hd
        generalize numsCo (dayC d) ts k = zs at HO HO2 HN HZ HO4 ⊢
        go_wp2_with (at_builtin; refine wpList_int_append (B := w.heap.size) rfl _ _ rfl _ zs rfl HO4.out _ c.num rfl (BuildI.lit2 _ _ _ _) ?c1 ?c2 ?_)
        case c1 => have := HZ.out; omega
        case c2 => exact HB4.out.size
        intro v' w5 ho5 hg5
        have HO5 := Lib.hid ho5
        have HB5 := Lib.hid (HO4.out.grew HB4.out (Nat.le_refl _) HB4.out.size hg5)
        clear ho5 hg5 c0 c1 c2 c3 d0 d1 d2 d3
        go_wp2_with fail
        go_roundw
        case rel => exact ⟨k + 1, by omega, by go_num, by rw [HN.out]; exact HO5.out, HB5.out⟩
        case measure => simp [intOf]; omega
      · have HN := Lib.hid (numsCo_no HP.out (show dayC d c = false from decide_eq_false hd))
        have hdb : (c.day == d) = false := beq_eq_false_iff_ne.2 hd
        clear hd
        go_wp2_with fail
        go_roundw
        case rel => exact ⟨k + 1, by omega, by go_num, by rw [HN.out]; exact HO2.out, HB2.out⟩
        case measure => simp [intOf]; omega
    · have HE := Lib.hid (numsCo_end (p := dayC d) (show ts.length ≤ k by rw [HL.out]; omega))
      go_wp2_with fail
      go_ret
      exact ⟨_, rfl, by rw [← HE.out]; exact HO.out, HB.out⟩

set_option maxRecDepth 100000 in
set_option maxHeartbeats 4000000 in
theorem implCalledOn_any (a : Option Addr) (len cap : Nat) (ts : List Call) (d : Int) (w : World) (hl : ts.length = len) (hm : len ≤ maxLen) (h : Call.ListAt w a ts) :
    Calls Try.prog 28 #[.slice a len cap, .int .i64 d] w (SaysBI10 (onC ts d).1 (onC ts d).2 w) := by
  have HD := Lib.hid (fun W => implDays10_one d W)
  have HC := Lib.hid (fun (W : World) (hB : Below w.heap.size w W) => implCallsErr_any none 0 0 [] a len cap ts (isDay d) W rfl (by unfold maxLen; omega) (.inl rfl) hl hm (h.below hB))
  rcases codeC_cases [] ts (isDay d) with ⟨hc, _, hA, hd⟩ | hc | hc
  · have HF := Lib.hid (onC_ok hc)
    have HO := Lib.hid (fun (W : World) (hB : Below w.heap.size w W) => implOn10_any a len cap ts d W hl (by rw [← hl]; exact areC_len hA) (h.below hB))
    rw [hc] at HC; clear hc hA hl hm h hd
    generalize onC ts d = v at HF ⊢
    go_enter Try.func28, Try.ntmps28
    go_wp2_with fail
    refine (HD.out w).mono ?_; rintro e w1 ⟨rfl, hw⟩
    have HW1 := Lib.hid (show Below w.heap.size w w1 by rw [hw]; exact (Below.refl _ _).alloc (Nat.le_refl _) _)
    clear hw
    go_wp2_with fail
    refine (HC.out w1 HW1.out).mono ?_; rintro e w2 ⟨rfl, hB⟩
    have HB := Lib.hid (HW1.out.trans (hB.mono HW1.out.size)); clear hB
    go_wp2_with fail
    refine (HO.out w2 HB.out).mono ?_; rintro e w3 ⟨v3, rfl, ho, hB⟩
    have HO3 := Lib.hid (ho.base HB.out.size)
    have HB3 := Lib.hid (HB.out.trans (hB.mono HB.out.size)); clear ho hB
    go_wp2_with fail
    go_ret2
    rw [HF.out]
    exact ⟨_, rfl, HO3.out, HB3.out⟩
  · have HF := Lib.hid (onC_bad hc (by omega))
    rw [hc] at HC; clear hc hl hm h
    generalize onC ts d = v at HF ⊢
    go_enter Try.func28, Try.ntmps28
    go_wp2_with fail
    refine (HD.out w).mono ?_; rintro e w1 ⟨rfl, hw⟩
    have HW1 := Lib.hid (show Below w.heap.size w w1 by rw [hw]; exact (Below.refl _ _).alloc (Nat.le_refl _) _)
    clear hw
    go_wp2_with fail
    refine (HC.out w1 HW1.out).mono ?_; rintro e w2 ⟨rfl, hB⟩
    have HB := Lib.hid (HW1.out.trans (hB.mono HW1.out.size)); clear hB
    go_wp2_with fail
    go_ret2
    rw [HF.out]
    exact ⟨_, rfl, BuildI.nil _ _, HB.out⟩
  · have HF := Lib.hid (onC_bad hc (by omega))
    rw [hc] at HC; clear hc hl hm h
    generalize onC ts d = v at HF ⊢
    go_enter Try.func28, Try.ntmps28
    go_wp2_with fail
    refine (HD.out w).mono ?_; rintro e w1 ⟨rfl, hw⟩
    have HW1 := Lib.hid (show Below w.heap.size w w1 by rw [hw]; exact (Below.refl _ _).alloc (Nat.le_refl _) _)
    clear hw
    go_wp2_with fail
    refine (HC.out w1 HW1.out).mono ?_; rintro e w2 ⟨rfl, hB⟩
    have HB := Lib.hid (HW1.out.trans (hB.mono HW1.out.size)); clear hB
    go_wp2_with fail
    go_ret2
    rw [HF.out]
    exact ⟨_, rfl, BuildI.nil _ _, HB.out⟩

end Go.Proofs.Ytekhdggaelppkaa
