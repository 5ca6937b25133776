/- Contracts of the program's chapter 10: the first day with room, the crowded days. (written by impl10.py) -/
import Derived.Test.YtekhdggaelppkaaChecked
import Derived.Test.YtekhdggaelppkaaBase0
import Derived.Test.YtekhdggaelppkaaInfo
import Derived.Test.YtekhdggaelppkaaCallB
import Derived.Test.YtekhdggaelppkaaCallC
import Derived.Test.YtekhdggaelppkaaCallD
import Derived.Test.YtekhdggaelppkaaPure100
import Derived.Test.YtekhdggaelppkaaMarkI
import Derived.Test.YtekhdggaelppkaaIntL
import Derived.Test.YtekhdggaelppkaaBuildI
import Derived.Test.YtekhdggaelppkaaSortI
import Derived.Test.YtekhdggaelppkaaPersNum
import Derived.Test.YtekhdggaelppkaaWithin
import Derived.Test.YtekhdggaelppkaaAreDays
import Derived.Test.YtekhdggaelppkaaDay1
import Derived.Test.YtekhdggaelppkaaDay2
import Derived.Test.YtekhdggaelppkaaFind10
import Derived.Test.YtekhdggaelppkaaImpl10a
import Derived.Test.YtekhdggaelppkaaImpl10b
import Derived.Test.YtekhdggaelppkaaImpl10c
import Derived.WalkKit
import Derived.WalkSpells
import Derived.WalkLawsBesides
import Derived.Lib.Hide
import Derived.Lib.QuietBelow
import Derived.IntWalk
import Derived.Deep.QuietTactic
import Derived.BigQuiet
import Derived.BigRegion
import Derived.OwnWalk
import Derived.RegionTactic
import Derived.Outline
import Derived.Shelf.Abstract
import Derived.WalkMore
namespace Go.Proofs.Ytekhdggaelppkaa
open Go.Shelf Go.RowKit Go.Sort Pure1 Pure2 Pure20 Pure21 Pure40

set_option maxRecDepth 100000 in
set_option maxHeartbeats 4000000 in
theorem implCount10_any (a : Option Addr) (len cap : Nat) (ts : List Call) (d : Int) (w : World) (hl : ts.length = len) (hm : len ≤ 20) (h : Call.ListAt w a ts) :
    Calls Try.prog 81 #[.slice a len cap, .int .i64 d] w fun e w' => e = .returned (.int .i64 (cntC ts d : Int)) ∧ Below w.heap.size w w' := by
  have HC := Lib.hid (implOn10_any a len cap ts d w hl hm h)
  have HE := Lib.hid (show cntC ts d = (numsC (dayC d) ts).length from rfl)
  generalize cntC ts d = n at HE ⊢
  clear h hl hm
  go_enter Try.func81, Try.ntmps81
  go_wp2_with fail
  refine HC.out.mono ?_; rintro e w1 ⟨v, rfl, ho, hB⟩
  obtain ⟨a1, cap1, rfl, _⟩ := ho.slice
  have HB := Lib.hid hB; clear hB ho
  rw [← HE.out]
  go_wp2_with fail
  go_ret
  exact ⟨rfl, HB.out⟩
/-- a day and whether there is one -/
def SaysFR (hs : List Int) (ts : List Call) (c : Call) (r : Int) (w : World) (e : Ending) (w' : World) : Prop :=
  ∃ (p : Int) (b : Bool), e = .returned (.tuple #[.int .i64 p, .bool b]) ∧ roomL hs ts c r = (if b = true then (p, 0) else (0, 5)) ∧ Below w.heap.size w w'
set_option maxRecDepth 100000 in
set_option maxHeartbeats 4000000 in
theorem implFirst10_any (c : Call) (ha : Option Addr) (hn hc : Nat) (hs : List Int) (a : Option Addr) (len cap : Nat) (ts : List Call) (r : Int) (w : World) (hok : okC c = true) (hhl : hs.length = hn) (hh : IntsAt w ha hs) (hH : Hol hs) (hl : ts.length = len) (hm : len ≤ 20) (h : Call.ListAt w a ts) :
    Calls Try.prog 79 #[.agg #[.int .i64 c.num, .int .i64 c.fst, .int .i64 c.day, .int .i64 c.moves], .slice ha hn hc, .slice a len cap, .int .i64 r] w (SaysFR hs ts c r w) := by
  have hok' := okC_parts hok
  obtain ⟨_, o2, o3, _, _⟩ := hok'
  have HM := Lib.hid (fun (x : Int) (hx : 0 ≤ x ∧ x ≤ 20000) (W : World) (hB : Below w.heap.size w W) => implMay10_any c ha hn hc hs x W hok hx hhl (hh.below hB) hH)
  have HN := Lib.hid (fun (x : Int) (W : World) (hB : Below w.heap.size w W) => implCount10_any a len cap ts x W hl hm (h.below hB))
  have HLD := Lib.hid (fun (W : World) => implLastDay_any c W ⟨o3.1, by omega⟩)
  have HA := Lib.hid (Call.boxed w c 41)
  have HW := Lib.hid (Call.bx w (.cells #[.int .i64 c.num, .int .i64 c.fst, .int .i64 c.day, .int .i64 c.moves] 41))
  have hlim0 : min (c.fst + 180) 20000 ≤ 20000 := by omega
  have HLim := Lib.hid (show min (c.fst + 180) 20000 = min (c.fst + 180) 20000 from rfl)
  have HEnd := Lib.hid (fun (x : Int) (hx : min (c.fst + 180) 20000 < x) hno => roomL_end (hs := hs) (ts := ts) (c := c) (r := r) (n := x) hx hno)
  generalize min (c.fst + 180) 20000 = lim at HLD hlim0 HEnd
  clear HLim hok hhl hh hH hl hm h
  go_enter Try.func79, Try.ntmps79
  obtain ⟨a0, a1, a2, a3⟩ := HA.out
  go_wp2_with fail
  go_step3
  go_wp2_with fail
  go_step3
  go_wp2_with fail
  clear a0 a1 a2 a3
  go_loopw [10, 15, 20] (fun v _ _ wr => ∃ x : Int, v = .int .i64 x ∧ c.day ≤ x ∧ x ≤ 20000 ∧ (∀ y, c.day < y → y < x + 1 → ¬ RoomOk hs ts c r y) ∧ Below w.heap.size w wr ∧ Call.Box wr w.heap.size c) (fun v _ _ _ => (20000 - intOf v).toNat)
  case atStart => exact ⟨c.day, rfl, Int.le_refl _, o2.2, noRoom_zero hs ts c r, HW.out, HA.out⟩
  case round =>
    obtain ⟨x, rfl, hx0, hx1, hno, hB, hbx⟩ := hrel
    have HNO := Lib.hid hno; have HB := Lib.hid hB; have HX := Lib.hid hbx
    clear hno hB hbx
    have q1 : IntKind.i64.wrap (x + 1) = x + 1 := IntWalk.i64_in _ (by omega)
    obtain ⟨a0, a1, a2, a3⟩ := HX.out
    go_wp2_with fail
    refine (HLD.out wr).mono ?_; rintro e w1 ⟨rfl, hB⟩
    have HB1 := Lib.hid (HB.out.trans (hB.mono HB.out.size)); have HX1 := Lib.hid (HX.out.below hB); clear hB a0 a1 a2 a3
    by_cases hgt : lim < x + 1
    · have hgb : decide (x + 1 > lim) = true := decide_eq_true hgt
      have HF := Lib.hid (HEnd.out (x + 1) hgt HNO.out)
      clear hgt
      go_wp2_with fail
      go_ret2
      exact ⟨0, false, rfl, by rw [HF.out]; rfl, HB1.out⟩
    · have hgb : decide (x + 1 > lim) = false := decide_eq_false hgt
      have hx2 : x + 1 ≤ 20000 := by omega
      have HM1 := Lib.hid (HM.out (x + 1) ⟨by omega, hx2⟩ w1 HB1.out)
      clear hgt
      obtain ⟨a0, a1, a2, a3⟩ := HX1.out
      cases hmay : mayC hs c (x + 1)
      · have HN1 := Lib.hid (noRoom_may HNO.out hmay)
        rw [hmay] at HM1; clear hmay
        go_wp2_with fail
        refine HM1.out.mono ?_; rintro e w2 ⟨rfl, hB⟩
        have HB2 := Lib.hid (HB1.out.trans (hB.mono HB1.out.size)); have HX2 := Lib.hid (HX1.out.below hB); clear hB a0 a1 a2 a3
        go_wp2_with fail
        go_roundw
        case rel => exact ⟨x + 1, by go_num, by omega, hx2, HN1.out, HB2.out, HX2.out⟩
        case measure => simp [intOf]; omega
      · rw [hmay] at HM1
        have HMY := Lib.hid hmay; clear hmay
        go_wp2_with fail
        refine HM1.out.mono ?_; rintro e w2 ⟨rfl, hB⟩
        have HB2 := Lib.hid (HB1.out.trans (hB.mono HB1.out.size)); have HX2 := Lib.hid (HX1.out.below hB); clear hB a0 a1 a2 a3
        go_wp2_with fail
        refine (HN.out (x + 1) w2 HB2.out).mono ?_; rintro e w3 ⟨rfl, hB⟩
        have HB3 := Lib.hid (HB2.out.trans (hB.mono HB2.out.size)); have HX3 := Lib.hid (HX2.out.below hB); clear hB
        by_cases hlt : (cntC ts (x + 1) : Int) < r
        · have hlb : decide ((cntC ts (x + 1) : Int) < r) = true := decide_eq_true hlt
          have HF := Lib.hid (roomL_found HNO.out HMY.out hlt)
          clear hlt
          go_wp2_with fail
          go_ret2
          exact ⟨x + 1, true, by go_num, by rw [HF.out]; rfl, HB3.out⟩
        · have hlb : decide ((cntC ts (x + 1) : Int) < r) = false := decide_eq_false hlt
          have HN1 := Lib.hid (noRoom_full HNO.out hlt)
          clear hlt
          go_wp2_with fail
          go_roundw
          case rel => exact ⟨x + 1, by go_num, by omega, hx2, HN1.out, HB3.out, HX3.out⟩
          case measure => simp [intOf]; omega

set_option maxRecDepth 100000 in
set_option maxHeartbeats 4000000 in
theorem implFirstRoom_any (ha : Option Addr) (hn hc : Nat) (hs : List Int) (a : Option Addr) (len cap : Nat) (ts : List Call) (n r : Int) (w : World) (hhl : hs.length = hn) (hhm : hn ≤ maxLen) (hh : IntsAt w ha hs) (hl : ts.length = len) (hm : len ≤ maxLen) (h : Call.ListAt w a ts) :
    Calls Try.prog 32 #[.slice ha hn hc, .slice a len cap, .int .i64 n, .int .i64 r] w fun e w' => e = .returned (.tuple #[.int .i64 (rooR hs ts n r).1, .int .i64 (rooR hs ts n r).2]) ∧ Below w.heap.size w w' := by
  have HD := Lib.hid (fun W => implIsRoom_any r W)
  have HC := Lib.hid (fun (W : World) (hB : Below w.heap.size w W) => implPlace10_code ha hn hc hs a len cap ts (inR r 0 20) n W hhl hhm (hh.below hB) hl hm (h.below hB))
  unfold SaysPl at HC
  rcases findC_cases hs ts (inR r 0 20) n with ⟨h0, ⟨hH, hA, hb⟩, c, hw⟩ | h0 | h0 | h0
  · obtain ⟨hc1, hn1⟩ := whoC_some hw
    have hk := lt_of_getC hc1
    have HF := Lib.hid (show rooR hs ts n r = _ from rooR_ok h0 hw)
    have HM := Lib.hid (fun (W : World) (hB : Below w.heap.size w W) => implFirst10_any c ha hn hc hs a len cap ts r W (areC_at hA hc1) hhl (hh.below hB) ((hol_iff hs).1 hH) hl (by rw [← hl]; exact areC_len hA) (h.below hB))
    obtain ⟨b, off, c', ha1, hcc, hp⟩ := h.at hl (show placeC ts n < len by omega)
    rw [hc1] at hp
    obtain rfl := Option.some.inj hp
    have HX := Lib.hid hcc
    have hkl : placeC ts n < len := by omega
    rw [plC_ok h0, h0] at HC
    subst ha1
    generalize hv : rooR hs ts n r = v at HF ⊢
    clear h0 hH hA hb hw hn1 hcc hp hv 
    generalize placeC ts n = k at *
    go_enter Try.func32, Try.ntmps32
    go_wp2_with fail
    refine (HD.out w).mono ?_; rintro e w1 ⟨rfl, hw⟩
    subst hw
    go_wp2_with fail
    refine (HC.out w1 (Below.refl _ _)).mono ?_; rintro e w2 ⟨rfl, hB⟩
    have HB := Lib.hid hB; clear hB
    obtain ⟨c0, c1, c2, c3⟩ := HX.out.below HB.out
    go_wp2_with fail
    refine (HM.out w2 HB.out).mono ?_; rintro e w3 ⟨p, fb, rfl, hroom, hB⟩
    have HB3 := Lib.hid (HB.out.trans (hB.mono HB.out.size)); have HRO := Lib.hid hroom; clear hB hroom
    cases fb
    · go_wp2_with fail
      go_ret2
      rw [HF.out, HRO.out]
      exact ⟨rfl, HB3.out⟩
    · go_wp2_with fail
      go_ret2
      rw [HF.out, HRO.out]
      exact ⟨rfl, HB3.out⟩
  · have HF := Lib.hid (rooR_bad h0 (by omega))
    rw [plC_bad h0 (by omega), h0] at HC
    generalize hv : rooR hs ts n r = v at HF ⊢
    clear h0 hv
    go_enter Try.func32, Try.ntmps32
    go_wp2_with fail
    refine (HD.out w).mono ?_; rintro e w1 ⟨rfl, hw⟩
    subst hw
    go_wp2_with fail
    refine (HC.out w1 (Below.refl _ _)).mono ?_; rintro e w2 ⟨rfl, hB⟩
    have HB := Lib.hid hB; clear hB
    go_wp2_with fail
    go_ret2
    rw [HF.out]
    exact ⟨rfl, HB.out⟩
  · have HF := Lib.hid (rooR_bad h0 (by omega))
    rw [plC_bad h0 (by omega), h0] at HC
    generalize hv : rooR hs ts n r = v at HF ⊢
    clear h0 hv
    go_enter Try.func32, Try.ntmps32
    go_wp2_with fail
    refine (HD.out w).mono ?_; rintro e w1 ⟨rfl, hw⟩
    subst hw
    go_wp2_with fail
    refine (HC.out w1 (Below.refl _ _)).mono ?_; rintro e w2 ⟨rfl, hB⟩
    have HB := Lib.hid hB; clear hB
    go_wp2_with fail
    go_ret2
    rw [HF.out]
    exact ⟨rfl, HB.out⟩
  · have HF := Lib.hid (rooR_bad h0 (by omega))
    rw [plC_bad h0 (by omega), h0] at HC
    generalize hv : rooR hs ts n r = v at HF ⊢
    clear h0 hv
    go_enter Try.func32, Try.ntmps32
    go_wp2_with fail
    refine (HD.out w).mono ?_; rintro e w1 ⟨rfl, hw⟩
    subst hw
    go_wp2_with fail
    refine (HC.out w1 (Below.refl _ _)).mono ?_; rintro e w2 ⟨rfl, hB⟩
    have HB := Lib.hid hB; clear hB
    go_wp2_with fail
    go_ret2
    rw [HF.out]
    exact ⟨rfl, HB.out⟩

set_option maxRecDepth 100000 in
set_option maxHeartbeats 4000000 in
theorem implCrowdedDays_any (a : Option Addr) (len cap : Nat) (ts : List Call) (r : Int) (w : World) (hl : ts.length = len) (hm : len ≤ maxLen) (h : Call.ListAt w a ts) :
    Calls Try.prog 37 #[.slice a len cap, .int .i64 r] w (SaysBI10 (crowR ts r).1 (crowR ts r).2 w) := by
  have HD := Lib.hid (fun W => implIsRoom_any r W)
  have HC := Lib.hid (fun (W : World) (hB : Below w.heap.size w W) => implCallsErr_any none 0 0 [] a len cap ts (inR r 0 20) W rfl (by unfold maxLen; omega) (.inl rfl) hl hm (h.below hB))
  rcases codeC_cases [] ts (inR r 0 20) with ⟨hc, _, hA, hd⟩ | hc | hc
  · have HF := Lib.hid (crowR_ok hc)
    have hlen : len ≤ 20 := by rw [← hl]; exact areC_len hA
    have HN := Lib.hid (fun (x : Int) (W : World) (hB : Below w.heap.size w W) => implCount10_any a len cap ts x W hl hlen (h.below hB))
    have HL := Lib.hid hl; have HI := Lib.hid h
    rw [hc] at HC; clear hc hA hl hm h hd
    generalize crowR ts r = v at HF ⊢
    go_enter Try.func37, Try.ntmps37
    go_wp2_with fail
    refine (HD.out w).mono ?_; rintro e w1 ⟨rfl, hw⟩
    subst hw
    go_wp2_with fail
    refine (HC.out w1 (Below.refl _ _)).mono ?_; rintro e w2 ⟨rfl, hB⟩
    have HB := Lib.hid hB; clear hB
    go_wp2_with fail
    go_loopw [7, 9, 19] (fun v _ i wr => ∃ k : Nat, k ≤ len ∧ i = .int .i64 k ∧ BuildI w1.heap.size wr v (crowMo ts r k) ∧ Below w1.heap.size w1 wr) (fun _ _ i _ => len - (intOf i).toNat)
    case atStart => exact ⟨0, Nat.zero_le _, rfl, BuildI.nil _ _, HB.out⟩
    case round =>
      obtain ⟨k, hk, rfl, ho, hB⟩ := hrel
      have HO := Lib.hid ho; have HBr := Lib.hid hB; clear ho hB
      by_cases hlt : k < len
      · obtain ⟨b, off, c, ha, hc, hp⟩ := (HI.out.below HBr.out).at HL.out hlt
        have HP := Lib.hid hp; clear hp
        subst ha
        obtain ⟨c0, c1, c2, c3⟩ := hc
        have HX := Lib.hid (Call.boxed wr c 41)
        have HO2 := Lib.hid (HO.out.alloc (.cells #[.int .i64 c.num, .int .i64 c.fst, .int .i64 c.day, .int .i64 c.moves] 41))
        have HB2 := Lib.hid (HBr.out.alloc HBr.out.size (.cells #[.int .i64 c.num, .int .i64 c.fst, .int .i64 c.day, .int .i64 c.moves] 41))
        have HZ := Lib.hid (Nat.le_trans (crowMo_len ts r k) (show k ≤ 20 by omega))
        obtain ⟨d0, d1, d2, d3⟩ := HX.out
        go_wp2_with fail
        refine (HN.out c.day _ HB2.out).mono ?_; rintro e w3 ⟨rfl, hB⟩
        have HO3 := Lib.hid (HO2.out.below hB); have HB3 := Lib.hid (HB2.out.trans (hB.mono HB2.out.size)); have HX3 := Lib.hid (HX.out.below hB)
        clear hB d0 d1 d2 d3 c0 c1 c2 c3
        by_cases hd : r < (cntC ts c.day : Int)
        · have HNx := Lib.hid (crowMo_yes HP.out (show crowd ts r c = true from decide_eq_true hd))
          have hdb : decide ((cntC ts c.day : Int) > r) = true := decide_eq_true hd
          have HO4 := Lib.hid (HO3.out.alloc (.cells #[.int .i64 c.day] 2))
          have HB4 := Lib.hid (HB3.out.alloc HB3.out.size (.cells #[.int .i64 c.day] 2))
          obtain ⟨d0, d1, d2, d3⟩ := HX3.out
          clear hd
          generalize crowMo ts r k = zs at HO HO2 HO3 HNx HZ HO4 ⊢
          go_wp2_with (at_builtin; refine wpList_int_append (B := w1.heap.size) rfl _ _ rfl _ zs rfl HO4.out _ c.day rfl (BuildI.lit1 _ _ _) ?c1 ?c2 ?_)
          case c1 => have := HZ.out; omega
          case c2 => exact HB4.out.size
          intro v' w5 ho5 hg5
          have HO5 := Lib.hid ho5
          have HB5 := Lib.hid (HO4.out.grew HB4.out (Nat.le_refl _) HB4.out.size hg5)
          clear ho5 hg5 d0 d1 d2 d3
          go_wp2_with fail
          go_roundw
          case rel => exact ⟨k + 1, by omega, by go_num, by rw [HNx.out]; exact HO5.out, HB5.out⟩
          case measure => simp [intOf]; omega
        · have HNx := Lib.hid (crowMo_no HP.out (show crowd ts r c = false from decide_eq_false hd))
          have hdb : decide ((cntC ts c.day : Int) > r) = false := decide_eq_false hd
          clear hd
          go_wp2_with fail
          go_roundw
          case rel => exact ⟨k + 1, by omega, by go_num, by rw [HNx.out]; exact HO3.out, HB3.out⟩
          case measure => simp [intOf]; omega
      · obtain rfl : k = len := by omega
        have HE := Lib.hid (crow_sorted (ts := ts) (r := r) HL.out (sortI_pair (crowMo ts r k)) (sortI_perm _))
        have HLE := Lib.hid (show crowTo ts r k = crowTo ts r ts.length by rw [HL.out])
        have hz := Nat.le_trans (crowMo_len ts r k) (show k ≤ 20 by omega)
        generalize crowMo ts r k = zs at HO HE hz ⊢
        have HZ := Lib.hid hz; clear hz hlt
        go_wp2_with fail
        refine (implSortI_any w1.heap.size _ zs wr HBr.out.size HO.out (by have := HZ.out; omega)).mono ?_; rintro e w3 ⟨rfl, ho, hB⟩
        have HO3 := Lib.hid ho; have HB3 := Lib.hid (HBr.out.trans hB); clear ho hB
        go_wp2_with fail
        refine (implCompactI_any w1.heap.size _ (sortI zs) w3 HB3.out.size HO3.out (by rw [sortI_length]; have := HZ.out; omega)).mono ?_; rintro e w4 ⟨v4, rfl, ho, hB⟩
        have HO4 := Lib.hid ho; have HB4 := Lib.hid (HB3.out.trans hB); clear ho hB
        go_wp2_with fail
        go_ret2
        rw [HF.out]
        exact ⟨_, rfl, by rw [← HLE.out, ← HE.out]; exact HO4.out, HB4.out⟩
  · have HF := Lib.hid (crowR_bad hc (by omega))
    rw [hc] at HC; clear hc hl hm h
    generalize crowR ts r = v at HF ⊢
    go_enter Try.func37, Try.ntmps37
    go_wp2_with fail
    refine (HD.out w).mono ?_; rintro e w1 ⟨rfl, hw⟩
    subst hw
    go_wp2_with fail
    refine (HC.out w1 (Below.refl _ _)).mono ?_; rintro e w2 ⟨rfl, hB⟩
    have HB := Lib.hid hB; clear hB
    go_wp2_with fail
    go_ret2
    rw [HF.out]
    exact ⟨_, rfl, BuildI.nil _ _, HB.out⟩
  · have HF := Lib.hid (crowR_bad hc (by omega))
    rw [hc] at HC; clear hc hl hm h
    generalize crowR ts r = v at HF ⊢
    go_enter Try.func37, Try.ntmps37
    go_wp2_with fail
    refine (HD.out w).mono ?_; rintro e w1 ⟨rfl, hw⟩
    subst hw
    go_wp2_with fail
    refine (HC.out w1 (Below.refl _ _)).mono ?_; rintro e w2 ⟨rfl, hB⟩
    have HB := Lib.hid hB; clear hB
    go_wp2_with fail
    go_ret2
    rw [HF.out]
    exact ⟨_, rfl, BuildI.nil _ _, HB.out⟩

end Go.Proofs.Ytekhdggaelppkaa
