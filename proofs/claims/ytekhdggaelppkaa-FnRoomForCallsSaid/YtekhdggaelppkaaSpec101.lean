/- Contracts of chapter 10's model: the calls for a day, the index of a number, the code, may it be moved. (written by spec10.py) -/
import Derived.Test.YtekhdggaelppkaaChecked
import Derived.Test.YtekhdggaelppkaaBase0
import Derived.Test.YtekhdggaelppkaaInfo
import Derived.Test.YtekhdggaelppkaaCallB
import Derived.Test.YtekhdggaelppkaaCallC
import Derived.Test.YtekhdggaelppkaaCallD
import Derived.Test.YtekhdggaelppkaaPure100
import Derived.Test.YtekhdggaelppkaaMarkI
import Derived.Test.YtekhdggaelppkaaIntL
import Derived.Test.YtekhdggaelppkaaBuildI
import Derived.Test.YtekhdggaelppkaaDay1
import Derived.Test.YtekhdggaelppkaaDay2
import Derived.Test.YtekhdggaelppkaaDay3
import Derived.Test.YtekhdggaelppkaaImpl10b
import Derived.Test.YtekhdggaelppkaaSpec100
import Derived.WalkKit
import Derived.WalkSpells
import Derived.WalkLawsBesides
import Derived.Lib.Hide
import Derived.Lib.QuietBelow
import Derived.IntWalk
import Derived.Deep.QuietTactic
import Derived.BigQuiet
import Derived.BigRegion
import Derived.OwnWalk
import Derived.RegionTactic
import Derived.Outline
import Derived.Shelf.Abstract
import Derived.WalkMore
namespace Go.Proofs.Ytekhdggaelppkaa
open Go.Shelf Go.RowKit Go.Sort Pure1 Pure2 Pure20 Pure21 Pure40

set_option maxRecDepth 100000 in
set_option maxHeartbeats 4000000 in
theorem specOn10_any (a : Option Addr) (len cap : Nat) (ts : List Call) (d : Int) (w : World) (hl : ts.length = len) (hm : len ≤ 20) (h : Call.ListAt w a ts) :
    Calls Try.prog 80 #[.slice a len cap, .int .i64 d] w (SaysB10 (numsC (dayC d) ts) w) := by
  have HL := Lib.hid hl; have HI := Lib.hid h; clear hl h
  have HO1 := Lib.hid (BuildI.empty (B := w.heap.size) (w := w) (Nat.le_refl _))
  have HB1 := Lib.hid ((Below.refl w.heap.size w).alloc (Nat.le_refl _) (.cells #[] 2))
  go_enter Try.func80, Try.ntmps80
  go_wp2_with fail
  go_loopw [5, 6] (fun v i wr => ∃ k : Nat, k ≤ len ∧ i = .int .i64 k ∧ BuildI w.heap.size wr v (numsCo (dayC d) ts k) ∧ Below w.heap.size w wr) (fun _ i _ => len - (intOf i).toNat)
  case atStart => exact ⟨0, Nat.zero_le _, rfl, HO1.out, HB1.out⟩
  case round =>
    obtain ⟨k, hk, rfl, ho, hB⟩ := hrel
    have HO := Lib.hid ho; have HB := Lib.hid hB; clear ho hB
    by_cases hlt : k < len
    · obtain ⟨b, off, c, ha, hc, hp⟩ := (HI.out.below HB.out).at HL.out hlt
      have HP := Lib.hid hp; clear hp
      subst ha
      obtain ⟨c0, c1, c2, c3⟩ := hc
      have HZ := Lib.hid (Nat.le_trans (numsCo_len (dayC d) ts k) (show k ≤ 20 by omega))
      by_cases hd : c.day = d
      · have HN := Lib.hid (numsCo_yes HP.out (show dayC d c = true from decide_eq_true hd))
        have hdb : (c.day == d) = true := beq_iff_eq.2 hd
        have HO4 := Lib.hid (HO.out.alloc (.cells #[.int .i64 c.num] 2))
        have HB4 := Lib.hid (HB.out.alloc HB.out.size (.cells #[.int .i64 c.num] 2))
        clear hd
        generalize numsCo (dayC d) ts k = zs at HO HN HZ HO4 ⊢
        go_wp2_with (at_builtin; refine wpList_int_append (B := w.heap.size) rfl _ _ rfl _ zs rfl HO4.out _ c.num rfl (BuildI.lit1 _ _ _) ?c1 ?c2 ?_)
        case c1 => have := HZ.out; omega
        case c2 => exact HB4.out.size
        intro v' w5 ho5 hg5
        have HO5 := Lib.hid ho5
        have HB5 := Lib.hid (HO4.out.grew HB4.out (Nat.le_refl _) HB4.out.size hg5)
        clear ho5 hg5 c0 c1 c2 c3
        go_wp2_with fail
        go_roundw
        case rel => exact ⟨k + 1, by omega, by go_num, by rw [HN.out]; exact HO5.out, HB5.out⟩
        case measure => simp [intOf]; omega
      · have HN := Lib.hid (numsCo_no HP.out (show dayC d c = false from decide_eq_false hd))
        have hdb : (c.day == d) = false := beq_eq_false_iff_ne.2 hd
        clear hd
        go_wp2_with fail
        go_roundw
        case rel => exact ⟨k + 1, by omega, by go_num, by rw [HN.out]; exact HO.out, HB.out⟩
        case measure => simp [intOf]; omega
    · have HE := Lib.hid (numsCo_end (p := dayC d) (show ts.length ≤ k by rw [HL.out]; omega))
      go_wp2_with fail
      go_ret
      exact ⟨_, rfl, by rw [← HE.out]; exact HO.out, HB.out⟩

set_option maxRecDepth 100000 in
set_option maxHeartbeats 4000000 in
theorem specCalledOn_any (a : Option Addr) (len cap : Nat) (ts : List Call) (d : Int) (w : World) (hl : ts.length = len) (hm : len ≤ maxLen) (h : Call.ListAt w a ts) :
    Calls Try.prog 35 #[.slice a len cap, .int .i64 d] w (SaysBI10 (onC ts d).1 (onC ts d).2 w) := by
  have HT := Lib.hid (specAreC_any a len cap ts w hl hm h)
  have H1 := Lib.hid (fun W => specIs10 d W)
  cases hb1 : areC ts
  · have HF := Lib.hid (onC_bad (codeC_c (hs := []) (b := isDay d) hb1) (by omega))
    rw [hb1] at HT; clear hb1 hl hm h
    generalize onC ts d = v at HF ⊢
    go_enter Try.func35, Try.ntmps35
    go_wp2_with fail
    refine HT.out.mono ?_; rintro e w1 ⟨rfl, hB⟩
    have HB := Lib.hid hB; clear hB
    go_wp2_with fail
    go_ret2
    rw [HF.out]
    exact ⟨_, rfl, BuildI.nil _ _, HB.out⟩
  cases hb2 : isDay d
  · have hc2 := codeC_2 hol_nil hb1
    rw [← hb2] at hc2
    have HF := Lib.hid (onC_bad hc2 (by omega))
    rw [hb1] at HT; rw [hb2] at H1; clear hb1 hb2 hl hm h hc2
    generalize onC ts d = v at HF ⊢
    go_enter Try.func35, Try.ntmps35
    go_wp2_with fail
    refine HT.out.mono ?_; rintro e w1 ⟨rfl, hB⟩
    have HB := Lib.hid hB; clear hB
    go_wp2_with fail
    refine (H1.out _).mono ?_; rintro e w2 ⟨rfl, hw⟩
    subst hw
    go_wp2_with fail
    go_ret2
    rw [HF.out]
    exact ⟨_, rfl, BuildI.nil _ _, HB.out⟩
  have hc0 := codeC_0 hol_nil hb1
  rw [← hb2] at hc0
  have HF := Lib.hid (onC_ok hc0)
  have hlen : len ≤ 20 := by rw [← hl]; exact areC_len hb1
  have HO := Lib.hid (fun (x : Int) (W : World) (hB : Below w.heap.size w W) => specOn10_any a len cap ts x W hl hlen (h.below hB))
  have HL := Lib.hid hl; have HI := Lib.hid h
  rw [hb1] at HT; rw [hb2] at H1; clear hb1 hb2 hl hm h hc0
  generalize onC ts d = v at HF ⊢
  go_enter Try.func35, Try.ntmps35
  go_wp2_with fail
  refine HT.out.mono ?_; rintro e w1 ⟨rfl, hB⟩
  have HB := Lib.hid hB; clear hB
  go_wp2_with fail
  refine (H1.out _).mono ?_; rintro e w2 ⟨rfl, hw⟩
  subst hw
  go_wp2_with fail
  refine (HO.out d w2 HB.out).mono ?_; rintro e w3 ⟨v3, rfl, ho, hB⟩
  have HO3 := Lib.hid (ho.base HB.out.size)
  have HB3 := Lib.hid (HB.out.trans (hB.mono HB.out.size)); clear ho hB
  go_wp2_with fail
  go_ret2
  rw [HF.out]
  exact ⟨_, rfl, HO3.out, HB3.out⟩

end Go.Proofs.Ytekhdggaelppkaa
