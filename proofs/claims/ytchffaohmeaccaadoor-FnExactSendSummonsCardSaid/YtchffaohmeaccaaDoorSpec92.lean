/- Contracts of chapter 9's model: open, overdue, reminded, counted, the next reminder. (written by impl9.py) -/
import Derived.Test.YtchffaohmeaccaaDoorChecked
import Derived.Test.YtchffaohmeaccaaDoorBase0
import Derived.Test.YtchffaohmeaccaaDoorInfo
import Derived.Test.YtchffaohmeaccaaDoorMarkI
import Derived.Test.YtchffaohmeaccaaDoorIntL
import Derived.Test.YtchffaohmeaccaaDoorBuildI
import Derived.Test.YtchffaohmeaccaaDoorSummonsB
import Derived.Test.YtchffaohmeaccaaDoorSpec90
import Derived.Test.YtchffaohmeaccaaDoorSpec91
import Derived.WalkKit
import Derived.WalkSpells
import Derived.WalkLawsBesides
import Derived.Lib.Hide
import Derived.Lib.QuietBelow
import Derived.IntWalk
import Derived.Deep.QuietTactic
import Derived.BigQuiet
import Derived.BigRegion
import Derived.OwnWalk
import Derived.RegionTactic
import Derived.Outline
namespace Go.Proofs.YtchffaohmeaccaaDoor
open Go.RowKit Go.Sort Pure1 Pure2 Pure20 Pure40

/-- numbers of our own and a code are returned -/
def SaysBI9 (zs : List Int) (n : Int) (w : World) (e : Ending) (w' : World) : Prop := ∃ v, e = .returned (.tuple #[v, .int .i64 n]) ∧ BuildI w.heap.size w' v zs ∧ Below w.heap.size w w'
def SaysN9 (x c : Int) (w : World) (e : Ending) (w' : World) : Prop := e = .returned (.tuple #[.int .i64 x, .int .i64 c]) ∧ Below w.heap.size w w'
theorem byM_cases {s : Summons} (h : okM s = true) (d : Int) : 0 ≤ byM d s ∧ byM d s ≤ 3 := by
  obtain ⟨_, _, _, h4⟩ := okM_parts h
  unfold byM
  split <;> omega

set_option maxRecDepth 100000 in
set_option maxHeartbeats 4000000 in
theorem specOpenOn_any (a : Option Addr) (len cap : Nat) (ts : List Summons) (d : Int) (w : World) (hl : ts.length = len) (hm : len ≤ maxLen) (h : Summons.ListAt w a ts) :
    Calls Tryd.prog 36 #[.slice a len cap, .int .i64 d] w (SaysBI9 (onR openM ts d).1 (onR openM ts d).2 w) := by
  have HC := Lib.hid (specDay9_any a len cap ts d w hl hm h)
  rcases codeM_cases ts d with ⟨hc, hA, hd⟩ | hc | hc
  · have HF := Lib.hid (onR_ok (p := openM) hc)
    have HD := Lib.hid hd
    have HK := Lib.hid (fun (i : Nat) c (hp : ts[i]? = some c) => okM_parts (areM_at hA hp))
    have hlen : len ≤ 20 := by rw [← hl]; exact areM_len hA
    have HL := Lib.hid hl; have HI := Lib.hid h; clear hl h hm
    rw [hc] at HC; clear hc hA
    generalize onR openM ts d = v at HF ⊢
    have HO0 := Lib.hid (fun W (hB : Below w.heap.size w W) => BuildI.empty (B := w.heap.size) hB.size)
    go_enter Tryd.func36, Tryd.ntmps36
    go_wp2_with fail
    refine HC.out.mono ?_; rintro e w1 ⟨rfl, hB⟩
    have HB1 := Lib.hid hB; have HO1 := Lib.hid (HO0.out w1 hB); have HB2 := Lib.hid (hB.alloc hB.size (.cells #[] 2)); clear hB HO0 HC
    go_wp2_with fail
    go_loopw [7, 8] (fun v i wr => ∃ k : Nat, k ≤ len ∧ i = .int .i64 k ∧ BuildI w.heap.size wr v (numsMo (openM d) ts k) ∧ Below w.heap.size w wr) (fun _ i _ => len - (intOf i).toNat)
    case atStart => exact ⟨0, Nat.zero_le _, rfl, HO1.out, HB2.out⟩
    case round =>
      obtain ⟨k, hk, rfl, ho, hB⟩ := hrel
      have HO := Lib.hid ho; have HB := Lib.hid hB; clear ho hB
      by_cases hlt : k < len
      · obtain ⟨b, off, c, ha, hc, hp⟩ := (HI.out.below HB.out).at HL.out hlt
        have HP := Lib.hid hp; clear hp
        subst ha
        have HX := Lib.hid hc
        obtain ⟨c0, c1, c2, c3, c4⟩ := hc
        have HZ := Lib.hid (Nat.le_trans (numsMo_len (openM d) ts k) (show k ≤ 20 by omega))
        have HT := Lib.hid (specOpen9_any c d wr)
        cases hv : openM d c
        · have HN := Lib.hid (numsMo_no HP.out hv)
          rw [hv] at HT; clear hv
          go_wp2_with fail
          refine HT.out.mono ?_; rintro e w3 ⟨rfl, hB⟩
          have HB3 := Lib.hid (HB.out.trans (hB.mono HB.out.size)); have HO3 := Lib.hid (HO.out.below hB); have HX3 := Lib.hid (HX.out.below hB)
          clear hB c0 c1 c2 c3 c4
          go_wp2_with fail
          go_roundw
          case rel => exact ⟨k + 1, by omega, by go_num, by rw [HN.out]; exact HO3.out, HB3.out⟩
          case measure => simp [intOf]; omega
        · have HN := Lib.hid (numsMo_yes HP.out hv)
          rw [hv] at HT; clear hv
          go_wp2_with fail
          refine HT.out.mono ?_; rintro e w3 ⟨rfl, hB⟩
          have HB3 := Lib.hid (HB.out.trans (hB.mono HB.out.size)); have HO3 := Lib.hid (HO.out.below hB); have HX3 := Lib.hid (HX.out.below hB)
          clear hB c0 c1 c2 c3 c4
          have HO4 := Lib.hid (HO3.out.alloc (.cells #[.int .i64 c.num] 2))
          have HB4 := Lib.hid (HB3.out.alloc HB3.out.size (.cells #[.int .i64 c.num] 2))
          obtain ⟨c0, c1, c2, c3, c4⟩ := HX3.out
          generalize numsMo (openM d) ts k = zs at HO HN HZ HO3 HO4 ⊢
          go_wp2_with (at_builtin; refine wpList_int_append (B := w.heap.size) rfl _ _ rfl _ zs rfl HO4.out _ c.num rfl (BuildI.lit1 _ _ _) ?c1 ?c2 ?_)
          case c1 => have := HZ.out; omega
          case c2 => exact HB4.out.size
          intro v' w5 ho5 hg5
          have HO5 := Lib.hid ho5
          have HB5 := Lib.hid (HO4.out.grew HB4.out (Nat.le_refl _) HB4.out.size hg5)
          clear ho5 hg5 c0 c1 c2 c3 c4
          go_wp2_with fail
          go_roundw
          case rel => exact ⟨k + 1, by omega, by go_num, by rw [HN.out]; exact HO5.out, HB5.out⟩
          case measure => simp [intOf]; omega
      · have HE := Lib.hid (numsMo_end (p := openM d) (show ts.length ≤ k by rw [HL.out]; omega))
        go_wp2_with fail
        go_ret2
        rw [HF.out]
        exact ⟨_, rfl, by rw [← HE.out]; exact HO.out, HB.out⟩
  · have HF := Lib.hid (onR_bad (p := openM) hc (by omega))
    rw [hc] at HC; clear hc
    generalize onR openM ts d = v at HF ⊢
    go_enter Tryd.func36, Tryd.ntmps36
    go_wp2_with fail
    refine HC.out.mono ?_; rintro e w1 ⟨rfl, hB⟩
    have HB := Lib.hid hB; clear hB
    go_wp2_with fail
    go_ret2
    rw [HF.out]
    exact ⟨_, rfl, BuildI.nil _ _, HB.out⟩
  · have HF := Lib.hid (onR_bad (p := openM) hc (by omega))
    rw [hc] at HC; clear hc
    generalize onR openM ts d = v at HF ⊢
    go_enter Tryd.func36, Tryd.ntmps36
    go_wp2_with fail
    refine HC.out.mono ?_; rintro e w1 ⟨rfl, hB⟩
    have HB := Lib.hid hB; clear hB
    go_wp2_with fail
    go_ret2
    rw [HF.out]
    exact ⟨_, rfl, BuildI.nil _ _, HB.out⟩

set_option maxRecDepth 100000 in
set_option maxHeartbeats 4000000 in
theorem specOverdueOn_any (a : Option Addr) (len cap : Nat) (ts : List Summons) (d : Int) (w : World) (hl : ts.length = len) (hm : len ≤ maxLen) (h : Summons.ListAt w a ts) :
    Calls Tryd.prog 38 #[.slice a len cap, .int .i64 d] w (SaysBI9 (onR overM ts d).1 (onR overM ts d).2 w) := by
  have HC := Lib.hid (specDay9_any a len cap ts d w hl hm h)
  rcases codeM_cases ts d with ⟨hc, hA, hd⟩ | hc | hc
  · have HF := Lib.hid (onR_ok (p := overM) hc)
    have HD := Lib.hid hd
    have HK := Lib.hid (fun (i : Nat) c (hp : ts[i]? = some c) => okM_parts (areM_at hA hp))
    have hlen : len ≤ 20 := by rw [← hl]; exact areM_len hA
    have HL := Lib.hid hl; have HI := Lib.hid h; clear hl h hm
    rw [hc] at HC; clear hc hA
    generalize onR overM ts d = v at HF ⊢
    have HO0 := Lib.hid (fun W (hB : Below w.heap.size w W) => BuildI.empty (B := w.heap.size) hB.size)
    go_enter Tryd.func38, Tryd.ntmps38
    go_wp2_with fail
    refine HC.out.mono ?_; rintro e w1 ⟨rfl, hB⟩
    have HB1 := Lib.hid hB; have HO1 := Lib.hid (HO0.out w1 hB); have HB2 := Lib.hid (hB.alloc hB.size (.cells #[] 2)); clear hB HO0 HC
    go_wp2_with fail
    go_loopw [7, 8] (fun v i wr => ∃ k : Nat, k ≤ len ∧ i = .int .i64 k ∧ BuildI w.heap.size wr v (numsMo (overM d) ts k) ∧ Below w.heap.size w wr) (fun _ i _ => len - (intOf i).toNat)
    case atStart => exact ⟨0, Nat.zero_le _, rfl, HO1.out, HB2.out⟩
    case round =>
      obtain ⟨k, hk, rfl, ho, hB⟩ := hrel
      have HO := Lib.hid ho; have HB := Lib.hid hB; clear ho hB
      by_cases hlt : k < len
      · obtain ⟨b, off, c, ha, hc, hp⟩ := (HI.out.below HB.out).at HL.out hlt
        have HP := Lib.hid hp; clear hp
        subst ha
        have HX := Lib.hid hc
        obtain ⟨c0, c1, c2, c3, c4⟩ := hc
        have HZ := Lib.hid (Nat.le_trans (numsMo_len (overM d) ts k) (show k ≤ 20 by omega))
        have HT := Lib.hid (specOpen9_any c d wr)
        cases hv : openM d c
        · have HN := Lib.hid (numsMo_no (p := overM d) HP.out (by unfold overM; rw [hv]; rfl))
          rw [hv] at HT; clear hv
          go_wp2_with fail
          refine HT.out.mono ?_; rintro e w3 ⟨rfl, hB⟩
          have HB3 := Lib.hid (HB.out.trans (hB.mono HB.out.size)); have HO3 := Lib.hid (HO.out.below hB); have HX3 := Lib.hid (HX.out.below hB)
          clear hB c0 c1 c2 c3 c4
          go_wp2_with fail
          go_roundw
          case rel => exact ⟨k + 1, by omega, by go_num, by rw [HN.out]; exact HO3.out, HB3.out⟩
          case measure => simp [intOf]; omega
        · by_cases h2 : c.due < d
          · have HN := Lib.hid (numsMo_yes (p := overM d) HP.out (by unfold overM; rw [hv, decide_eq_true h2]; rfl))
            rw [hv] at HT; clear hv
            go_wp2_with fail
            refine HT.out.mono ?_; rintro e w3 ⟨rfl, hB⟩
            have HB3 := Lib.hid (HB.out.trans (hB.mono HB.out.size)); have HO3 := Lib.hid (HO.out.below hB); have HX3 := Lib.hid (HX.out.below hB)
            clear hB c0 c1 c2 c3 c4
            have HO4 := Lib.hid (HO3.out.alloc (.cells #[.int .i64 c.num] 2))
            have HB4 := Lib.hid (HB3.out.alloc HB3.out.size (.cells #[.int .i64 c.num] 2))
            obtain ⟨c0, c1, c2, c3, c4⟩ := HX3.out
            generalize numsMo (overM d) ts k = zs at HO HN HZ HO3 HO4 ⊢
            go_wp2_with (at_builtin; refine wpList_int_append (B := w.heap.size) rfl _ _ rfl _ zs rfl HO4.out _ c.num rfl (BuildI.lit1 _ _ _) ?c1 ?c2 ?_)
            case c1 => have := HZ.out; omega
            case c2 => exact HB4.out.size
            intro v' w5 ho5 hg5
            have HO5 := Lib.hid ho5
            have HB5 := Lib.hid (HO4.out.grew HB4.out (Nat.le_refl _) HB4.out.size hg5)
            clear ho5 hg5 c0 c1 c2 c3 c4
            go_wp2_with fail
            go_roundw
            case rel => exact ⟨k + 1, by omega, by go_num, by rw [HN.out]; exact HO5.out, HB5.out⟩
            case measure => simp [intOf]; omega
          · have HN := Lib.hid (numsMo_no (p := overM d) HP.out (by unfold overM; rw [hv, decide_eq_false h2]; rfl))
            have h2b : decide (c.due < d) = false := decide_eq_false h2
            rw [hv] at HT; clear hv
            go_wp2_with fail
            refine HT.out.mono ?_; rintro e w3 ⟨rfl, hB⟩
            have HB3 := Lib.hid (HB.out.trans (hB.mono HB.out.size)); have HO3 := Lib.hid (HO.out.below hB); have HX3 := Lib.hid (HX.out.below hB)
            clear hB c0 c1 c2 c3 c4
            obtain ⟨c0, c1, c2, c3, c4⟩ := HX3.out
            go_wp2_with fail
            go_roundw
            case rel => exact ⟨k + 1, by omega, by go_num, by rw [HN.out]; exact HO3.out, HB3.out⟩
            case measure => simp [intOf]; omega
      · have HE := Lib.hid (numsMo_end (p := overM d) (show ts.length ≤ k by rw [HL.out]; omega))
        go_wp2_with fail
        go_ret2
        rw [HF.out]
        exact ⟨_, rfl, by rw [← HE.out]; exact HO.out, HB.out⟩
  · have HF := Lib.hid (onR_bad (p := overM) hc (by omega))
    rw [hc] at HC; clear hc
    generalize onR overM ts d = v at HF ⊢
    go_enter Tryd.func38, Tryd.ntmps38
    go_wp2_with fail
    refine HC.out.mono ?_; rintro e w1 ⟨rfl, hB⟩
    have HB := Lib.hid hB; clear hB
    go_wp2_with fail
    go_ret2
    rw [HF.out]
    exact ⟨_, rfl, BuildI.nil _ _, HB.out⟩
  · have HF := Lib.hid (onR_bad (p := overM) hc (by omega))
    rw [hc] at HC; clear hc
    generalize onR overM ts d = v at HF ⊢
    go_enter Tryd.func38, Tryd.ntmps38
    go_wp2_with fail
    refine HC.out.mono ?_; rintro e w1 ⟨rfl, hB⟩
    have HB := Lib.hid hB; clear hB
    go_wp2_with fail
    go_ret2
    rw [HF.out]
    exact ⟨_, rfl, BuildI.nil _ _, HB.out⟩

set_option maxRecDepth 100000 in
set_option maxHeartbeats 4000000 in
theorem specRemindersOn_any (a : Option Addr) (len cap : Nat) (ts : List Summons) (d : Int) (w : World) (hl : ts.length = len) (hm : len ≤ maxLen) (h : Summons.ListAt w a ts) :
    Calls Tryd.prog 14 #[.slice a len cap, .int .i64 d] w (SaysBI9 (onR remM ts d).1 (onR remM ts d).2 w) := by
  have HC := Lib.hid (specDay9_any a len cap ts d w hl hm h)
  rcases codeM_cases ts d with ⟨hc, hA, hd⟩ | hc | hc
  · have HF := Lib.hid (onR_ok (p := remM) hc)
    have HD := Lib.hid hd
    have HK := Lib.hid (fun (i : Nat) c (hp : ts[i]? = some c) => okM_parts (areM_at hA hp))
    have hlen : len ≤ 20 := by rw [← hl]; exact areM_len hA
    have HL := Lib.hid hl; have HI := Lib.hid h; clear hl h hm
    rw [hc] at HC; clear hc hA
    generalize onR remM ts d = v at HF ⊢
    have HO0 := Lib.hid (fun W (hB : Below w.heap.size w W) => BuildI.empty (B := w.heap.size) hB.size)
    go_enter Tryd.func14, Tryd.ntmps14
    go_wp2_with fail
    refine HC.out.mono ?_; rintro e w1 ⟨rfl, hB⟩
    have HB1 := Lib.hid hB; have HO1 := Lib.hid (HO0.out w1 hB); have HB2 := Lib.hid (hB.alloc hB.size (.cells #[] 2)); clear hB HO0 HC
    go_wp2_with fail
    go_loopw [7, 8] (fun v i wr => ∃ k : Nat, k ≤ len ∧ i = .int .i64 k ∧ BuildI w.heap.size wr v (numsMo (remM d) ts k) ∧ Below w.heap.size w wr) (fun _ i _ => len - (intOf i).toNat)
    case atStart => exact ⟨0, Nat.zero_le _, rfl, HO1.out, HB2.out⟩
    case round =>
      obtain ⟨k, hk, rfl, ho, hB⟩ := hrel
      have HO := Lib.hid ho; have HB := Lib.hid hB; clear ho hB
      by_cases hlt : k < len
      · obtain ⟨b, off, c, ha, hc, hp⟩ := (HI.out.below HB.out).at HL.out hlt
        have HP := Lib.hid hp; clear hp
        subst ha
        have HX := Lib.hid hc
        obtain ⟨c0, c1, c2, c3, c4⟩ := hc
        have HZ := Lib.hid (Nat.le_trans (numsMo_len (remM d) ts k) (show k ≤ 20 by omega))
        have HT := Lib.hid (specOpen9_any c d wr)
        cases hv : openM d c
        · have HN := Lib.hid (numsMo_no (p := remM d) HP.out (by unfold remM; rw [hv]; rfl))
          rw [hv] at HT; clear hv
          go_wp2_with fail
          refine HT.out.mono ?_; rintro e w3 ⟨rfl, hB⟩
          have HB3 := Lib.hid (HB.out.trans (hB.mono HB.out.size)); have HO3 := Lib.hid (HO.out.below hB); have HX3 := Lib.hid (HX.out.below hB)
          clear hB c0 c1 c2 c3 c4
          go_wp2_with fail
          go_roundw
          case rel => exact ⟨k + 1, by omega, by go_num, by rw [HN.out]; exact HO3.out, HB3.out⟩
          case measure => simp [intOf]; omega
        · cases h2 : remD d c
          · have HN := Lib.hid (numsMo_no (p := remM d) HP.out (by unfold remM; rw [hv, h2]; rfl))
            have HR := Lib.hid h2
            rw [hv] at HT; clear hv h2
            go_wp2_with fail
            refine HT.out.mono ?_; rintro e w3 ⟨rfl, hB⟩
            have HB3 := Lib.hid (HB.out.trans (hB.mono HB.out.size)); have HO3 := Lib.hid (HO.out.below hB); have HX3 := Lib.hid (HX.out.below hB)
            clear hB c0 c1 c2 c3 c4
            obtain ⟨c0, c1, c2, c3, c4⟩ := HX3.out
            have HT2 := Lib.hid (specRem9_any c d w3 HD.out.1 (by have := HD.out.2; omega) (by have := HK.out _ _ HP.out; omega) (by have := HK.out _ _ HP.out; omega))
            rw [HR.out] at HT2
            go_wp2_with fail
            refine HT2.out.mono ?_; rintro e w4 ⟨rfl, hB⟩
            have HB3 := Lib.hid (HB3.out.trans (hB.mono HB3.out.size)); have HO3 := Lib.hid (HO3.out.below hB); have HX3 := Lib.hid (HX3.out.below hB)
            clear hB c0 c1 c2 c3 c4
            go_wp2_with fail
            go_roundw
            case rel => exact ⟨k + 1, by omega, by go_num, by rw [HN.out]; exact HO3.out, HB3.out⟩
            case measure => simp [intOf]; omega
          · have HN := Lib.hid (numsMo_yes (p := remM d) HP.out (by unfold remM; rw [hv, h2]; rfl))
            have HR := Lib.hid h2
            rw [hv] at HT; clear hv h2
            go_wp2_with fail
            refine HT.out.mono ?_; rintro e w3 ⟨rfl, hB⟩
            have HB3 := Lib.hid (HB.out.trans (hB.mono HB.out.size)); have HO3 := Lib.hid (HO.out.below hB); have HX3 := Lib.hid (HX.out.below hB)
            clear hB c0 c1 c2 c3 c4
            obtain ⟨c0, c1, c2, c3, c4⟩ := HX3.out
            have HT2 := Lib.hid (specRem9_any c d w3 HD.out.1 (by have := HD.out.2; omega) (by have := HK.out _ _ HP.out; omega) (by have := HK.out _ _ HP.out; omega))
            rw [HR.out] at HT2
            go_wp2_with fail
            refine HT2.out.mono ?_; rintro e w4 ⟨rfl, hB⟩
            have HB3 := Lib.hid (HB3.out.trans (hB.mono HB3.out.size)); have HO3 := Lib.hid (HO3.out.below hB); have HX3 := Lib.hid (HX3.out.below hB)
            clear hB c0 c1 c2 c3 c4
            have HO4 := Lib.hid (HO3.out.alloc (.cells #[.int .i64 c.num] 2))
            have HB4 := Lib.hid (HB3.out.alloc HB3.out.size (.cells #[.int .i64 c.num] 2))
            obtain ⟨c0, c1, c2, c3, c4⟩ := HX3.out
            generalize numsMo (remM d) ts k = zs at HO HN HZ HO3 HO4 ⊢
            go_wp2_with (at_builtin; refine wpList_int_append (B := w.heap.size) rfl _ _ rfl _ zs rfl HO4.out _ c.num rfl (BuildI.lit1 _ _ _) ?c1 ?c2 ?_)
            case c1 => have := HZ.out; omega
            case c2 => exact HB4.out.size
            intro v' w5 ho5 hg5
            have HO5 := Lib.hid ho5
            have HB5 := Lib.hid (HO4.out.grew HB4.out (Nat.le_refl _) HB4.out.size hg5)
            clear ho5 hg5 c0 c1 c2 c3 c4
            go_wp2_with fail
            go_roundw
            case rel => exact ⟨k + 1, by omega, by go_num, by rw [HN.out]; exact HO5.out, HB5.out⟩
            case measure => simp [intOf]; omega
      · have HE := Lib.hid (numsMo_end (p := remM d) (show ts.length ≤ k by rw [HL.out]; omega))
        go_wp2_with fail
        go_ret2
        rw [HF.out]
        exact ⟨_, rfl, by rw [← HE.out]; exact HO.out, HB.out⟩
  · have HF := Lib.hid (onR_bad (p := remM) hc (by omega))
    rw [hc] at HC; clear hc
    generalize onR remM ts d = v at HF ⊢
    go_enter Tryd.func14, Tryd.ntmps14
    go_wp2_with fail
    refine HC.out.mono ?_; rintro e w1 ⟨rfl, hB⟩
    have HB := Lib.hid hB; clear hB
    go_wp2_with fail
    go_ret2
    rw [HF.out]
    exact ⟨_, rfl, BuildI.nil _ _, HB.out⟩
  · have HF := Lib.hid (onR_bad (p := remM) hc (by omega))
    rw [hc] at HC; clear hc
    generalize onR remM ts d = v at HF ⊢
    go_enter Tryd.func14, Tryd.ntmps14
    go_wp2_with fail
    refine HC.out.mono ?_; rintro e w1 ⟨rfl, hB⟩
    have HB := Lib.hid hB; clear hB
    go_wp2_with fail
    go_ret2
    rw [HF.out]
    exact ⟨_, rfl, BuildI.nil _ _, HB.out⟩

end Go.Proofs.YtchffaohmeaccaaDoor
