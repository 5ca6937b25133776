/- Contracts: slices.Index and slices.Contains at int64, spec.l01Has, spec.l01Rises. -/
import Derived.Test.YtjnjmoiilapbiaaChecked
import Derived.Test.YtjnjmoiilapbiaaBase
import Derived.Test.YtjnjmoiilapbiaaPure40
import Derived.Test.YtjnjmoiilapbiaaPure60
import Derived.Test.YtjnjmoiilapbiaaPure61
import Derived.Test.YtjnjmoiilapbiaaIsPers
import Derived.Test.YtjnjmoiilapbiaaIncr
import Derived.WalkKit
import Derived.WalkSpells
import Derived.WalkLawsBesides
import Derived.Lib.Hide
import Derived.IntWalk
import Derived.Deep.QuietTactic
import Derived.BigQuiet
import Derived.Outline
namespace Go.Proofs.Ytjnjmoiilapbiaa
open Go.RowKit Pure2 Pure40 Pure60 Pure61

theorem has_at {zs : List Int} {k : Nat} {x : Int} (h : zs[k]? = some x) : has zs x = true := decide_eq_true (List.mem_of_getElem? h)
theorem has_end {zs : List Int} {k : Nat} {x : Int} (h : ∀ i, i < k → zs[i]? ≠ some x) (hk : zs.length ≤ k) : has zs x = false := decide_eq_false fun hm => by
  obtain ⟨i, hi⟩ := List.mem_iff_getElem?.1 hm
  exact h i (by have := (List.getElem?_eq_some_iff.1 hi).1; omega) hi
theorem not_next {zs : List Int} {k : Nat} {x y : Int} (h : ∀ i, i < k → zs[i]? ≠ some x) (hy : zs[k]? = some y) (hn : y ≠ x) : ∀ i, i < k + 1 → zs[i]? ≠ some x := by
  intro i hi e
  by_cases e2 : i = k
  · subst e2; rw [hy] at e; exact hn (Option.some.inj e)
  · exact h i (by omega) e

set_option maxHeartbeats 400000 in
theorem slicesIndex_any (a : Option Addr) (len cap : Nat) (zs : List Int) (x : Int) (w : World) (hl : zs.length = len) (hm : len ≤ maxLen) (h : IntsAt w a zs) :
    Calls Try.prog 81 #[.slice a len cap, .int .i64 x] w fun e w' => (∃ n : Int, e = .returned (.int .i64 n) ∧ decide (0 ≤ n) = has zs x) ∧ w = w' := by
  unfold maxLen at hm
  have HL := Lib.hid hl; have HI := Lib.hid h; clear hl h
  go_enter Try.func81, Try.ntmps81
  go_wp2
  go_loop [5, 8] (fun _ i => ∃ j : Nat, j ≤ len ∧ i = .int .i64 j ∧ ∀ k, k < j → zs[k]? ≠ some x) (fun _ i => len - (intOf i).toNat)
  case atStart => exact ⟨0, Nat.zero_le _, rfl, fun k hk => by omega⟩
  case round =>
    obtain ⟨j, hj, rfl, hno⟩ := hrel
    have HN := Lib.hid hno; clear hno
    by_cases hlt : j < len
    · obtain ⟨b, off, y, ha, hc, ht, hy⟩ := HI.out.at HL.out hlt
      subst ha
      by_cases hyx : y = x
      · subst hyx
        have HT := Lib.hid (has_at hy)
        clear ht hy
        go_wp2
        go_ret
        exact ⟨⟨_, rfl, by rw [HT.out]; exact decide_eq_true (by omega)⟩, rfl⟩
      · have hb : (x == y) = false := beq_eq_false_iff_ne.2 (fun e => hyx e.symm)
        have HX := Lib.hid (not_next HN.out hy hyx)
        clear ht hy hyx
        go_wp2
        go_round
        case rel => exact ⟨j + 1, by omega, by go_num, HX.out⟩
        case measure => simp [intOf]; omega
    · have HT := Lib.hid (has_end HN.out (by rw [HL.out]; omega))
      go_wp2
      go_ret
      exact ⟨⟨_, rfl, by rw [HT.out]; exact decide_eq_false (by omega)⟩, rfl⟩

theorem slicesContains_any (a : Option Addr) (len cap : Nat) (zs : List Int) (x : Int) (w : World) (hl : zs.length = len) (hm : len ≤ maxLen) (h : IntsAt w a zs) :
    Calls Try.prog 73 #[.slice a len cap, .int .i64 x] w fun e w' => e = .returned (.bool (has zs x)) ∧ w' = w := by
  have HC := Lib.hid (slicesIndex_any a len cap zs x w hl hm h); clear hl hm h
  go_enter Try.func73, Try.ntmps73
  go_wp2_with fail
  refine HC.out.mono ?_; rintro e w' ⟨⟨n, rfl, hn⟩, rfl⟩
  have HN := Lib.hid hn; clear hn
  go_wp2_with fail
  go_ret
  exact ⟨ret_bool' HN.out, rfl⟩

set_option maxHeartbeats 400000 in
theorem specHas6_any (a : Option Addr) (len cap : Nat) (zs : List Int) (x : Int) (w : World) (hl : zs.length = len) (hm : len ≤ maxLen) (h : IntsAt w a zs) :
    Calls Try.prog 74 #[.slice a len cap, .int .i64 x] w fun e w' => e = .returned (.bool (has zs x)) ∧ w' = w := by
  unfold maxLen at hm
  have HL := Lib.hid hl; have HI := Lib.hid h; clear hl h
  go_enter Try.func74, Try.ntmps74
  go_wp2
  go_loop [5] (fun i => ∃ j : Nat, j ≤ len ∧ i = .int .i64 j ∧ ∀ k, k < j → zs[k]? ≠ some x) (fun i => len - (intOf i).toNat)
  case atStart => exact ⟨0, Nat.zero_le _, rfl, fun k hk => by omega⟩
  case round =>
    obtain ⟨j, hj, rfl, hno⟩ := hrel
    have HN := Lib.hid hno; clear hno
    by_cases hlt : j < len
    · obtain ⟨b, off, y, ha, hc, ht, hy⟩ := HI.out.at HL.out hlt
      subst ha
      by_cases hyx : y = x
      · subst hyx
        have HT := Lib.hid (has_at hy)
        clear ht hy
        go_wp2
        go_ret
        exact ⟨ret_bool' HT.out.symm, rfl⟩
      · have hb : (y == x) = false := beq_eq_false_iff_ne.2 hyx
        have HX := Lib.hid (not_next HN.out hy hyx)
        clear ht hy hyx
        go_wp2
        go_round
        case rel => exact ⟨j + 1, by omega, by go_num, HX.out⟩
        case measure => simp [intOf]; omega
    · have HT := Lib.hid (has_end HN.out (by rw [HL.out]; omega))
      go_wp2
      go_ret
      exact ⟨ret_bool' HT.out.symm, rfl⟩

theorem specIn_same (n a b : Int) (r : Bool) (w : World) (h : inR n a b = r) :
    Calls Try.prog 58 #[.int .i64 n, .int .i64 a, .int .i64 b] w fun e w' => e = .returned (.bool r) ∧ w' = w := by
  rw [← h]; exact specIn_any n a b w
theorem drew_next {w wr : World} {n : Nat} (h : wr = w.drewN n) (m : Nat) : wr.drewN m = w.drewN (n + m) := by rw [h]; exact drewN_add w n m
theorem drew_more {w wr : World} {n : Nat} (h : wr = w.drewN n) (m : Nat) : ∃ k, wr.drewN m = w.drewN k := ⟨_, drew_next h m⟩

set_option maxRecDepth 100000 in
set_option maxHeartbeats 1000000 in
theorem specRises_any (u : Int) (a : Option Addr) (len cap : Nat) (zs : List Int) (w : World) (hu : 0 ≤ u ∧ u ≤ 1000) (hl : zs.length = len) (hm : len ≤ maxLen) (h : IntsAt w a zs) :
    Calls Try.prog 61 #[.slice a len cap, .int .i64 u] w (SaysB (rises zs.length 0 (u - 1) zs) w) := by
  unfold maxLen at hm
  have HL := Lib.hid hl; have HI := Lib.hid h; clear hl h
  have q0 : IntKind.i64.wrap (u - 1) = u - 1 := IntWalk.i64_in _ (by omega)
  go_enter Try.func61, Try.ntmps61
  go_wp2
  go_loopw [5] (fun i wr => ∃ k n : Nat, k ≤ len ∧ i = .int .i64 k ∧ wr = w.drewN n ∧ RisesTo 0 (u - 1) zs k) (fun i _ => len - (intOf i).toNat)
  case atStart => exact ⟨0, 0, Nat.zero_le _, rfl, rfl, risesTo_zero _ _ zs⟩
  case round =>
    obtain ⟨k, n, hk, rfl, hwr, hto⟩ := hrel
    have HT := Lib.hid hto; have HW := Lib.hid hwr
    have HI := Lib.hid (show IntsAt wr a zs by rw [hwr]; exact HI.out)
    clear hto hwr
    by_cases hlt : k < len
    · by_cases h0 : 0 < k
      · obtain ⟨j, rfl⟩ : ∃ j, k = j + 1 := ⟨k - 1, by omega⟩
        obtain ⟨b, off, x, y, ha, hc, hc', hx, hy⟩ := ints_two HI.out HL.out hlt
        have HX := Lib.hid hx; have HY := Lib.hid hy; clear hx hy
        have q1 : IntKind.i64.wrap ((j : Int) + 1 - 1) = (j : Int) := by rw [IntWalk.i64_in _ (by omega)]; omega
        have q2 : ((j : Int) + 1 - 1) = (j : Int) := by omega
        subst ha
        cases hd : inR y 0 (u - 1) with
        | true =>
          by_cases hyx : y ≤ x
          · have HN := Lib.hid (rises_down (c := zs.length) (lo := 0) (hi := u - 1) HX.out HY.out hyx)
            have HD := Lib.hid hd; clear hd
            go_wp2
            go_quiet ((go_at_call 58; exact Calls.quiet_of_same (specIn_same y 0 (u - 1) true _ HD.out)))
            go_wp2
            go_ret
            exact ⟨ret_bool' HN.out.symm, drew_more HW.out _⟩
          · have HN := Lib.hid (risesTo_next HT.out HX.out HY.out (inR_of hd) hyx)
            have HD := Lib.hid hd; clear hd
            go_wp2
            go_quiet ((go_at_call 58; exact Calls.quiet_of_same (specIn_same y 0 (u - 1) true _ HD.out)))
            go_wp2
            go_roundw
            case rel => exact ⟨j + 1 + 1, _, by omega, by go_num, drew_next HW.out _, HN.out⟩
            case measure => simp [intOf]; omega
        | false =>
          have HN := Lib.hid (rises_out (c := zs.length) HY.out (inR_not hd))
          have HD := Lib.hid hd; clear hd
          go_wp2
          go_quiet ((go_at_call 58; exact Calls.quiet_of_same (specIn_same y 0 (u - 1) false _ HD.out)))
          go_wp2
          go_ret
          exact ⟨ret_bool' HN.out.symm, drew_more HW.out _⟩
      · obtain rfl : k = 0 := by omega
        obtain ⟨b, off, y, ha, hc, _, hy⟩ := HI.out.at HL.out hlt
        rw [Nat.add_zero] at hc
        have HY := Lib.hid hy; clear hy
        subst ha
        cases hd : inR y 0 (u - 1) with
        | true =>
          have HN := Lib.hid (risesTo_first HY.out (inR_of hd))
          have HD := Lib.hid hd; clear hd
          go_wp2
          go_quiet ((go_at_call 58; exact Calls.quiet_of_same (specIn_same y 0 (u - 1) true _ HD.out)))
          go_wp2
          go_roundw
          case rel => exact ⟨1, _, by omega, by go_num, drew_next HW.out _, HN.out⟩
          case measure => simp [intOf]; omega
        | false =>
          have HN := Lib.hid (rises_out (c := zs.length) HY.out (inR_not hd))
          have HD := Lib.hid hd; clear hd
          go_wp2
          go_quiet ((go_at_call 58; exact Calls.quiet_of_same (specIn_same y 0 (u - 1) false _ HD.out)))
          go_wp2
          go_ret
          exact ⟨ret_bool' HN.out.symm, drew_more HW.out _⟩
    · have HN := Lib.hid (rises_end (c := zs.length) HT.out (by rw [HL.out]; omega) (Nat.le_refl _))
      go_wp2
      go_ret
      exact ⟨ret_bool' HN.out.symm, _, HW.out⟩

end Go.Proofs.Ytjnjmoiilapbiaa
