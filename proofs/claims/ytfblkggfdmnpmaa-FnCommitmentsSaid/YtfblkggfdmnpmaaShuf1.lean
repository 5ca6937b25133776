/- Contracts: states, salts, numbers below, commitments, of the program and of its model. -/
import Derived.Test.YtfblkggfdmnpmaaChecked
import Derived.Test.YtfblkggfdmnpmaaBase
import Derived.Test.YtfblkggfdmnpmaaPure31
import Derived.WalkKit
import Derived.WalkSpells
import Derived.WalkLawsBesides
import Derived.Lib.Hide
import Derived.IntWalk
import Derived.Outline
namespace Go.Proofs.Ytfblkggfdmnpmaa
open Go.RowKit Pure2 Pure30 Pure31

set_option maxHeartbeats 400000 in
theorem implIsState_any (s : Int) (w : World) :
    Calls Try.prog 48 #[.int .i64 s] w fun e w' => e = .returned (.bool (isState s)) ∧ w = w' := by
  by_cases h1 : 1 ≤ s
  · by_cases h2 : s < 2147483647
    all_goals
      go_enter Try.func48, Try.ntmps48
      go_wp2
      go_ret
      exact ⟨ret_bool' (by simp [isState]; omega), rfl⟩
  · go_enter Try.func48, Try.ntmps48
    go_wp2
    go_ret
    exact ⟨ret_bool' (by simp [isState]; omega), rfl⟩

set_option maxHeartbeats 400000 in
theorem implIsSalt_any (s : Int) (w : World) :
    Calls Try.prog 61 #[.int .i64 s] w fun e w' => e = .returned (.bool (isSalt s)) ∧ w = w' := by
  by_cases h1 : 0 ≤ s
  · by_cases h2 : s < 2147483647
    all_goals
      go_enter Try.func61, Try.ntmps61
      go_wp2
      go_ret
      exact ⟨ret_bool' (by simp [isSalt]; omega), rfl⟩
  · go_enter Try.func61, Try.ntmps61
    go_wp2
    go_ret
    exact ⟨ret_bool' (by simp [isSalt]; omega), rfl⟩

set_option maxHeartbeats 400000 in
theorem implIsDrawn_any (s : Int) (w : World) :
    Calls Try.prog 49 #[.int .i64 s] w fun e w' => e = .returned (.bool (isDrawn s)) ∧ w = w' := by
  by_cases h1 : 0 ≤ s
  · by_cases h2 : s ≤ 200
    all_goals
      go_enter Try.func49, Try.ntmps49
      go_wp2
      go_ret
      exact ⟨ret_bool' (by simp [isDrawn]; omega), rfl⟩
  · go_enter Try.func49, Try.ntmps49
    go_wp2
    go_ret
    exact ⟨ret_bool' (by simp [isDrawn]; omega), rfl⟩

set_option maxHeartbeats 400000 in
theorem specIn_any (n a b : Int) (w : World) :
    Calls Try.prog 52 #[.int .i64 n, .int .i64 a, .int .i64 b] w fun e w' => e = .returned (.bool (decide (a ≤ n ∧ n ≤ b))) ∧ w = w' := by
  by_cases h1 : a ≤ n
  · by_cases h2 : n ≤ b
    all_goals
      go_enter Try.func52, Try.ntmps52
      go_wp2
      go_ret
      exact ⟨ret_bool' (by simp; omega), rfl⟩
  · go_enter Try.func52, Try.ntmps52
    go_wp2
    go_ret
    exact ⟨ret_bool' (by simp; omega), rfl⟩

theorem isState_in (n : Int) : decide (1 ≤ n ∧ n ≤ 2147483646) = isState n := by simp [isState]
set_option maxHeartbeats 400000 in
theorem specL03Is_any (s : Int) (w : World) :
    Calls Try.prog 58 #[.int .i64 s] w fun e w' => e = .returned (.bool (isState s)) ∧ w = w' := by
  have HC := Lib.hid (specIn_any s 1 2147483646 w)
  rw [isState_in] at HC
  go_enter Try.func58, Try.ntmps58
  go_wp2_with (go_at_call 52; refine HC.out.mono ?_; rintro e w' ⟨rfl, rfl⟩)
  go_ret
  exact ⟨rfl, rfl⟩

set_option maxHeartbeats 400000 in
theorem implStateBehind_any (s : Int) (w : World) (h : 0 ≤ s ∧ s ≤ 2147483646) :
    Calls Try.prog 56 #[.int .i64 s] w fun e w' => e = .returned (.int .i64 (nx s)) ∧ w = w' := by
  obtain ⟨h0, h1⟩ := h
  go_enter Try.func56, Try.ntmps56
  go_wp2
  go_ret
  exact ⟨rfl, rfl⟩

set_option maxHeartbeats 400000 in
theorem specL03Next_any (s : Int) (w : World) (h : 0 ≤ s ∧ s ≤ 2147483646) :
    Calls Try.prog 59 #[.int .i64 s] w fun e w' => e = .returned (.int .i64 (nx s)) ∧ w = w' := by
  obtain ⟨h0, h1⟩ := h
  go_enter Try.func59, Try.ntmps59
  go_wp2
  go_ret
  exact ⟨rfl, rfl⟩

/-- a product of a state and a number stays small -/
theorem prod_bd {s n : Int} (h : 0 ≤ s ∧ s ≤ 2147483646) (hn : 0 ≤ n ∧ n ≤ 1000000) : 0 ≤ s * n ∧ s * n ≤ 2147483646000000 := by
  refine ⟨Int.mul_nonneg h.1 hn.1, ?_⟩
  have := Int.mul_le_mul h.2 hn.2 hn.1 (by omega)
  omega
set_option maxHeartbeats 400000 in
theorem implNumberOf_any (s n : Int) (w : World) (h : 0 ≤ s ∧ s ≤ 2147483646) (hn : 0 ≤ n ∧ n ≤ 1000000) :
    Calls Try.prog 57 #[.int .i64 s, .int .i64 n] w fun e w' => e = .returned (.int .i64 (below s n)) ∧ w = w' := by
  obtain ⟨hp0, hp1⟩ := prod_bd h hn
  have q1 : IntKind.i64.wrap (s * n) = s * n := IntWalk.i64_in _ (by omega)
  go_enter Try.func57, Try.ntmps57
  go_wp2
  go_ret
  exact ⟨rfl, rfl⟩

set_option maxHeartbeats 400000 in
theorem implCommitmentTo_any (s t : Int) (w : World) (h : 0 ≤ s ∧ s ≤ 2147483646) (ht : 0 ≤ t ∧ t ≤ 2147483646) :
    Calls Try.prog 62 #[.int .i64 s, .int .i64 t] w fun e w' => e = .returned (.int .i64 (commit s t)) ∧ w = w' := by
  obtain ⟨h0, h1⟩ := h
  obtain ⟨t0, t1⟩ := ht
  go_enter Try.func62, Try.ntmps62
  go_wp2
  go_ret
  exact ⟨rfl, rfl⟩

set_option maxHeartbeats 400000 in
theorem specL03Commit_any (s t : Int) (w : World) (h : 0 ≤ s ∧ s ≤ 2147483646) (ht : 0 ≤ t ∧ t ≤ 2147483646) :
    Calls Try.prog 64 #[.int .i64 s, .int .i64 t] w fun e w' => e = .returned (.int .i64 (commit s t)) ∧ w = w' := by
  obtain ⟨h0, h1⟩ := h
  obtain ⟨t0, t1⟩ := ht
  go_enter Try.func64, Try.ntmps64
  go_wp2
  go_ret
  exact ⟨rfl, rfl⟩

end Go.Proofs.Ytfblkggfdmnpmaa
