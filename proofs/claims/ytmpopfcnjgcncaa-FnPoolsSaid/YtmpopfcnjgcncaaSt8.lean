/- Contracts: impl.isState, impl.stateBehind, impl.numberOf. -/
import Derived.Test.YtmpopfcnjgcncaaChecked
import Derived.Test.YtmpopfcnjgcncaaBase
import Derived.Test.YtmpopfcnjgcncaaPure31
import Derived.WalkKit
import Derived.WalkSpells
import Derived.WalkLawsBesides
import Derived.Lib.Hide
import Derived.IntWalk
import Derived.Outline
namespace Go.Proofs.Ytmpopfcnjgcncaa
open Go.RowKit Pure2 Pure30 Pure31

set_option maxHeartbeats 400000 in
theorem implIsState_any (s : Int) (w : World) :
    Calls Try.prog 55 #[.int .i64 s] w fun e w' => e = .returned (.bool (isState s)) ∧ w = w' := by
  by_cases h1 : 1 ≤ s
  · by_cases h2 : s < 2147483647
    all_goals
      go_enter Try.func55, Try.ntmps55
      go_wp2
      go_ret
      exact ⟨ret_bool' (by simp [isState]; omega), rfl⟩
  · go_enter Try.func55, Try.ntmps55
    go_wp2
    go_ret
    exact ⟨ret_bool' (by simp [isState]; omega), rfl⟩

set_option maxHeartbeats 400000 in
theorem implStateBehind_any (s : Int) (w : World) (h : 0 ≤ s ∧ s ≤ 2147483646) :
    Calls Try.prog 83 #[.int .i64 s] w fun e w' => e = .returned (.int .i64 (nx s)) ∧ w = w' := by
  obtain ⟨h0, h1⟩ := h
  go_enter Try.func83, Try.ntmps83
  go_wp2
  go_ret
  exact ⟨rfl, rfl⟩

/-- a product of a state and a number stays small -/
theorem prod_bd {s n : Int} (h : 0 ≤ s ∧ s ≤ 2147483646) (hn : 0 ≤ n ∧ n ≤ 1000000) : 0 ≤ s * n ∧ s * n ≤ 2147483646000000 := by
  refine ⟨Int.mul_nonneg h.1 hn.1, ?_⟩
  have := Int.mul_le_mul h.2 hn.2 hn.1 (by omega)
  omega

set_option maxHeartbeats 400000 in
theorem implNumberOf_any (s n : Int) (w : World) (h : 0 ≤ s ∧ s ≤ 2147483646) (hn : 0 ≤ n ∧ n ≤ 1000000) :
    Calls Try.prog 75 #[.int .i64 s, .int .i64 n] w fun e w' => e = .returned (.int .i64 (below s n)) ∧ w = w' := by
  obtain ⟨hp0, hp1⟩ := prod_bd h hn
  have q1 : IntKind.i64.wrap (s * n) = s * n := IntWalk.i64_in _ (by omega)
  go_enter Try.func75, Try.ntmps75
  go_wp2
  go_ret
  exact ⟨rfl, rfl⟩

end Go.Proofs.Ytmpopfcnjgcncaa
