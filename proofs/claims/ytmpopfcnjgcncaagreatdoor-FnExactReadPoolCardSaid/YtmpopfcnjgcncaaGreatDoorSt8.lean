/- Contracts: impl.isState, impl.stateBehind, impl.numberOf. -/
import Derived.Test.YtmpopfcnjgcncaaGreatDoorChecked
import Derived.Test.YtmpopfcnjgcncaaGreatDoorBase0
import Derived.Test.YtmpopfcnjgcncaaGreatDoorPure31
import Derived.WalkKit
import Derived.WalkSpells
import Derived.WalkLawsBesides
import Derived.Lib.Hide
import Derived.IntWalk
import Derived.Outline
namespace Go.Proofs.YtmpopfcnjgcncaaGreatDoor
open Go.RowKit Pure2 Pure30 Pure31

set_option maxHeartbeats 400000 in
theorem implIsState_any (s : Int) (w : World) :
    Calls Tryz.prog 37 #[.int .i64 s] w fun e w' => e = .returned (.bool (isState s)) ∧ w = w' := by
  by_cases h1 : 1 ≤ s
  · by_cases h2 : s < 2147483647
    all_goals
      go_enter Tryz.func37, Tryz.ntmps37
      go_wp2
      go_ret
      exact ⟨ret_bool' (by simp [isState]; omega), rfl⟩
  · go_enter Tryz.func37, Tryz.ntmps37
    go_wp2
    go_ret
    exact ⟨ret_bool' (by simp [isState]; omega), rfl⟩

/-- a product of a state and a number stays small -/
theorem prod_bd {s n : Int} (h : 0 ≤ s ∧ s ≤ 2147483646) (hn : 0 ≤ n ∧ n ≤ 1000000) : 0 ≤ s * n ∧ s * n ≤ 2147483646000000 := by
  refine ⟨Int.mul_nonneg h.1 hn.1, ?_⟩
  have := Int.mul_le_mul h.2 hn.2 hn.1 (by omega)
  omega

end Go.Proofs.YtmpopfcnjgcncaaGreatDoor
