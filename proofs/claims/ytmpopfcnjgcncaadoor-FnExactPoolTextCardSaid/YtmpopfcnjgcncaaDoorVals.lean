/- Contracts: impl.isValue and spec.l01Is tell whether an integer is a value. -/
import Derived.Test.YtmpopfcnjgcncaaDoorChecked
import Derived.Test.YtmpopfcnjgcncaaDoorBase
import Derived.WalkKit
import Derived.WalkSpells
import Derived.WalkLawsBesides
import Derived.Lib.Hide
namespace Go.Proofs.YtmpopfcnjgcncaaDoor
open Go.RowKit Pure2

set_option maxHeartbeats 400000 in
theorem implIsValue_any (n : Int) (w : World) :
    Calls Tryd.prog 39 #[.int .i64 n] w fun e w' => e = .returned (.bool (isVal n)) ∧ w = w' := by
  by_cases h1 : -1000000000000 ≤ n
  · by_cases h2 : n ≤ 1000000000000
    all_goals
      go_enter Tryd.func39, Tryd.ntmps39
      go_wp2
      go_ret
      exact ⟨ret_bool' (by simp [isVal]; omega), rfl⟩
  · go_enter Tryd.func39, Tryd.ntmps39
    go_wp2
    go_ret
    exact ⟨ret_bool' (by simp [isVal]; omega), rfl⟩

end Go.Proofs.YtmpopfcnjgcncaaDoor
