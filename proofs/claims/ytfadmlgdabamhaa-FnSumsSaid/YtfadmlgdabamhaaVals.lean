/- Contracts: impl.isValue and spec.l01Is tell whether an integer is a value. -/
import Derived.Test.YtfadmlgdabamhaaChecked
import Derived.Test.YtfadmlgdabamhaaBase
import Derived.WalkKit
import Derived.WalkSpells
import Derived.WalkLawsBesides
import Derived.Lib.Hide
namespace Go.Proofs.Ytfadmlgdabamhaa
open Go.RowKit Pure2

set_option maxHeartbeats 400000 in
theorem implIsValue_any (n : Int) (w : World) :
    Calls Try.prog 24 #[.int .i64 n] w fun e w' => e = .returned (.bool (isVal n)) ∧ w = w' := by
  by_cases h1 : -1000000000000 ≤ n
  · by_cases h2 : n ≤ 1000000000000
    all_goals
      go_enter Try.func24, Try.ntmps24
      go_wp2
      go_ret
      exact ⟨ret_bool' (by simp [isVal]; omega), rfl⟩
  · go_enter Try.func24, Try.ntmps24
    go_wp2
    go_ret
    exact ⟨ret_bool' (by simp [isVal]; omega), rfl⟩

set_option maxHeartbeats 400000 in
theorem specIs_any (n : Int) (w : World) :
    Calls Try.prog 26 #[.int .i64 n] w fun e w' => e = .returned (.bool (isVal n)) ∧ w = w' := by
  by_cases h1 : -1000000000000 ≤ n
  · by_cases h2 : n ≤ 1000000000000
    all_goals
      go_enter Try.func26, Try.ntmps26
      go_wp2
      go_ret
      exact ⟨ret_bool' (by simp [isVal]; omega), rfl⟩
  · go_enter Try.func26, Try.ntmps26
    go_wp2
    go_ret
    exact ⟨ret_bool' (by simp [isVal]; omega), rfl⟩

end Go.Proofs.Ytfadmlgdabamhaa
