/- Contract: impl.isPersonNumber. -/
import Derived.Test.YtchffaohmeaccaaGreatDoorChecked
import Derived.Test.YtchffaohmeaccaaGreatDoorBase0
import Derived.Test.YtchffaohmeaccaaGreatDoorWithin
import Derived.WalkKit
import Derived.WalkSpells
import Derived.WalkLawsBesides
import Derived.Lib.Hide
import Derived.Outline
namespace Go.Proofs.YtchffaohmeaccaaGreatDoor
open Go.RowKit Pure1 Pure40

theorem implPersNum_any (n : Int) (w : World) :
    Calls Tryz.prog 47 #[.int .i64 n] w fun e w' => e = .returned (.bool (inR n 1 1000000)) ∧ w' = w := by
  have HC := Lib.hid (implWithin_any n 1 1000000 w)
  go_enter Tryz.func47, Tryz.ntmps47
  go_wp2_with fail
  refine HC.out.mono ?_; rintro e w1 ⟨rfl, rfl⟩
  go_wp2_with fail
  go_ret
  exact ⟨rfl, rfl⟩
end Go.Proofs.YtchffaohmeaccaaGreatDoor
