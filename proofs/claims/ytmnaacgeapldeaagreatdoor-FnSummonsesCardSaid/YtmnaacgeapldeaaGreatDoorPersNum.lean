/- Contract: impl.isPersonNumber. -/
import Derived.Test.YtmnaacgeapldeaaGreatDoorChecked
import Derived.Test.YtmnaacgeapldeaaGreatDoorBase0
import Derived.Test.YtmnaacgeapldeaaGreatDoorWithin
import Derived.WalkKit
import Derived.WalkSpells
import Derived.WalkLawsBesides
import Derived.Lib.Hide
import Derived.Outline
namespace Go.Proofs.YtmnaacgeapldeaaGreatDoor
open Go.RowKit Pure1 Pure40

theorem implPersNum_any (n : Int) (w : World) :
    Calls Tryz.prog 46 #[.int .i64 n] w fun e w' => e = .returned (.bool (inR n 1 1000000)) ∧ w' = w := by
  have HC := Lib.hid (implWithin_any n 1 1000000 w)
  go_enter Tryz.func46, Tryz.ntmps46
  go_wp2_with fail
  refine HC.out.mono ?_; rintro e w1 ⟨rfl, rfl⟩
  go_wp2_with fail
  go_ret
  exact ⟨rfl, rfl⟩
end Go.Proofs.YtmnaacgeapldeaaGreatDoor
