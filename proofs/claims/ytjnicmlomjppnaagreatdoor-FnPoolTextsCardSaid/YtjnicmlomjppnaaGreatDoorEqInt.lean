/- Contract of the laws' own helper eqInt64S, which compares. -/
import Derived.Test.YtjnicmlomjppnaaGreatDoorChecked
import Derived.Test.YtjnicmlomjppnaaGreatDoorBase0
import Derived.WalkKit
import Derived.WalkSpells
import Derived.WalkLawsBesides
import Derived.Lib.Hide
import Derived.Deep.QuietTactic
import Derived.BigQuiet
namespace Go.Proofs.YtjnicmlomjppnaaGreatDoor
open Go.RowKit Pure2

end Go.Proofs.YtjnicmlomjppnaaGreatDoor
