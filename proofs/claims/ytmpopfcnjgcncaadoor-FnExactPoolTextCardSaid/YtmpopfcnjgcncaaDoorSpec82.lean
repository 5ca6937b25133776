/- Contracts of chapter 8's model: draws. -/
import Derived.Test.YtmpopfcnjgcncaaDoorChecked
import Derived.Test.YtmpopfcnjgcncaaDoorBase
import Derived.Test.YtmpopfcnjgcncaaDoorInfo
import Derived.Test.YtmpopfcnjgcncaaDoorMarkI
import Derived.Test.YtmpopfcnjgcncaaDoorPure30
import Derived.Test.YtmpopfcnjgcncaaDoorPure60
import Derived.Test.YtmpopfcnjgcncaaDoorPure40
import Derived.Test.YtmpopfcnjgcncaaDoorPure80
import Derived.Test.YtmpopfcnjgcncaaDoorIntL
import Derived.Test.YtmpopfcnjgcncaaDoorBuildI
import Derived.Test.YtmpopfcnjgcncaaDoorBuild8
import Derived.Test.YtmpopfcnjgcncaaDoorRowV
import Derived.Test.YtmpopfcnjgcncaaDoorPoolA
import Derived.Test.YtmpopfcnjgcncaaDoorSpec80
import Derived.Test.YtmpopfcnjgcncaaDoorSpec81
import Derived.WalkKit
import Derived.WalkSpells
import Derived.WalkLawsBesides
import Derived.Lib.Hide
import Derived.Lib.QuietBelow
import Derived.IntWalk
import Derived.Deep.QuietTactic
import Derived.Deep.RegionHeld3
import Derived.BigQuiet
import Derived.Outline
namespace Go.Proofs.YtmpopfcnjgcncaaDoor
open Go.RowKit Pure1 Pure2 Pure30 Pure40 Pure60 Pure80 Rec

/-- a pool of our own and a list of our own are returned; nothing that was there has turned -/
def SaysDraw (q : PoolV) (out : List Int) (w : World) (e : Ending) (w' : World) : Prop :=
  ∃ v0 v1 v2, e = .returned (.tuple #[.agg #[v0, v1, .int .i64 q.state], v2]) ∧ BuildI w.heap.size w' v0 q.nums ∧ BuildI w.heap.size w' v1 q.drawn ∧ BuildI w.heap.size w' v2 out ∧ ApartV v0 v1 ∧ ApartV v0 v2 ∧ ApartV v1 v2 ∧ Below w.heap.size w w'
/-- what a list that grew has in common with another one -/
theorem apartV_grew {B : Nat} {w : World} {v v' u : Value} {zs : List Int} (h : ApartV v u) (hu : BuildI B w u zs) (hv : v'.ownBlock = v.ownBlock ∨ v'.ownBlock = some w.heap.size) : ApartV v' u := by
  intro k h1 h2
  rcases hv with hv | hv
  · exact h k (by rw [← hv]; exact h1) h2
  · rw [hv] at h1
    cases h1
    have := (hu.lt _ h2).2
    omega
theorem below_int {s : Int} {n : Nat} (h : 0 ≤ s) : s * (n : Int) / 2147483647 = below s n := rfl

end Go.Proofs.YtmpopfcnjgcncaaDoor
