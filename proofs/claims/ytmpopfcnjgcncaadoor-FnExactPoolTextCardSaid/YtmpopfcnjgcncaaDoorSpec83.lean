/- Contracts of chapter 8's model: taking, putting back, replays, chances. -/
import Derived.Test.YtmpopfcnjgcncaaDoorChecked
import Derived.Test.YtmpopfcnjgcncaaDoorBase
import Derived.Test.YtmpopfcnjgcncaaDoorInfo
import Derived.Test.YtmpopfcnjgcncaaDoorMarkI
import Derived.Test.YtmpopfcnjgcncaaDoorPure30
import Derived.Test.YtmpopfcnjgcncaaDoorPure60
import Derived.Test.YtmpopfcnjgcncaaDoorPure40
import Derived.Test.YtmpopfcnjgcncaaDoorPure80
import Derived.Test.YtmpopfcnjgcncaaDoorIntL
import Derived.Test.YtmpopfcnjgcncaaDoorBuildI
import Derived.Test.YtmpopfcnjgcncaaDoorBuild8
import Derived.Test.YtmpopfcnjgcncaaDoorRowV
import Derived.Test.YtmpopfcnjgcncaaDoorPoolA
import Derived.Test.YtmpopfcnjgcncaaDoorSpec80
import Derived.Test.YtmpopfcnjgcncaaDoorSpec81
import Derived.Test.YtmpopfcnjgcncaaDoorSpec82
import Derived.WalkKit
import Derived.WalkSpells
import Derived.WalkLawsBesides
import Derived.Lib.Hide
import Derived.Lib.QuietBelow
import Derived.IntWalk
import Derived.Deep.QuietTactic
import Derived.Deep.RegionHeld3
import Derived.BigQuiet
import Derived.Outline
namespace Go.Proofs.YtmpopfcnjgcncaaDoor
open Go.RowKit Pure1 Pure2 Pure30 Pure40 Pure60 Pure80 Rec

/-- a pool of our own, a list of our own and a code are returned; nothing that was there has turned -/
def SaysTake (q : PoolV) (out : List Int) (n : Int) (w : World) (e : Ending) (w' : World) : Prop :=
  ∃ v0 v1 v2, e = .returned (.tuple #[.agg #[v0, v1, .int .i64 q.state], v2, .int .i64 n]) ∧ BuildI w.heap.size w' v0 q.nums ∧ BuildI w.heap.size w' v1 q.drawn ∧ BuildI w.heap.size w' v2 out ∧ ApartV v0 v1 ∧ ApartV v0 v2 ∧ ApartV v1 v2 ∧ Below w.heap.size w w'
theorem takeC_why (p : PoolV) (k : Int) : (isPool p = false ∧ takeC p k = 1) ∨ (isPool p = true ∧ k < 0 ∧ takeC p k = 2) ∨ (isPool p = true ∧ ¬ k < 0 ∧ (p.nums.length : Int) - p.drawn.length < k ∧ takeC p k = 3) ∨ (isPool p = true ∧ ¬ k < 0 ∧ ¬ (p.nums.length : Int) - p.drawn.length < k ∧ takeC p k = 0) := by
  unfold takeC
  cases hp : isPool p with
  | false => exact .inl ⟨rfl, by simp⟩
  | true =>
    by_cases h1 : k < 0
    · exact .inr (.inl ⟨rfl, h1, by simp [h1]⟩)
    · by_cases h2 : (p.nums.length : Int) - p.drawn.length < k
      · exact .inr (.inr (.inl ⟨rfl, h1, h2, by simp [h1, h2]⟩))
      · exact .inr (.inr (.inr ⟨rfl, h1, h2, by simp [h1, h2]⟩))

end Go.Proofs.YtmpopfcnjgcncaaDoor
