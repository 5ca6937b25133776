/- Contracts: slices.Index and slices.Contains at int64. -/
import Derived.Test.YtchffaohmeaccaaGreatDoorChecked
import Derived.Test.YtchffaohmeaccaaGreatDoorBase0
import Derived.WalkKit
import Derived.WalkSpells
import Derived.WalkLawsBesides
import Derived.Lib.Hide
import Derived.Outline
namespace Go.Proofs.YtchffaohmeaccaaGreatDoor
open Go.RowKit Pure2

def hasI (zs : List Int) (x : Int) : Bool := decide (x ∈ zs)
theorem hasI_at {zs : List Int} {k : Nat} {x : Int} (h : zs[k]? = some x) : hasI zs x = true := decide_eq_true (List.mem_of_getElem? h)
theorem hasI_end {zs : List Int} {k : Nat} {x : Int} (h : ∀ i, i < k → zs[i]? ≠ some x) (hk : zs.length ≤ k) : hasI zs x = false := decide_eq_false fun hm => by
  obtain ⟨i, hi⟩ := List.mem_iff_getElem?.1 hm
  exact h i (by have := (List.getElem?_eq_some_iff.1 hi).1; omega) hi
theorem hasI_next {zs : List Int} {k : Nat} {x y : Int} (h : ∀ i, i < k → zs[i]? ≠ some x) (hy : zs[k]? = some y) (hn : y ≠ x) : ∀ i, i < k + 1 → zs[i]? ≠ some x := by
  intro i hi e
  by_cases e2 : i = k
  · subst e2; rw [hy] at e; exact hn (Option.some.inj e)
  · exact h i (by omega) e

end Go.Proofs.YtchffaohmeaccaaGreatDoor
