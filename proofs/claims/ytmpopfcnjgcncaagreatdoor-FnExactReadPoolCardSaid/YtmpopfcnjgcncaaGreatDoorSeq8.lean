/- Contracts: impl.nextStates makes a sequence, which yields the states behind a state, each with its index. -/
import Derived.RangeFuncNested
import Derived.RangeFuncBound
import Derived.RangeFuncCalls
import Derived.RangeFuncLeaves
import Derived.RangeFuncFrom
import Derived.Shelf.Abstract
import Derived.Shelf.RegionOpen
import Derived.WalkKit
import Derived.OwnWalkIn
import Derived.TacticsInMore
import Derived.LoopNIn
import Derived.LoopIn
import Derived.Test.YtmpopfcnjgcncaaGreatDoorChecked
import Derived.Test.YtmpopfcnjgcncaaGreatDoorBase0
import Derived.Test.YtmpopfcnjgcncaaGreatDoorPure31
import Derived.Test.YtmpopfcnjgcncaaGreatDoorSt8
import Derived.Deep.OwnRows
import Derived.Lib.Hide
namespace Go.Proofs.YtmpopfcnjgcncaaGreatDoor
open Go.RowKit Go.Shelf Pure2 Pure30 Pure31

/-- what is handed to a round: an index below N and the state behind it -/
abbrev encS (s : Int) {N : Nat} (k : Fin N) : Array Value := #[.int .i64 (k.1 : Nat), .int .i64 (nxs s (k.1 + 1))]

section
attribute [local go_sem] Oper.semAt_some

end

/-- a row of numbers of our own stays where what turns holds no cells -/
theorem row_own {W W' : World} {row : Option Nat} {b N : Nat} {T : TypeId} {f : Nat → Value} (h : W.rowIs b T N f) (hg : W.grownBy W' row) (hr : ∀ r, row = some r → ∃ o : Obj, W.heap[r]? = some o ∧ o.isCells = false) : W'.rowIs b T N f :=
  h.of_block (hg.block b h.lt (fun e => by
    obtain ⟨o, ho, hc⟩ := hr b e.symm
    obtain ⟨c, hb, _⟩ := h
    rw [hb] at ho; cases ho; cases hc))
theorem box_own {W W' : World} {row : Option Nat} {b : Nat} {T : TypeId} {v : Value} (h : Boxed W b T v) (hg : W.grownBy W' row) (hr : ∀ r, row = some r → ∃ o : Obj, W.heap[r]? = some o ∧ o.isCells = false) : Boxed W' b T v :=
  h.kept hg (fun e => by
    obtain ⟨o, ho, hc⟩ := hr b e.symm
    rw [show W.heap[b]? = _ from h] at ho; cases ho; cases hc)
theorem box_other {W : World} {b c i : Nat} {T : TypeId} {v : Value} (h : Boxed W b T v) (u : Value) (hne : b ≠ c) : Boxed (W.setCell ⟨c, i, none⟩ u) b T v :=
  (Below.heap_setCell W ⟨c, i, none⟩ u b hne).trans h
theorem row_putObj {W : World} {b N l : Nat} {T : TypeId} {f : Nat → Value} {o o' : Obj} (h : W.rowIs b T N f) (hl : W.heap[l]? = some o) (ho : o.isCells = false) : (W.putObj l o').rowIs b T N f :=
  row_own h (grownBy_putObj' W l o') (fun r e => by cases e; exact ⟨o, hl, ho⟩)
end Go.Proofs.YtmpopfcnjgcncaaGreatDoor
