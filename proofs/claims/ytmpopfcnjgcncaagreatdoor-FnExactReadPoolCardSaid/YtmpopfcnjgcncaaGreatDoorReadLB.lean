/- What reading a list of numbers says. -/
import Derived.Test.YtmpopfcnjgcncaaGreatDoorChecked
import Derived.Test.YtmpopfcnjgcncaaGreatDoorBase0
import Derived.Test.YtmpopfcnjgcncaaGreatDoorInfo
import Derived.Test.YtmpopfcnjgcncaaGreatDoorSplit
import Derived.Test.YtmpopfcnjgcncaaGreatDoorSplitI
import Derived.Test.YtmpopfcnjgcncaaGreatDoorNums
import Derived.Test.YtmpopfcnjgcncaaGreatDoorListErr
import Derived.Test.YtmpopfcnjgcncaaGreatDoorMarkI
import Derived.WalkKit
import Derived.WalkSpells
import Derived.WalkLawsBesides
import Derived.Lib.Hide
import Derived.Deep.OwnRows
import Derived.Outline
namespace Go.Proofs.YtmpopfcnjgcncaaGreatDoor
open Go.RowKit Pure2 Pure3 Pure4 Pure5 Pure7 Pure8

/-- a new slice of numbers of the call's own and a code are returned -/
def SaysNewI (zs : List Int) (n : Int) (w : World) (e : Ending) (w' : World) : Prop :=
  ∃ a cap, e = .returned (.tuple #[.slice a zs.length cap, .int .i64 n]) ∧ OwnI w.heap.size w' a zs.length (fun i => zs.getD i 0) ∧ Below w.heap.size w w'
/-- a slice of numbers and a code are returned -/
def SaysReadI (zs : List Int) (n : Int) (w : World) (e : Ending) (w' : World) : Prop :=
  ∃ a cap, e = .returned (.tuple #[.slice a zs.length cap, .int .i64 n]) ∧ IntsAt w' a zs ∧ Below w.heap.size w w'
theorem ret_slI {u v : Value} {a b : Int} (h : u = v) (h' : a = b) : Ending.returned (.tuple #[u, .int .i64 a]) = .returned (.tuple #[v, .int .i64 b]) := by rw [h, h']

theorem ownI_row {w wr : World} {B len : Nat} {f : Nat → Value} {ns : List Int} (hr : wr.rowIs B 2 len f) (hb : w.heap.size ≤ B) (hl : ns.length = len) (hf : ∀ i x, ns[i]? = some x → f i = .int .i64 x) :
    OwnI w.heap.size wr (some ⟨B, 0, none⟩) ns.length (fun i => ns.getD i 0) :=
  .inr ⟨B, f, len, rfl, hb, by omega, hr, fun i hi => hf i _ (by simp [List.getElem?_eq_getElem hi])⟩
theorem list_step {ns : List Int} {n : Int} {f : Nat → Value} (hf : ∀ i x, ns[i]? = some x → f i = .int .i64 x) :
    ∀ i x, (ns ++ [n])[i]? = some x → (fun j => if j = ns.length then Value.int .i64 n else f j) i = .int .i64 x := by
  intro i x hx
  by_cases e : i = ns.length
  · subst e; simp at hx; simp [hx]
  · have hi : i < ns.length := by
      have := (List.getElem?_eq_some_iff.1 hx).1
      rw [List.length_append, List.length_singleton] at this; omega
    rw [List.getElem?_append_left hi] at hx
    simp only [if_neg e]; exact hf i x hx

end Go.Proofs.YtmpopfcnjgcncaaGreatDoor
