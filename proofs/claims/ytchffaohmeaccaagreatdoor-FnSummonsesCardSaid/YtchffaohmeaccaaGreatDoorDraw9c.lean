/- Contracts: spec.DrawRemindersOn, spec.DrawNextReminder. -/
import Derived.Test.YtchffaohmeaccaaGreatDoorChecked
import Derived.Test.YtchffaohmeaccaaGreatDoorBase0
import Derived.Test.YtchffaohmeaccaaGreatDoorNext
import Derived.Test.YtchffaohmeaccaaGreatDoorPick
import Derived.Test.YtchffaohmeaccaaGreatDoorFrom
import Derived.Test.YtchffaohmeaccaaGreatDoorFacts
import Derived.Test.YtchffaohmeaccaaGreatDoorDraw9a
import Derived.Test.YtchffaohmeaccaaGreatDoorDraw9b
import Derived.WalkKit
import Derived.WalkSpells
import Derived.WalkLawsBesides
import Derived.Lib.Hide
import Derived.IntWalk
import Derived.OwnWalk
import Derived.Outline
namespace Go.Proofs.YtchffaohmeaccaaGreatDoor
open Go.RowKit Pure1 Pure2 Pure6

def IntIn9 (lo hi : Int) (v : Value) : Prop := ∃ x, v = .int .i64 x ∧ lo ≤ x ∧ x ≤ hi
theorem DrawnAt.base_le {w0 w1 w : World} {g cap m : Nat} {ts : List Summons} (h : DrawnAt w1 w g cap m ts) (hs : w0.heap.size ≤ w1.heap.size) : DrawnAt w0 w g cap m ts :=
  ⟨h.cap, Nat.le_trans hs h.base, h.lt, h.reads, h.len, h.small⟩
/-- a list of summonses and a day -/
def GaveMD (w : World) (e : Ending) (w' : World) : Prop := ∃ g cap ts d, e = .returned (.tuple #[.slice (some ⟨g, 0, none⟩) ts.length cap, .int .i64 d]) ∧ DrawnAt w w' g cap 21 ts ∧ (-20 ≤ d ∧ d ≤ 100100) ∧ Below w.heap.size w w'

/-- what each operation of the drawn end leaves -/
def RG9 (b g n cap : Nat) : Nat → Value → World → Prop
  | 0, v, _ | 1, v, _ | 3, v, _ | 13, v, _ => v = .slice (some ⟨g, 0, none⟩) n cap
  | 2, v, _ | 9, v, _ => v = .pointer (some ⟨b, 0, none⟩)
  | 4, v, _ => v = .int .i64 n
  | 5, v, _ => ∃ m : Nat, v = .int .i64 m ∧ m < n
  | 6, v, _ => ∃ m : Nat, v = .pointer (some ⟨g, m * 5, none⟩) ∧ m < n
  | 7, v, _ => ∃ m : Nat, v = .pointer (some ⟨g, m * 5 + 2, none⟩) ∧ m < n
  | 8, v, _ => IntIn9 (-20) 100000 v
  | 10, v, w => ∃ q, v = .slice (some ⟨q, 0, none⟩) 6 6 ∧ q ≠ b ∧ ∀ i x, [(1 : Int), 15, 29, 43, 2, 0][i]? = some x → w.cell? ⟨q, i, none⟩ = some (.int .i64 x)
  | 11, v, _ => IntIn9 0 100 v
  | 12, v, _ | 14, v, _ => IntIn9 (-20) 100100 v
  | _, _, _ => True

end Go.Proofs.YtchffaohmeaccaaGreatDoor
