/- A row of numbers of the call's own that is written in loops. -/
import Derived.Test.YtchffaohmeaccaaDoorChecked
import Derived.Test.YtchffaohmeaccaaDoorBase0
import Derived.Test.YtchffaohmeaccaaDoorInfo
import Derived.Test.YtchffaohmeaccaaDoorMarkI
import Derived.WalkKit
import Derived.WalkSpells
import Derived.WalkLawsBesides
import Derived.Lib.QuietBelow
import Derived.IntWalk
import Derived.Lib.Hide
import Derived.Deep.OwnRows
import Derived.Outline
namespace Go.Proofs.YtchffaohmeaccaaDoor
open Go.RowKit Pure2

/-- block b is a row of numbers that g tells; nothing below B has turned -/
def RowG (B b N len : Nat) (w0 w : World) (g : Nat → Int) : Prop :=
  Below B w0 w ∧ ∃ f, w.rowIs b 2 N f ∧ ∀ x, x < len → f x = .int .i64 (g x)
theorem RowG.grow {B b N len : Nat} {w0 w w' : World} {g : Nat → Int} (h : RowG B b N len w0 w g) (hb : Below w.heap.size w w') (hB : B ≤ w.heap.size) : RowG B b N len w0 w' g := by
  obtain ⟨h1, f, hr, hf⟩ := h
  exact ⟨h1.trans (hb.mono hB), f, hr.of_block (hb.block b hr.lt), hf⟩
theorem RowG.congr {B b N len : Nat} {w0 w : World} {g g' : Nat → Int} (h : RowG B b N len w0 w g) (he : ∀ x, x < len → g x = g' x) : RowG B b N len w0 w g' := by
  obtain ⟨h1, f, hr, hf⟩ := h
  exact ⟨h1, f, hr, fun x hx => by rw [hf x hx, he x hx]⟩
theorem RowG.set {B b N len : Nat} {w0 w : World} {g : Nat → Int} (h : RowG B b N len w0 w g) (hB : B ≤ b) (k : Nat) (y : Int) : RowG B b N len w0 (w.setCell ⟨b, k, none⟩ (.int .i64 y)) (fun x => if x = k then y else g x) := by
  obtain ⟨h1, f, hr, hf⟩ := h
  refine ⟨h1.setCell (show B ≤ (⟨b, k, none⟩ : Addr).block from hB) _, _, hr.set _ _, fun x hx => ?_⟩
  by_cases e : x = k
  · simp [e]
  · simp only [if_neg e]; exact hf x hx
theorem RowG.cell {B b N len : Nat} {w0 w : World} {g : Nat → Int} (h : RowG B b N len w0 w g) (hN : len ≤ N) {k : Nat} (hk : k < len) : w.cell? ⟨b, k, none⟩ = some (.int .i64 (g k)) := by
  obtain ⟨_, f, hr, hf⟩ := h
  rw [hr.cell (by omega), hf k hk]
theorem RowG.frozen {B b N len : Nat} {w0 w : World} {g : Nat → Int} (h : RowG B b N len w0 w g) (k : Nat) : w.frozen? ⟨b, k, none⟩ = false := by
  obtain ⟨_, f, hr, _⟩ := h
  exact hr.frozen k
theorem RowG.own {B b N len : Nat} {w0 w : World} {g : Nat → Int} (h : RowG B b N len w0 w g) (hN : len ≤ N) (hB : B ≤ b) : OwnI B w (some ⟨b, 0, none⟩) len g := by
  obtain ⟨_, f, hr, hf⟩ := h
  exact .inr ⟨b, f, N, rfl, hB, hN, hr, hf⟩
/-- a row that make lays -/
theorem RowG.made (w : World) (n : Nat) : RowG w.heap.size w.heap.size n n w (w.alloc (.cells (madeCells #[.int .i64 0] n) 2)) (fun _ => 0) :=
  ⟨(Below.refl _ _).alloc (Nat.le_refl _) _, _, World.rowIs_made _ _ _ _, fun x hx => rfl⟩
end Go.Proofs.YtchffaohmeaccaaDoor
