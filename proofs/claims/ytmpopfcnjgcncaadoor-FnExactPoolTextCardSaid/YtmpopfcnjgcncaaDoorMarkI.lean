/- Contracts of the laws' own helpers on marks in slices of int64: markInt64S, heldInt64S. -/
import Derived.Test.YtmpopfcnjgcncaaDoorChecked
import Derived.Test.YtmpopfcnjgcncaaDoorBase
import Derived.WalkKit
import Derived.WalkSpells
import Derived.WalkLawsBesides
import Derived.Lib.Hide
import Derived.Deep.OwnRows
namespace Go.Proofs.YtmpopfcnjgcncaaDoor
open Go.RowKit Pure2

/-- a slice of int64 in a row of the call's own (from block B on): its first len numbers are given by g -/
def OwnI (B : Nat) (w : World) (a : Option Addr) (len : Nat) (g : Nat → Int) : Prop :=
  len = 0 ∨ ∃ b f N, a = some ⟨b, 0, none⟩ ∧ B ≤ b ∧ len ≤ N ∧ w.rowIs b 2 N f ∧ ∀ i, i < len → f i = .int .i64 (g i)
theorem OwnI.below {B : Nat} {w w' : World} {a : Option Addr} {len : Nat} {g : Nat → Int} (h : OwnI B w a len g) (hb : Below w.heap.size w w') : OwnI B w' a len g := by
  rcases h with h | ⟨b, f, N, rfl, hB, hN, hr, hf⟩
  · exact .inl h
  · exact .inr ⟨b, f, N, rfl, hB, hN, hr.of_block (hb.block b hr.lt), hf⟩
theorem OwnI.at {B : Nat} {w : World} {a : Option Addr} {len : Nat} {g : Nat → Int} (h : OwnI B w a len g) {n : Nat} (hn : n < len) : ∃ b, a = some ⟨b, 0, none⟩ ∧ w.cell? ⟨b, n, none⟩ = some (.int .i64 (g n)) := by
  rcases h with h | ⟨b, f, N, rfl, hB, hN, hr, hf⟩
  · omega
  · exact ⟨b, rfl, by rw [hr.cell (by omega), hf n hn]⟩
theorem ownI_reads {B : Nat} {w : World} {a : Option Addr} {zs : List Int} (h : OwnI B w a zs.length (fun i => zs.getD i 0)) : IntsAt w a zs := by
  rcases h with h | ⟨b, f, N, rfl, hb, hN, hr, hf⟩
  · exact .inl (List.length_eq_zero_iff.1 h)
  · refine .inr ⟨b, 0, rfl, fun i x hx => ?_⟩
    have hi := (List.getElem?_eq_some_iff.1 hx).1
    rw [Nat.zero_add, hr.cell (by omega), hf i hi]
    simp [List.getD, hx]

def MarkedI (B : Nat) (a : Option Addr) (len : Nat) (k : Int) (w : World) (e : Ending) (w' : World) : Prop :=
  e = .returned (.int .i64 (k + len)) ∧ OwnI B w' a len (fun i => k + i) ∧ Below B w w' ∧ w.heap.size ≤ w'.heap.size
theorem markI_step {k : Int} {n : Nat} {f : Nat → Value} (hf : ∀ i, i < n → f i = .int .i64 (k + i)) :
    ∀ i, i < n + 1 → (fun j => if j = n then Value.int .i64 (k + n) else f j) i = .int .i64 (k + i) := by
  intro i hi
  by_cases e : i = n
  · subst e; simp
  · simp only [if_neg e]; exact hf i (by omega)

end Go.Proofs.YtmpopfcnjgcncaaDoor
