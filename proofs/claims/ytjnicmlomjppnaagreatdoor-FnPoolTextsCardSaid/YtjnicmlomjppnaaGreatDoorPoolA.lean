/- A struct of numbers and lists of numbers: Pool. Where it lies, how an argument is opened. (written by rec.py) -/
import Derived.Test.YtjnicmlomjppnaaGreatDoorChecked
import Derived.Test.YtjnicmlomjppnaaGreatDoorBase0
import Derived.Test.YtjnicmlomjppnaaGreatDoorRowV
import Derived.WalkKit
import Derived.WalkSpells
import Derived.WalkLawsBesides
import Derived.ProofKit
import Derived.OpenShut
import Derived.ChangeOld
import Derived.Deep.Slices
namespace Go.Proofs.YtjnicmlomjppnaaGreatDoor
open Go.RowKit Go.ChangeShapes Go.WideShapes Go.Deep Pure2 Pure40 Pure80

/-- the slices read the lists -/
def PoolV.In (w : World) (a0 : Option Addr) (l0 : Nat) (a1 : Option Addr) (l1 : Nat) (p : PoolV) : Prop := IntsIn w a0 l0 p.nums ∧ IntsIn w a1 l1 p.drawn
theorem PoolV.In.below {w w' : World} {a0 : Option Addr} {l0 : Nat} {a1 : Option Addr} {l1 : Nat} {p : PoolV} (h : PoolV.In w a0 l0 a1 l1 p) (hb : Below w.heap.size w w') : PoolV.In w' a0 l0 a1 l1 p :=
  ⟨(h.1).below hb, (h.2).below hb⟩
/-- it lies from block b's first cell on -/
def PoolV.Box (w : World) (b : Nat) (a0 : Option Addr) (l0 c0 : Nat) (a1 : Option Addr) (l1 c1 : Nat) (p : PoolV) : Prop := w.cell? ⟨b, 0, none⟩ = some (.slice a0 l0 c0) ∧ w.cell? ⟨b, 1, none⟩ = some (.slice a1 l1 c1) ∧ w.cell? ⟨b, 2, none⟩ = some (.int .i64 p.state)
theorem PoolV.Box.below {w w' : World} {b : Nat} {a0 : Option Addr} {l0 c0 : Nat} {a1 : Option Addr} {l1 c1 : Nat} {p : PoolV} (h : PoolV.Box w b a0 l0 c0 a1 l1 c1 p) (hb : Below w.heap.size w w') : PoolV.Box w' b a0 l0 c0 a1 l1 c1 p :=
  ⟨cell_later hb h.1, cell_later hb h.2.1, cell_later hb h.2.2⟩
theorem PoolV.Box.grown {w w' : World} {b : Nat} {row : Option Nat} {a0 : Option Addr} {l0 c0 : Nat} {a1 : Option Addr} {l1 c1 : Nat} {p : PoolV} (h : PoolV.Box w b a0 l0 c0 a1 l1 c1 p) (hg : w.grownBy w' row) (hne : ∀ q, row = some q → b ≠ q) : PoolV.Box w' b a0 l0 c0 a1 l1 c1 p :=
  ⟨hg.cell h.1 (fun e => hne _ e.symm rfl), hg.cell h.2.1 (fun e => hne _ e.symm rfl), hg.cell h.2.2 (fun e => hne _ e.symm rfl)⟩
theorem PoolV.boxed (w : World) (a0 : Option Addr) (l0 c0 : Nat) (a1 : Option Addr) (l1 c1 : Nat) (p : PoolV) (T : TypeId) : PoolV.Box (w.alloc (.cells #[.slice a0 l0 c0, .slice a1 l1 c1, .int .i64 p.state] T)) w.heap.size a0 l0 c0 a1 l1 c1 p := by
  have h : (w.alloc (.cells #[.slice a0 l0 c0, .slice a1 l1 c1, .int .i64 p.state] T)).heap[w.heap.size]? = some (.cells #[.slice a0 l0 c0, .slice a1 l1 c1, .int .i64 p.state] T) := heap_alloc_new w _
  refine ⟨?_, ?_, ?_⟩ <;> (unfold World.cell?; rw [h]; rfl)
/-- a type whose values are such structs -/
def PoolV.Ty (P : Program) (T : TypeId) : Prop :=
  ∃ (f0 f1 f2 : Field) (e0 e1 : TypeId), P.underlying T = some (.struct #[f0, f1, f2]) ∧ P.cellsOf T = 3 ∧ f0.offset = 0 ∧ f1.offset = 1 ∧ f2.offset = 2 ∧ P.cellsOf f0.type = 1 ∧ P.cellsOf f1.type = 1 ∧ P.cellsOf f2.type = 1 ∧ P.underlying f0.type = some (.slice e0) ∧ P.underlying f1.type = some (.slice e1) ∧ P.underlying f2.type = some (.int .i64) ∧ P.underlying e0 = some (.int .i64) ∧ P.cellsOf e0 = 1 ∧ P.underlying e1 = some (.int .i64) ∧ P.cellsOf e1 = 1
section
variable {H : Type} {enc : TypeId × Value → H} {P : Program} {w : World} {base : Nat} {spare : Nat → Bool} {held : Bool} {T : TypeId}
/-- a field that is a slice of numbers -/
theorem PoolV.ints_of_trod {S e : TypeId} (hS : P.underlying S = some (.slice e)) (he : P.underlying e = some (.int .i64)) (hc : P.cellsOf e = 1) {fuel : Nat} {d : Value} {x : DataW H × List MemPlace}
    (h : DataW.trod enc P w base spare held fuel S [d] = some x) : ∃ (a : Option Addr) (len cap : Nat) (zs : List Int), d = .slice a len cap ∧ IntsIn w a len zs := by
  rcases open_ints hS he hc h with ⟨hcs, _⟩ | ⟨x, l, c, zs, hcs, _, hl, hm, hz, _, hcell, hwz⟩
  · simp at hcs
    exact ⟨none, 0, 0, [], hcs, rfl, by unfold maxLen; omega, .inl rfl⟩
  · simp at hcs
    obtain ⟨h1, h2, h3⟩ := ints_of_row (w := w) (a := some x) (len := l) (cap := zs.length) (zs := zs) (.inr ⟨x, rfl, by rw [hz]; split <;> omega, by rw [hz]; split <;> omega, rfl, hcell, hwz⟩)
    exact ⟨some x, l, c, zs.take l, hcs, h1, h2, h3⟩
/-- an argument that is such a struct -/
theorem PoolV.open (hT : PoolV.Ty P T) {r : Reach} {b0 : Nat} {v : Value} {d : DataW H} {ps : List MemPlace} (hv : Value.okWide P w r b0 T v) (h : DataW.Trod enc P w base spare held T v d ps) :
    ∃ (a0 : Option Addr) (l0 c0 : Nat) (a1 : Option Addr) (l1 c1 : Nat) (p : PoolV), v = .agg #[.slice a0 l0 c0, .slice a1 l1 c1, .int .i64 p.state] ∧ PoolV.In w a0 l0 a1 l1 p := by
  obtain ⟨f0, f1, f2, e0, e1, hs, hC, o0, o1, o2, c0, c1, c2, u0, u1, u2, t0, k0, t1, k1⟩ := hT
  obtain ⟨cs, rfl, _⟩ := okWide_struct hs hv
  obtain ⟨fuel, hf⟩ := h
  obtain ⟨xs, n, _, _, hlen0, hlen, hg⟩ := DataW.trod_struct hs hf
  rw [hC] at hlen0
  obtain ⟨q⟩ := cs
  simp only [Value.cells] at hlen0 hg
  match q, hlen0 with
  | [d0, d1, d2], _ =>
    match xs, hlen with
    | [y0, y1, y2], _ =>
      have h0 : DataW.trod enc P w base spare held n f0.type [d0] = some y0 := by simpa [o0, c0] using hg 0 f0 rfl
      have h1 : DataW.trod enc P w base spare held n f1.type [d1] = some y1 := by simpa [o1, c1] using hg 1 f1 rfl
      have h2 : DataW.trod enc P w base spare held n f2.type [d2] = some y2 := by simpa [o2, c2] using hg 2 f2 rfl
      obtain ⟨A0, l0, c0, zs0, rfl, hi0⟩ := PoolV.ints_of_trod u0 t0 k0 h0
      obtain ⟨A1, l1, c1, zs1, rfl, hi1⟩ := PoolV.ints_of_trod u1 t1 k1 h1
      obtain ⟨n2, q2, _⟩ := DataW.trod_int u2 h2
      cases q2
      exact ⟨A0, l0, c0, A1, l1, c1, ⟨zs0, zs1, n2⟩, rfl, hi0, hi1⟩
end
end Go.Proofs.YtjnicmlomjppnaaGreatDoor
