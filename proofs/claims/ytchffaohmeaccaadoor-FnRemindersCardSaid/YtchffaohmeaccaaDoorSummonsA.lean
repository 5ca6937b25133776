/- A struct of numbers: Summons. Where it lies, how an argument is opened. (written by flat.py) -/
import Derived.Test.YtchffaohmeaccaaDoorChecked
import Derived.Test.YtchffaohmeaccaaDoorBase
import Derived.Test.YtchffaohmeaccaaDoorPure2
import Derived.WalkKit
import Derived.WalkSpells
import Derived.WalkLawsBesides
import Derived.ProofKit
import Derived.OpenShut
import Derived.ChangeOld
import Derived.Deep.Slices
namespace Go.Proofs.YtchffaohmeaccaaDoor
open Go.RowKit Go.ChangeShapes Go.WideShapes Go.Deep Pure2

structure Summons where
  num : Int
  sent : Int
  due : Int
  ans : Int
  done : Int
deriving DecidableEq
def Summons.cells (c : Summons) : List Value := [.int .i64 c.num, .int .i64 c.sent, .int .i64 c.due, .int .i64 c.ans, .int .i64 c.done]
/-- it lies at cell o of block b -/
def Summons.At (w : World) (b o : Nat) (c : Summons) : Prop := w.cell? ⟨b, o, none⟩ = some (.int .i64 c.num) ∧ w.cell? ⟨b, o + 1, none⟩ = some (.int .i64 c.sent) ∧ w.cell? ⟨b, o + 2, none⟩ = some (.int .i64 c.due) ∧ w.cell? ⟨b, o + 3, none⟩ = some (.int .i64 c.ans) ∧ w.cell? ⟨b, o + 4, none⟩ = some (.int .i64 c.done)
/-- .. from the block's first cell on -/
def Summons.Box (w : World) (b : Nat) (c : Summons) : Prop := w.cell? ⟨b, 0, none⟩ = some (.int .i64 c.num) ∧ w.cell? ⟨b, 1, none⟩ = some (.int .i64 c.sent) ∧ w.cell? ⟨b, 2, none⟩ = some (.int .i64 c.due) ∧ w.cell? ⟨b, 3, none⟩ = some (.int .i64 c.ans) ∧ w.cell? ⟨b, 4, none⟩ = some (.int .i64 c.done)
theorem Summons.At.below {w w' : World} {b o : Nat} {c : Summons} (h : Summons.At w b o c) (hb : Below w.heap.size w w') : Summons.At w' b o c :=
  ⟨cell_later hb h.1, cell_later hb h.2.1, cell_later hb h.2.2.1, cell_later hb h.2.2.2.1, cell_later hb h.2.2.2.2⟩
theorem Summons.Box.below {w w' : World} {b : Nat} {c : Summons} (h : Summons.Box w b c) (hb : Below w.heap.size w w') : Summons.Box w' b c :=
  ⟨cell_later hb h.1, cell_later hb h.2.1, cell_later hb h.2.2.1, cell_later hb h.2.2.2.1, cell_later hb h.2.2.2.2⟩
theorem Summons.At.grown {w w' : World} {b o q : Nat} {c : Summons} (h : Summons.At w b o c) (hg : w.grownBy w' (some q)) (hne : b ≠ q) : Summons.At w' b o c :=
  ⟨hg.cell h.1 (fun e => hne (Option.some.inj e)), hg.cell h.2.1 (fun e => hne (Option.some.inj e)), hg.cell h.2.2.1 (fun e => hne (Option.some.inj e)), hg.cell h.2.2.2.1 (fun e => hne (Option.some.inj e)), hg.cell h.2.2.2.2 (fun e => hne (Option.some.inj e))⟩
theorem Summons.Box.grown {w w' : World} {b q : Nat} {c : Summons} (h : Summons.Box w b c) (hg : w.grownBy w' (some q)) (hne : b ≠ q) : Summons.Box w' b c :=
  ⟨hg.cell h.1 (fun e => hne (Option.some.inj e)), hg.cell h.2.1 (fun e => hne (Option.some.inj e)), hg.cell h.2.2.1 (fun e => hne (Option.some.inj e)), hg.cell h.2.2.2.1 (fun e => hne (Option.some.inj e)), hg.cell h.2.2.2.2 (fun e => hne (Option.some.inj e))⟩
theorem Summons.Box.at {w : World} {b : Nat} {c : Summons} (h : Summons.Box w b c) : Summons.At w b 0 c := by
  unfold Summons.At; simp only [Nat.zero_add]; exact h
theorem Summons.At.box {w : World} {b : Nat} {c : Summons} (h : Summons.At w b 0 c) : Summons.Box w b c := by
  unfold Summons.At at h; simp only [Nat.zero_add] at h; exact h
theorem Summons.At.lt {w : World} {b o : Nat} {c : Summons} (h : Summons.At w b o c) : b < w.heap.size := World.block_lt_of_cell? w _ h.1
theorem Summons.boxed (w : World) (c : Summons) (T : TypeId) : Summons.Box (w.alloc (.cells #[.int .i64 c.num, .int .i64 c.sent, .int .i64 c.due, .int .i64 c.ans, .int .i64 c.done] T)) w.heap.size c := by
  have h : (w.alloc (.cells #[.int .i64 c.num, .int .i64 c.sent, .int .i64 c.due, .int .i64 c.ans, .int .i64 c.done] T)).heap[w.heap.size]? = some (.cells #[.int .i64 c.num, .int .i64 c.sent, .int .i64 c.due, .int .i64 c.ans, .int .i64 c.done] T) := heap_alloc_new w _
  refine ⟨?_, ?_, ?_, ?_, ?_⟩ <;> (unfold World.cell?; rw [h]; rfl)
/-- The slice at address a reads, from its head on, the list ts. -/
def Summons.ListAt (w : World) (a : Option Addr) (ts : List Summons) : Prop :=
  ts = [] ∨ ∃ b off, a = some ⟨b, off, none⟩ ∧ ∀ i c, ts[i]? = some c → Summons.At w b (off + i * 5) c
theorem Summons.ListAt.below {w w' : World} {a : Option Addr} {ts : List Summons} (h : Summons.ListAt w a ts) (hb : Below w.heap.size w w') : Summons.ListAt w' a ts := by
  rcases h with rfl | ⟨b, off, rfl, hc⟩
  · exact .inl rfl
  · exact .inr ⟨b, off, rfl, fun i x hx => (hc i x hx).below hb⟩
theorem Summons.ListAt.at {w : World} {a : Option Addr} {ts : List Summons} (h : Summons.ListAt w a ts) {n len : Nat} (hl : ts.length = len) (hn : n < len) :
    ∃ b off c, a = some ⟨b, off, none⟩ ∧ Summons.At w b (off + n * 5) c ∧ ts[n]? = some c := by
  have hx : ts[n]? = some ts[n] := List.getElem?_eq_getElem (by omega)
  rcases h with rfl | ⟨b, off, rfl, hc⟩
  · simp at hl; omega
  · exact ⟨b, off, _, rfl, hc n _ hx, hx⟩

/-- a type whose values are such structs -/
def Summons.Ty (P : Program) (T : TypeId) : Prop :=
  ∃ f0 f1 f2 f3 f4 : Field, P.underlying T = some (.struct #[f0, f1, f2, f3, f4]) ∧ P.cellsOf T = 5 ∧ f0.offset = 0 ∧ f1.offset = 1 ∧ f2.offset = 2 ∧ f3.offset = 3 ∧ f4.offset = 4 ∧ P.cellsOf f0.type = 1 ∧ P.cellsOf f1.type = 1 ∧ P.cellsOf f2.type = 1 ∧ P.cellsOf f3.type = 1 ∧ P.cellsOf f4.type = 1 ∧ P.underlying f0.type = some (.int .i64) ∧ P.underlying f1.type = some (.int .i64) ∧ P.underlying f2.type = some (.int .i64) ∧ P.underlying f3.type = some (.int .i64) ∧ P.underlying f4.type = some (.int .i64)
section
variable {H : Type} {enc : TypeId × Value → H} {P : Program} {w : World} {base : Nat} {spare : Nat → Bool} {held : Bool} {T : TypeId}
theorem Summons.of_trod (hT : Summons.Ty P T) {fuel : Nat} {cs : List Value} {x : DataW H × List MemPlace} (h : DataW.trod enc P w base spare held fuel T cs = some x) :
    ∃ c : Summons, cs = c.cells := by
  obtain ⟨f0, f1, f2, f3, f4, hs, hC, o0, o1, o2, o3, o4, c0, c1, c2, c3, c4, u0, u1, u2, u3, u4⟩ := hT
  obtain ⟨xs, n, _, _, hlen0, hlen, hg⟩ := DataW.trod_struct hs h
  rw [hC] at hlen0
  match cs, hlen0 with
  | [d0, d1, d2, d3, d4], _ =>
    match xs, hlen with
    | [y0, y1, y2, y3, y4], _ =>
      have h0 : DataW.trod enc P w base spare held n f0.type [d0] = some y0 := by simpa [o0, c0] using hg 0 f0 rfl
      have h1 : DataW.trod enc P w base spare held n f1.type [d1] = some y1 := by simpa [o1, c1] using hg 1 f1 rfl
      have h2 : DataW.trod enc P w base spare held n f2.type [d2] = some y2 := by simpa [o2, c2] using hg 2 f2 rfl
      have h3 : DataW.trod enc P w base spare held n f3.type [d3] = some y3 := by simpa [o3, c3] using hg 3 f3 rfl
      have h4 : DataW.trod enc P w base spare held n f4.type [d4] = some y4 := by simpa [o4, c4] using hg 4 f4 rfl
      obtain ⟨n0, e0, _⟩ := DataW.trod_int u0 h0
      obtain ⟨n1, e1, _⟩ := DataW.trod_int u1 h1
      obtain ⟨n2, e2, _⟩ := DataW.trod_int u2 h2
      obtain ⟨n3, e3, _⟩ := DataW.trod_int u3 h3
      obtain ⟨n4, e4, _⟩ := DataW.trod_int u4 h4
      cases e0; cases e1; cases e2; cases e3; cases e4
      exact ⟨⟨n0, n1, n2, n3, n4⟩, rfl⟩
/-- an argument that is such a struct -/
theorem Summons.open (hT : Summons.Ty P T) {r : Reach} {b0 : Nat} {v : Value} {d : DataW H} {ps : List MemPlace} (hv : Value.okWide P w r b0 T v) (h : DataW.Trod enc P w base spare held T v d ps) :
    ∃ c : Summons, v = .agg #[.int .i64 c.num, .int .i64 c.sent, .int .i64 c.due, .int .i64 c.ans, .int .i64 c.done] := by
  obtain ⟨f0, f1, f2, f3, f4, hs, _⟩ := id hT
  obtain ⟨cs, rfl, _⟩ := okWide_struct hs hv
  obtain ⟨fuel, hf⟩ := h
  obtain ⟨p, hp⟩ := Summons.of_trod hT hf
  refine ⟨p, ?_⟩
  obtain ⟨l⟩ := cs
  simp only [Value.cells] at hp
  subst hp
  rfl
/-- an argument that is a slice of such structs -/
theorem Summons.openS {S : TypeId} (hT : Summons.Ty P T) (hS : P.underlying S = some (.slice T)) {fuel : Nat} {a : Option Addr} {len cap : Nat} {x : DataW H × List MemPlace}
    (h : DataW.trod enc P w base spare held fuel S [.slice a len cap] = some x) : ∃ ps : List Summons, ps.length = len ∧ len ≤ maxLen ∧ Summons.ListAt w a ps := by
  obtain ⟨_, _, _, _, _, _, hC, _⟩ := id hT
  rcases open_slice hS h with ⟨hcs, _⟩ | ⟨x, l, c, m, n, D, Pl, hcs, _, hl, hm, hmm, _, hi⟩
  · simp at hcs
    obtain ⟨rfl, rfl, rfl⟩ := hcs
    exact ⟨[], rfl, by unfold maxLen; omega, .inl rfl⟩
  · simp at hcs
    obtain ⟨rfl, rfl, rfl⟩ := hcs
    have hlm : len ≤ m := by rw [hmm]; split <;> omega
    haveI : Inhabited Summons := ⟨⟨0, 0, 0, 0, 0⟩⟩
    obtain ⟨F, hF⟩ := choose_lt (n := len) (p := fun i (p : Summons) => w.cells? base (x.add (i * 5)) 5 = some p.cells) (fun i hi' => by
      obtain ⟨cs', hc, ht⟩ := hi i (by omega)
      obtain ⟨p, rfl⟩ := Summons.of_trod hT ht
      rw [hC] at hc
      exact ⟨p, hc⟩)
    refine ⟨(List.range len).map F, by simp, by omega, ?_⟩
    by_cases h0 : len = 0
    · exact .inl (by rw [h0]; rfl)
    · obtain ⟨b, off, spot⟩ := x
      have hspot : spot = none := by
        have := (World.cells?_some (hF 0 (by omega))).2.2 0 (by omega)
        simpa [Addr.add] using World.cell?_spot (this.trans (by rfl : _ = some (Value.int .i64 (F 0).num)))
      subst hspot
      refine .inr ⟨b, off, rfl, fun i p hp => ?_⟩
      obtain ⟨hi', hp'⟩ := List.getElem?_eq_some_iff.1 hp
      rw [List.length_map, List.length_range] at hi'
      simp at hp'
      subst hp'
      have hc := (World.cells?_some (hF i hi')).2.2
      have key : ∀ j, j < 5 → w.cell? ⟨b, off + i * 5 + j, none⟩ = (F i).cells[j]? := fun j hj => by
        have := hc j hj
        rw [add_add] at this
        by_cases hz : i * 5 + j = 0
        · rw [hz] at this
          rw [show off + i * 5 + j = off by omega]
          simpa [Addr.add] using this
        · unfold Addr.add at this
          rw [if_neg hz] at this
          rw [Nat.add_assoc]; exact this
      exact ⟨key 0 (by omega), key 1 (by omega), key 2 (by omega), key 3 (by omega), key 4 (by omega)⟩
end
theorem Tryd.tySummons : Summons.Ty Tryd.prog 72 :=
  ⟨_, _, _, _, _, Tryd.underlying72, by kernel_rfl, rfl, rfl, rfl, rfl, rfl, by kernel_rfl, by kernel_rfl, by kernel_rfl, by kernel_rfl, by kernel_rfl, by kernel_rfl, by kernel_rfl, by kernel_rfl, by kernel_rfl, by kernel_rfl⟩
end Go.Proofs.YtchffaohmeaccaaDoor
