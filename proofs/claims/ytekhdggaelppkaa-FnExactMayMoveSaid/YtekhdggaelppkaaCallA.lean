/- A struct of numbers: Call. Where it lies, how an argument is opened. (written by flat.py) -/
import Derived.Test.YtekhdggaelppkaaChecked
import Derived.Test.YtekhdggaelppkaaBase
import Derived.Test.YtekhdggaelppkaaPure2
import Derived.WalkKit
import Derived.WalkSpells
import Derived.WalkLawsBesides
import Derived.ProofKit
import Derived.OpenShut
import Derived.ChangeOld
import Derived.Deep.Slices
namespace Go.Proofs.Ytekhdggaelppkaa
open Go.RowKit Go.ChangeShapes Go.WideShapes Go.Deep Pure2

structure Call where
  num : Int
  fst : Int
  day : Int
  moves : Int
deriving DecidableEq
def Call.cells (c : Call) : List Value := [.int .i64 c.num, .int .i64 c.fst, .int .i64 c.day, .int .i64 c.moves]
/-- it lies at cell o of block b -/
def Call.At (w : World) (b o : Nat) (c : Call) : Prop := w.cell? ⟨b, o, none⟩ = some (.int .i64 c.num) ∧ w.cell? ⟨b, o + 1, none⟩ = some (.int .i64 c.fst) ∧ w.cell? ⟨b, o + 2, none⟩ = some (.int .i64 c.day) ∧ w.cell? ⟨b, o + 3, none⟩ = some (.int .i64 c.moves)
/-- .. from the block's first cell on -/
def Call.Box (w : World) (b : Nat) (c : Call) : Prop := w.cell? ⟨b, 0, none⟩ = some (.int .i64 c.num) ∧ w.cell? ⟨b, 1, none⟩ = some (.int .i64 c.fst) ∧ w.cell? ⟨b, 2, none⟩ = some (.int .i64 c.day) ∧ w.cell? ⟨b, 3, none⟩ = some (.int .i64 c.moves)
theorem Call.At.below {w w' : World} {b o : Nat} {c : Call} (h : Call.At w b o c) (hb : Below w.heap.size w w') : Call.At w' b o c :=
  ⟨cell_later hb h.1, cell_later hb h.2.1, cell_later hb h.2.2.1, cell_later hb h.2.2.2⟩
theorem Call.Box.below {w w' : World} {b : Nat} {c : Call} (h : Call.Box w b c) (hb : Below w.heap.size w w') : Call.Box w' b c :=
  ⟨cell_later hb h.1, cell_later hb h.2.1, cell_later hb h.2.2.1, cell_later hb h.2.2.2⟩
theorem Call.At.grown {w w' : World} {b o q : Nat} {c : Call} (h : Call.At w b o c) (hg : w.grownBy w' (some q)) (hne : b ≠ q) : Call.At w' b o c :=
  ⟨hg.cell h.1 (fun e => hne (Option.some.inj e)), hg.cell h.2.1 (fun e => hne (Option.some.inj e)), hg.cell h.2.2.1 (fun e => hne (Option.some.inj e)), hg.cell h.2.2.2 (fun e => hne (Option.some.inj e))⟩
theorem Call.Box.grown {w w' : World} {b q : Nat} {c : Call} (h : Call.Box w b c) (hg : w.grownBy w' (some q)) (hne : b ≠ q) : Call.Box w' b c :=
  ⟨hg.cell h.1 (fun e => hne (Option.some.inj e)), hg.cell h.2.1 (fun e => hne (Option.some.inj e)), hg.cell h.2.2.1 (fun e => hne (Option.some.inj e)), hg.cell h.2.2.2 (fun e => hne (Option.some.inj e))⟩
theorem Call.Box.at {w : World} {b : Nat} {c : Call} (h : Call.Box w b c) : Call.At w b 0 c := by
  unfold Call.At; simp only [Nat.zero_add]; exact h
theorem Call.At.box {w : World} {b : Nat} {c : Call} (h : Call.At w b 0 c) : Call.Box w b c := by
  unfold Call.At at h; simp only [Nat.zero_add] at h; exact h
theorem Call.At.lt {w : World} {b o : Nat} {c : Call} (h : Call.At w b o c) : b < w.heap.size := World.block_lt_of_cell? w _ h.1
theorem Call.boxed (w : World) (c : Call) (T : TypeId) : Call.Box (w.alloc (.cells #[.int .i64 c.num, .int .i64 c.fst, .int .i64 c.day, .int .i64 c.moves] T)) w.heap.size c := by
  have h : (w.alloc (.cells #[.int .i64 c.num, .int .i64 c.fst, .int .i64 c.day, .int .i64 c.moves] T)).heap[w.heap.size]? = some (.cells #[.int .i64 c.num, .int .i64 c.fst, .int .i64 c.day, .int .i64 c.moves] T) := heap_alloc_new w _
  refine ⟨?_, ?_, ?_, ?_⟩ <;> (unfold World.cell?; rw [h]; rfl)
/-- The slice at address a reads, from its head on, the list ts. -/
def Call.ListAt (w : World) (a : Option Addr) (ts : List Call) : Prop :=
  ts = [] ∨ ∃ b off, a = some ⟨b, off, none⟩ ∧ ∀ i c, ts[i]? = some c → Call.At w b (off + i * 4) c
theorem Call.ListAt.below {w w' : World} {a : Option Addr} {ts : List Call} (h : Call.ListAt w a ts) (hb : Below w.heap.size w w') : Call.ListAt w' a ts := by
  rcases h with rfl | ⟨b, off, rfl, hc⟩
  · exact .inl rfl
  · exact .inr ⟨b, off, rfl, fun i x hx => (hc i x hx).below hb⟩
theorem Call.ListAt.at {w : World} {a : Option Addr} {ts : List Call} (h : Call.ListAt w a ts) {n len : Nat} (hl : ts.length = len) (hn : n < len) :
    ∃ b off c, a = some ⟨b, off, none⟩ ∧ Call.At w b (off + n * 4) c ∧ ts[n]? = some c := by
  have hx : ts[n]? = some ts[n] := List.getElem?_eq_getElem (by omega)
  rcases h with rfl | ⟨b, off, rfl, hc⟩
  · simp at hl; omega
  · exact ⟨b, off, _, rfl, hc n _ hx, hx⟩

/-- a type whose values are such structs -/
def Call.Ty (P : Program) (T : TypeId) : Prop :=
  ∃ f0 f1 f2 f3 : Field, P.underlying T = some (.struct #[f0, f1, f2, f3]) ∧ P.cellsOf T = 4 ∧ f0.offset = 0 ∧ f1.offset = 1 ∧ f2.offset = 2 ∧ f3.offset = 3 ∧ P.cellsOf f0.type = 1 ∧ P.cellsOf f1.type = 1 ∧ P.cellsOf f2.type = 1 ∧ P.cellsOf f3.type = 1 ∧ P.underlying f0.type = some (.int .i64) ∧ P.underlying f1.type = some (.int .i64) ∧ P.underlying f2.type = some (.int .i64) ∧ P.underlying f3.type = some (.int .i64)
section
variable {H : Type} {enc : TypeId × Value → H} {P : Program} {w : World} {base : Nat} {spare : Nat → Bool} {held : Bool} {T : TypeId}
theorem Call.of_trod (hT : Call.Ty P T) {fuel : Nat} {cs : List Value} {x : DataW H × List MemPlace} (h : DataW.trod enc P w base spare held fuel T cs = some x) :
    ∃ c : Call, cs = c.cells := by
  obtain ⟨f0, f1, f2, f3, hs, hC, o0, o1, o2, o3, c0, c1, c2, c3, u0, u1, u2, u3⟩ := hT
  obtain ⟨xs, n, _, _, hlen0, hlen, hg⟩ := DataW.trod_struct hs h
  rw [hC] at hlen0
  match cs, hlen0 with
  | [d0, d1, d2, d3], _ =>
    match xs, hlen with
    | [y0, y1, y2, y3], _ =>
      have h0 : DataW.trod enc P w base spare held n f0.type [d0] = some y0 := by simpa [o0, c0] using hg 0 f0 rfl
      have h1 : DataW.trod enc P w base spare held n f1.type [d1] = some y1 := by simpa [o1, c1] using hg 1 f1 rfl
      have h2 : DataW.trod enc P w base spare held n f2.type [d2] = some y2 := by simpa [o2, c2] using hg 2 f2 rfl
      have h3 : DataW.trod enc P w base spare held n f3.type [d3] = some y3 := by simpa [o3, c3] using hg 3 f3 rfl
      obtain ⟨n0, e0, _⟩ := DataW.trod_int u0 h0
      obtain ⟨n1, e1, _⟩ := DataW.trod_int u1 h1
      obtain ⟨n2, e2, _⟩ := DataW.trod_int u2 h2
      obtain ⟨n3, e3, _⟩ := DataW.trod_int u3 h3
      cases e0; cases e1; cases e2; cases e3
      exact ⟨⟨n0, n1, n2, n3⟩, rfl⟩
/-- an argument that is such a struct -/
theorem Call.open (hT : Call.Ty P T) {r : Reach} {b0 : Nat} {v : Value} {d : DataW H} {ps : List MemPlace} (hv : Value.okWide P w r b0 T v) (h : DataW.Trod enc P w base spare held T v d ps) :
    ∃ c : Call, v = .agg #[.int .i64 c.num, .int .i64 c.fst, .int .i64 c.day, .int .i64 c.moves] := by
  obtain ⟨f0, f1, f2, f3, hs, _⟩ := id hT
  obtain ⟨cs, rfl, _⟩ := okWide_struct hs hv
  obtain ⟨fuel, hf⟩ := h
  obtain ⟨p, hp⟩ := Call.of_trod hT hf
  refine ⟨p, ?_⟩
  obtain ⟨l⟩ := cs
  simp only [Value.cells] at hp
  subst hp
  rfl
/-- an argument that is a slice of such structs -/
theorem Call.openS {S : TypeId} (hT : Call.Ty P T) (hS : P.underlying S = some (.slice T)) {fuel : Nat} {a : Option Addr} {len cap : Nat} {x : DataW H × List MemPlace}
    (h : DataW.trod enc P w base spare held fuel S [.slice a len cap] = some x) : ∃ ps : List Call, ps.length = len ∧ len ≤ maxLen ∧ Call.ListAt w a ps := by
  obtain ⟨_, _, _, _, _, hC, _⟩ := id hT
  rcases open_slice hS h with ⟨hcs, _⟩ | ⟨x, l, c, m, n, D, Pl, hcs, _, hl, hm, hmm, _, hi⟩
  · simp at hcs
    obtain ⟨rfl, rfl, rfl⟩ := hcs
    exact ⟨[], rfl, by unfold maxLen; omega, .inl rfl⟩
  · simp at hcs
    obtain ⟨rfl, rfl, rfl⟩ := hcs
    have hlm : len ≤ m := by rw [hmm]; split <;> omega
    haveI : Inhabited Call := ⟨⟨0, 0, 0, 0⟩⟩
    obtain ⟨F, hF⟩ := choose_lt (n := len) (p := fun i (p : Call) => w.cells? base (x.add (i * 4)) 4 = some p.cells) (fun i hi' => by
      obtain ⟨cs', hc, ht⟩ := hi i (by omega)
      obtain ⟨p, rfl⟩ := Call.of_trod hT ht
      rw [hC] at hc
      exact ⟨p, hc⟩)
    refine ⟨(List.range len).map F, by simp, by omega, ?_⟩
    by_cases h0 : len = 0
    · exact .inl (by rw [h0]; rfl)
    · obtain ⟨b, off, spot⟩ := x
      have hspot : spot = none := by
        have := (World.cells?_some (hF 0 (by omega))).2.2 0 (by omega)
        simpa [Addr.add] using World.cell?_spot (this.trans (by rfl : _ = some (Value.int .i64 (F 0).num)))
      subst hspot
      refine .inr ⟨b, off, rfl, fun i p hp => ?_⟩
      obtain ⟨hi', hp'⟩ := List.getElem?_eq_some_iff.1 hp
      rw [List.length_map, List.length_range] at hi'
      simp at hp'
      subst hp'
      have hc := (World.cells?_some (hF i hi')).2.2
      have key : ∀ j, j < 4 → w.cell? ⟨b, off + i * 4 + j, none⟩ = (F i).cells[j]? := fun j hj => by
        have := hc j hj
        rw [add_add] at this
        by_cases hz : i * 4 + j = 0
        · rw [hz] at this
          rw [show off + i * 4 + j = off by omega]
          simpa [Addr.add] using this
        · unfold Addr.add at this
          rw [if_neg hz] at this
          rw [Nat.add_assoc]; exact this
      exact ⟨key 0 (by omega), key 1 (by omega), key 2 (by omega), key 3 (by omega)⟩
end
theorem Try.tyCall : Call.Ty Try.prog 89 :=
  ⟨_, _, _, _, Try.underlying89, by kernel_rfl, rfl, rfl, rfl, rfl, by kernel_rfl, by kernel_rfl, by kernel_rfl, by kernel_rfl, by kernel_rfl, by kernel_rfl, by kernel_rfl, by kernel_rfl⟩
end Go.Proofs.Ytekhdggaelppkaa
