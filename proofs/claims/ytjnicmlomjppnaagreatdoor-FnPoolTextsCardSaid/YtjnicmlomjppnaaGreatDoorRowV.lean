/- Rows by their values, and lists of numbers in fields: sized, copied, marked. -/
import Derived.Test.YtjnicmlomjppnaaGreatDoorChecked
import Derived.Test.YtjnicmlomjppnaaGreatDoorBase0
import Derived.Test.YtjnicmlomjppnaaGreatDoorInfo
import Derived.Test.YtjnicmlomjppnaaGreatDoorEqInt
import Derived.WalkKit
import Derived.WalkSpells
import Derived.WalkLawsBesides
import Derived.Lib.Hide
import Derived.IntWalk
import Derived.Deep.OwnRows
import Derived.Outline
namespace Go.Proofs.YtjnicmlomjppnaaGreatDoor
open Go.RowKit Pure1 Pure2 Pure40

/-- a slice reads a list -/
def IntsIn (w : World) (a : Option Addr) (l : Nat) (zs : List Int) : Prop := zs.length = l ∧ l ≤ maxLen ∧ IntsAt w a zs
theorem IntsIn.below {w w' : World} {a : Option Addr} {l : Nat} {zs : List Int} (h : IntsIn w a l zs) (hb : Below w.heap.size w w') : IntsIn w' a l zs := ⟨h.1, h.2.1, h.2.2.below hb⟩
namespace Rec
theorem results_cell1 {fn : Func} {p : Tmp} {ty : TypeId} (h : fn.results = #[.cell p ty]) (tmps : Array Value) (P : Program) (w : World) :
    (results fn tmps).run P w = ((asAddr (tmps.getD p undef)).run P w).andThen fun a w₁ => (loadVar ty a).run P w₁ := by
  simp only [results, h]
  simp [Sem.run_bind, Result.andThen]
theorem results_cell_tmp {fn : Func} {p u : Tmp} {ty : TypeId} (h : fn.results = #[.cell p ty, .tmp u]) (tmps : Array Value) (P : Program) (w : World) :
    (results fn tmps).run P w = ((asAddr (tmps.getD p undef)).run P w).andThen fun a w₁ => ((loadVar ty a).run P w₁).andThen fun v w₂ => .ok (.tuple #[v, tmps.getD u undef]) w₂ := by
  simp only [results, h]
  simp [Sem.run_bind, Result.andThen]
theorem results_cell_tmp2 {fn : Func} {p u u2 : Tmp} {ty : TypeId} (h : fn.results = #[.cell p ty, .tmp u, .tmp u2]) (tmps : Array Value) (P : Program) (w : World) :
    (results fn tmps).run P w = ((asAddr (tmps.getD p undef)).run P w).andThen fun a w₁ => ((loadVar ty a).run P w₁).andThen fun v w₂ => .ok (.tuple #[v, tmps.getD u undef, tmps.getD u2 undef]) w₂ := by
  simp only [results, h]
  simp [Sem.run_bind, Result.andThen]
theorem boxes2 (w : World) (o o' : Obj) : Below w.heap.size w ((w.alloc o).alloc o') := (boxed _ _).alloc (by simp) _
theorem boxes3 (w : World) (o o' o'' : Obj) : Below w.heap.size w (((w.alloc o).alloc o').alloc o'') := (boxes2 w o o').alloc (by simp; omega) _
/-- a row, by its values -/
def RowV (b : Nat) (w : World) (T : TypeId) (vs : List Value) : Prop := ∃ f, w.rowIs b T vs.length f ∧ ∀ (i : Nat) v, vs[i]? = some v → f i = v
theorem RowV.cell {b : Nat} {w : World} {T : TypeId} {vs : List Value} (h : RowV b w T vs) {i : Nat} {v : Value} (hv : vs[i]? = some v) : w.cell? ⟨b, i, none⟩ = some v := by
  obtain ⟨f, hr, hf⟩ := h
  rw [hr.cell (List.getElem?_eq_some_iff.1 hv).1, hf i v hv]
theorem RowV.frozen {b : Nat} {w : World} {T : TypeId} {vs : List Value} (h : RowV b w T vs) (k : Nat) : w.frozen? ⟨b, k, none⟩ = false := by
  obtain ⟨f, hr, _⟩ := h; exact hr.frozen k
theorem RowV.lt {b : Nat} {w : World} {T : TypeId} {vs : List Value} (h : RowV b w T vs) : b < w.heap.size := by
  obtain ⟨f, hr, _⟩ := h; exact hr.lt
theorem RowV.below {b : Nat} {w w' : World} {T : TypeId} {vs : List Value} (h : RowV b w T vs) (hb : Below w.heap.size w w') : RowV b w' T vs := by
  obtain ⟨f, hr, hf⟩ := h; exact ⟨f, hr.of_block (hb.block b hr.lt), hf⟩
theorem RowV.grown {b : Nat} {w w' : World} {row : Option Nat} {T : TypeId} {vs : List Value} (h : RowV b w T vs) (hg : w.grownBy w' row) (hne : ∀ k, row = some k → b ≠ k) : RowV b w' T vs := by
  obtain ⟨f, hr, hf⟩ := h; exact ⟨f, hr.of_block (hg.block b hr.lt (fun e => hne _ e.symm rfl)), hf⟩
theorem RowV.other {b g o : Nat} {w : World} {T : TypeId} {vs : List Value} (h : RowV b w T vs) (hne : g ≠ b) (v : Value) : RowV b (w.setCell ⟨g, o, none⟩ v) T vs := by
  obtain ⟨f, hr, hf⟩ := h; exact ⟨f, hr.of_block (Below.heap_setCell _ _ _ _ (fun e => hne e.symm)), hf⟩
theorem RowV.put {b : Nat} {w : World} {T : TypeId} {vs : List Value} (h : RowV b w T vs) (o : Nat) (v : Value) : RowV b (w.setCell ⟨b, o, none⟩ v) T (vs.set o v) := by
  obtain ⟨f, hr, hf⟩ := h
  refine ⟨_, by rw [List.length_set]; exact hr.set o v, fun i u hu => ?_⟩
  rw [List.getElem?_set] at hu
  by_cases e : i = o
  · subst e
    rw [if_pos rfl] at hu
    split at hu
    · cases hu; simp
    · cases hu
  · rw [if_neg (fun e' => e e'.symm)] at hu
    simp only [if_neg e]; exact hf i u hu
theorem rowV_box (w : World) (T : TypeId) (vs : List Value) : RowV w.heap.size (w.alloc (.cells vs.toArray T)) T vs :=
  ⟨fun i => (vs.toArray)[i]?.getD undef, by
    have := World.rowIs_alloc w vs.toArray T (fun i => (vs.toArray)[i]?.getD undef) (fun i hi => by rw [Array.getElem?_eq_getElem hi]; rfl)
    rwa [List.size_toArray] at this, fun i v hv => by simp [hv]⟩
theorem ownI_mono {B C : Nat} {w : World} {a : Option Addr} {len : Nat} {g : Nat → Int} (h : OwnI C w a len g) (hBC : B ≤ C) : OwnI B w a len g := by
  rcases h with h | ⟨b, f, N, e, hB, h2⟩
  · exact .inl h
  · exact .inr ⟨b, f, N, e, by omega, h2⟩
theorem ownI_stored {B : Nat} {w : World} {a : Option Addr} {len : Nat} {g : Nat → Int} (h : OwnI B w a len g) {x : Addr} (hx : x.block < B) (u : Value) : OwnI B (w.setCell x u) a len g := by
  rcases h with h | ⟨b, f, N, e, hB, hN, hr, hf⟩
  · exact .inl h
  · exact .inr ⟨b, f, N, e, hB, hN, hr.of_block (Below.heap_setCell _ _ _ _ (by omega)), hf⟩
/-- of a list of our own nothing turns where only a row below it is written -/
theorem ownI_kept {C : Nat} {w w' : World} {a : Option Addr} {len : Nat} {g : Nat → Int} {row : Option Nat} (h : OwnI C w a len g) (hg : w.grownBy w' row) (hrow : ∀ k, row = some k → k < C) : OwnI C w' a len g := by
  rcases h with h | ⟨b, f, N, e, hB, hN, hr, hf⟩
  · exact .inl h
  · exact .inr ⟨b, f, N, e, hB, hN, hr.of_block (hg.block b hr.lt (fun e => by have := hrow b e.symm; omega)), hf⟩

/-- a new slice that reads zs and may be written; nothing that was there has turned -/
def IsCopyW (w : World) (len : Nat) (zs : List Int) (e : Ending) (w' : World) : Prop :=
  ∃ b, e = .returned (.slice (some ⟨b, 0, none⟩) len len) ∧ w.heap.size ≤ b ∧ b < w'.heap.size ∧ OwnI w.heap.size w' (some ⟨b, 0, none⟩) len (fun i => zs.getD i 0) ∧ IntsAt w' (some ⟨b, 0, none⟩) zs ∧ Below w.heap.size w w'

/-- only rows of the addresses S, from block B on and below C, may have turned -/
def Turn (S : List (Option Addr)) (B C : Nat) (w w' : World) : Prop :=
  w'.os = w.os ∧ w'.tape = w.tape ∧ w'.output = w.output ∧ w.heap.size ≤ w'.heap.size ∧ ∀ k, k < w.heap.size → (k < B ∨ C ≤ k ∨ ∀ x, some x ∈ S → x.block ≠ k) → w'.heap[k]? = w.heap[k]?
theorem Turn.refl (S : List (Option Addr)) (B C : Nat) (w : World) : Turn S B C w w := ⟨rfl, rfl, rfl, Nat.le_refl _, fun _ _ _ => rfl⟩
theorem Turn.trans {S : List (Option Addr)} {B C : Nat} {w w' w'' : World} (h : Turn S B C w w') (h' : Turn S B C w' w'') : Turn S B C w w'' :=
  ⟨h'.1.trans h.1, h'.2.1.trans h.2.1, h'.2.2.1.trans h.2.2.1, Nat.le_trans h.2.2.2.1 h'.2.2.2.1, fun k hk hh => (h'.2.2.2.2 k (Nat.lt_of_lt_of_le hk h.2.2.2.1) hh).trans (h.2.2.2.2 k hk hh)⟩
theorem Turn.mono {S S' : List (Option Addr)} {B C C' : Nat} {w w' : World} (h : Turn S B C w w') (hS : ∀ x, x ∈ S → x ∈ S') (hC : C ≤ C') : Turn S' B C' w w' :=
  ⟨h.1, h.2.1, h.2.2.1, h.2.2.2.1, fun k hk hh => h.2.2.2.2 k hk (by
    rcases hh with h1 | h1 | h1
    · exact .inl h1
    · exact .inr (.inl (Nat.le_trans hC h1))
    · exact .inr (.inr fun x hx => h1 x (hS _ hx)))⟩
theorem Turn.below {S : List (Option Addr)} {B C : Nat} {w w' : World} (h : Turn S B C w w') (hs : B ≤ w.heap.size) : Below B w w' :=
  ⟨h.1, h.2.1, h.2.2.1, h.2.2.2.1, fun k hk => h.2.2.2.2 k (by omega) (.inl hk)⟩
theorem turn_below {S : List (Option Addr)} {B C : Nat} {w w' : World} (h : Below w.heap.size w w') : Turn S B C w w' := ⟨h.os, h.tape, h.output, h.size, fun k hk _ => h.block k hk⟩
theorem turn_grown {S : List (Option Addr)} {B C b : Nat} {w w' : World} (h : w.grownBy w' (some b)) (hS : some ⟨b, 0, none⟩ ∈ S) (hB : B ≤ b) (hC : b < C) : Turn S B C w w' :=
  ⟨h.os, h.tape, h.output, h.size, fun k hk hh => h.block k hk (fun e => by
    cases e
    rcases hh with h1 | h1 | h1
    · omega
    · omega
    · exact h1 _ hS rfl)⟩
/-- no row in common -/
def Apart (a a' : Option Addr) : Prop := ∀ x y, a = some x → a' = some y → x.block ≠ y.block
theorem Apart.symm {a a' : Option Addr} (h : Apart a a') : Apart a' a := fun x y hx hy e => h y x hy hx e.symm
theorem apart_none (a : Option Addr) : Apart none a := fun x y hx => by cases hx
theorem apart_of {b b' : Nat} (h : b ≠ b') : Apart (some ⟨b, 0, none⟩) (some ⟨b', 0, none⟩) := fun x y hx hy => by cases hx; cases hy; exact h
theorem ownI_turn {S : List (Option Addr)} {B C D : Nat} {w w' : World} {a : Option Addr} {len : Nat} {g : Nat → Int} (h : OwnI D w a len g) (ht : Turn S B C w w') (hS : ∀ y, y ∈ S → Apart a y) : OwnI D w' a len g := by
  rcases h with h | ⟨b, f, N, rfl, hB, hN, hr, hf⟩
  · exact .inl h
  · exact .inr ⟨b, f, N, rfl, hB, hN, hr.of_block (ht.2.2.2.2 b hr.lt (.inr (.inr fun x hx e => hS _ hx _ _ rfl rfl e.symm))), hf⟩
theorem ownI_high {S : List (Option Addr)} {B C D : Nat} {w w' : World} {a : Option Addr} {len : Nat} {g : Nat → Int} (h : OwnI D w a len g) (ht : Turn S B C w w') (hD : C ≤ D) : OwnI D w' a len g := by
  rcases h with h | ⟨b, f, N, rfl, hB, hN, hr, hf⟩
  · exact .inl h
  · exact .inr ⟨b, f, N, rfl, hB, hN, hr.of_block (ht.2.2.2.2 b hr.lt (.inr (.inl (by omega)))), hf⟩
theorem RowV.turn {S : List (Option Addr)} {B C b : Nat} {w w' : World} {T : TypeId} {vs : List Value} (h : RowV b w T vs) (ht : Turn S B C w w') (hb : b < B ∨ C ≤ b) : RowV b w' T vs := by
  obtain ⟨f, hr, hf⟩ := h
  exact ⟨f, hr.of_block (ht.2.2.2.2 b hr.lt (by rcases hb with hb | hb; exact .inl hb; exact .inr (.inl hb))), hf⟩
theorem grown_on {w1 w2 w3 : World} {r : Option Nat} (h : w1.grownBy w2 r) (h' : w2.grownBy w3 r) : w1.grownBy w3 r :=
  ⟨h'.os.trans h.os, h'.tape.trans h.tape, h'.output.trans h.output, Nat.le_trans h.size h'.size, fun k hk hne => (h'.block k (Nat.lt_of_lt_of_le hk h.size) hne).trans (h.block k hk hne)⟩
theorem grown_cell (w : World) (b k : Nat) (v : Value) : w.grownBy (w.setCell ⟨b, k, none⟩ v) (some b) :=
  ⟨rfl, rfl, rfl, by simp, fun j _ hne => Below.heap_setCell w ⟨b, k, none⟩ v j (fun e => hne (by rw [e]))⟩

/-- marks are laid in a list of our own; nothing else turns -/
def Marks (B C : Nat) (a : Option Addr) (len : Nat) (k : Int) (w : World) (e : Ending) (w' : World) : Prop :=
  e = .returned (.int .i64 (k + len)) ∧ OwnI B w' a len (fun i => k + i) ∧ Turn [a] B C w w'
end Rec
end Go.Proofs.YtjnicmlomjppnaaGreatDoor
