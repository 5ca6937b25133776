/- Plain facts on persons (chapter 4): what a person and persons are, likeness, the most alike one, finding. No program is imported here. -/
import Derived.Test.YtchffaohmeaccaaDoorPure1
import Derived.Test.YtchffaohmeaccaaDoorPure2
import Derived.WalkKit
import Derived.WalkSpells
import Derived.WalkLawsBesides
namespace Go.Proofs.YtchffaohmeaccaaDoor.Pure40
open Go.RowKit Pure1

/-- a person: number, first and last name, year, zone -/
structure Pers where
  num : Int
  fst : ByteArray
  lst : ByteArray
  born : Int
  zone : Int

def inR (n a b : Int) : Bool := decide (a ≤ n) && decide (n ≤ b)
def isPers (p : Pers) : Bool := inR p.num 1 1000000 && (isWordL p.fst.data.toList && (isWordL p.lst.data.toList && (inR p.born 1900 2100 && inR p.zone 0 99)))
/-- the value of a person -/
def Pers.val (p : Pers) : Value := .agg #[.int .i64 p.num, .string p.fst, .string p.lst, .int .i64 p.born, .int .i64 p.zone]
/-- the values of its fields -/
def Pers.cells (p : Pers) : List Value := [.int .i64 p.num, .string p.fst, .string p.lst, .int .i64 p.born, .int .i64 p.zone]
/-- the names of a person are no longer than a text may be -/
def Pers.fits (p : Pers) : Prop := p.fst.size ≤ maxLen ∧ p.lst.size ≤ maxLen

theorem inR_iff {n a b : Int} : inR n a b = true ↔ a ≤ n ∧ n ≤ b := by simp [inR]
theorem inR_no {n a b : Int} : inR n a b = false ↔ n < a ∨ b < n := by rw [← Bool.not_eq_true, inR_iff]; omega

/-- A person lies at cell o of block b: five cells. -/
def AtP (w : World) (b o : Nat) (p : Pers) : Prop :=
  w.cell? ⟨b, o, none⟩ = some (.int .i64 p.num) ∧ w.cell? ⟨b, o + 1, none⟩ = some (.string p.fst) ∧ w.cell? ⟨b, o + 2, none⟩ = some (.string p.lst) ∧ w.cell? ⟨b, o + 3, none⟩ = some (.int .i64 p.born) ∧ w.cell? ⟨b, o + 4, none⟩ = some (.int .i64 p.zone)
/-- A person lies in block b, from its first cell on. -/
def AtB (w : World) (b : Nat) (p : Pers) : Prop :=
  w.cell? ⟨b, 0, none⟩ = some (.int .i64 p.num) ∧ w.cell? ⟨b, 1, none⟩ = some (.string p.fst) ∧ w.cell? ⟨b, 2, none⟩ = some (.string p.lst) ∧ w.cell? ⟨b, 3, none⟩ = some (.int .i64 p.born) ∧ w.cell? ⟨b, 4, none⟩ = some (.int .i64 p.zone)
theorem AtB.below {w w' : World} {b : Nat} {p : Pers} (h : AtB w b p) (hb : Below w.heap.size w w') : AtB w' b p :=
  ⟨cell_later hb h.1, cell_later hb h.2.1, cell_later hb h.2.2.1, cell_later hb h.2.2.2.1, cell_later hb h.2.2.2.2⟩
theorem atB_box (w : World) (n : Int) (f l : ByteArray) (b z : Int) (T : TypeId) : AtB (w.alloc (.cells #[.int .i64 n, .string f, .string l, .int .i64 b, .int .i64 z] T)) w.heap.size ⟨n, f, l, b, z⟩ := by
  have h : (w.alloc (.cells #[.int .i64 n, .string f, .string l, .int .i64 b, .int .i64 z] T)).heap[w.heap.size]? = some (.cells #[.int .i64 n, .string f, .string l, .int .i64 b, .int .i64 z] T) := heap_alloc_new w _
  refine ⟨?_, ?_, ?_, ?_, ?_⟩ <;> (unfold World.cell?; rw [h]; rfl)
theorem boxed (w : World) (o : Obj) : Below w.heap.size w (w.alloc o) := (Below.refl _ _).alloc (Nat.le_refl _) _
/-- The slice at address a reads, from its head on, the persons ps. -/
def PersAt (w : World) (a : Option Addr) (ps : List Pers) : Prop :=
  ps = [] ∨ ∃ b off, a = some ⟨b, off, none⟩ ∧ ∀ i p, ps[i]? = some p → AtP w b (off + i * 5) p

theorem AtP.below {w w' : World} {b o : Nat} {p : Pers} (h : AtP w b o p) (hb : Below w.heap.size w w') : AtP w' b o p :=
  ⟨cell_later hb h.1, cell_later hb h.2.1, cell_later hb h.2.2.1, cell_later hb h.2.2.2.1, cell_later hb h.2.2.2.2⟩
theorem AtP.lt {w : World} {b o : Nat} {p : Pers} (h : AtP w b o p) : b < w.heap.size := World.block_lt_of_cell? w _ h.1
theorem PersAt.below {w w' : World} {a : Option Addr} {ps : List Pers} (h : PersAt w a ps) (hb : Below w.heap.size w w') : PersAt w' a ps := by
  rcases h with rfl | ⟨b, off, rfl, hc⟩
  · exact .inl rfl
  · exact .inr ⟨b, off, rfl, fun i x hx => (hc i x hx).below hb⟩
theorem PersAt.at {w : World} {a : Option Addr} {ps : List Pers} (h : PersAt w a ps) {k len : Nat} (hl : ps.length = len) (hk : k < len) :
    ∃ b off p, a = some ⟨b, off, none⟩ ∧ AtP w b (off + k * 5) p ∧ ps[k]? = some p := by
  have hx : ps[k]? = some ps[k] := List.getElem?_eq_getElem (by omega)
  rcases h with rfl | ⟨b, off, rfl, hc⟩
  · simp at hl; omega
  · exact ⟨b, off, _, rfl, hc k _ hx, hx⟩
/-- the names of all persons are no longer than a text may be -/
def Fits (ps : List Pers) : Prop := ∀ p ∈ ps, p.fits
theorem Fits.at {ps : List Pers} (h : Fits ps) {k : Nat} {p : Pers} (hp : ps[k]? = some p) : p.fst.size ≤ maxLen ∧ p.lst.size ≤ maxLen := h p (List.mem_of_getElem? hp)

/-! the persons of a list, in order -/
def okAt (ps : List Pers) (i : Nat) : Bool :=
  match ps[i]? with
  | none => true
  | some p => isPers p && (match i with
    | 0 => true
    | j + 1 => (match ps[j]? with
      | none => true
      | some q => decide (q.num < p.num)))
/-- are they persons? -/
def arePers (ps : List Pers) : Bool := (List.range ps.length).all (okAt ps) && decide (ps.length ≤ 12)
theorem okAt_zero {ps : List Pers} {p : Pers} (h : ps[0]? = some p) : okAt ps 0 = isPers p := by simp [okAt, h]
theorem okAt_succ {ps : List Pers} {j : Nat} {p q : Pers} (h : ps[j + 1]? = some p) (h' : ps[j]? = some q) : okAt ps (j + 1) = (isPers p && decide (q.num < p.num)) := by simp [okAt, h, h']
theorem arePers_no {ps : List Pers} {k : Nat} (hk : k < ps.length) (h : okAt ps k = false) : arePers ps = false := by
  have : (List.range ps.length).all (okAt ps) = false := by
    rw [List.all_eq_false]; exact ⟨k, List.mem_range.2 hk, by simp [h]⟩
  rw [arePers, this, Bool.false_and]
theorem arePers_end {ps : List Pers} {k : Nat} (h : ∀ i, i < k → okAt ps i = true) (hk : ps.length ≤ k) : arePers ps = decide (ps.length ≤ 12) := by
  have : (List.range ps.length).all (okAt ps) = true := by
    rw [List.all_eq_true]; exact fun i hi => h i (by have := List.mem_range.1 hi; omega)
  rw [arePers, this, Bool.true_and]
theorem arePers_at {ps : List Pers} {k : Nat} {p : Pers} (h : arePers ps = true) (hp : ps[k]? = some p) : isPers p = true := by
  simp only [arePers, Bool.and_eq_true, List.all_eq_true] at h
  have hk : k < ps.length := (List.getElem?_eq_some_iff.1 hp).1
  have := h.1 k (List.mem_range.2 hk)
  simp only [okAt, hp, Bool.and_eq_true] at this
  exact this.1
theorem arePers_len {ps : List Pers} (h : arePers ps = true) : ps.length ≤ 12 := by
  simp only [arePers, Bool.and_eq_true, decide_eq_true_eq] at h; exact h.2

end Go.Proofs.YtchffaohmeaccaaDoor.Pure40
