/- Plain facts on lists of texts for chapter 1: their reading in memory, joining, the words' text. No program is imported here. -/
import Derived.Test.YtekhdggaelppkaaPure1
import Derived.WalkKit
import Derived.WalkSpells
import Derived.WalkLawsBesides
import Derived.Lib.Join
namespace Go.Proofs.Ytekhdggaelppkaa.Pure3
open Go.RowKit Pure1

/-- The slice at address a reads, from its head on, the texts ss. -/
def StrsAt (w : World) (a : Option Addr) (ss : List ByteArray) : Prop :=
  ss = [] ∨ ∃ b off, a = some ⟨b, off, none⟩ ∧ ∀ i x, ss[i]? = some x → w.cell? ⟨b, off + i, none⟩ = some (.string x)

theorem StrsAt.at {w : World} {a : Option Addr} {ss : List ByteArray} (h : StrsAt w a ss) {k len : Nat} (hl : ss.length = len) (hk : k < len) :
    ∃ b off x, a = some ⟨b, off, none⟩ ∧ w.cell? ⟨b, off + k, none⟩ = some (.string x) ∧ ss.take (k + 1) = ss.take k ++ [x] ∧ ss[k]? = some x := by
  have hx : ss[k]? = some ss[k] := List.getElem?_eq_getElem (by omega)
  rcases h with rfl | ⟨b, off, rfl, hc⟩
  · simp at hl; omega
  · exact ⟨b, off, _, rfl, hc k _ hx, by rw [List.take_succ_eq_append_getElem], hx⟩

theorem StrsAt.below {w w' : World} {a : Option Addr} {ss : List ByteArray} (h : StrsAt w a ss) (hb : Below w.heap.size w w') : StrsAt w' a ss := by
  rcases h with rfl | ⟨b, off, rfl, hc⟩
  · exact .inl rfl
  · exact .inr ⟨b, off, rfl, fun i x hx => cell_later hb (hc i x hx)⟩

/-- how much a list of texts holds: its length and all lengths -/
def strTot : List ByteArray → Nat
  | [] => 0
  | s :: r => 1 + s.size + strTot r
theorem strTot_append (a b : List ByteArray) : strTot (a ++ b) = strTot a + strTot b := by
  induction a with
  | nil => simp [strTot]
  | cons x r ih => simp only [List.cons_append, strTot, ih]; omega
theorem strTot_snoc (a : List ByteArray) (x : ByteArray) : strTot (a ++ [x]) = strTot a + (1 + x.size) := by rw [strTot_append]; simp [strTot]
theorem strTot_len (a : List ByteArray) : a.length ≤ strTot a := by
  induction a with
  | nil => simp
  | cons x r ih => simp only [List.length_cons, strTot]; omega
theorem strTot_take (a : List ByteArray) (k : Nat) : strTot (a.take k) ≤ strTot a := by
  have h := strTot_append (a.take k) (a.drop k); rw [List.take_append_drop] at h; omega
/-- the sizes alone -/
def szs : List ByteArray → Nat
  | [] => 0
  | s :: r => s.size + szs r
theorem szs_append (a b : List ByteArray) : szs (a ++ b) = szs a + szs b := by
  induction a with
  | nil => simp [szs]
  | cons x r ih => simp only [List.cons_append, szs, ih]; omega
theorem szs_snoc (a : List ByteArray) (x : ByteArray) : szs (a ++ [x]) = szs a + x.size := by rw [szs_append]; simp [szs]
theorem szs_take (a : List ByteArray) (k : Nat) : szs (a.take k) ≤ szs a := by
  have h := szs_append (a.take k) (a.drop k); rw [List.take_append_drop] at h; omega
theorem szs_mem {a : List ByteArray} {k : Nat} {x : ByteArray} (h : a[k]? = some x) : x.size ≤ szs a := by
  induction a generalizing k with
  | nil => simp at h
  | cons y r ih =>
    cases k with
    | zero => simp at h; subst h; simp only [szs]; omega
    | succ k => have := ih (k := k) (by simpa using h); simp only [szs]; omega
theorem strTot_eq (a : List ByteArray) : strTot a = a.length + szs a := by
  induction a with
  | nil => rfl
  | cons x r ih => simp only [strTot, szs, List.length_cons, ih]; omega

/-- what is left of n behind the texts, -1 if they hold more -/
def szLeft (ss : List ByteArray) (n : Nat) : Int := if strTot ss ≤ n then (n : Int) - strTot ss else -1
theorem szLeft_no {ss : List ByteArray} {n : Nat} (h : n < strTot ss) : szLeft ss n = -1 := by rw [szLeft, if_neg (by omega)]
theorem szLeft_ok {ss : List ByteArray} {n m : Nat} (h : m + strTot ss = n) : szLeft ss n = m := by rw [szLeft, if_pos (by omega)]; omega

/-- texts joined with something between them -/
def joinB (ss : List ByteArray) (sep : ByteArray) : ByteArray := ⟨(Lib.join (ss.map (·.data.toList)) sep.data.toList).toArray⟩
theorem join_snoc (xs : List (List UInt8)) (y sep : List UInt8) (h : xs ≠ []) : Lib.join (xs ++ [y]) sep = Lib.join xs sep ++ sep ++ y := by
  cases xs with
  | nil => exact absurd rfl h
  | cons x r => rw [List.cons_append, Lib.join_cons, Lib.join_cons]; simp [Lib.joinTail, List.append_assoc]
theorem mk_toList (s : ByteArray) : (⟨s.data.toList.toArray⟩ : ByteArray) = s := by cases s; simp
theorem joinB_snoc (ss : List ByteArray) (y sep : ByteArray) (h : ss ≠ []) : joinB ss sep ++ sep ++ y = joinB (ss ++ [y]) sep := by
  unfold joinB
  rw [List.map_append, List.map_singleton, join_snoc _ _ _ (by simpa using h)]
  conv => lhs; rw [← mk_toList y]
  conv => lhs; lhs; rhs; rw [← mk_toList sep]
  rw [ByteArray.mk_append_mk, ByteArray.mk_append_mk]
theorem joinB_first (y sep : ByteArray) : joinB [] sep ++ y = joinB [y] sep := by
  unfold joinB
  rw [List.map_nil, List.map_singleton, Lib.join_nil, Lib.join_one]
  conv => lhs; rw [← mk_toList y]
  rw [ByteArray.mk_append_mk, List.nil_append]
theorem joinB_size (ss : List ByteArray) (sep : ByteArray) : (joinB ss sep).size ≤ szs ss + sep.size * ss.length := by
  show (Lib.join (ss.map (·.data.toList)) sep.data.toList).toArray.size ≤ _
  rw [List.size_toArray]
  cases ss with
  | nil => rw [List.map_nil, Lib.join_nil]; simp
  | cons x r =>
    rw [List.map_cons, Lib.join_length]
    have h : ∀ l : List ByteArray, Lib.lens (l.map (·.data.toList)) = szs l := by
      intro l; induction l with
      | nil => rfl
      | cons y t ih => simp only [Lib.lens, List.map_cons, List.sum_cons, szs] at ih ⊢; rw [ih, size_eq]
    have h' := h (x :: r)
    rw [List.map_cons] at h'
    rw [h', List.length_map, size_eq, List.length_cons, Nat.mul_succ]
    omega
theorem joinB_take_size (ss : List ByteArray) (sep : ByteArray) (k : Nat) : (joinB (ss.take k) sep).size ≤ szs ss + sep.size * ss.length := by
  have h1 := joinB_size (ss.take k) sep
  have h2 := szs_take ss k
  have h3 : (ss.take k).length ≤ ss.length := by rw [List.length_take]; omega
  have h4 := Nat.mul_le_mul_left sep.size h3
  omega

/-- the text of words, and the error: 1 (a text is no word), 3 (too many), 0 (none) -/
def allWords (ss : List ByteArray) : Bool := ss.all fun s => isWordL s.data.toList
def wordsErr (ss : List ByteArray) : Int := if allWords ss = true then (if ss.length ≤ 60 then 0 else 3) else 1
def comma : ByteArray := ⟨#[44]⟩
def wordsT (ss : List ByteArray) : ByteArray := if ss = [] then ⟨#[45]⟩ else joinB ss comma
def wordsText (ss : List ByteArray) : ByteArray × Int := if wordsErr ss = 0 then (wordsT ss, 0) else (⟨#[]⟩, wordsErr ss)

theorem wordsErr_zero {ss : List ByteArray} (h : allWords ss = true) (h' : ss.length ≤ 60) : wordsErr ss = 0 := by rw [wordsErr, if_pos h, if_pos h']
theorem wordsErr_long {ss : List ByteArray} (h : allWords ss = true) (h' : ¬ ss.length ≤ 60) : wordsErr ss = 3 := by rw [wordsErr, if_pos h, if_neg h']
theorem wordsErr_no {ss : List ByteArray} (h : ¬ allWords ss = true) : wordsErr ss = 1 := by rw [wordsErr, if_neg h]
theorem wordsErr_cases (ss : List ByteArray) : (wordsErr ss = 0 ∧ allWords ss = true ∧ ss.length ≤ 60) ∨ (wordsErr ss = 1 ∧ allWords ss = false) ∨ (wordsErr ss = 3 ∧ allWords ss = true ∧ 60 < ss.length) := by
  unfold wordsErr; split
  · split
    · exact .inl ⟨rfl, by assumption, by assumption⟩
    · exact .inr (.inr ⟨rfl, by assumption, by omega⟩)
  · exact .inr (.inl ⟨rfl, by simp_all⟩)
theorem allWords_snoc {a : List ByteArray} {x : ByteArray} (h : allWords a = true) (hx : isWordL x.data.toList = true) : allWords (a ++ [x]) = true := by
  unfold allWords at *; rw [List.all_append, h]; simp [hx]
theorem allWords_no {ss : List ByteArray} {k : Nat} {x : ByteArray} (hx : ss[k]? = some x) (h : isWordL x.data.toList = false) : allWords ss = false := by
  unfold allWords; rw [List.all_eq_false]; exact ⟨x, List.mem_of_getElem? hx, by simp [h]⟩
theorem word_size {l : List UInt8} (h : isWordL l = true) : l.length ≤ 16 := by
  simp only [isWordL, Bool.and_eq_true, decide_eq_true_eq] at h; exact h.2.1
theorem allWords_szs {ss : List ByteArray} (h : allWords ss = true) : szs ss ≤ 16 * ss.length := by
  induction ss with
  | nil => simp [szs]
  | cons x r ih =>
    unfold allWords at *
    simp only [List.all_cons, Bool.and_eq_true] at h
    have h1 := word_size h.1; rw [size_eq] at h1
    have h2 := ih h.2
    simp only [szs, List.length_cons]; omega

theorem text_ne {x y : ByteArray} (h : x ≠ y) : (x.toList == y.toList) = false := by
  rw [ByteArray.toList_eq, ByteArray.toList_eq, beq_eq_false_iff_ne]
  intro e; exact h (by rw [← mk_toList x, ← mk_toList y, e])
def sameS (xs ys : List ByteArray) : Bool := decide (xs = ys)
theorem sameS_self (xs : List ByteArray) : sameS xs xs = true := by simp [sameS]
theorem sameS_len {xs ys : List ByteArray} (h : xs.length ≠ ys.length) : sameS xs ys = false := by
  simp only [sameS, decide_eq_false_iff_not]; intro e; exact h (by rw [e])
theorem sameS_at {xs ys : List ByteArray} {k : Nat} {x y : ByteArray} (hx : xs[k]? = some x) (hy : ys[k]? = some y) (h : x ≠ y) : sameS xs ys = false := by
  simp only [sameS, decide_eq_false_iff_not]; intro e; rw [e, hy] at hx; cases hx; exact h rfl
theorem sameS_end {xs ys : List ByteArray} {k : Nat} (h : xs.take k = ys.take k) (hx : xs.length ≤ k) (hy : ys.length ≤ k) : sameS xs ys = true := by
  rw [List.take_of_length_le hx, List.take_of_length_le hy] at h; simp [sameS, h]

end Go.Proofs.Ytekhdggaelppkaa.Pure3
