/- Merged: the texts Pure2 Pure1 Pure3 Base Pure20 Pure40 SummonsA Pure90, in their order. -/
import Derived.WalkKit
import Derived.WalkSpells
import Derived.WalkLawsBesides
import Derived.Lib.Join
import Derived.Lib.Hide
import Derived.Deep.OwnRows
import Derived.Test.YtchffaohmeaccaaDoorChecked
import Derived.ProofKit
import Derived.OpenShut
import Derived.ChangeOld
import Derived.Deep.Slices
/- Plain facts on lists of numbers for chapter 1: values, the error of a list, its sum; and what it means that a slice of int64 reads as a list. No program is imported here. -/
namespace Go.Proofs.YtchffaohmeaccaaDoor.Pure2
open Go.RowKit

/-- a value: an integer in -10^12 .. 10^12 -/
def isVal (n : Int) : Bool := decide (-1000000000000 ≤ n) && decide (n ≤ 1000000000000)
theorem isVal_iff (n : Int) : isVal n = true ↔ -1000000000000 ≤ n ∧ n ≤ 1000000000000 := by simp [isVal]
theorem isVal_no (n : Int) : isVal n = false ↔ n < -1000000000000 ∨ 1000000000000 < n := by
  rw [← Bool.not_eq_true, isVal_iff]; omega
/-- the first error of a list of numbers: 2 (range), 3 (limit), 0 (none) -/
def listErr (zs : List Int) : Int := if zs.all isVal = true then (if zs.length ≤ 60 then 0 else 3) else 2
def lsum : List Int → Int
  | [] => 0
  | x :: r => x + lsum r
def sumOf (zs : List Int) : Int × Int := if listErr zs = 0 then (if isVal (lsum zs) = true then (lsum zs, 0) else (0, 3)) else (0, listErr zs)

theorem listErr_zero {zs : List Int} (h : zs.all isVal = true) (h' : zs.length ≤ 60) : listErr zs = 0 := by rw [listErr, if_pos h, if_pos h']
theorem listErr_long {zs : List Int} (h : zs.all isVal = true) (h' : ¬ zs.length ≤ 60) : listErr zs = 3 := by rw [listErr, if_pos h, if_neg h']
theorem listErr_range {zs : List Int} (h : ¬ zs.all isVal = true) : listErr zs = 2 := by rw [listErr, if_neg h]
theorem listErr_cases (zs : List Int) : (listErr zs = 0 ∧ zs.all isVal = true ∧ zs.length ≤ 60) ∨ listErr zs = 2 ∨ listErr zs = 3 := by
  unfold listErr; split
  · split
    · exact .inl ⟨rfl, by assumption, by assumption⟩
    · exact .inr (.inr rfl)
  · exact .inr (.inl rfl)
theorem lsum_append (a b : List Int) : lsum (a ++ b) = lsum a + lsum b := by
  induction a with
  | nil => simp [lsum]
  | cons x r ih => simp [lsum, ih]; omega
theorem lsum_snoc (a : List Int) (x : Int) : lsum (a ++ [x]) = lsum a + x := by rw [lsum_append]; simp [lsum]
theorem all_of_snoc {a : List Int} {x : Int} (h : a.all isVal = true) (hx : isVal x = true) : (a ++ [x]).all isVal = true := by
  rw [List.all_append, h]; simp [hx]
theorem lsum_reverse (a : List Int) : lsum a.reverse = lsum a := by
  induction a with
  | nil => rfl
  | cons x r ih => rw [List.reverse_cons, lsum_snoc, ih]; simp only [lsum]; omega
theorem sumOf_reverse (a : List Int) : sumOf a.reverse = sumOf a := by
  have h : listErr a.reverse = listErr a := by simp only [listErr, List.all_reverse, List.length_reverse]
  simp only [sumOf, h, lsum_reverse]
theorem rev_step {zs : List Int} {m : Nat} {x : Int} (hx : zs[m]? = some x) : (zs.drop (m + 1)).reverse ++ [x] = (zs.drop m).reverse := by
  obtain ⟨hm, rfl⟩ := List.getElem?_eq_some_iff.1 hx
  rw [List.drop_eq_getElem_cons hm, List.reverse_cons]
theorem lsum_bd {zs : List Int} (h : zs.all isVal = true) : -(1000000000000 * (zs.length : Int)) ≤ lsum zs ∧ lsum zs ≤ 1000000000000 * (zs.length : Int) := by
  induction zs with
  | nil => simp [lsum]
  | cons x r ih =>
    simp only [List.all_cons, Bool.and_eq_true] at h
    have h1 := (isVal_iff x).1 h.1
    have h2 := ih h.2
    simp only [lsum, List.length_cons]; omega
theorem all_take {zs : List Int} (k : Nat) (h : zs.all isVal = true) : (zs.take k).all isVal = true := by
  rw [List.all_eq_true] at h ⊢; exact fun x hx => h x (List.mem_of_mem_take hx)
theorem lsum_take_bd {zs : List Int} (k : Nat) (h : zs.all isVal = true) (h' : zs.length ≤ 60) : -60000000000000 ≤ lsum (zs.take k) ∧ lsum (zs.take k) ≤ 60000000000000 := by
  have h1 := lsum_bd (all_take k h)
  have h2 : (zs.take k).length ≤ 60 := by have := List.length_take_le k zs; rw [List.length_take]; omega
  omega
theorem all_no {zs : List Int} {k : Nat} {x : Int} (hx : zs[k]? = some x) (h : isVal x = false) : ¬ zs.all isVal = true := by
  intro hh; rw [List.all_eq_true] at hh
  have := hh x (List.mem_of_getElem? hx); rw [h] at this; cases this
theorem isVal_of_all {zs : List Int} {k : Nat} {x : Int} (hx : zs[k]? = some x) (h : zs.all isVal = true) : isVal x = true := by
  rw [List.all_eq_true] at h; exact h x (List.mem_of_getElem? hx)

/-- The slice at address a reads, from its head on, the numbers zs (int64). -/
def IntsAt (w : World) (a : Option Addr) (zs : List Int) : Prop :=
  zs = [] ∨ ∃ b off, a = some ⟨b, off, none⟩ ∧ ∀ i x, zs[i]? = some x → w.cell? ⟨b, off + i, none⟩ = some (.int .i64 x)

theorem IntsAt.at {w : World} {a : Option Addr} {zs : List Int} (h : IntsAt w a zs) {k len : Nat} (hl : zs.length = len) (hk : k < len) :
    ∃ b off x, a = some ⟨b, off, none⟩ ∧ w.cell? ⟨b, off + k, none⟩ = some (.int .i64 x) ∧ zs.take (k + 1) = zs.take k ++ [x] ∧ zs[k]? = some x := by
  have hx : zs[k]? = some zs[k] := List.getElem?_eq_getElem (by omega)
  rcases h with rfl | ⟨b, off, rfl, hc⟩
  · simp at hl; omega
  · exact ⟨b, off, _, rfl, hc k _ hx, by rw [List.take_succ_eq_append_getElem], hx⟩

theorem IntsAt.below {w w' : World} {a : Option Addr} {zs : List Int} (h : IntsAt w a zs) (hb : Below w.heap.size w w') : IntsAt w' a zs := by
  rcases h with rfl | ⟨b, off, rfl, hc⟩
  · exact .inl rfl
  · by_cases hz : zs = []
    · exact .inl hz
    · refine .inr ⟨b, off, rfl, fun i x hx => ?_⟩
      exact cell_later hb (hc i x hx)

end Go.Proofs.YtchffaohmeaccaaDoor.Pure2
/- Plain facts on lists and numbers for chapter 1: words. No program is imported here. -/
namespace Go.Proofs.YtchffaohmeaccaaDoor.Pure1

/-- a byte that is a letter a to z -/
def letter (c : UInt8) : Bool := decide (97 ≤ (c.toNat : Int)) && decide ((c.toNat : Int) ≤ 122)
/-- a word: 1 to 16 letters -/
def isWordL (l : List UInt8) : Bool := decide (1 ≤ l.length) && (decide (l.length ≤ 16) && l.all letter)

theorem take_snoc (s : ByteArray) (k : Nat) (h : k < s.size) : s.data.toList.take (k + 1) = s.data.toList.take k ++ [s[k]] := by
  rw [List.take_succ_eq_append_getElem (by simpa using h)]; rfl
theorem all_snoc (s : ByteArray) (k : Nat) (h : k < s.size) (hp : (s.data.toList.take k).all letter = true) (hl : letter s[k] = true) :
    (s.data.toList.take (k + 1)).all letter = true := by
  rw [take_snoc s k h, List.all_append, hp]; simp [hl]
theorem all_no (s : ByteArray) (k : Nat) (h : k < s.size) (hl : letter s[k] = false) : s.data.toList.all letter = false := by
  rw [List.all_eq_false]
  exact ⟨s[k], by simp [ByteArray.getElem_eq_getElem_data], by simp [hl]⟩
theorem isWordL_of_not_all {l : List UInt8} (h : l.all letter = false) : isWordL l = false := by
  simp only [isWordL, h, Bool.and_false]
theorem isWordL_of_all {l : List UInt8} (h : l.all letter = true) : isWordL l = (decide (1 ≤ l.length) && decide (l.length ≤ 16)) := by
  simp only [isWordL, h, Bool.and_true]
theorem isWordL_short {l : List UInt8} (h : l.length < 1) : isWordL l = false := by
  rw [isWordL, decide_eq_false (by omega)]; rfl
theorem isWordL_long {l : List UInt8} (h : 16 < l.length) : isWordL l = false := by
  rw [isWordL, decide_eq_false (p := l.length ≤ 16) (by omega), Bool.false_and, Bool.and_false]
theorem letter_iff (c : UInt8) : letter c = true ↔ 97 ≤ (c.toNat : Int) ∧ (c.toNat : Int) ≤ 122 := by
  simp [letter]
theorem letter_lo {c : UInt8} (h : (c.toNat : Int) < 97) : letter c = false := by
  simp [letter]; omega
theorem letter_hi {c : UInt8} (h : 122 < (c.toNat : Int)) : letter c = false := by
  simp [letter]; omega
theorem letter_in {c : UInt8} (h : 97 ≤ (c.toNat : Int)) (h' : (c.toNat : Int) ≤ 122) : letter c = true := by
  simp [letter]; omega
theorem size_eq (s : ByteArray) : s.data.toList.length = s.size := by simp
theorem take_all (s : ByteArray) (k : Nat) (h : s.size ≤ k) : s.data.toList.take k = s.data.toList := List.take_of_length_le (by simpa using h)

end Go.Proofs.YtchffaohmeaccaaDoor.Pure1
/- Plain facts on lists of texts for chapter 1: their reading in memory, joining, the words' text. No program is imported here. -/
namespace Go.Proofs.YtchffaohmeaccaaDoor.Pure3
open Go.RowKit Pure1

/-- The slice at address a reads, from its head on, the texts ss. -/
def StrsAt (w : World) (a : Option Addr) (ss : List ByteArray) : Prop :=
  ss = [] ∨ ∃ b off, a = some ⟨b, off, none⟩ ∧ ∀ i x, ss[i]? = some x → w.cell? ⟨b, off + i, none⟩ = some (.string x)

theorem StrsAt.at {w : World} {a : Option Addr} {ss : List ByteArray} (h : StrsAt w a ss) {k len : Nat} (hl : ss.length = len) (hk : k < len) :
    ∃ b off x, a = some ⟨b, off, none⟩ ∧ w.cell? ⟨b, off + k, none⟩ = some (.string x) ∧ ss.take (k + 1) = ss.take k ++ [x] ∧ ss[k]? = some x := by
  have hx : ss[k]? = some ss[k] := List.getElem?_eq_getElem (by omega)
  rcases h with rfl | ⟨b, off, rfl, hc⟩
  · simp at hl; omega
  · exact ⟨b, off, _, rfl, hc k _ hx, by rw [List.take_succ_eq_append_getElem], hx⟩

theorem StrsAt.below {w w' : World} {a : Option Addr} {ss : List ByteArray} (h : StrsAt w a ss) (hb : Below w.heap.size w w') : StrsAt w' a ss := by
  rcases h with rfl | ⟨b, off, rfl, hc⟩
  · exact .inl rfl
  · exact .inr ⟨b, off, rfl, fun i x hx => cell_later hb (hc i x hx)⟩

/-- how much a list of texts holds: its length and all lengths -/
def strTot : List ByteArray → Nat
  | [] => 0
  | s :: r => 1 + s.size + strTot r
theorem strTot_append (a b : List ByteArray) : strTot (a ++ b) = strTot a + strTot b := by
  induction a with
  | nil => simp [strTot]
  | cons x r ih => simp only [List.cons_append, strTot, ih]; omega
theorem strTot_snoc (a : List ByteArray) (x : ByteArray) : strTot (a ++ [x]) = strTot a + (1 + x.size) := by rw [strTot_append]; simp [strTot]
theorem strTot_len (a : List ByteArray) : a.length ≤ strTot a := by
  induction a with
  | nil => simp
  | cons x r ih => simp only [List.length_cons, strTot]; omega
theorem strTot_take (a : List ByteArray) (k : Nat) : strTot (a.take k) ≤ strTot a := by
  have h := strTot_append (a.take k) (a.drop k); rw [List.take_append_drop] at h; omega
/-- the sizes alone -/
def szs : List ByteArray → Nat
  | [] => 0
  | s :: r => s.size + szs r
theorem szs_append (a b : List ByteArray) : szs (a ++ b) = szs a + szs b := by
  induction a with
  | nil => simp [szs]
  | cons x r ih => simp only [List.cons_append, szs, ih]; omega
theorem szs_snoc (a : List ByteArray) (x : ByteArray) : szs (a ++ [x]) = szs a + x.size := by rw [szs_append]; simp [szs]
theorem szs_take (a : List ByteArray) (k : Nat) : szs (a.take k) ≤ szs a := by
  have h := szs_append (a.take k) (a.drop k); rw [List.take_append_drop] at h; omega
theorem szs_mem {a : List ByteArray} {k : Nat} {x : ByteArray} (h : a[k]? = some x) : x.size ≤ szs a := by
  induction a generalizing k with
  | nil => simp at h
  | cons y r ih =>
    cases k with
    | zero => simp at h; subst h; simp only [szs]; omega
    | succ k => have := ih (k := k) (by simpa using h); simp only [szs]; omega
theorem strTot_eq (a : List ByteArray) : strTot a = a.length + szs a := by
  induction a with
  | nil => rfl
  | cons x r ih => simp only [strTot, szs, List.length_cons, ih]; omega

/-- what is left of n behind the texts, -1 if they hold more -/
def szLeft (ss : List ByteArray) (n : Nat) : Int := if strTot ss ≤ n then (n : Int) - strTot ss else -1
theorem szLeft_no {ss : List ByteArray} {n : Nat} (h : n < strTot ss) : szLeft ss n = -1 := by rw [szLeft, if_neg (by omega)]
theorem szLeft_ok {ss : List ByteArray} {n m : Nat} (h : m + strTot ss = n) : szLeft ss n = m := by rw [szLeft, if_pos (by omega)]; omega

/-- texts joined with something between them -/
def joinB (ss : List ByteArray) (sep : ByteArray) : ByteArray := ⟨(Lib.join (ss.map (·.data.toList)) sep.data.toList).toArray⟩
theorem join_snoc (xs : List (List UInt8)) (y sep : List UInt8) (h : xs ≠ []) : Lib.join (xs ++ [y]) sep = Lib.join xs sep ++ sep ++ y := by
  cases xs with
  | nil => exact absurd rfl h
  | cons x r => rw [List.cons_append, Lib.join_cons, Lib.join_cons]; simp [Lib.joinTail, List.append_assoc]
theorem mk_toList (s : ByteArray) : (⟨s.data.toList.toArray⟩ : ByteArray) = s := by cases s; simp
theorem joinB_snoc (ss : List ByteArray) (y sep : ByteArray) (h : ss ≠ []) : joinB ss sep ++ sep ++ y = joinB (ss ++ [y]) sep := by
  unfold joinB
  rw [List.map_append, List.map_singleton, join_snoc _ _ _ (by simpa using h)]
  conv => lhs; rw [← mk_toList y]
  conv => lhs; lhs; rhs; rw [← mk_toList sep]
  rw [ByteArray.mk_append_mk, ByteArray.mk_append_mk]
theorem joinB_first (y sep : ByteArray) : joinB [] sep ++ y = joinB [y] sep := by
  unfold joinB
  rw [List.map_nil, List.map_singleton, Lib.join_nil, Lib.join_one]
  conv => lhs; rw [← mk_toList y]
  rw [ByteArray.mk_append_mk, List.nil_append]
theorem joinB_size (ss : List ByteArray) (sep : ByteArray) : (joinB ss sep).size ≤ szs ss + sep.size * ss.length := by
  show (Lib.join (ss.map (·.data.toList)) sep.data.toList).toArray.size ≤ _
  rw [List.size_toArray]
  cases ss with
  | nil => rw [List.map_nil, Lib.join_nil]; simp
  | cons x r =>
    rw [List.map_cons, Lib.join_length]
    have h : ∀ l : List ByteArray, Lib.lens (l.map (·.data.toList)) = szs l := by
      intro l; induction l with
      | nil => rfl
      | cons y t ih => simp only [Lib.lens, List.map_cons, List.sum_cons, szs] at ih ⊢; rw [ih, size_eq]
    have h' := h (x :: r)
    rw [List.map_cons] at h'
    rw [h', List.length_map, size_eq, List.length_cons, Nat.mul_succ]
    omega
theorem joinB_take_size (ss : List ByteArray) (sep : ByteArray) (k : Nat) : (joinB (ss.take k) sep).size ≤ szs ss + sep.size * ss.length := by
  have h1 := joinB_size (ss.take k) sep
  have h2 := szs_take ss k
  have h3 : (ss.take k).length ≤ ss.length := by rw [List.length_take]; omega
  have h4 := Nat.mul_le_mul_left sep.size h3
  omega

/-- the text of words, and the error: 1 (a text is no word), 3 (too many), 0 (none) -/
def allWords (ss : List ByteArray) : Bool := ss.all fun s => isWordL s.data.toList
def wordsErr (ss : List ByteArray) : Int := if allWords ss = true then (if ss.length ≤ 60 then 0 else 3) else 1
def comma : ByteArray := ⟨#[44]⟩
def wordsT (ss : List ByteArray) : ByteArray := if ss = [] then ⟨#[45]⟩ else joinB ss comma
def wordsText (ss : List ByteArray) : ByteArray × Int := if wordsErr ss = 0 then (wordsT ss, 0) else (⟨#[]⟩, wordsErr ss)

theorem wordsErr_zero {ss : List ByteArray} (h : allWords ss = true) (h' : ss.length ≤ 60) : wordsErr ss = 0 := by rw [wordsErr, if_pos h, if_pos h']
theorem wordsErr_long {ss : List ByteArray} (h : allWords ss = true) (h' : ¬ ss.length ≤ 60) : wordsErr ss = 3 := by rw [wordsErr, if_pos h, if_neg h']
theorem wordsErr_no {ss : List ByteArray} (h : ¬ allWords ss = true) : wordsErr ss = 1 := by rw [wordsErr, if_neg h]
theorem wordsErr_cases (ss : List ByteArray) : (wordsErr ss = 0 ∧ allWords ss = true ∧ ss.length ≤ 60) ∨ (wordsErr ss = 1 ∧ allWords ss = false) ∨ (wordsErr ss = 3 ∧ allWords ss = true ∧ 60 < ss.length) := by
  unfold wordsErr; split
  · split
    · exact .inl ⟨rfl, by assumption, by assumption⟩
    · exact .inr (.inr ⟨rfl, by assumption, by omega⟩)
  · exact .inr (.inl ⟨rfl, by simp_all⟩)
theorem allWords_snoc {a : List ByteArray} {x : ByteArray} (h : allWords a = true) (hx : isWordL x.data.toList = true) : allWords (a ++ [x]) = true := by
  unfold allWords at *; rw [List.all_append, h]; simp [hx]
theorem allWords_no {ss : List ByteArray} {k : Nat} {x : ByteArray} (hx : ss[k]? = some x) (h : isWordL x.data.toList = false) : allWords ss = false := by
  unfold allWords; rw [List.all_eq_false]; exact ⟨x, List.mem_of_getElem? hx, by simp [h]⟩
theorem word_size {l : List UInt8} (h : isWordL l = true) : l.length ≤ 16 := by
  simp only [isWordL, Bool.and_eq_true, decide_eq_true_eq] at h; exact h.2.1
theorem allWords_szs {ss : List ByteArray} (h : allWords ss = true) : szs ss ≤ 16 * ss.length := by
  induction ss with
  | nil => simp [szs]
  | cons x r ih =>
    unfold allWords at *
    simp only [List.all_cons, Bool.and_eq_true] at h
    have h1 := word_size h.1; rw [size_eq] at h1
    have h2 := ih h.2
    simp only [szs, List.length_cons]; omega

theorem text_ne {x y : ByteArray} (h : x ≠ y) : (x.toList == y.toList) = false := by
  rw [ByteArray.toList_eq, ByteArray.toList_eq, beq_eq_false_iff_ne]
  intro e; exact h (by rw [← mk_toList x, ← mk_toList y, e])
def sameS (xs ys : List ByteArray) : Bool := decide (xs = ys)
theorem sameS_self (xs : List ByteArray) : sameS xs xs = true := by simp [sameS]
theorem sameS_len {xs ys : List ByteArray} (h : xs.length ≠ ys.length) : sameS xs ys = false := by
  simp only [sameS, decide_eq_false_iff_not]; intro e; exact h (by rw [e])
theorem sameS_at {xs ys : List ByteArray} {k : Nat} {x y : ByteArray} (hx : xs[k]? = some x) (hy : ys[k]? = some y) (h : x ≠ y) : sameS xs ys = false := by
  simp only [sameS, decide_eq_false_iff_not]; intro e; rw [e, hy] at hx; cases hx; exact h rfl
theorem sameS_end {xs ys : List ByteArray} {k : Nat} (h : xs.take k = ys.take k) (hx : xs.length ≤ k) (hy : ys.length ≤ k) : sameS xs ys = true := by
  rw [List.take_of_length_le hx, List.take_of_length_le hy] at h; simp [sameS, h]

end Go.Proofs.YtchffaohmeaccaaDoor.Pure3
/- Small shared facts: equal results, what a call that returns a text says, copies of slices. -/
namespace Go.Proofs.YtchffaohmeaccaaDoor
open Go.RowKit Pure2 Pure3

theorem ret_bool {a b : Bool} (h : a = b) : Ending.returned (.bool a) = .returned (.bool b) := by rw [h]

theorem ret_bool' {a b : Bool} (h : a = b) : Ending.returned (.bool a) = .returned (.bool b) := by rw [h]

theorem ret_i64 {a b : Int} (h : a = b) : Ending.returned (.int .i64 a) = .returned (.int .i64 b) := by rw [h]

theorem ret_two {a b c d : Int} (h : a = b) (h' : c = d) : Ending.returned (.tuple #[.int .i64 a, .int .i64 c]) = .returned (.tuple #[.int .i64 b, .int .i64 d]) := by rw [h, h']

theorem ret_str {a b : ByteArray} (h : a = b) : Ending.returned (.string a) = .returned (.string b) := by rw [h]

theorem ret_str2 {a b : ByteArray} {c d : Int} (h : a = b) (h' : c = d) : Ending.returned (.tuple #[.string a, .int .i64 c]) = .returned (.tuple #[.string b, .int .i64 d]) := by rw [h, h']

/-- a text is returned; nothing that was there has turned -/
def SaysT (s : ByteArray) (w : World) (e : Ending) (w' : World) : Prop := e = .returned (.string s) ∧ Below w.heap.size w w'

def SaysT2 (s : ByteArray) (n : Int) (w : World) (e : Ending) (w' : World) : Prop := e = .returned (.tuple #[.string s, .int .i64 n]) ∧ Below w.heap.size w w'

/-- a bool is returned; the world has at most drawn -/
def SaysB (b : Bool) (w : World) (e : Ending) (w' : World) : Prop := e = .returned (.bool b) ∧ ∃ n, w' = w.drewN n

theorem drewN_add (w : World) (n m : Nat) : (w.drewN n).drewN m = w.drewN (n + m) := by simp [World.drewN]; omega

/-- a new slice that reads zs; nothing that was there has turned -/
def IsCopy (w : World) (len : Nat) (zs : List Int) (e : Ending) (w' : World) : Prop :=
  ∃ b, e = .returned (.slice (some ⟨b, 0, none⟩) len len) ∧ w.heap.size ≤ b ∧ IntsAt w' (some ⟨b, 0, none⟩) zs ∧ Below w.heap.size w w'

theorem copied {w wr : World} {T len : Nat} {f : Nat → Value} {zs : List Int} (hr : wr.rowIs w.heap.size T len f) (hl : zs.length = len) (hf : ∀ i x, i < len → zs[i]? = some x → f i = .int .i64 x)
    (hB : Below w.heap.size w wr) : IsCopy w len zs (.returned (.slice (some ⟨w.heap.size, 0, none⟩) len len)) wr :=
  ⟨_, rfl, Nat.le_refl _, .inr ⟨_, _, rfl, fun i x hx => by
    have hi : i < len := by rw [← hl]; exact (List.getElem?_eq_some_iff.1 hx).1
    rw [Nat.zero_add, hr.cell hi, hf i x hi hx]⟩, hB⟩

theorem copy_step {zs : List Int} {k : Nat} {x : Int} {f : Nat → Value} (hf : ∀ i y, i < k → zs[i]? = some y → f i = .int .i64 y) (hx : zs[k]? = some x) :
    ∀ i y, i < k + 1 → zs[i]? = some y → (fun j => if j = k then Value.int .i64 x else f j) i = .int .i64 y := by
  intro i y hi hy
  by_cases e : i = k
  · subst e; rw [hx] at hy; cases hy; simp
  · simp only [if_neg e]; exact hf i y (by omega) hy

/-- a new slice that reads zs; nothing that was there has turned -/
def IsCopyS (w : World) (len : Nat) (zs : List ByteArray) (e : Ending) (w' : World) : Prop :=
  ∃ b, e = .returned (.slice (some ⟨b, 0, none⟩) len len) ∧ w.heap.size ≤ b ∧ StrsAt w' (some ⟨b, 0, none⟩) zs ∧ Below w.heap.size w w'

theorem copiedS {w wr : World} {T len : Nat} {f : Nat → Value} {zs : List ByteArray} (hr : wr.rowIs w.heap.size T len f) (hl : zs.length = len) (hf : ∀ i x, i < len → zs[i]? = some x → f i = .string x)
    (hB : Below w.heap.size w wr) : IsCopyS w len zs (.returned (.slice (some ⟨w.heap.size, 0, none⟩) len len)) wr :=
  ⟨_, rfl, Nat.le_refl _, .inr ⟨_, _, rfl, fun i x hx => by
    have hi : i < len := by rw [← hl]; exact (List.getElem?_eq_some_iff.1 hx).1
    rw [Nat.zero_add, hr.cell hi, hf i x hi hx]⟩, hB⟩

theorem copyS_step {zs : List ByteArray} {k : Nat} {x : ByteArray} {f : Nat → Value} (hf : ∀ i y, i < k → zs[i]? = some y → f i = .string y) (hx : zs[k]? = some x) :
    ∀ i y, i < k + 1 → zs[i]? = some y → (fun j => if j = k then Value.string x else f j) i = .string y := by
  intro i y hi hy
  by_cases e : i = k
  · subst e; rw [hx] at hy; cases hy; simp
  · simp only [if_neg e]; exact hf i y (by omega) hy

def sameL (xs ys : List Int) : Bool := decide (xs = ys)

theorem sameL_self (xs : List Int) : sameL xs xs = true := by simp [sameL]

theorem sameL_len {xs ys : List Int} (h : xs.length ≠ ys.length) : sameL xs ys = false := by
  simp only [sameL, decide_eq_false_iff_not]; intro e; exact h (by rw [e])

theorem sameL_at {xs ys : List Int} {k : Nat} {x y : Int} (hx : xs[k]? = some x) (hy : ys[k]? = some y) (h : x ≠ y) : sameL xs ys = false := by
  simp only [sameL, decide_eq_false_iff_not]; intro e; rw [e, hy] at hx; cases hx; exact h rfl

theorem sameL_end {xs ys : List Int} {k : Nat} (h : xs.take k = ys.take k) (hx : xs.length ≤ k) (hy : ys.length ≤ k) : sameL xs ys = true := by
  rw [List.take_of_length_le hx, List.take_of_length_le hy] at h; simp [sameL, h]

/-- from the row that the frame opens to the reading that the contracts take -/
theorem ints_of_row {w : World} {a : Option Addr} {len cap : Nat} {zs : List Int}
    (h : (a = none ∧ len = 0 ∧ cap = 0 ∧ zs = []) ∨ ∃ x, a = some x ∧ len ≤ cap ∧ cap ≤ maxLen ∧ zs.length = cap ∧ (∀ i, i < zs.length → w.cell? (x.add i) = some (.int .i64 (zs.getD i 0))) ∧ ∀ n ∈ zs, (Lit.int .i64 n).wf = true) :
    (zs.take len).length = len ∧ len ≤ maxLen ∧ IntsAt w a (zs.take len) := by
  rcases h with ⟨rfl, rfl, rfl, rfl⟩ | ⟨x, rfl, hl, hm, hz, hc, _⟩
  · exact ⟨rfl, by unfold maxLen; omega, .inl rfl⟩
  · refine ⟨by rw [List.length_take]; omega, by omega, ?_⟩
    by_cases h0 : len = 0
    · exact .inl (by rw [h0]; rfl)
    · obtain ⟨b, off, spot⟩ := x
      have hspot : spot = none := by simpa [Addr.add] using World.cell?_spot (hc 0 (by omega))
      subst hspot
      refine .inr ⟨b, off, rfl, fun i x hx => ?_⟩
      obtain ⟨hi, hx'⟩ := List.getElem?_eq_some_iff.1 hx
      have hi' : i < zs.length := by rw [List.length_take] at hi; omega
      have := hc i hi'
      rw [List.getElem_take] at hx'
      rw [List.getD_eq_getElem?_getD, List.getElem?_eq_getElem hi', Option.getD_some, hx'] at this
      by_cases hi0 : i = 0
      · subst hi0; simpa [Addr.add] using this
      · simpa [Addr.add, hi0] using this

/-- from the row that the frame opens to the reading that the contracts take -/
theorem strs_of_row {w : World} {a : Option Addr} {len cap : Nat} {ss : List ByteArray}
    (h : (a = none ∧ len = 0 ∧ cap = 0 ∧ ss = []) ∨ ∃ x, a = some x ∧ len ≤ cap ∧ cap ≤ maxLen ∧ ss.length = cap ∧ (∀ i, i < ss.length → w.cell? (x.add i) = some (.string (ss.getD i ByteArray.empty))) ∧ ∀ s ∈ ss, s.size ≤ maxLen) :
    (ss.take len).length = len ∧ len ≤ cap ∧ len ≤ maxLen ∧ StrsAt w a (ss.take len) ∧ ∀ s ∈ ss.take len, s.size ≤ maxLen := by
  rcases h with ⟨rfl, rfl, rfl, rfl⟩ | ⟨x, rfl, hl, hm, hz, hc, hs⟩
  · exact ⟨rfl, Nat.le_refl _, by unfold maxLen; omega, .inl rfl, fun s h => by simp at h⟩
  · refine ⟨by rw [List.length_take]; omega, hl, by omega, ?_, fun s h => hs s (List.mem_of_mem_take h)⟩
    by_cases h0 : len = 0
    · exact .inl (by rw [h0]; rfl)
    · obtain ⟨b, off, spot⟩ := x
      have hspot : spot = none := by simpa [Addr.add] using World.cell?_spot (hc 0 (by omega))
      subst hspot
      refine .inr ⟨b, off, rfl, fun i x hx => ?_⟩
      obtain ⟨hi, hx'⟩ := List.getElem?_eq_some_iff.1 hx
      have hi' : i < ss.length := by rw [List.length_take] at hi; omega
      have := hc i hi'
      rw [List.getElem_take] at hx'
      rw [List.getD_eq_getElem?_getD, List.getElem?_eq_getElem hi', Option.getD_some, hx'] at this
      by_cases hi0 : i = 0
      · subst hi0; simpa [Addr.add] using this
      · simpa [Addr.add, hi0] using this

theorem joinB_join {ss : List ByteArray} : (⟨(Lib.join (ss.map (·.data.toList)) comma.data.toList).toArray⟩ : ByteArray) = joinB ss comma := rfl

theorem wordsT_none : wordsT [] = ⟨#[45]⟩ := rfl

theorem wordsT_some {ss : List ByteArray} (h : ss ≠ []) : wordsT ss = joinB ss comma := by rw [wordsT, if_neg h]

theorem len_ne {α : Type} {ss : List α} {len : Nat} (hl : ss.length = len) (h : len ≠ 0) : ss ≠ [] := by
  intro e; subst e; simp at hl; omega

theorem len_eq {α : Type} {ss : List α} {len : Nat} (hl : ss.length = len) (h : len = 0) : ss = [] := by
  subst h; exact List.length_eq_zero_iff.1 hl

theorem intsAt_of_owns' {w : World} {base e n : Nat} {v : Value} {zs : List Int} (h : w.ownsRow base e 1 v n (zs.map (Value.int .i64))) : ∃ a cap, v = .slice a n cap ∧ n ≤ cap ∧ IntsAt w a zs := by
  obtain ⟨h1, h2 | ⟨g, cap, cur, hv, hg, hh, hn, hc, hs, hr⟩⟩ := h
  · obtain ⟨rfl, rfl⟩ := h2
    exact ⟨none, 0, rfl, Nat.le_refl _, .inl (by simpa using h1)⟩
  · rw [Nat.mul_one] at hr hs
    refine ⟨_, cap, hv, hn, .inr ⟨g, 0, rfl, fun i x hx => ?_⟩⟩
    have hx' : (zs.map (Value.int .i64))[i]? = some (.int .i64 x) := by rw [List.getElem?_map, hx]; rfl
    rw [← hr, List.getElem?_take] at hx'
    split at hx'
    · rw [Array.getElem?_toList] at hx'
      simp [World.cell?, hh, hx']
    · cases hx'

end Go.Proofs.YtchffaohmeaccaaDoor
/- Plain facts on court days (chapter 2). No program is imported here. -/
namespace Go.Proofs.YtchffaohmeaccaaDoor.Pure20
open Go.RowKit Pure2

/-- a day -/
def isDay (n : Int) : Bool := decide (0 ≤ n) && decide (n ≤ 20000)
theorem isDay_iff (n : Int) : isDay n = true ↔ 0 ≤ n ∧ n ≤ 20000 := by simp [isDay]
theorem isDay_no (n : Int) : isDay n = false ↔ n < 0 ∨ 20000 < n := by
  rw [← Bool.not_eq_true, isDay_iff]; omega

/-- holidays: days that increase strictly, at most 40 -/
def Hol (zs : List Int) : Prop := (∀ (i : Nat) x, zs[i]? = some x → isDay x = true) ∧ (∀ (i : Nat) x y, zs[i]? = some x → zs[i + 1]? = some y → x < y) ∧ zs.length ≤ 40
noncomputable def hol (zs : List Int) : Bool := @decide (Hol zs) (Classical.propDecidable _)
theorem hol_iff (zs : List Int) : hol zs = true ↔ Hol zs := by unfold hol; exact @decide_eq_true_iff _ (Classical.propDecidable _)
theorem hol_no (zs : List Int) : hol zs = false ↔ ¬ Hol zs := by rw [← Bool.not_eq_true, hol_iff]
/-- the first k numbers are as holidays are -/
def HolTo (zs : List Int) (k : Nat) : Prop := (∀ (i : Nat) x, i < k → zs[i]? = some x → isDay x = true) ∧ (∀ (i : Nat) x y, i + 1 < k → zs[i]? = some x → zs[i + 1]? = some y → x < y)
theorem holTo_zero (zs : List Int) : HolTo zs 0 := ⟨fun _ _ h => by omega, fun _ _ _ h => by omega⟩
theorem holTo_step {zs : List Int} {k : Nat} {x : Int} (h : HolTo zs k) (hx : zs[k]? = some x) (hd : isDay x = true) (hp : ∀ y, 0 < k → zs[k - 1]? = some y → y < x) : HolTo zs (k + 1) := by
  refine ⟨fun i z hi hz => ?_, fun i u v hi hu hv => ?_⟩
  · by_cases e : i = k
    · subst e; rw [hx] at hz; cases hz; exact hd
    · exact h.1 i z (by omega) hz
  · by_cases e : i + 1 = k
    · subst e; rw [hx] at hv; cases hv; exact hp u (by omega) (by simpa using hu)
    · exact h.2 i u v (by omega) hu hv
theorem holTo_end {zs : List Int} {k : Nat} (h : HolTo zs k) (hk : zs.length ≤ k) (hl : zs.length ≤ 40) : Hol zs := by
  refine ⟨fun i x hx => h.1 i x ?_ hx, fun i x y hx hy => h.2 i x y ?_ hx hy, hl⟩
  · have := (List.getElem?_eq_some_iff.1 hx).1; omega
  · have := (List.getElem?_eq_some_iff.1 hy).1; omega
theorem hol_day {zs : List Int} (h : Hol zs) : ∀ x ∈ zs, 0 ≤ x ∧ x ≤ 20000 := by
  intro x hx
  obtain ⟨i, hi⟩ := List.mem_iff_getElem?.1 hx
  exact (isDay_iff x).1 (h.1 i x hi)

/-- a court day -/
def court (zs : List Int) (d : Int) : Bool := decide (d % 7 < 5) && !zs.contains d
theorem court_iff (zs : List Int) (d : Int) : court zs d = true ↔ d % 7 < 5 ∧ d ∉ zs := by simp [court]
theorem court_no (zs : List Int) (d : Int) : court zs d = false ↔ (5 ≤ d % 7 ∨ d ∈ zs) := by
  rw [← Bool.not_eq_true, court_iff]
  by_cases h : d ∈ zs
  · simp [h]
  · simp [h]

/-- r is the first court day that is not before d -/
def IsNext (zs : List Int) (d r : Int) : Prop := d ≤ r ∧ court zs r = true ∧ ∀ x, d ≤ x → x < r → court zs x = false
theorem isNext_inj {zs : List Int} {d r r' : Int} (h : IsNext zs d r) (h' : IsNext zs d r') : r = r' := by
  rcases Int.lt_trichotomy r r' with c | c | c
  · have := h'.2.2 r h.1 c; rw [h.2.1] at this; cases this
  · exact c
  · have := h.2.2 r' h'.1 c; rw [h'.2.1] at this; cases this
theorem isNext_here {zs : List Int} {d : Int} (h : court zs d = true) : IsNext zs d d := ⟨Int.le_refl _, h, fun x h1 h2 => by omega⟩
theorem isNext_step {zs : List Int} {d r : Int} (h : court zs d = false) (hr : IsNext zs (d + 1) r) : IsNext zs d r := by
  refine ⟨by have := hr.1; omega, hr.2.1, fun x h1 h2 => ?_⟩
  by_cases e : x = d
  · subst e; exact h
  · exact hr.2.2 x (by omega) h2
/-- behind the greatest holiday a court day comes within three days -/
theorem court_late {zs : List Int} (h : ∀ x ∈ zs, x ≤ 20000) (d : Int) (hd : 20000 < d) : court zs d = true ∨ court zs (d + 1) = true ∨ court zs (d + 2) = true := by
  simp only [court_iff]
  have h0 : d ∉ zs := fun e => by have := h _ e; omega
  have h1 : d + 1 ∉ zs := fun e => by have := h _ e; omega
  have h2 : d + 2 ∉ zs := fun e => by have := h _ e; omega
  by_cases c0 : d % 7 < 5
  · exact .inl ⟨c0, h0⟩
  · by_cases c1 : (d + 1) % 7 < 5
    · exact .inr (.inl ⟨c1, h1⟩)
    · exact .inr (.inr ⟨by omega, h2⟩)
theorem next_there {zs : List Int} (h : ∀ x ∈ zs, x ≤ 20000) : ∀ (k : Nat) (d : Int), 20003 ≤ d + k → ∃ r, IsNext zs d r ∧ r ≤ max d 20001 + 2 := by
  intro k
  induction k with
  | zero =>
    intro d hd
    cases hc : court zs d with
    | true => exact ⟨d, isNext_here hc, by omega⟩
    | false =>
      cases hc1 : court zs (d + 1) with
      | true => exact ⟨d + 1, isNext_step hc (isNext_here hc1), by omega⟩
      | false =>
        have hc2 : court zs (d + 2) = true := by
          rcases court_late h d (by omega) with e | e | e
          · rw [e] at hc; cases hc
          · rw [e] at hc1; cases hc1
          · exact e
        exact ⟨d + 2, isNext_step hc (isNext_step hc1 (by rw [show d + 1 + 1 = d + 2 by omega]; exact isNext_here hc2)), by omega⟩
  | succ k ih =>
    intro d hd
    cases hc : court zs d with
    | true => exact ⟨d, isNext_here hc, by omega⟩
    | false =>
      by_cases hl : 20000 < d
      · cases hc1 : court zs (d + 1) with
        | true => exact ⟨d + 1, isNext_step hc (isNext_here hc1), by omega⟩
        | false =>
          have hc2 : court zs (d + 2) = true := by
            rcases court_late h d hl with e | e | e
            · rw [e] at hc; cases hc
            · rw [e] at hc1; cases hc1
            · exact e
          exact ⟨d + 2, isNext_step hc (isNext_step hc1 (by rw [show d + 1 + 1 = d + 2 by omega]; exact isNext_here hc2)), by omega⟩
      · obtain ⟨r, hr, hb⟩ := ih (d + 1) (by omega)
        exact ⟨r, isNext_step hc hr, by omega⟩
theorem next_exists {zs : List Int} (h : ∀ x ∈ zs, x ≤ 20000) (d : Int) : ∃ r, IsNext zs d r ∧ r ≤ max d 20001 + 2 := next_there h (20003 - d).toNat d (by omega)

/-- the number of court days in a .. a + k - 1 -/
def cnt (zs : List Int) (a : Int) : Nat → Int
  | 0 => 0
  | k + 1 => cnt zs a k + (if court zs (a + (k : Int)) = true then 1 else 0)
theorem cnt_add (zs : List Int) (a : Int) (j k : Nat) : cnt zs a (j + k) = cnt zs a j + cnt zs (a + (j : Int)) k := by
  induction k with
  | zero => simp [cnt]
  | succ k ih =>
    rw [← Nat.add_assoc, cnt, cnt, ih, show a + ((j + k : Nat) : Int) = a + (j : Int) + (k : Int) by omega]; omega
theorem cnt_bd (zs : List Int) (a : Int) (k : Nat) : 0 ≤ cnt zs a k ∧ cnt zs a k ≤ k := by
  induction k with
  | zero => simp [cnt]
  | succ k ih => rw [cnt]; split <;> omega
theorem cnt_none {zs : List Int} {a : Int} {k : Nat} (h : ∀ x, a ≤ x → x < a + k → court zs x = false) : cnt zs a k = 0 := by
  induction k with
  | zero => rfl
  | succ k ih =>
    rw [cnt, ih (fun x h1 h2 => h x h1 (by omega)), h (a + (k : Int)) (by omega) (by omega)]; simp
theorem cnt_zero {zs : List Int} {a : Int} {k : Nat} (h : cnt zs a k = 0) : ∀ x, a ≤ x → x < a + k → court zs x = false := by
  induction k with
  | zero => intro x h1 h2; omega
  | succ k ih =>
    intro x h1 h2
    rw [cnt] at h
    have hb := cnt_bd zs a k
    by_cases e : x = a + (k : Int)
    · subst e
      cases hc : court zs (a + (k : Int)) with
      | true => rw [hc] at h; simp at h; omega
      | false => rfl
    · refine ih ?_ x h1 (by omega)
      split at h <;> omega
/-- the number of court days in a .. b - 1 -/
def count (zs : List Int) (a b : Int) : Int := cnt zs a (b - a).toNat
theorem count_none {zs : List Int} {a b : Int} (h : b ≤ a) : count zs a b = 0 := by unfold count; rw [show (b - a).toNat = 0 by omega]; rfl
theorem count_snoc {zs : List Int} {a b : Int} (h : a ≤ b) : count zs a (b + 1) = count zs a b + (if court zs b = true then 1 else 0) := by
  unfold count
  rw [show (b + 1 - a).toNat = (b - a).toNat + 1 by omega, cnt, show a + (((b - a).toNat : Nat) : Int) = b by omega]
theorem count_add {zs : List Int} {a b c : Int} (h : a ≤ b) (h' : b ≤ c) : count zs a c = count zs a b + count zs b c := by
  unfold count
  rw [show (c - a).toNat = (b - a).toNat + (c - b).toNat by omega, cnt_add, show a + (((b - a).toNat : Nat) : Int) = b by omega]
theorem count_bd (zs : List Int) (a b : Int) : 0 ≤ count zs a b ∧ (a ≤ b → count zs a b ≤ b - a) := by
  have := cnt_bd zs a (b - a).toNat
  unfold count; exact ⟨this.1, fun h => by omega⟩
theorem count_zero {zs : List Int} {a b : Int} (h : count zs a b = 0) : ∀ x, a ≤ x → x < b → court zs x = false := fun x h1 h2 => cnt_zero (k := (b - a).toNat) h x h1 (by omega)
theorem count_free {zs : List Int} {a b : Int} (h : ∀ x, a ≤ x → x < b → court zs x = false) : count zs a b = 0 := cnt_none fun x h1 h2 => h x h1 (by omega)
theorem count_next {zs : List Int} {d r : Int} (h : IsNext zs d r) : count zs d r = 0 := count_free h.2.2

/-- r is the n-th court day behind d -/
def IsAdd (zs : List Int) (d : Int) (n : Nat) (r : Int) : Prop := (n = 0 ∧ r = d) ∨ (0 < n ∧ d < r ∧ court zs r = true ∧ count zs (d + 1) r = (n : Int) - 1)
theorem isAdd_le {zs : List Int} {d r : Int} {n : Nat} (h : IsAdd zs d n r) : d ≤ r := by rcases h with ⟨_, rfl⟩ | ⟨_, h, _⟩ <;> omega
theorem isAdd_zero (zs : List Int) (d : Int) : IsAdd zs d 0 d := .inl ⟨rfl, rfl⟩
theorem isAdd_step {zs : List Int} {d r s : Int} {n : Nat} (h : IsAdd zs d n r) (hn : IsNext zs (r + 1) s) : IsAdd zs d (n + 1) s := by
  have h1 := hn.1
  have h2 := isAdd_le h
  refine .inr ⟨by omega, by omega, hn.2.1, ?_⟩
  rcases h with ⟨rfl, rfl⟩ | ⟨h3, h4, h5, h6⟩
  · rw [count_next hn]; rfl
  · rw [count_add (b := r) (by omega) (by omega), h6, count_add (b := r + 1) (by omega) h1, count_next hn, count_snoc (Int.le_refl r), count_none (Int.le_refl r), if_pos h5]
    omega
theorem isAdd_inj {zs : List Int} {d r s : Int} {n : Nat} (h : IsAdd zs d n r) (h' : IsAdd zs d n s) : r = s := by
  rcases h with ⟨h1, h2⟩ | ⟨h1, h2, h3, h4⟩
  · rcases h' with ⟨_, h5⟩ | ⟨h5, _⟩
    · rw [h2, h5]
    · omega
  · rcases h' with ⟨h5, _⟩ | ⟨_, h5, h6, h7⟩
    · omega
    · rcases Int.lt_trichotomy r s with c | c | c
      · exfalso
        have e := count_add (zs := zs) (a := d + 1) (b := r) (c := s) (by omega) (by omega)
        have e2 := count_add (zs := zs) (a := r) (b := r + 1) (c := s) (by omega) (by omega)
        rw [count_snoc (Int.le_refl r), count_none (Int.le_refl r), if_pos h3] at e2
        have := (count_bd zs (r + 1) s).1
        omega
      · exact c
      · exfalso
        have e := count_add (zs := zs) (a := d + 1) (b := s) (c := r) (by omega) (by omega)
        have e2 := count_add (zs := zs) (a := s) (b := s + 1) (c := r) (by omega) (by omega)
        rw [count_snoc (Int.le_refl s), count_none (Int.le_refl s), if_pos h6] at e2
        have := (count_bd zs (s + 1) r).1
        omega

/-- r is the last court day that is not behind d -/
def IsLast (zs : List Int) (d r : Int) : Prop := 0 ≤ r ∧ r ≤ d ∧ court zs r = true ∧ ∀ x, r < x → x ≤ d → court zs x = false
theorem isLast_inj {zs : List Int} {d r r' : Int} (h : IsLast zs d r) (h' : IsLast zs d r') : r = r' := by
  rcases Int.lt_trichotomy r r' with c | c | c
  · have := h.2.2.2 r' c h'.2.1; rw [h'.2.2.1] at this; cases this
  · exact c
  · have := h'.2.2.2 r c h.2.1; rw [h.2.2.1] at this; cases this

/-- the longest run of days in a .. d - 1 that are no court days begins with best and has most days; len: the run that ends with d - 1 -/
def BrkTo (zs : List Int) (a d len best most : Int) : Prop :=
  (0 ≤ len ∧ a ≤ d - len ∧ (∀ x, d - len ≤ x → x < d → court zs x = false) ∧ (d - len = a ∨ court zs (d - len - 1) = true)) ∧
  (0 ≤ most ∧ (0 < most → a ≤ best ∧ best + most ≤ d ∧ ∀ x, best ≤ x → x < best + most → court zs x = false)) ∧
  ∀ x n, 0 < n → a ≤ x → x + n ≤ d → (∀ y, x ≤ y → y < x + n → court zs y = false) → n ≤ most ∧ (n = most → best ≤ x)
/-- the longest break in a .. b -/
def IsBrk (zs : List Int) (a b best most : Int) : Prop :=
  0 < most ∧ a ≤ best ∧ best + most ≤ b + 1 ∧ (∀ x, best ≤ x → x < best + most → court zs x = false) ∧
  ∀ x n, 0 < n → a ≤ x → x + n ≤ b + 1 → (∀ y, x ≤ y → y < x + n → court zs y = false) → n ≤ most ∧ (n = most → best ≤ x)
theorem isBrk_inj {zs : List Int} {a b s n s' n' : Int} (h : IsBrk zs a b s n) (h' : IsBrk zs a b s' n') : s = s' ∧ n = n' := by
  have h1 := h.2.2.2.2 s' n' h'.1 h'.2.1 h'.2.2.1 h'.2.2.2.1
  have h2 := h'.2.2.2.2 s n h.1 h.2.1 h.2.2.1 h.2.2.2.1
  have e : n = n' := by omega
  have := h1.2 e.symm; have := h2.2 e
  exact ⟨by omega, e⟩
theorem brk_start (zs : List Int) (a best : Int) : BrkTo zs a a 0 best 0 :=
  ⟨⟨by omega, by omega, fun x h1 h2 => by omega, .inl (by omega)⟩, ⟨by omega, fun h => by omega⟩, fun x n h1 h2 h3 => by omega⟩
theorem brk_court {zs : List Int} {a d len best most : Int} (h : BrkTo zs a d len best most) (had : a ≤ d) (hc : court zs d = true) : BrkTo zs a (d + 1) 0 best most := by
  obtain ⟨_, ⟨h2, h3⟩, h4⟩ := h
  refine ⟨⟨by omega, by omega, fun x h5 h6 => by omega, .inr (by rw [show d + 1 - 0 - 1 = d by omega]; exact hc)⟩, ⟨h2, fun h5 => ?_⟩, fun x n h5 h6 h7 h8 => ?_⟩
  · have := h3 h5; exact ⟨this.1, by omega, this.2.2⟩
  · by_cases e : x + n = d + 1
    · have := h8 d (by omega) (by omega); rw [hc] at this; cases this
    · exact h4 x n h5 h6 (by omega) h8
/-- a run that ends with d is not longer than the one that is counted -/
theorem run_le {zs : List Int} {a d len x n : Int} (hl : d - len = a ∨ court zs (d - len - 1) = true) (hx : a ≤ x) (hn : x + n = d + 1) (hlen : 0 ≤ len) (h : ∀ y, x ≤ y → y < x + n → court zs y = false) : n ≤ len + 1 := by
  rcases hl with e | e
  · omega
  · by_cases c : n ≤ len + 1
    · exact c
    · have := h (d - len - 1) (by omega) (by omega); rw [e] at this; cases this
theorem brk_more {zs : List Int} {a d len best most : Int} (h : BrkTo zs a d len best most) (hc : court zs d = false) (hm : most < len + 1) : BrkTo zs a (d + 1) (len + 1) (d - (len + 1) + 1) (len + 1) := by
  obtain ⟨⟨h0, h1, hr, hl⟩, ⟨h2, h3⟩, h4⟩ := h
  have hrun : ∀ x, d - len ≤ x → x < d + 1 → court zs x = false := fun x h5 h6 => by
    by_cases e : x = d
    · rw [e]; exact hc
    · exact hr x h5 (by omega)
  refine ⟨⟨by omega, by omega, fun x h5 h6 => hrun x (by omega) h6, by rw [show d + 1 - (len + 1) = d - len by omega]; exact hl⟩, ⟨by omega, fun _ => ⟨by omega, by omega, fun x h5 h6 => hrun x (by omega) (by omega)⟩⟩, fun x n h5 h6 h7 h8 => ?_⟩
  by_cases e : x + n = d + 1
  · have := run_le hl h6 e h0 h8
    exact ⟨this, fun e2 => by omega⟩
  · have := (h4 x n h5 h6 (by omega) h8).1
    exact ⟨by omega, fun e2 => by omega⟩
theorem brk_same {zs : List Int} {a d len best most : Int} (h : BrkTo zs a d len best most) (hc : court zs d = false) (hm : len + 1 ≤ most) : BrkTo zs a (d + 1) (len + 1) best most := by
  obtain ⟨⟨h0, h1, hr, hl⟩, ⟨h2, h3⟩, h4⟩ := h
  have hrun : ∀ x, d - len ≤ x → x < d + 1 → court zs x = false := fun x h5 h6 => by
    by_cases e : x = d
    · rw [e]; exact hc
    · exact hr x h5 (by omega)
  have h3' := h3 (by omega)
  refine ⟨⟨by omega, by omega, fun x h5 h6 => hrun x (by omega) h6, by rw [show d + 1 - (len + 1) = d - len by omega]; exact hl⟩, ⟨h2, fun _ => ⟨h3'.1, by omega, h3'.2.2⟩⟩, fun x n h5 h6 h7 h8 => ?_⟩
  by_cases e : x + n = d + 1
  · have := run_le hl h6 e h0 h8
    exact ⟨by omega, fun e2 => by omega⟩
  · exact h4 x n h5 h6 (by omega) h8
theorem brk_end {zs : List Int} {a b len best most : Int} (h : BrkTo zs a (b + 1) len best most) (hm : 0 < most) : IsBrk zs a b best most :=
  ⟨hm, (h.2.1.2 hm).1, (h.2.1.2 hm).2.1, (h.2.1.2 hm).2.2, h.2.2⟩
/-- no break at all: all days are court days -/
theorem brk_none {zs : List Int} {a b len best : Int} (h : BrkTo zs a (b + 1) len best 0) : ∀ x, a ≤ x → x ≤ b → court zs x = true := by
  intro x h1 h2
  cases hc : court zs x with
  | true => rfl
  | false =>
    have := (h.2.2 x 1 (by omega) h1 (by omega) (fun y h3 h4 => by rw [show y = x by omega]; exact hc)).1
    omega
theorem isBrk_no {zs : List Int} {a b best most : Int} (h : IsBrk zs a b best most) (hall : ∀ x, a ≤ x → x ≤ b → court zs x = true) : False := by
  obtain ⟨h1, h2, h3, h4, _⟩ := h
  have := h4 best (by omega) (by omega)
  rw [hall best h2 (by omega)] at this; cases this
/-- what stands at the ends of the longest break -/
theorem isBrk_ends {zs : List Int} {a b best most : Int} (h : IsBrk zs a b best most) : (a < best → court zs (best - 1) = true) ∧ (best + most ≤ b → court zs (best + most) = true) := by
  obtain ⟨h1, h2, h3, h4, h5⟩ := h
  refine ⟨fun hl => ?_, fun hr => ?_⟩
  · cases hc : court zs (best - 1) with
    | true => rfl
    | false =>
      have := (h5 (best - 1) (most + 1) (by omega) (by omega) (by omega) (fun y h6 h7 => by
        by_cases e : y = best - 1
        · rw [e]; exact hc
        · exact h4 y (by omega) (by omega))).1
      omega
  · cases hc : court zs (best + most) with
    | true => rfl
    | false =>
      have := (h5 best (most + 1) (by omega) (by omega) (by omega) (fun y h6 h7 => by
        by_cases e : y = best + most
        · rw [e]; exact hc
        · exact h4 y (by omega) (by omega))).1
      omega

end Go.Proofs.YtchffaohmeaccaaDoor.Pure20
/- Plain facts on persons (chapter 4): what a person and persons are, likeness, the most alike one, finding. No program is imported here. -/
namespace Go.Proofs.YtchffaohmeaccaaDoor.Pure40
open Go.RowKit Pure1

/-- a person: number, first and last name, year, zone -/
structure Pers where
  num : Int
  fst : ByteArray
  lst : ByteArray
  born : Int
  zone : Int

def inR (n a b : Int) : Bool := decide (a ≤ n) && decide (n ≤ b)
def isPers (p : Pers) : Bool := inR p.num 1 1000000 && (isWordL p.fst.data.toList && (isWordL p.lst.data.toList && (inR p.born 1900 2100 && inR p.zone 0 99)))
/-- the value of a person -/
def Pers.val (p : Pers) : Value := .agg #[.int .i64 p.num, .string p.fst, .string p.lst, .int .i64 p.born, .int .i64 p.zone]
/-- the values of its fields -/
def Pers.cells (p : Pers) : List Value := [.int .i64 p.num, .string p.fst, .string p.lst, .int .i64 p.born, .int .i64 p.zone]
/-- the names of a person are no longer than a text may be -/
def Pers.fits (p : Pers) : Prop := p.fst.size ≤ maxLen ∧ p.lst.size ≤ maxLen

theorem inR_iff {n a b : Int} : inR n a b = true ↔ a ≤ n ∧ n ≤ b := by simp [inR]
theorem inR_no {n a b : Int} : inR n a b = false ↔ n < a ∨ b < n := by rw [← Bool.not_eq_true, inR_iff]; omega

/-- A person lies at cell o of block b: five cells. -/
def AtP (w : World) (b o : Nat) (p : Pers) : Prop :=
  w.cell? ⟨b, o, none⟩ = some (.int .i64 p.num) ∧ w.cell? ⟨b, o + 1, none⟩ = some (.string p.fst) ∧ w.cell? ⟨b, o + 2, none⟩ = some (.string p.lst) ∧ w.cell? ⟨b, o + 3, none⟩ = some (.int .i64 p.born) ∧ w.cell? ⟨b, o + 4, none⟩ = some (.int .i64 p.zone)
/-- A person lies in block b, from its first cell on. -/
def AtB (w : World) (b : Nat) (p : Pers) : Prop :=
  w.cell? ⟨b, 0, none⟩ = some (.int .i64 p.num) ∧ w.cell? ⟨b, 1, none⟩ = some (.string p.fst) ∧ w.cell? ⟨b, 2, none⟩ = some (.string p.lst) ∧ w.cell? ⟨b, 3, none⟩ = some (.int .i64 p.born) ∧ w.cell? ⟨b, 4, none⟩ = some (.int .i64 p.zone)
theorem AtB.below {w w' : World} {b : Nat} {p : Pers} (h : AtB w b p) (hb : Below w.heap.size w w') : AtB w' b p :=
  ⟨cell_later hb h.1, cell_later hb h.2.1, cell_later hb h.2.2.1, cell_later hb h.2.2.2.1, cell_later hb h.2.2.2.2⟩
theorem atB_box (w : World) (n : Int) (f l : ByteArray) (b z : Int) (T : TypeId) : AtB (w.alloc (.cells #[.int .i64 n, .string f, .string l, .int .i64 b, .int .i64 z] T)) w.heap.size ⟨n, f, l, b, z⟩ := by
  have h : (w.alloc (.cells #[.int .i64 n, .string f, .string l, .int .i64 b, .int .i64 z] T)).heap[w.heap.size]? = some (.cells #[.int .i64 n, .string f, .string l, .int .i64 b, .int .i64 z] T) := heap_alloc_new w _
  refine ⟨?_, ?_, ?_, ?_, ?_⟩ <;> (unfold World.cell?; rw [h]; rfl)
theorem boxed (w : World) (o : Obj) : Below w.heap.size w (w.alloc o) := (Below.refl _ _).alloc (Nat.le_refl _) _
/-- The slice at address a reads, from its head on, the persons ps. -/
def PersAt (w : World) (a : Option Addr) (ps : List Pers) : Prop :=
  ps = [] ∨ ∃ b off, a = some ⟨b, off, none⟩ ∧ ∀ i p, ps[i]? = some p → AtP w b (off + i * 5) p

theorem AtP.below {w w' : World} {b o : Nat} {p : Pers} (h : AtP w b o p) (hb : Below w.heap.size w w') : AtP w' b o p :=
  ⟨cell_later hb h.1, cell_later hb h.2.1, cell_later hb h.2.2.1, cell_later hb h.2.2.2.1, cell_later hb h.2.2.2.2⟩
theorem AtP.lt {w : World} {b o : Nat} {p : Pers} (h : AtP w b o p) : b < w.heap.size := World.block_lt_of_cell? w _ h.1
theorem PersAt.below {w w' : World} {a : Option Addr} {ps : List Pers} (h : PersAt w a ps) (hb : Below w.heap.size w w') : PersAt w' a ps := by
  rcases h with rfl | ⟨b, off, rfl, hc⟩
  · exact .inl rfl
  · exact .inr ⟨b, off, rfl, fun i x hx => (hc i x hx).below hb⟩
theorem PersAt.at {w : World} {a : Option Addr} {ps : List Pers} (h : PersAt w a ps) {k len : Nat} (hl : ps.length = len) (hk : k < len) :
    ∃ b off p, a = some ⟨b, off, none⟩ ∧ AtP w b (off + k * 5) p ∧ ps[k]? = some p := by
  have hx : ps[k]? = some ps[k] := List.getElem?_eq_getElem (by omega)
  rcases h with rfl | ⟨b, off, rfl, hc⟩
  · simp at hl; omega
  · exact ⟨b, off, _, rfl, hc k _ hx, hx⟩
/-- the names of all persons are no longer than a text may be -/
def Fits (ps : List Pers) : Prop := ∀ p ∈ ps, p.fits
theorem Fits.at {ps : List Pers} (h : Fits ps) {k : Nat} {p : Pers} (hp : ps[k]? = some p) : p.fst.size ≤ maxLen ∧ p.lst.size ≤ maxLen := h p (List.mem_of_getElem? hp)

/-! the persons of a list, in order -/
def okAt (ps : List Pers) (i : Nat) : Bool :=
  match ps[i]? with
  | none => true
  | some p => isPers p && (match i with
    | 0 => true
    | j + 1 => (match ps[j]? with
      | none => true
      | some q => decide (q.num < p.num)))
/-- are they persons? -/
def arePers (ps : List Pers) : Bool := (List.range ps.length).all (okAt ps) && decide (ps.length ≤ 12)
theorem okAt_zero {ps : List Pers} {p : Pers} (h : ps[0]? = some p) : okAt ps 0 = isPers p := by simp [okAt, h]
theorem okAt_succ {ps : List Pers} {j : Nat} {p q : Pers} (h : ps[j + 1]? = some p) (h' : ps[j]? = some q) : okAt ps (j + 1) = (isPers p && decide (q.num < p.num)) := by simp [okAt, h, h']
theorem arePers_no {ps : List Pers} {k : Nat} (hk : k < ps.length) (h : okAt ps k = false) : arePers ps = false := by
  have : (List.range ps.length).all (okAt ps) = false := by
    rw [List.all_eq_false]; exact ⟨k, List.mem_range.2 hk, by simp [h]⟩
  rw [arePers, this, Bool.false_and]
theorem arePers_end {ps : List Pers} {k : Nat} (h : ∀ i, i < k → okAt ps i = true) (hk : ps.length ≤ k) : arePers ps = decide (ps.length ≤ 12) := by
  have : (List.range ps.length).all (okAt ps) = true := by
    rw [List.all_eq_true]; exact fun i hi => h i (by have := List.mem_range.1 hi; omega)
  rw [arePers, this, Bool.true_and]
theorem arePers_at {ps : List Pers} {k : Nat} {p : Pers} (h : arePers ps = true) (hp : ps[k]? = some p) : isPers p = true := by
  simp only [arePers, Bool.and_eq_true, List.all_eq_true] at h
  have hk : k < ps.length := (List.getElem?_eq_some_iff.1 hp).1
  have := h.1 k (List.mem_range.2 hk)
  simp only [okAt, hp, Bool.and_eq_true] at this
  exact this.1
theorem arePers_len {ps : List Pers} (h : arePers ps = true) : ps.length ≤ 12 := by
  simp only [arePers, Bool.and_eq_true, decide_eq_true_eq] at h; exact h.2

end Go.Proofs.YtchffaohmeaccaaDoor.Pure40
/- A struct of numbers: Summons. Where it lies, how an argument is opened. (written by flat.py) -/
namespace Go.Proofs.YtchffaohmeaccaaDoor
open Go.RowKit Go.ChangeShapes Go.WideShapes Go.Deep Pure2

structure Summons where
  num : Int
  sent : Int
  due : Int
  ans : Int
  done : Int
deriving DecidableEq
def Summons.cells (c : Summons) : List Value := [.int .i64 c.num, .int .i64 c.sent, .int .i64 c.due, .int .i64 c.ans, .int .i64 c.done]
/-- it lies at cell o of block b -/
def Summons.At (w : World) (b o : Nat) (c : Summons) : Prop := w.cell? ⟨b, o, none⟩ = some (.int .i64 c.num) ∧ w.cell? ⟨b, o + 1, none⟩ = some (.int .i64 c.sent) ∧ w.cell? ⟨b, o + 2, none⟩ = some (.int .i64 c.due) ∧ w.cell? ⟨b, o + 3, none⟩ = some (.int .i64 c.ans) ∧ w.cell? ⟨b, o + 4, none⟩ = some (.int .i64 c.done)
/-- .. from the block's first cell on -/
def Summons.Box (w : World) (b : Nat) (c : Summons) : Prop := w.cell? ⟨b, 0, none⟩ = some (.int .i64 c.num) ∧ w.cell? ⟨b, 1, none⟩ = some (.int .i64 c.sent) ∧ w.cell? ⟨b, 2, none⟩ = some (.int .i64 c.due) ∧ w.cell? ⟨b, 3, none⟩ = some (.int .i64 c.ans) ∧ w.cell? ⟨b, 4, none⟩ = some (.int .i64 c.done)
theorem Summons.At.below {w w' : World} {b o : Nat} {c : Summons} (h : Summons.At w b o c) (hb : Below w.heap.size w w') : Summons.At w' b o c :=
  ⟨cell_later hb h.1, cell_later hb h.2.1, cell_later hb h.2.2.1, cell_later hb h.2.2.2.1, cell_later hb h.2.2.2.2⟩
theorem Summons.Box.below {w w' : World} {b : Nat} {c : Summons} (h : Summons.Box w b c) (hb : Below w.heap.size w w') : Summons.Box w' b c :=
  ⟨cell_later hb h.1, cell_later hb h.2.1, cell_later hb h.2.2.1, cell_later hb h.2.2.2.1, cell_later hb h.2.2.2.2⟩
theorem Summons.At.grown {w w' : World} {b o q : Nat} {c : Summons} (h : Summons.At w b o c) (hg : w.grownBy w' (some q)) (hne : b ≠ q) : Summons.At w' b o c :=
  ⟨hg.cell h.1 (fun e => hne (Option.some.inj e)), hg.cell h.2.1 (fun e => hne (Option.some.inj e)), hg.cell h.2.2.1 (fun e => hne (Option.some.inj e)), hg.cell h.2.2.2.1 (fun e => hne (Option.some.inj e)), hg.cell h.2.2.2.2 (fun e => hne (Option.some.inj e))⟩
theorem Summons.Box.grown {w w' : World} {b q : Nat} {c : Summons} (h : Summons.Box w b c) (hg : w.grownBy w' (some q)) (hne : b ≠ q) : Summons.Box w' b c :=
  ⟨hg.cell h.1 (fun e => hne (Option.some.inj e)), hg.cell h.2.1 (fun e => hne (Option.some.inj e)), hg.cell h.2.2.1 (fun e => hne (Option.some.inj e)), hg.cell h.2.2.2.1 (fun e => hne (Option.some.inj e)), hg.cell h.2.2.2.2 (fun e => hne (Option.some.inj e))⟩
theorem Summons.Box.at {w : World} {b : Nat} {c : Summons} (h : Summons.Box w b c) : Summons.At w b 0 c := by
  unfold Summons.At; simp only [Nat.zero_add]; exact h
theorem Summons.At.box {w : World} {b : Nat} {c : Summons} (h : Summons.At w b 0 c) : Summons.Box w b c := by
  unfold Summons.At at h; simp only [Nat.zero_add] at h; exact h
theorem Summons.At.lt {w : World} {b o : Nat} {c : Summons} (h : Summons.At w b o c) : b < w.heap.size := World.block_lt_of_cell? w _ h.1
theorem Summons.boxed (w : World) (c : Summons) (T : TypeId) : Summons.Box (w.alloc (.cells #[.int .i64 c.num, .int .i64 c.sent, .int .i64 c.due, .int .i64 c.ans, .int .i64 c.done] T)) w.heap.size c := by
  have h : (w.alloc (.cells #[.int .i64 c.num, .int .i64 c.sent, .int .i64 c.due, .int .i64 c.ans, .int .i64 c.done] T)).heap[w.heap.size]? = some (.cells #[.int .i64 c.num, .int .i64 c.sent, .int .i64 c.due, .int .i64 c.ans, .int .i64 c.done] T) := heap_alloc_new w _
  refine ⟨?_, ?_, ?_, ?_, ?_⟩ <;> (unfold World.cell?; rw [h]; rfl)
/-- The slice at address a reads, from its head on, the list ts. -/
def Summons.ListAt (w : World) (a : Option Addr) (ts : List Summons) : Prop :=
  ts = [] ∨ ∃ b off, a = some ⟨b, off, none⟩ ∧ ∀ i c, ts[i]? = some c → Summons.At w b (off + i * 5) c
theorem Summons.ListAt.below {w w' : World} {a : Option Addr} {ts : List Summons} (h : Summons.ListAt w a ts) (hb : Below w.heap.size w w') : Summons.ListAt w' a ts := by
  rcases h with rfl | ⟨b, off, rfl, hc⟩
  · exact .inl rfl
  · exact .inr ⟨b, off, rfl, fun i x hx => (hc i x hx).below hb⟩
theorem Summons.ListAt.at {w : World} {a : Option Addr} {ts : List Summons} (h : Summons.ListAt w a ts) {n len : Nat} (hl : ts.length = len) (hn : n < len) :
    ∃ b off c, a = some ⟨b, off, none⟩ ∧ Summons.At w b (off + n * 5) c ∧ ts[n]? = some c := by
  have hx : ts[n]? = some ts[n] := List.getElem?_eq_getElem (by omega)
  rcases h with rfl | ⟨b, off, rfl, hc⟩
  · simp at hl; omega
  · exact ⟨b, off, _, rfl, hc n _ hx, hx⟩

/-- a type whose values are such structs -/
def Summons.Ty (P : Program) (T : TypeId) : Prop :=
  ∃ f0 f1 f2 f3 f4 : Field, P.underlying T = some (.struct #[f0, f1, f2, f3, f4]) ∧ P.cellsOf T = 5 ∧ f0.offset = 0 ∧ f1.offset = 1 ∧ f2.offset = 2 ∧ f3.offset = 3 ∧ f4.offset = 4 ∧ P.cellsOf f0.type = 1 ∧ P.cellsOf f1.type = 1 ∧ P.cellsOf f2.type = 1 ∧ P.cellsOf f3.type = 1 ∧ P.cellsOf f4.type = 1 ∧ P.underlying f0.type = some (.int .i64) ∧ P.underlying f1.type = some (.int .i64) ∧ P.underlying f2.type = some (.int .i64) ∧ P.underlying f3.type = some (.int .i64) ∧ P.underlying f4.type = some (.int .i64)
section
variable {H : Type} {enc : TypeId × Value → H} {P : Program} {w : World} {base : Nat} {spare : Nat → Bool} {held : Bool} {T : TypeId}
theorem Summons.of_trod (hT : Summons.Ty P T) {fuel : Nat} {cs : List Value} {x : DataW H × List MemPlace} (h : DataW.trod enc P w base spare held fuel T cs = some x) :
    ∃ c : Summons, cs = c.cells := by
  obtain ⟨f0, f1, f2, f3, f4, hs, hC, o0, o1, o2, o3, o4, c0, c1, c2, c3, c4, u0, u1, u2, u3, u4⟩ := hT
  obtain ⟨xs, n, _, _, hlen0, hlen, hg⟩ := DataW.trod_struct hs h
  rw [hC] at hlen0
  match cs, hlen0 with
  | [d0, d1, d2, d3, d4], _ =>
    match xs, hlen with
    | [y0, y1, y2, y3, y4], _ =>
      have h0 : DataW.trod enc P w base spare held n f0.type [d0] = some y0 := by simpa [o0, c0] using hg 0 f0 rfl
      have h1 : DataW.trod enc P w base spare held n f1.type [d1] = some y1 := by simpa [o1, c1] using hg 1 f1 rfl
      have h2 : DataW.trod enc P w base spare held n f2.type [d2] = some y2 := by simpa [o2, c2] using hg 2 f2 rfl
      have h3 : DataW.trod enc P w base spare held n f3.type [d3] = some y3 := by simpa [o3, c3] using hg 3 f3 rfl
      have h4 : DataW.trod enc P w base spare held n f4.type [d4] = some y4 := by simpa [o4, c4] using hg 4 f4 rfl
      obtain ⟨n0, e0, _⟩ := DataW.trod_int u0 h0
      obtain ⟨n1, e1, _⟩ := DataW.trod_int u1 h1
      obtain ⟨n2, e2, _⟩ := DataW.trod_int u2 h2
      obtain ⟨n3, e3, _⟩ := DataW.trod_int u3 h3
      obtain ⟨n4, e4, _⟩ := DataW.trod_int u4 h4
      cases e0; cases e1; cases e2; cases e3; cases e4
      exact ⟨⟨n0, n1, n2, n3, n4⟩, rfl⟩
/-- an argument that is such a struct -/
theorem Summons.open (hT : Summons.Ty P T) {r : Reach} {b0 : Nat} {v : Value} {d : DataW H} {ps : List MemPlace} (hv : Value.okWide P w r b0 T v) (h : DataW.Trod enc P w base spare held T v d ps) :
    ∃ c : Summons, v = .agg #[.int .i64 c.num, .int .i64 c.sent, .int .i64 c.due, .int .i64 c.ans, .int .i64 c.done] := by
  obtain ⟨f0, f1, f2, f3, f4, hs, _⟩ := id hT
  obtain ⟨cs, rfl, _⟩ := okWide_struct hs hv
  obtain ⟨fuel, hf⟩ := h
  obtain ⟨p, hp⟩ := Summons.of_trod hT hf
  refine ⟨p, ?_⟩
  obtain ⟨l⟩ := cs
  simp only [Value.cells] at hp
  subst hp
  rfl
/-- an argument that is a slice of such structs -/
theorem Summons.openS {S : TypeId} (hT : Summons.Ty P T) (hS : P.underlying S = some (.slice T)) {fuel : Nat} {a : Option Addr} {len cap : Nat} {x : DataW H × List MemPlace}
    (h : DataW.trod enc P w base spare held fuel S [.slice a len cap] = some x) : ∃ ps : List Summons, ps.length = len ∧ len ≤ maxLen ∧ Summons.ListAt w a ps := by
  obtain ⟨_, _, _, _, _, _, hC, _⟩ := id hT
  rcases open_slice hS h with ⟨hcs, _⟩ | ⟨x, l, c, m, n, D, Pl, hcs, _, hl, hm, hmm, _, hi⟩
  · simp at hcs
    obtain ⟨rfl, rfl, rfl⟩ := hcs
    exact ⟨[], rfl, by unfold maxLen; omega, .inl rfl⟩
  · simp at hcs
    obtain ⟨rfl, rfl, rfl⟩ := hcs
    have hlm : len ≤ m := by rw [hmm]; split <;> omega
    haveI : Inhabited Summons := ⟨⟨0, 0, 0, 0, 0⟩⟩
    obtain ⟨F, hF⟩ := choose_lt (n := len) (p := fun i (p : Summons) => w.cells? base (x.add (i * 5)) 5 = some p.cells) (fun i hi' => by
      obtain ⟨cs', hc, ht⟩ := hi i (by omega)
      obtain ⟨p, rfl⟩ := Summons.of_trod hT ht
      rw [hC] at hc
      exact ⟨p, hc⟩)
    refine ⟨(List.range len).map F, by simp, by omega, ?_⟩
    by_cases h0 : len = 0
    · exact .inl (by rw [h0]; rfl)
    · obtain ⟨b, off, spot⟩ := x
      have hspot : spot = none := by
        have := (World.cells?_some (hF 0 (by omega))).2.2 0 (by omega)
        simpa [Addr.add] using World.cell?_spot (this.trans (by rfl : _ = some (Value.int .i64 (F 0).num)))
      subst hspot
      refine .inr ⟨b, off, rfl, fun i p hp => ?_⟩
      obtain ⟨hi', hp'⟩ := List.getElem?_eq_some_iff.1 hp
      rw [List.length_map, List.length_range] at hi'
      simp at hp'
      subst hp'
      have hc := (World.cells?_some (hF i hi')).2.2
      have key : ∀ j, j < 5 → w.cell? ⟨b, off + i * 5 + j, none⟩ = (F i).cells[j]? := fun j hj => by
        have := hc j hj
        rw [add_add] at this
        by_cases hz : i * 5 + j = 0
        · rw [hz] at this
          rw [show off + i * 5 + j = off by omega]
          simpa [Addr.add] using this
        · unfold Addr.add at this
          rw [if_neg hz] at this
          rw [Nat.add_assoc]; exact this
      exact ⟨key 0 (by omega), key 1 (by omega), key 2 (by omega), key 3 (by omega), key 4 (by omega)⟩
end
theorem Tryd.tySummons : Summons.Ty Tryd.prog 72 :=
  ⟨_, _, _, _, _, Tryd.underlying72, by kernel_rfl, rfl, rfl, rfl, rfl, rfl, by kernel_rfl, by kernel_rfl, by kernel_rfl, by kernel_rfl, by kernel_rfl, by kernel_rfl, by kernel_rfl, by kernel_rfl, by kernel_rfl, by kernel_rfl⟩
end Go.Proofs.YtchffaohmeaccaaDoor
/- Plain facts on chapter 9: summonses, answers, reminders. -/
namespace Go.Proofs.YtchffaohmeaccaaDoor
open Pure2 Pure20 Pure40

def okAns (s : Summons) : Bool := if s.ans = 0 then decide (s.done = 0) else inR s.ans 1 3 && inR s.done s.sent 20000
def okM (s : Summons) : Bool := inR s.num 1 1000000 && (isDay s.sent && (inR s.due s.sent 20000 && okAns s))
/-- .. as the model asks it -/
theorem okM_spec (s : Summons) : okM s = (inR s.num 1 1000000 && (isDay s.sent && (inR s.due s.sent 20000 && (inR s.ans 0 3 && (if s.ans = 0 then decide (s.done = 0) else inR s.done s.sent 20000))))) := by
  have h : okAns s = (inR s.ans 0 3 && (if s.ans = 0 then decide (s.done = 0) else inR s.done s.sent 20000)) := by
    unfold okAns
    by_cases h0 : s.ans = 0
    · rw [if_pos h0, if_pos h0, h0]; rfl
    · rw [if_neg h0, if_neg h0]
      congr 1
      unfold inR
      by_cases h1 : 1 ≤ s.ans
      · rw [decide_eq_true h1, decide_eq_true (show 0 ≤ s.ans by omega)]
      · rw [decide_eq_false h1, decide_eq_false (show ¬ 0 ≤ s.ans by omega)]
  unfold okM; rw [h]
theorem okM_parts {s : Summons} (h : okM s = true) : (1 ≤ s.num ∧ s.num ≤ 1000000) ∧ (0 ≤ s.sent ∧ s.sent ≤ 20000) ∧ (s.sent ≤ s.due ∧ s.due ≤ 20000) ∧ ((s.ans = 0 ∧ s.done = 0) ∨ ((1 ≤ s.ans ∧ s.ans ≤ 3) ∧ s.sent ≤ s.done ∧ s.done ≤ 20000)) := by
  unfold okM at h
  simp only [Bool.and_eq_true, inR_iff, isDay_iff] at h
  refine ⟨h.1, h.2.1, h.2.2.1, ?_⟩
  have h2 := h.2.2.2
  unfold okAns at h2
  split at h2
  · rename_i h0
    exact .inl ⟨h0, by simpa using h2⟩
  · simp only [Bool.and_eq_true, inR_iff] at h2
    exact .inr h2
theorem okM_of {s : Summons} (h1 : 1 ≤ s.num ∧ s.num ≤ 1000000) (h2 : 0 ≤ s.sent ∧ s.sent ≤ 20000) (h3 : s.sent ≤ s.due ∧ s.due ≤ 20000) (h4 : (s.ans = 0 ∧ s.done = 0) ∨ ((1 ≤ s.ans ∧ s.ans ≤ 3) ∧ s.sent ≤ s.done ∧ s.done ≤ 20000)) : okM s = true := by
  unfold okM
  simp only [Bool.and_eq_true, inR_iff, isDay_iff]
  refine ⟨h1, h2, h3, ?_⟩
  unfold okAns
  rcases h4 with ⟨h5, h6⟩ | ⟨h5, h6⟩
  · rw [if_pos h5]; simpa using h6
  · rw [if_neg (by omega)]; simp only [Bool.and_eq_true, inR_iff]; exact ⟨h5, h6⟩

/-- the first n are summonses -/
def AreMo (ts : List Summons) (n : Nat) : Prop := ∀ (i : Nat) a, i < n → ts[i]? = some a → okM a = true ∧ ∀ b, 0 < i → ts[i - 1]? = some b → b.num < a.num
def AreM (ts : List Summons) : Prop := AreMo ts ts.length ∧ ts.length ≤ 20
noncomputable def areM (ts : List Summons) : Bool := @decide (AreM ts) (Classical.propDecidable _)
theorem areM_iff (ts : List Summons) : areM ts = true ↔ AreM ts := by unfold areM; exact @decide_eq_true_iff _ (Classical.propDecidable _)
theorem areM_no (ts : List Summons) : areM ts = false ↔ ¬ AreM ts := by rw [← Bool.not_eq_true, areM_iff]
theorem lt_of_getM {α : Type} {l : List α} {i : Nat} {a : α} (h : l[i]? = some a) : i < l.length := (List.getElem?_eq_some_iff.1 h).1
theorem areM_bad {ts : List Summons} {i : Nat} {a : Summons} (ha : ts[i]? = some a) (h : okM a = false) : areM ts = false :=
  (areM_no ts).2 fun hh => by have := (hh.1 i a (lt_of_getM ha) ha).1; rw [h] at this; cases this
theorem areM_turn {ts : List Summons} {i : Nat} {a b : Summons} (ha : ts[i + 1]? = some a) (hb : ts[i]? = some b) (h : ¬ b.num < a.num) : areM ts = false :=
  (areM_no ts).2 fun hh => h ((hh.1 (i + 1) a (lt_of_getM ha) ha).2 b (by omega) (by simpa using hb))
theorem areM_long {ts : List Summons} (h : 20 < ts.length) : areM ts = false := (areM_no ts).2 fun hh => by have := hh.2; omega
theorem areM_end {ts : List Summons} {n : Nat} (h : AreMo ts n) (hn : ts.length ≤ n) : areM ts = decide (ts.length ≤ 20) := by
  by_cases hl : ts.length ≤ 20
  · rw [decide_eq_true hl]; exact (areM_iff ts).2 ⟨fun i a hi ha => h i a (by omega) ha, hl⟩
  · rw [decide_eq_false hl]; exact areM_long (by omega)
theorem areMo_zero (ts : List Summons) : AreMo ts 0 := fun i a hi => by omega
theorem areMo_step {ts : List Summons} {n : Nat} {a : Summons} (h : AreMo ts n) (ha : ts[n]? = some a) (h1 : okM a = true) (h2 : ∀ b, 0 < n → ts[n - 1]? = some b → b.num < a.num) : AreMo ts (n + 1) := by
  intro i q hi hq
  by_cases e : i = n
  · subst e; rw [ha] at hq; cases hq; exact ⟨h1, h2⟩
  · exact h i q (by omega) hq
theorem areM_at {ts : List Summons} (h : areM ts = true) {i : Nat} {a : Summons} (ha : ts[i]? = some a) : okM a = true := (((areM_iff ts).1 h).1 i a (lt_of_getM ha) ha).1
theorem areM_len {ts : List Summons} (h : areM ts = true) : ts.length ≤ 20 := ((areM_iff ts).1 h).2
theorem areM_next {ts : List Summons} (h : areM ts = true) {i : Nat} {a b : Summons} (ha : ts[i]? = some a) (hb : ts[i + 1]? = some b) : a.num < b.num :=
  (((areM_iff ts).1 h).1 (i + 1) b (lt_of_getM hb) hb).2 a (by omega) (by simpa using ha)
theorem areM_lt {ts : List Summons} (h : areM ts = true) : ∀ (j i : Nat) {a b : Summons}, i < j → ts[i]? = some a → ts[j]? = some b → a.num < b.num := by
  intro j
  induction j with
  | zero => intro i a b hi; omega
  | succ j ih =>
    intro i a b hi ha hb
    have hj : ts[j]? = some (ts[j]'(by have := lt_of_getM hb; omega)) := List.getElem?_eq_getElem _
    have h1 := areM_next h hj hb
    by_cases e : i = j
    · subst e; rw [ha] at hj; cases hj; exact h1
    · have := ih i (by omega) ha hj; omega

/-- the place of a number -/
def AtPlace (ts : List Summons) (n : Int) (k : Nat) : Prop := k ≤ ts.length ∧ (∀ (i : Nat) s, i < k → ts[i]? = some s → s.num < n) ∧ (∀ s, ts[k]? = some s → ¬ s.num < n)
theorem atPlace_inj {ts : List Summons} {n : Int} {k k' : Nat} (h : AtPlace ts n k) (h' : AtPlace ts n k') : k = k' := by
  rcases Nat.lt_trichotomy k k' with c | c | c
  · have hk : ts[k]? = some (ts[k]'(by have := h'.1; omega)) := List.getElem?_eq_getElem _
    exact absurd (h'.2.1 k _ c hk) (h.2.2 _ hk)
  · exact c
  · have hk : ts[k']? = some (ts[k']'(by have := h.1; omega)) := List.getElem?_eq_getElem _
    exact absurd (h.2.1 k' _ c hk) (h'.2.2 _ hk)
noncomputable def placeM (ts : List Summons) (n : Int) : Nat := Classical.epsilon (AtPlace ts n)
theorem placeM_eq {ts : List Summons} {n : Int} {k : Nat} (h : AtPlace ts n k) : placeM ts n = k := atPlace_inj (Classical.epsilon_spec (p := AtPlace ts n) ⟨k, h⟩) h
theorem place_there (n : Int) : ∀ ts : List Summons, ∃ k, AtPlace ts n k
  | [] => ⟨0, Nat.le_refl _, fun i s hi => by omega, fun s h => by simp at h⟩
  | t :: ts => by
    by_cases h : t.num < n
    · obtain ⟨k, h1, h2, h3⟩ := place_there n ts
      refine ⟨k + 1, by simp; omega, fun i s hi hs => ?_, fun s hs => h3 s (by simpa using hs)⟩
      cases i with
      | zero => simp at hs; subst hs; exact h
      | succ i => exact h2 i s (by omega) (by simpa using hs)
    · exact ⟨0, Nat.zero_le _, fun i s hi => by omega, fun s hs => by simp at hs; subst hs; exact h⟩
theorem placeM_is (ts : List Summons) (n : Int) : AtPlace ts n (placeM ts n) := Classical.epsilon_spec (place_there n ts)
theorem placeM_le (ts : List Summons) (n : Int) : placeM ts n ≤ ts.length := (placeM_is ts n).1
theorem atPlace_zero (ts : List Summons) (n : Int) : (∀ (i : Nat) s, i < 0 → ts[i]? = some s → s.num < n) := fun i s hi => by omega
theorem below_next {ts : List Summons} {n : Int} {k : Nat} {s : Summons} (h : ∀ (i : Nat) s, i < k → ts[i]? = some s → s.num < n) (hs : ts[k]? = some s) (h' : s.num < n) : ∀ (i : Nat) s, i < k + 1 → ts[i]? = some s → s.num < n := by
  intro i x hi hx
  by_cases e : i = k
  · subst e; rw [hs] at hx; cases hx; exact h'
  · exact h i x (by omega) hx
/-- in summonses whoever has the number stands at its place -/
theorem place_found {ts : List Summons} (h : areM ts = true) {n : Int} {k : Nat} {s : Summons} (hs : ts[k]? = some s) (he : s.num = n) : placeM ts n = k :=
  placeM_eq ⟨Nat.le_of_lt (lt_of_getM hs), fun i x hi hx => by have := areM_lt h k i hi hx hs; omega, fun x hx => by rw [hs] at hx; cases hx; omega⟩
/-- who stands at the place, if it is they -/
noncomputable def whoM (ts : List Summons) (n : Int) : Option Summons := match ts[placeM ts n]? with | some s => if s.num = n then some s else none | none => none
theorem whoM_some {ts : List Summons} {n : Int} {s : Summons} (h : whoM ts n = some s) : ts[placeM ts n]? = some s ∧ s.num = n := by
  unfold whoM at h
  split at h
  · rename_i x hx
    split at h
    · rename_i he
      cases h; exact ⟨hx, he⟩
    · cases h
  · cases h
theorem whoM_yes {ts : List Summons} {n : Int} {s : Summons} (hs : ts[placeM ts n]? = some s) (he : s.num = n) : whoM ts n = some s := by unfold whoM; rw [hs]; exact if_pos he
theorem whoM_none {ts : List Summons} (h : areM ts = true) {n : Int} (hn : whoM ts n = none) {i : Nat} {s : Summons} (hs : ts[i]? = some s) : s.num ≠ n := by
  intro he
  have h1 := place_found h hs he
  rw [← h1] at hs
  rw [whoM_yes hs he] at hn; cases hn
theorem whoM_no {ts : List Summons} {n : Int} (h : ∀ (i : Nat) s, ts[i]? = some s → s.num ≠ n) : whoM ts n = none := by
  cases hw : whoM ts n with
  | none => rfl
  | some s => obtain ⟨h1, h2⟩ := whoM_some hw; exact absurd h2 (h _ _ h1)

/-- the codes -/
noncomputable def codeM (ts : List Summons) (d : Int) : Int := if areM ts = true then (if isDay d = true then 0 else 2) else 1
theorem codeM_0 {ts : List Summons} {d : Int} (h : areM ts = true) (h1 : isDay d = true) : codeM ts d = 0 := by rw [codeM, if_pos h, if_pos h1]
theorem codeM_1 {ts : List Summons} {d : Int} (h : areM ts = false) : codeM ts d = 1 := by rw [codeM, if_neg (by rw [h]; decide)]
theorem codeM_2 {ts : List Summons} {d : Int} (h : areM ts = true) (h1 : isDay d = false) : codeM ts d = 2 := by rw [codeM, if_pos h, if_neg (by rw [h1]; decide)]
theorem codeM_cases (ts : List Summons) (d : Int) : (codeM ts d = 0 ∧ areM ts = true ∧ (0 ≤ d ∧ d ≤ 20000)) ∨ codeM ts d = 1 ∨ codeM ts d = 2 := by
  cases h : areM ts
  · exact .inr (.inl (codeM_1 h))
  · cases h1 : isDay d
    · exact .inr (.inr (codeM_2 h h1))
    · exact .inl ⟨codeM_0 h h1, rfl, (isDay_iff d).1 h1⟩
theorem codeM_zero {ts : List Summons} {d : Int} (h : codeM ts d = 0) : areM ts = true ∧ (0 ≤ d ∧ d ≤ 20000) := by
  rcases codeM_cases ts d with ⟨_, h1, h2⟩ | h1 | h1
  · exact ⟨h1, h2⟩
  · rw [h] at h1; cases h1
  · rw [h] at h1; cases h1

/-- a further summons -/
noncomputable def insM (ts : List Summons) (x : Summons) : List Summons := ts.take (placeM ts x.num) ++ [x] ++ ts.drop (placeM ts x.num)
theorem insM_len (ts : List Summons) (x : Summons) : (insM ts x).length = ts.length + 1 := by
  have := placeM_le ts x.num
  simp [insM]; omega
theorem ins_at {α : Type} (ts : List α) (x : α) {p : Nat} (hp : p ≤ ts.length) (i : Nat) : (ts.take p ++ [x] ++ ts.drop p)[i]? = if i < p then ts[i]? else if i = p then some x else ts[i - 1]? := by
  have h0 : (ts.take p).length = p := by rw [List.length_take]; omega
  by_cases h1 : i < p
  · rw [if_pos h1, List.append_assoc, List.getElem?_append_left (by rw [h0]; exact h1), List.getElem?_take, if_pos h1]
  · rw [if_neg h1]
    by_cases h2 : i = p
    · rw [if_pos h2, List.getElem?_append_left (by rw [List.length_append, h0]; simp; omega), List.getElem?_append_right (by rw [h0]; omega), h0, h2, Nat.sub_self]; rfl
    · rw [if_neg h2, List.getElem?_append_right (by rw [List.length_append, h0]; simp; omega), List.length_append, h0, List.getElem?_drop]
      congr 1; simp; omega
theorem insM_at (ts : List Summons) (x : Summons) (i : Nat) : (insM ts x)[i]? = if i < placeM ts x.num then ts[i]? else if i = placeM ts x.num then some x else ts[i - 1]? := ins_at ts x (placeM_le ts x.num) i
/-- it is of summonses again exactly if nobody had the number and there was room -/
theorem insM_are {ts : List Summons} {x : Summons} (h : areM ts = true) (hx : okM x = true) (hw : whoM ts x.num = none) (hl : ts.length < 20) : areM (insM ts x) = true := by
  refine (areM_iff _).2 ⟨?_, by rw [insM_len]; omega⟩
  obtain ⟨p1, p2, p3⟩ := placeM_is ts x.num
  have hne := fun (i : Nat) s (hs : ts[i]? = some s) => whoM_none h hw hs
  intro i a hi ha
  rw [insM_at] at ha
  have hat := insM_at ts x
  generalize placeM ts x.num = p at ha p1 p2 p3 hat
  by_cases h1 : i < p
  · rw [if_pos h1] at ha
    refine ⟨areM_at h ha, fun b h0 hb => ?_⟩
    rw [hat, if_pos (by omega)] at hb
    exact areM_lt h i (i - 1) (by omega) hb ha
  · rw [if_neg h1] at ha
    by_cases h2 : i = p
    · rw [if_pos h2] at ha
      cases ha
      refine ⟨hx, fun b h0 hb => ?_⟩
      rw [hat, if_pos (by omega)] at hb
      exact p2 _ b (by omega) hb
    · rw [if_neg h2] at ha
      refine ⟨areM_at h ha, fun b h0 hb => ?_⟩
      rw [hat, if_neg (by omega)] at hb
      by_cases h3 : i - 1 = p
      · rw [if_pos h3] at hb
        cases hb
        rw [h3] at ha
        have := p3 a ha
        have := hne p a ha
        omega
      · rw [if_neg h3] at hb
        exact areM_lt h (i - 1) (i - 1 - 1) (by omega) hb ha
theorem insM_full {ts : List Summons} {x : Summons} (hl : 20 ≤ ts.length) : areM (insM ts x) = false := areM_long (by rw [insM_len]; omega)
theorem insM_twice {ts : List Summons} {x s : Summons} (hw : whoM ts x.num = some s) : areM (insM ts x) = false := by
  obtain ⟨h1, h2⟩ := whoM_some hw
  have hat := insM_at ts x
  generalize placeM ts x.num = p at h1 hat
  refine areM_turn (i := p) (a := s) (b := x) ?_ ?_ (by omega)
  · rw [hat, if_neg (by omega), if_neg (by omega)]; exact h1
  · rw [hat, if_neg (by omega), if_pos rfl]

/-- open, overdue, reminded -/
def openM (d : Int) (s : Summons) : Bool := decide (s.sent ≤ d) && (decide (s.ans = 0) || decide (d < s.done))
def overM (d : Int) (s : Summons) : Bool := openM d s && decide (s.due < d)
def remD (d : Int) (s : Summons) : Bool := decide (d = s.due + 1) || (decide (d = s.due + 15) || decide (d = s.due + 29))
def remM (d : Int) (s : Summons) : Bool := openM d s && remD d s
theorem remD_iff (d : Int) (s : Summons) : remD d s = true ↔ d = s.due + 1 ∨ d = s.due + 15 ∨ d = s.due + 29 := by simp [remD]
theorem remD_spec {d : Int} {s : Summons} (h : 0 ≤ d - s.due - 1) : remD d s = (decide ((d - s.due - 1) % 14 = 0) && decide ((d - s.due - 1) / 14 < 3)) := by
  rw [Bool.eq_iff_iff, remD_iff]
  simp only [Bool.and_eq_true, decide_eq_true_eq]
  omega
theorem remD_early {d : Int} {s : Summons} (h : ¬ 0 ≤ d - s.due - 1) : remD d s = false := by
  rw [← Bool.not_eq_true, remD_iff]; omega
/-- the numbers of those of whom something holds -/
def numsM (p : Summons → Bool) (ts : List Summons) : List Int := (ts.filter p).map Summons.num
def numsMo (p : Summons → Bool) (ts : List Summons) (k : Nat) : List Int := numsM p (ts.take k)
theorem numsMo_zero (p : Summons → Bool) (ts : List Summons) : numsMo p ts 0 = [] := rfl
theorem numsMo_yes {p : Summons → Bool} {ts : List Summons} {k : Nat} {s : Summons} (hs : ts[k]? = some s) (h : p s = true) : numsMo p ts (k + 1) = numsMo p ts k ++ [s.num] := by
  have hk := lt_of_getM hs
  have : ts[k] = s := Option.some.inj ((List.getElem?_eq_getElem hk).symm.trans hs)
  simp [numsMo, numsM, List.take_succ_eq_append_getElem hk, this, h, List.filter_append]
theorem numsMo_no {p : Summons → Bool} {ts : List Summons} {k : Nat} {s : Summons} (hs : ts[k]? = some s) (h : p s = false) : numsMo p ts (k + 1) = numsMo p ts k := by
  have hk := lt_of_getM hs
  have : ts[k] = s := Option.some.inj ((List.getElem?_eq_getElem hk).symm.trans hs)
  simp [numsMo, numsM, List.take_succ_eq_append_getElem hk, this, h, List.filter_append]
theorem numsMo_end {p : Summons → Bool} {ts : List Summons} {k : Nat} (h : ts.length ≤ k) : numsMo p ts k = numsM p ts := by unfold numsMo; rw [List.take_of_length_le h]
theorem numsMo_len (p : Summons → Bool) (ts : List Summons) (k : Nat) : (numsMo p ts k).length ≤ k := by
  unfold numsMo numsM
  rw [List.length_map]
  refine Nat.le_trans (List.length_filter_le _ _) ?_
  rw [List.length_take]; omega
theorem numsM_len (p : Summons → Bool) (ts : List Summons) : (numsM p ts).length ≤ ts.length := by
  unfold numsM; rw [List.length_map]; exact List.length_filter_le _ _
noncomputable def onR (p : Int → Summons → Bool) (ts : List Summons) (d : Int) : List Int × Int := if codeM ts d = 0 then (numsM (p d) ts, 0) else ([], codeM ts d)
theorem onR_ok {p : Int → Summons → Bool} {ts : List Summons} {d : Int} (h : codeM ts d = 0) : onR p ts d = (numsM (p d) ts, 0) := by unfold onR; rw [if_pos h]
theorem onR_bad {p : Int → Summons → Bool} {ts : List Summons} {d c : Int} (h : codeM ts d = c) (hc : c ≠ 0) : onR p ts d = ([], c) := by unfold onR; rw [if_neg (by omega), h]
theorem onR_small (p : Int → Summons → Bool) (ts : List Summons) (d : Int) : (onR p ts d).1.length ≤ 20 := by
  unfold onR
  split
  · rename_i h
    exact Nat.le_trans (numsM_len _ _) (areM_len (codeM_zero h).1)
  · exact Nat.zero_le _

/-- the answer as it was known on a day -/
def byM (d : Int) (s : Summons) : Int := if d < s.done then 0 else s.ans
theorem openM_by (d : Int) (s : Summons) : openM d s = (decide (s.sent ≤ d) && decide (byM d s = 0)) := by
  unfold openM byM
  congr 1
  by_cases h : d < s.done
  · rw [if_pos h, decide_eq_true h]; simp
  · rw [if_neg h, decide_eq_false h, Bool.or_false]
/-- how many were sent by a day and have the answer j, among the first k -/
def cntM (ts : List Summons) (d : Int) (k : Nat) (j : Int) : Int := ((ts.take k).filter (fun s => decide (s.sent ≤ d) && decide (byM d s = j))).length
theorem cntM_zero (ts : List Summons) (d j : Int) : cntM ts d 0 j = 0 := rfl
theorem cntM_step {ts : List Summons} {k : Nat} {s : Summons} (hs : ts[k]? = some s) (d j : Int) : cntM ts d (k + 1) j = cntM ts d k j + (if s.sent ≤ d ∧ byM d s = j then 1 else 0) := by
  have hk := lt_of_getM hs
  have : ts[k] = s := Option.some.inj ((List.getElem?_eq_getElem hk).symm.trans hs)
  unfold cntM
  rw [List.take_succ_eq_append_getElem hk, List.filter_append, List.length_append, this]
  by_cases h : s.sent ≤ d ∧ byM d s = j
  · rw [if_pos h, List.filter_cons_of_pos (by simp [h.1, h.2])]; simp
  · rw [if_neg h, List.filter_cons_of_neg (by simp; exact fun h1 h2 => h ⟨h1, h2⟩)]; simp
theorem cntM_bd (ts : List Summons) (d : Int) (k : Nat) (j : Int) : 0 ≤ cntM ts d k j ∧ cntM ts d k j ≤ k := by
  unfold cntM
  refine ⟨by omega, ?_⟩
  have := List.length_filter_le (fun s : Summons => decide (s.sent ≤ d) && decide (byM d s = j)) (ts.take k)
  rw [List.length_take] at this
  omega
noncomputable def countL (ts : List Summons) (d : Int) (k : Nat) : List Int := [cntM ts d k 0, cntM ts d k 1, cntM ts d k 2, cntM ts d k 3]
noncomputable def countR9 (ts : List Summons) (d : Int) : List Int × Int := if codeM ts d = 0 then (countL ts d ts.length, 0) else ([], codeM ts d)
theorem countR9_ok {ts : List Summons} {d : Int} (h : codeM ts d = 0) : countR9 ts d = (countL ts d ts.length, 0) := by unfold countR9; rw [if_pos h]
theorem countR9_bad {ts : List Summons} {d c : Int} (h : codeM ts d = c) (hc : c ≠ 0) : countR9 ts d = ([], c) := by unfold countR9; rw [if_neg (by omega), h]
theorem countR9_small (ts : List Summons) (d : Int) : (countR9 ts d).1.length ≤ 20 := by
  unfold countR9
  split
  · exact show 4 ≤ 20 by omega
  · exact Nat.zero_le _

/-- the next reminder -/
def anyRem (ts : List Summons) (n : Int) : Prop := ∃ (i : Nat) (s : Summons), ts[i]? = some s ∧ s.ans = 0 ∧ remD n s = true
def FirstRem (ts : List Summons) (d n : Int) : Prop := d < n ∧ n ≤ 20000 ∧ anyRem ts n ∧ ∀ x, d < x → x < n → ¬ anyRem ts x
theorem firstRem_inj {ts : List Summons} {d n n' : Int} (h : FirstRem ts d n) (h' : FirstRem ts d n') : n = n' := by
  rcases Int.lt_trichotomy n n' with c | c | c
  · exact absurd h.2.2.1 (h'.2.2.2 n h.1 c)
  · exact c
  · exact absurd h'.2.2.1 (h.2.2.2 n' h'.1 c)
noncomputable def remL (ts : List Summons) (d : Int) : Int × Int := @ite _ (∃ n, FirstRem ts d n) (Classical.propDecidable _) (Classical.epsilon (FirstRem ts d), 0) (0, 4)
theorem remL_some {ts : List Summons} {d n : Int} (h : FirstRem ts d n) : remL ts d = (n, 0) := by
  have he : ∃ n, FirstRem ts d n := ⟨n, h⟩
  rw [remL, if_pos he, firstRem_inj (Classical.epsilon_spec he) h]
theorem remL_none {ts : List Summons} {d : Int} (h : ¬ ∃ n, FirstRem ts d n) : remL ts d = (0, 4) := by rw [remL, if_neg h]
theorem remL_cases (ts : List Summons) (d : Int) : (∃ n, FirstRem ts d n ∧ remL ts d = (n, 0)) ∨ remL ts d = (0, 4) := by
  by_cases h : ∃ n, FirstRem ts d n
  · obtain ⟨n, h⟩ := h; exact .inl ⟨n, h, remL_some h⟩
  · exact .inr (remL_none h)
/-- .. the model's way: day after day -/
theorem remL_found {ts : List Summons} {d n : Int} (h0 : d < n) (h1 : n ≤ 20000) (hno : ∀ x, d < x → x < n → ¬ anyRem ts x) (h : anyRem ts n) : remL ts d = (n, 0) := remL_some ⟨h0, h1, h, hno⟩
theorem remL_end {ts : List Summons} {d n : Int} (h1 : 20000 < n) (hno : ∀ x, d < x → x < n → ¬ anyRem ts x) : remL ts d = (0, 4) :=
  remL_none fun ⟨y, hy⟩ => hno y hy.1 (by have := hy.2.1; omega) hy.2.2.1
theorem noRem_next {ts : List Summons} {d n : Int} (hno : ∀ x, d < x → x < n → ¬ anyRem ts x) (h : ¬ anyRem ts n) : ∀ x, d < x → x < n + 1 → ¬ anyRem ts x := by
  intro x h0 h1
  by_cases e : x = n
  · subst e; exact h
  · exact hno x h0 (by omega)
theorem anyRem_no {ts : List Summons} {n : Int} {k : Nat} (h : ∀ (i : Nat) s, i < k → ts[i]? = some s → s.ans = 0 → remD n s = false) (hk : ts.length ≤ k) : ¬ anyRem ts n := by
  rintro ⟨i, s, h1, h2, h3⟩
  rw [h i s (by have := lt_of_getM h1; omega) h1 h2] at h3; cases h3
/-- .. the program's way: the least of all reminders behind the day, or 20001 -/
def MinRem (ts : List Summons) (d : Int) (k j : Nat) (m : Int) : Prop :=
  m ≤ 20001 ∧ (m = 20001 ∨ (d < m ∧ anyRem ts m)) ∧
  (∀ (i : Nat) s n, i < k → ts[i]? = some s → s.ans = 0 → remD n s = true → d < n → m ≤ n) ∧
  (∀ s, ts[k]? = some s → s.ans = 0 → ∀ q : Nat, q < j → d < s.due + 1 + q * 14 → m ≤ s.due + 1 + q * 14)
theorem minRem_zero (ts : List Summons) (d : Int) : MinRem ts d 0 0 20001 := ⟨by omega, .inl rfl, fun i s n hi => by omega, fun s _ _ q hq => by omega⟩
theorem minRem_skip {ts : List Summons} {d m : Int} {k j : Nat} (h : MinRem ts d k j m) {s : Summons} (hs : ts[k]? = some s) (hno : ¬ (s.ans = 0 ∧ d < s.due + 1 + j * 14)) : MinRem ts d k (j + 1) m := by
  obtain ⟨h1, h2, h3, h4⟩ := h
  refine ⟨h1, h2, h3, fun x hx h0 q hq hd => ?_⟩
  rw [hs] at hx; cases hx
  by_cases e : q = j
  · subst e; exact absurd ⟨h0, hd⟩ hno
  · exact h4 s hs h0 q (by omega) hd
theorem minRem_take {ts : List Summons} {d m : Int} {k j : Nat} (h : MinRem ts d k j m) {s : Summons} (hs : ts[k]? = some s) (hj : j < 3) (h0 : s.ans = 0) (hd : d < s.due + 1 + j * 14) : MinRem ts d k (j + 1) (min m (s.due + 1 + j * 14)) := by
  obtain ⟨h1, h2, h3, h4⟩ := h
  refine ⟨by omega, ?_, fun i x n hi hx h5 h6 h7 => by have := h3 i x n hi hx h5 h6 h7; omega, fun x hx h0 q hq hd => ?_⟩
  · by_cases c : m ≤ s.due + 1 + j * 14
    · rw [Int.min_eq_left c]; exact h2
    · rw [Int.min_eq_right (by omega)]
      refine .inr ⟨hd, k, s, hs, h0, ?_⟩
      rw [remD_iff]
      omega
  · rw [hs] at hx; cases hx
    by_cases e : q = j
    · subst e; omega
    · have := h4 s hs h0 q (by omega) hd; omega
theorem minRem_next {ts : List Summons} {d m : Int} {k : Nat} (h : MinRem ts d k 3 m) : MinRem ts d (k + 1) 0 m := by
  obtain ⟨h1, h2, h3, h4⟩ := h
  refine ⟨h1, h2, fun i s n hi hs h0 hr hd => ?_, fun s _ _ q hq => by omega⟩
  by_cases e : i = k
  · subst e
    rcases (remD_iff n s).1 hr with rfl | rfl | rfl
    · have := h4 s hs h0 0 (by omega) (by simpa using hd); simpa using this
    · have := h4 s hs h0 1 (by omega) (by simp; omega); simp at this; omega
    · have := h4 s hs h0 2 (by omega) (by simp; omega); simp at this; omega
  · exact h3 i s n (by omega) hs h0 hr hd
theorem minRem_end {ts : List Summons} {d m : Int} {k : Nat} (h : MinRem ts d k 0 m) (hk : ts.length ≤ k) : remL ts d = if 20000 < m then (0, 4) else (m, 0) := by
  obtain ⟨h1, h2, h3, _⟩ := h
  have hall : ∀ x, d < x → x < m → ¬ anyRem ts x := by
    rintro x hx hm ⟨i, s, hs, h0, hr⟩
    have := h3 i s x (by have := lt_of_getM hs; omega) hs h0 hr hx
    omega
  by_cases c : 20000 < m
  · rw [if_pos c]; exact remL_end c hall
  · rw [if_neg c]
    rcases h2 with e | ⟨h5, h6⟩
    · omega
    · exact remL_found h5 (by omega) hall h6
noncomputable def nextR9 (ts : List Summons) (d : Int) : Int × Int := if codeM ts d = 0 then remL ts d else (0, codeM ts d)
theorem nextR9_ok {ts : List Summons} {d : Int} (h : codeM ts d = 0) : nextR9 ts d = remL ts d := by unfold nextR9; rw [if_pos h]
theorem nextR9_bad {ts : List Summons} {d c : Int} (h : codeM ts d = c) (hc : c ≠ 0) : nextR9 ts d = (0, c) := by unfold nextR9; rw [if_neg (by omega), h]

/-- an answer -/
noncomputable def codeA (ts : List Summons) (a d : Int) : Int := if areM ts = true then (if isDay d = true ∧ inR a 1 3 = true then 0 else 2) else 1
theorem codeA_0 {ts : List Summons} {a d : Int} (h : areM ts = true) (h1 : isDay d = true) (h2 : inR a 1 3 = true) : codeA ts a d = 0 := by rw [codeA, if_pos h, if_pos ⟨h1, h2⟩]
theorem codeA_1 {ts : List Summons} {a d : Int} (h : areM ts = false) : codeA ts a d = 1 := by rw [codeA, if_neg (by rw [h]; decide)]
theorem codeA_2 {ts : List Summons} {a d : Int} (h : areM ts = true) (h1 : ¬ (isDay d = true ∧ inR a 1 3 = true)) : codeA ts a d = 2 := by rw [codeA, if_pos h, if_neg h1]
theorem codeA_cases (ts : List Summons) (a d : Int) : (codeA ts a d = 0 ∧ areM ts = true ∧ (0 ≤ d ∧ d ≤ 20000) ∧ 1 ≤ a ∧ a ≤ 3) ∨ codeA ts a d = 1 ∨ codeA ts a d = 2 := by
  cases h : areM ts
  · exact .inr (.inl (codeA_1 h))
  · by_cases h1 : isDay d = true ∧ inR a 1 3 = true
    · exact .inl ⟨codeA_0 h h1.1 h1.2, rfl, (isDay_iff d).1 h1.1, inR_iff.1 h1.2⟩
    · exact .inr (.inr (codeA_2 h h1))
def answered (s : Summons) (a d : Int) : Summons := ⟨s.num, s.sent, s.due, a, d⟩
noncomputable def ansL (ts : List Summons) (n a d : Int) : List Summons × Int :=
  match whoM ts n with
  | some s => if s.ans = 0 ∧ s.sent ≤ d then (ts.set (placeM ts n) (answered s a d), 0) else ([], 5)
  | none => ([], 4)
noncomputable def ansR9 (ts : List Summons) (n a d : Int) : List Summons × Int := if codeA ts a d = 0 then ansL ts n a d else ([], codeA ts a d)
theorem ansR9_ok {ts : List Summons} {n a d : Int} (h : codeA ts a d = 0) : ansR9 ts n a d = ansL ts n a d := by unfold ansR9; rw [if_pos h]
theorem ansR9_bad {ts : List Summons} {n a d c : Int} (h : codeA ts a d = c) (hc : c ≠ 0) : ansR9 ts n a d = ([], c) := by unfold ansR9; rw [if_neg (by omega), h]
theorem ansL_none {ts : List Summons} {n a d : Int} (h : whoM ts n = none) : ansL ts n a d = ([], 4) := by unfold ansL; rw [h]
theorem ansL_state {ts : List Summons} {n a d : Int} {s : Summons} (h : whoM ts n = some s) (hs : ¬ (s.ans = 0 ∧ s.sent ≤ d)) : ansL ts n a d = ([], 5) := by unfold ansL; rw [h]; exact if_neg hs
theorem ansL_yes {ts : List Summons} {n a d : Int} {s : Summons} (h : whoM ts n = some s) (hs : s.ans = 0 ∧ s.sent ≤ d) : ansL ts n a d = (ts.set (placeM ts n) (answered s a d), 0) := by unfold ansL; rw [h]; exact if_pos hs
theorem ansL_cases (ts : List Summons) (n a d : Int) : (∃ s, whoM ts n = some s ∧ s.ans = 0 ∧ s.sent ≤ d ∧ ansL ts n a d = (ts.set (placeM ts n) (answered s a d), 0)) ∨ ansL ts n a d = ([], 4) ∨ ansL ts n a d = ([], 5) := by
  cases h : whoM ts n with
  | none => exact .inr (.inl (ansL_none h))
  | some s =>
    by_cases hs : s.ans = 0 ∧ s.sent ≤ d
    · exact .inl ⟨s, rfl, hs.1, hs.2, ansL_yes h hs⟩
    · exact .inr (.inr (ansL_state h hs))
theorem ansR9_small (ts : List Summons) (n a d : Int) : (ansR9 ts n a d).1.length ≤ 20 := by
  rcases codeA_cases ts a d with ⟨h, ha, _⟩ | h | h
  · rw [ansR9_ok h]
    rcases ansL_cases ts n a d with ⟨s, _, _, _, e⟩ | e | e
    · rw [e]; simp; exact areM_len ha
    · rw [e]; exact Nat.zero_le _
    · rw [e]; exact Nat.zero_le _
  · rw [ansR9_bad h (by omega)]; exact Nat.zero_le _
  · rw [ansR9_bad h (by omega)]; exact Nat.zero_le _
end Go.Proofs.YtchffaohmeaccaaDoor
