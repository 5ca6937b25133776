/- Merged: the texts Pure2 Pure1 Pure3 Base Pure6 Pure20 Pure21 Pure40 PureIns CallA, in their order. -/
import Derived.WalkKit
import Derived.WalkSpells
import Derived.WalkLawsBesides
import Derived.Lib.Join
import Derived.Lib.Hide
import Derived.Deep.OwnRows
import Derived.Lib.SlicesCompact
import Derived.Test.YtekhdggaelppkaaChecked
import Derived.ProofKit
import Derived.OpenShut
import Derived.ChangeOld
import Derived.Deep.Slices
/- Plain facts on lists of numbers for chapter 1: values, the error of a list, its sum; and what it means that a slice of int64 reads as a list. No program is imported here. -/
namespace Go.Proofs.Ytekhdggaelppkaa.Pure2
open Go.RowKit

/-- a value: an integer in -10^12 .. 10^12 -/
def isVal (n : Int) : Bool := decide (-1000000000000 ≤ n) && decide (n ≤ 1000000000000)
theorem isVal_iff (n : Int) : isVal n = true ↔ -1000000000000 ≤ n ∧ n ≤ 1000000000000 := by simp [isVal]
theorem isVal_no (n : Int) : isVal n = false ↔ n < -1000000000000 ∨ 1000000000000 < n := by
  rw [← Bool.not_eq_true, isVal_iff]; omega
/-- the first error of a list of numbers: 2 (range), 3 (limit), 0 (none) -/
def listErr (zs : List Int) : Int := if zs.all isVal = true then (if zs.length ≤ 60 then 0 else 3) else 2
def lsum : List Int → Int
  | [] => 0
  | x :: r => x + lsum r
def sumOf (zs : List Int) : Int × Int := if listErr zs = 0 then (if isVal (lsum zs) = true then (lsum zs, 0) else (0, 3)) else (0, listErr zs)

theorem listErr_zero {zs : List Int} (h : zs.all isVal = true) (h' : zs.length ≤ 60) : listErr zs = 0 := by rw [listErr, if_pos h, if_pos h']
theorem listErr_long {zs : List Int} (h : zs.all isVal = true) (h' : ¬ zs.length ≤ 60) : listErr zs = 3 := by rw [listErr, if_pos h, if_neg h']
theorem listErr_range {zs : List Int} (h : ¬ zs.all isVal = true) : listErr zs = 2 := by rw [listErr, if_neg h]
theorem listErr_cases (zs : List Int) : (listErr zs = 0 ∧ zs.all isVal = true ∧ zs.length ≤ 60) ∨ listErr zs = 2 ∨ listErr zs = 3 := by
  unfold listErr; split
  · split
    · exact .inl ⟨rfl, by assumption, by assumption⟩
    · exact .inr (.inr rfl)
  · exact .inr (.inl rfl)
theorem lsum_append (a b : List Int) : lsum (a ++ b) = lsum a + lsum b := by
  induction a with
  | nil => simp [lsum]
  | cons x r ih => simp [lsum, ih]; omega
theorem lsum_snoc (a : List Int) (x : Int) : lsum (a ++ [x]) = lsum a + x := by rw [lsum_append]; simp [lsum]
theorem all_of_snoc {a : List Int} {x : Int} (h : a.all isVal = true) (hx : isVal x = true) : (a ++ [x]).all isVal = true := by
  rw [List.all_append, h]; simp [hx]
theorem lsum_reverse (a : List Int) : lsum a.reverse = lsum a := by
  induction a with
  | nil => rfl
  | cons x r ih => rw [List.reverse_cons, lsum_snoc, ih]; simp only [lsum]; omega
theorem sumOf_reverse (a : List Int) : sumOf a.reverse = sumOf a := by
  have h : listErr a.reverse = listErr a := by simp only [listErr, List.all_reverse, List.length_reverse]
  simp only [sumOf, h, lsum_reverse]
theorem rev_step {zs : List Int} {m : Nat} {x : Int} (hx : zs[m]? = some x) : (zs.drop (m + 1)).reverse ++ [x] = (zs.drop m).reverse := by
  obtain ⟨hm, rfl⟩ := List.getElem?_eq_some_iff.1 hx
  rw [List.drop_eq_getElem_cons hm, List.reverse_cons]
theorem lsum_bd {zs : List Int} (h : zs.all isVal = true) : -(1000000000000 * (zs.length : Int)) ≤ lsum zs ∧ lsum zs ≤ 1000000000000 * (zs.length : Int) := by
  induction zs with
  | nil => simp [lsum]
  | cons x r ih =>
    simp only [List.all_cons, Bool.and_eq_true] at h
    have h1 := (isVal_iff x).1 h.1
    have h2 := ih h.2
    simp only [lsum, List.length_cons]; omega
theorem all_take {zs : List Int} (k : Nat) (h : zs.all isVal = true) : (zs.take k).all isVal = true := by
  rw [List.all_eq_true] at h ⊢; exact fun x hx => h x (List.mem_of_mem_take hx)
theorem lsum_take_bd {zs : List Int} (k : Nat) (h : zs.all isVal = true) (h' : zs.length ≤ 60) : -60000000000000 ≤ lsum (zs.take k) ∧ lsum (zs.take k) ≤ 60000000000000 := by
  have h1 := lsum_bd (all_take k h)
  have h2 : (zs.take k).length ≤ 60 := by have := List.length_take_le k zs; rw [List.length_take]; omega
  omega
theorem all_no {zs : List Int} {k : Nat} {x : Int} (hx : zs[k]? = some x) (h : isVal x = false) : ¬ zs.all isVal = true := by
  intro hh; rw [List.all_eq_true] at hh
  have := hh x (List.mem_of_getElem? hx); rw [h] at this; cases this
theorem isVal_of_all {zs : List Int} {k : Nat} {x : Int} (hx : zs[k]? = some x) (h : zs.all isVal = true) : isVal x = true := by
  rw [List.all_eq_true] at h; exact h x (List.mem_of_getElem? hx)

/-- The slice at address a reads, from its head on, the numbers zs (int64). -/
def IntsAt (w : World) (a : Option Addr) (zs : List Int) : Prop :=
  zs = [] ∨ ∃ b off, a = some ⟨b, off, none⟩ ∧ ∀ i x, zs[i]? = some x → w.cell? ⟨b, off + i, none⟩ = some (.int .i64 x)

theorem IntsAt.at {w : World} {a : Option Addr} {zs : List Int} (h : IntsAt w a zs) {k len : Nat} (hl : zs.length = len) (hk : k < len) :
    ∃ b off x, a = some ⟨b, off, none⟩ ∧ w.cell? ⟨b, off + k, none⟩ = some (.int .i64 x) ∧ zs.take (k + 1) = zs.take k ++ [x] ∧ zs[k]? = some x := by
  have hx : zs[k]? = some zs[k] := List.getElem?_eq_getElem (by omega)
  rcases h with rfl | ⟨b, off, rfl, hc⟩
  · simp at hl; omega
  · exact ⟨b, off, _, rfl, hc k _ hx, by rw [List.take_succ_eq_append_getElem], hx⟩

theorem IntsAt.below {w w' : World} {a : Option Addr} {zs : List Int} (h : IntsAt w a zs) (hb : Below w.heap.size w w') : IntsAt w' a zs := by
  rcases h with rfl | ⟨b, off, rfl, hc⟩
  · exact .inl rfl
  · by_cases hz : zs = []
    · exact .inl hz
    · refine .inr ⟨b, off, rfl, fun i x hx => ?_⟩
      exact cell_later hb (hc i x hx)

end Go.Proofs.Ytekhdggaelppkaa.Pure2
/- Plain facts on lists and numbers for chapter 1: words. No program is imported here. -/
namespace Go.Proofs.Ytekhdggaelppkaa.Pure1

/-- a byte that is a letter a to z -/
def letter (c : UInt8) : Bool := decide (97 ≤ (c.toNat : Int)) && decide ((c.toNat : Int) ≤ 122)
/-- a word: 1 to 16 letters -/
def isWordL (l : List UInt8) : Bool := decide (1 ≤ l.length) && (decide (l.length ≤ 16) && l.all letter)

theorem take_snoc (s : ByteArray) (k : Nat) (h : k < s.size) : s.data.toList.take (k + 1) = s.data.toList.take k ++ [s[k]] := by
  rw [List.take_succ_eq_append_getElem (by simpa using h)]; rfl
theorem all_snoc (s : ByteArray) (k : Nat) (h : k < s.size) (hp : (s.data.toList.take k).all letter = true) (hl : letter s[k] = true) :
    (s.data.toList.take (k + 1)).all letter = true := by
  rw [take_snoc s k h, List.all_append, hp]; simp [hl]
theorem all_no (s : ByteArray) (k : Nat) (h : k < s.size) (hl : letter s[k] = false) : s.data.toList.all letter = false := by
  rw [List.all_eq_false]
  exact ⟨s[k], by simp [ByteArray.getElem_eq_getElem_data], by simp [hl]⟩
theorem isWordL_of_not_all {l : List UInt8} (h : l.all letter = false) : isWordL l = false := by
  simp only [isWordL, h, Bool.and_false]
theorem isWordL_of_all {l : List UInt8} (h : l.all letter = true) : isWordL l = (decide (1 ≤ l.length) && decide (l.length ≤ 16)) := by
  simp only [isWordL, h, Bool.and_true]
theorem isWordL_short {l : List UInt8} (h : l.length < 1) : isWordL l = false := by
  rw [isWordL, decide_eq_false (by omega)]; rfl
theorem isWordL_long {l : List UInt8} (h : 16 < l.length) : isWordL l = false := by
  rw [isWordL, decide_eq_false (p := l.length ≤ 16) (by omega), Bool.false_and, Bool.and_false]
theorem letter_iff (c : UInt8) : letter c = true ↔ 97 ≤ (c.toNat : Int) ∧ (c.toNat : Int) ≤ 122 := by
  simp [letter]
theorem letter_lo {c : UInt8} (h : (c.toNat : Int) < 97) : letter c = false := by
  simp [letter]; omega
theorem letter_hi {c : UInt8} (h : 122 < (c.toNat : Int)) : letter c = false := by
  simp [letter]; omega
theorem letter_in {c : UInt8} (h : 97 ≤ (c.toNat : Int)) (h' : (c.toNat : Int) ≤ 122) : letter c = true := by
  simp [letter]; omega
theorem size_eq (s : ByteArray) : s.data.toList.length = s.size := by simp
theorem take_all (s : ByteArray) (k : Nat) (h : s.size ≤ k) : s.data.toList.take k = s.data.toList := List.take_of_length_le (by simpa using h)

end Go.Proofs.Ytekhdggaelppkaa.Pure1
/- Plain facts on lists of texts for chapter 1: their reading in memory, joining, the words' text. No program is imported here. -/
namespace Go.Proofs.Ytekhdggaelppkaa.Pure3
open Go.RowKit Pure1

/-- The slice at address a reads, from its head on, the texts ss. -/
def StrsAt (w : World) (a : Option Addr) (ss : List ByteArray) : Prop :=
  ss = [] ∨ ∃ b off, a = some ⟨b, off, none⟩ ∧ ∀ i x, ss[i]? = some x → w.cell? ⟨b, off + i, none⟩ = some (.string x)

theorem StrsAt.at {w : World} {a : Option Addr} {ss : List ByteArray} (h : StrsAt w a ss) {k len : Nat} (hl : ss.length = len) (hk : k < len) :
    ∃ b off x, a = some ⟨b, off, none⟩ ∧ w.cell? ⟨b, off + k, none⟩ = some (.string x) ∧ ss.take (k + 1) = ss.take k ++ [x] ∧ ss[k]? = some x := by
  have hx : ss[k]? = some ss[k] := List.getElem?_eq_getElem (by omega)
  rcases h with rfl | ⟨b, off, rfl, hc⟩
  · simp at hl; omega
  · exact ⟨b, off, _, rfl, hc k _ hx, by rw [List.take_succ_eq_append_getElem], hx⟩

theorem StrsAt.below {w w' : World} {a : Option Addr} {ss : List ByteArray} (h : StrsAt w a ss) (hb : Below w.heap.size w w') : StrsAt w' a ss := by
  rcases h with rfl | ⟨b, off, rfl, hc⟩
  · exact .inl rfl
  · exact .inr ⟨b, off, rfl, fun i x hx => cell_later hb (hc i x hx)⟩

/-- how much a list of texts holds: its length and all lengths -/
def strTot : List ByteArray → Nat
  | [] => 0
  | s :: r => 1 + s.size + strTot r
theorem strTot_append (a b : List ByteArray) : strTot (a ++ b) = strTot a + strTot b := by
  induction a with
  | nil => simp [strTot]
  | cons x r ih => simp only [List.cons_append, strTot, ih]; omega
theorem strTot_snoc (a : List ByteArray) (x : ByteArray) : strTot (a ++ [x]) = strTot a + (1 + x.size) := by rw [strTot_append]; simp [strTot]
theorem strTot_len (a : List ByteArray) : a.length ≤ strTot a := by
  induction a with
  | nil => simp
  | cons x r ih => simp only [List.length_cons, strTot]; omega
theorem strTot_take (a : List ByteArray) (k : Nat) : strTot (a.take k) ≤ strTot a := by
  have h := strTot_append (a.take k) (a.drop k); rw [List.take_append_drop] at h; omega
/-- the sizes alone -/
def szs : List ByteArray → Nat
  | [] => 0
  | s :: r => s.size + szs r
theorem szs_append (a b : List ByteArray) : szs (a ++ b) = szs a + szs b := by
  induction a with
  | nil => simp [szs]
  | cons x r ih => simp only [List.cons_append, szs, ih]; omega
theorem szs_snoc (a : List ByteArray) (x : ByteArray) : szs (a ++ [x]) = szs a + x.size := by rw [szs_append]; simp [szs]
theorem szs_take (a : List ByteArray) (k : Nat) : szs (a.take k) ≤ szs a := by
  have h := szs_append (a.take k) (a.drop k); rw [List.take_append_drop] at h; omega
theorem szs_mem {a : List ByteArray} {k : Nat} {x : ByteArray} (h : a[k]? = some x) : x.size ≤ szs a := by
  induction a generalizing k with
  | nil => simp at h
  | cons y r ih =>
    cases k with
    | zero => simp at h; subst h; simp only [szs]; omega
    | succ k => have := ih (k := k) (by simpa using h); simp only [szs]; omega
theorem strTot_eq (a : List ByteArray) : strTot a = a.length + szs a := by
  induction a with
  | nil => rfl
  | cons x r ih => simp only [strTot, szs, List.length_cons, ih]; omega

/-- what is left of n behind the texts, -1 if they hold more -/
def szLeft (ss : List ByteArray) (n : Nat) : Int := if strTot ss ≤ n then (n : Int) - strTot ss else -1
theorem szLeft_no {ss : List ByteArray} {n : Nat} (h : n < strTot ss) : szLeft ss n = -1 := by rw [szLeft, if_neg (by omega)]
theorem szLeft_ok {ss : List ByteArray} {n m : Nat} (h : m + strTot ss = n) : szLeft ss n = m := by rw [szLeft, if_pos (by omega)]; omega

/-- texts joined with something between them -/
def joinB (ss : List ByteArray) (sep : ByteArray) : ByteArray := ⟨(Lib.join (ss.map (·.data.toList)) sep.data.toList).toArray⟩
theorem join_snoc (xs : List (List UInt8)) (y sep : List UInt8) (h : xs ≠ []) : Lib.join (xs ++ [y]) sep = Lib.join xs sep ++ sep ++ y := by
  cases xs with
  | nil => exact absurd rfl h
  | cons x r => rw [List.cons_append, Lib.join_cons, Lib.join_cons]; simp [Lib.joinTail, List.append_assoc]
theorem mk_toList (s : ByteArray) : (⟨s.data.toList.toArray⟩ : ByteArray) = s := by cases s; simp
theorem joinB_snoc (ss : List ByteArray) (y sep : ByteArray) (h : ss ≠ []) : joinB ss sep ++ sep ++ y = joinB (ss ++ [y]) sep := by
  unfold joinB
  rw [List.map_append, List.map_singleton, join_snoc _ _ _ (by simpa using h)]
  conv => lhs; rw [← mk_toList y]
  conv => lhs; lhs; rhs; rw [← mk_toList sep]
  rw [ByteArray.mk_append_mk, ByteArray.mk_append_mk]
theorem joinB_first (y sep : ByteArray) : joinB [] sep ++ y = joinB [y] sep := by
  unfold joinB
  rw [List.map_nil, List.map_singleton, Lib.join_nil, Lib.join_one]
  conv => lhs; rw [← mk_toList y]
  rw [ByteArray.mk_append_mk, List.nil_append]
theorem joinB_size (ss : List ByteArray) (sep : ByteArray) : (joinB ss sep).size ≤ szs ss + sep.size * ss.length := by
  show (Lib.join (ss.map (·.data.toList)) sep.data.toList).toArray.size ≤ _
  rw [List.size_toArray]
  cases ss with
  | nil => rw [List.map_nil, Lib.join_nil]; simp
  | cons x r =>
    rw [List.map_cons, Lib.join_length]
    have h : ∀ l : List ByteArray, Lib.lens (l.map (·.data.toList)) = szs l := by
      intro l; induction l with
      | nil => rfl
      | cons y t ih => simp only [Lib.lens, List.map_cons, List.sum_cons, szs] at ih ⊢; rw [ih, size_eq]
    have h' := h (x :: r)
    rw [List.map_cons] at h'
    rw [h', List.length_map, size_eq, List.length_cons, Nat.mul_succ]
    omega
theorem joinB_take_size (ss : List ByteArray) (sep : ByteArray) (k : Nat) : (joinB (ss.take k) sep).size ≤ szs ss + sep.size * ss.length := by
  have h1 := joinB_size (ss.take k) sep
  have h2 := szs_take ss k
  have h3 : (ss.take k).length ≤ ss.length := by rw [List.length_take]; omega
  have h4 := Nat.mul_le_mul_left sep.size h3
  omega

/-- the text of words, and the error: 1 (a text is no word), 3 (too many), 0 (none) -/
def allWords (ss : List ByteArray) : Bool := ss.all fun s => isWordL s.data.toList
def wordsErr (ss : List ByteArray) : Int := if allWords ss = true then (if ss.length ≤ 60 then 0 else 3) else 1
def comma : ByteArray := ⟨#[44]⟩
def wordsT (ss : List ByteArray) : ByteArray := if ss = [] then ⟨#[45]⟩ else joinB ss comma
def wordsText (ss : List ByteArray) : ByteArray × Int := if wordsErr ss = 0 then (wordsT ss, 0) else (⟨#[]⟩, wordsErr ss)

theorem wordsErr_zero {ss : List ByteArray} (h : allWords ss = true) (h' : ss.length ≤ 60) : wordsErr ss = 0 := by rw [wordsErr, if_pos h, if_pos h']
theorem wordsErr_long {ss : List ByteArray} (h : allWords ss = true) (h' : ¬ ss.length ≤ 60) : wordsErr ss = 3 := by rw [wordsErr, if_pos h, if_neg h']
theorem wordsErr_no {ss : List ByteArray} (h : ¬ allWords ss = true) : wordsErr ss = 1 := by rw [wordsErr, if_neg h]
theorem wordsErr_cases (ss : List ByteArray) : (wordsErr ss = 0 ∧ allWords ss = true ∧ ss.length ≤ 60) ∨ (wordsErr ss = 1 ∧ allWords ss = false) ∨ (wordsErr ss = 3 ∧ allWords ss = true ∧ 60 < ss.length) := by
  unfold wordsErr; split
  · split
    · exact .inl ⟨rfl, by assumption, by assumption⟩
    · exact .inr (.inr ⟨rfl, by assumption, by omega⟩)
  · exact .inr (.inl ⟨rfl, by simp_all⟩)
theorem allWords_snoc {a : List ByteArray} {x : ByteArray} (h : allWords a = true) (hx : isWordL x.data.toList = true) : allWords (a ++ [x]) = true := by
  unfold allWords at *; rw [List.all_append, h]; simp [hx]
theorem allWords_no {ss : List ByteArray} {k : Nat} {x : ByteArray} (hx : ss[k]? = some x) (h : isWordL x.data.toList = false) : allWords ss = false := by
  unfold allWords; rw [List.all_eq_false]; exact ⟨x, List.mem_of_getElem? hx, by simp [h]⟩
theorem word_size {l : List UInt8} (h : isWordL l = true) : l.length ≤ 16 := by
  simp only [isWordL, Bool.and_eq_true, decide_eq_true_eq] at h; exact h.2.1
theorem allWords_szs {ss : List ByteArray} (h : allWords ss = true) : szs ss ≤ 16 * ss.length := by
  induction ss with
  | nil => simp [szs]
  | cons x r ih =>
    unfold allWords at *
    simp only [List.all_cons, Bool.and_eq_true] at h
    have h1 := word_size h.1; rw [size_eq] at h1
    have h2 := ih h.2
    simp only [szs, List.length_cons]; omega

theorem text_ne {x y : ByteArray} (h : x ≠ y) : (x.toList == y.toList) = false := by
  rw [ByteArray.toList_eq, ByteArray.toList_eq, beq_eq_false_iff_ne]
  intro e; exact h (by rw [← mk_toList x, ← mk_toList y, e])
def sameS (xs ys : List ByteArray) : Bool := decide (xs = ys)
theorem sameS_self (xs : List ByteArray) : sameS xs xs = true := by simp [sameS]
theorem sameS_len {xs ys : List ByteArray} (h : xs.length ≠ ys.length) : sameS xs ys = false := by
  simp only [sameS, decide_eq_false_iff_not]; intro e; exact h (by rw [e])
theorem sameS_at {xs ys : List ByteArray} {k : Nat} {x y : ByteArray} (hx : xs[k]? = some x) (hy : ys[k]? = some y) (h : x ≠ y) : sameS xs ys = false := by
  simp only [sameS, decide_eq_false_iff_not]; intro e; rw [e, hy] at hx; cases hx; exact h rfl
theorem sameS_end {xs ys : List ByteArray} {k : Nat} (h : xs.take k = ys.take k) (hx : xs.length ≤ k) (hy : ys.length ≤ k) : sameS xs ys = true := by
  rw [List.take_of_length_le hx, List.take_of_length_le hy] at h; simp [sameS, h]

end Go.Proofs.Ytekhdggaelppkaa.Pure3
/- Small shared facts: equal results, what a call that returns a text says, copies of slices. -/
namespace Go.Proofs.Ytekhdggaelppkaa
open Go.RowKit Pure2 Pure3

theorem ret_bool {a b : Bool} (h : a = b) : Ending.returned (.bool a) = .returned (.bool b) := by rw [h]

theorem ret_bool' {a b : Bool} (h : a = b) : Ending.returned (.bool a) = .returned (.bool b) := by rw [h]

theorem ret_i64 {a b : Int} (h : a = b) : Ending.returned (.int .i64 a) = .returned (.int .i64 b) := by rw [h]

theorem ret_two {a b c d : Int} (h : a = b) (h' : c = d) : Ending.returned (.tuple #[.int .i64 a, .int .i64 c]) = .returned (.tuple #[.int .i64 b, .int .i64 d]) := by rw [h, h']

theorem ret_str {a b : ByteArray} (h : a = b) : Ending.returned (.string a) = .returned (.string b) := by rw [h]

theorem ret_str2 {a b : ByteArray} {c d : Int} (h : a = b) (h' : c = d) : Ending.returned (.tuple #[.string a, .int .i64 c]) = .returned (.tuple #[.string b, .int .i64 d]) := by rw [h, h']

/-- a text is returned; nothing that was there has turned -/
def SaysT (s : ByteArray) (w : World) (e : Ending) (w' : World) : Prop := e = .returned (.string s) ∧ Below w.heap.size w w'

def SaysT2 (s : ByteArray) (n : Int) (w : World) (e : Ending) (w' : World) : Prop := e = .returned (.tuple #[.string s, .int .i64 n]) ∧ Below w.heap.size w w'

/-- a bool is returned; the world has at most drawn -/
def SaysB (b : Bool) (w : World) (e : Ending) (w' : World) : Prop := e = .returned (.bool b) ∧ ∃ n, w' = w.drewN n

theorem drewN_add (w : World) (n m : Nat) : (w.drewN n).drewN m = w.drewN (n + m) := by simp [World.drewN]; omega

/-- a new slice that reads zs; nothing that was there has turned -/
def IsCopy (w : World) (len : Nat) (zs : List Int) (e : Ending) (w' : World) : Prop :=
  ∃ b, e = .returned (.slice (some ⟨b, 0, none⟩) len len) ∧ w.heap.size ≤ b ∧ IntsAt w' (some ⟨b, 0, none⟩) zs ∧ Below w.heap.size w w'

theorem copied {w wr : World} {T len : Nat} {f : Nat → Value} {zs : List Int} (hr : wr.rowIs w.heap.size T len f) (hl : zs.length = len) (hf : ∀ i x, i < len → zs[i]? = some x → f i = .int .i64 x)
    (hB : Below w.heap.size w wr) : IsCopy w len zs (.returned (.slice (some ⟨w.heap.size, 0, none⟩) len len)) wr :=
  ⟨_, rfl, Nat.le_refl _, .inr ⟨_, _, rfl, fun i x hx => by
    have hi : i < len := by rw [← hl]; exact (List.getElem?_eq_some_iff.1 hx).1
    rw [Nat.zero_add, hr.cell hi, hf i x hi hx]⟩, hB⟩

theorem copy_step {zs : List Int} {k : Nat} {x : Int} {f : Nat → Value} (hf : ∀ i y, i < k → zs[i]? = some y → f i = .int .i64 y) (hx : zs[k]? = some x) :
    ∀ i y, i < k + 1 → zs[i]? = some y → (fun j => if j = k then Value.int .i64 x else f j) i = .int .i64 y := by
  intro i y hi hy
  by_cases e : i = k
  · subst e; rw [hx] at hy; cases hy; simp
  · simp only [if_neg e]; exact hf i y (by omega) hy

/-- a new slice that reads zs; nothing that was there has turned -/
def IsCopyS (w : World) (len : Nat) (zs : List ByteArray) (e : Ending) (w' : World) : Prop :=
  ∃ b, e = .returned (.slice (some ⟨b, 0, none⟩) len len) ∧ w.heap.size ≤ b ∧ StrsAt w' (some ⟨b, 0, none⟩) zs ∧ Below w.heap.size w w'

theorem copiedS {w wr : World} {T len : Nat} {f : Nat → Value} {zs : List ByteArray} (hr : wr.rowIs w.heap.size T len f) (hl : zs.length = len) (hf : ∀ i x, i < len → zs[i]? = some x → f i = .string x)
    (hB : Below w.heap.size w wr) : IsCopyS w len zs (.returned (.slice (some ⟨w.heap.size, 0, none⟩) len len)) wr :=
  ⟨_, rfl, Nat.le_refl _, .inr ⟨_, _, rfl, fun i x hx => by
    have hi : i < len := by rw [← hl]; exact (List.getElem?_eq_some_iff.1 hx).1
    rw [Nat.zero_add, hr.cell hi, hf i x hi hx]⟩, hB⟩

theorem copyS_step {zs : List ByteArray} {k : Nat} {x : ByteArray} {f : Nat → Value} (hf : ∀ i y, i < k → zs[i]? = some y → f i = .string y) (hx : zs[k]? = some x) :
    ∀ i y, i < k + 1 → zs[i]? = some y → (fun j => if j = k then Value.string x else f j) i = .string y := by
  intro i y hi hy
  by_cases e : i = k
  · subst e; rw [hx] at hy; cases hy; simp
  · simp only [if_neg e]; exact hf i y (by omega) hy

def sameL (xs ys : List Int) : Bool := decide (xs = ys)

theorem sameL_self (xs : List Int) : sameL xs xs = true := by simp [sameL]

theorem sameL_len {xs ys : List Int} (h : xs.length ≠ ys.length) : sameL xs ys = false := by
  simp only [sameL, decide_eq_false_iff_not]; intro e; exact h (by rw [e])

theorem sameL_at {xs ys : List Int} {k : Nat} {x y : Int} (hx : xs[k]? = some x) (hy : ys[k]? = some y) (h : x ≠ y) : sameL xs ys = false := by
  simp only [sameL, decide_eq_false_iff_not]; intro e; rw [e, hy] at hx; cases hx; exact h rfl

theorem sameL_end {xs ys : List Int} {k : Nat} (h : xs.take k = ys.take k) (hx : xs.length ≤ k) (hy : ys.length ≤ k) : sameL xs ys = true := by
  rw [List.take_of_length_le hx, List.take_of_length_le hy] at h; simp [sameL, h]

/-- from the row that the frame opens to the reading that the contracts take -/
theorem ints_of_row {w : World} {a : Option Addr} {len cap : Nat} {zs : List Int}
    (h : (a = none ∧ len = 0 ∧ cap = 0 ∧ zs = []) ∨ ∃ x, a = some x ∧ len ≤ cap ∧ cap ≤ maxLen ∧ zs.length = cap ∧ (∀ i, i < zs.length → w.cell? (x.add i) = some (.int .i64 (zs.getD i 0))) ∧ ∀ n ∈ zs, (Lit.int .i64 n).wf = true) :
    (zs.take len).length = len ∧ len ≤ maxLen ∧ IntsAt w a (zs.take len) := by
  rcases h with ⟨rfl, rfl, rfl, rfl⟩ | ⟨x, rfl, hl, hm, hz, hc, _⟩
  · exact ⟨rfl, by unfold maxLen; omega, .inl rfl⟩
  · refine ⟨by rw [List.length_take]; omega, by omega, ?_⟩
    by_cases h0 : len = 0
    · exact .inl (by rw [h0]; rfl)
    · obtain ⟨b, off, spot⟩ := x
      have hspot : spot = none := by simpa [Addr.add] using World.cell?_spot (hc 0 (by omega))
      subst hspot
      refine .inr ⟨b, off, rfl, fun i x hx => ?_⟩
      obtain ⟨hi, hx'⟩ := List.getElem?_eq_some_iff.1 hx
      have hi' : i < zs.length := by rw [List.length_take] at hi; omega
      have := hc i hi'
      rw [List.getElem_take] at hx'
      rw [List.getD_eq_getElem?_getD, List.getElem?_eq_getElem hi', Option.getD_some, hx'] at this
      by_cases hi0 : i = 0
      · subst hi0; simpa [Addr.add] using this
      · simpa [Addr.add, hi0] using this

/-- from the row that the frame opens to the reading that the contracts take -/
theorem strs_of_row {w : World} {a : Option Addr} {len cap : Nat} {ss : List ByteArray}
    (h : (a = none ∧ len = 0 ∧ cap = 0 ∧ ss = []) ∨ ∃ x, a = some x ∧ len ≤ cap ∧ cap ≤ maxLen ∧ ss.length = cap ∧ (∀ i, i < ss.length → w.cell? (x.add i) = some (.string (ss.getD i ByteArray.empty))) ∧ ∀ s ∈ ss, s.size ≤ maxLen) :
    (ss.take len).length = len ∧ len ≤ cap ∧ len ≤ maxLen ∧ StrsAt w a (ss.take len) ∧ ∀ s ∈ ss.take len, s.size ≤ maxLen := by
  rcases h with ⟨rfl, rfl, rfl, rfl⟩ | ⟨x, rfl, hl, hm, hz, hc, hs⟩
  · exact ⟨rfl, Nat.le_refl _, by unfold maxLen; omega, .inl rfl, fun s h => by simp at h⟩
  · refine ⟨by rw [List.length_take]; omega, hl, by omega, ?_, fun s h => hs s (List.mem_of_mem_take h)⟩
    by_cases h0 : len = 0
    · exact .inl (by rw [h0]; rfl)
    · obtain ⟨b, off, spot⟩ := x
      have hspot : spot = none := by simpa [Addr.add] using World.cell?_spot (hc 0 (by omega))
      subst hspot
      refine .inr ⟨b, off, rfl, fun i x hx => ?_⟩
      obtain ⟨hi, hx'⟩ := List.getElem?_eq_some_iff.1 hx
      have hi' : i < ss.length := by rw [List.length_take] at hi; omega
      have := hc i hi'
      rw [List.getElem_take] at hx'
      rw [List.getD_eq_getElem?_getD, List.getElem?_eq_getElem hi', Option.getD_some, hx'] at this
      by_cases hi0 : i = 0
      · subst hi0; simpa [Addr.add] using this
      · simpa [Addr.add, hi0] using this

theorem joinB_join {ss : List ByteArray} : (⟨(Lib.join (ss.map (·.data.toList)) comma.data.toList).toArray⟩ : ByteArray) = joinB ss comma := rfl

theorem wordsT_none : wordsT [] = ⟨#[45]⟩ := rfl

theorem wordsT_some {ss : List ByteArray} (h : ss ≠ []) : wordsT ss = joinB ss comma := by rw [wordsT, if_neg h]

theorem len_ne {α : Type} {ss : List α} {len : Nat} (hl : ss.length = len) (h : len ≠ 0) : ss ≠ [] := by
  intro e; subst e; simp at hl; omega

theorem len_eq {α : Type} {ss : List α} {len : Nat} (hl : ss.length = len) (h : len = 0) : ss = [] := by
  subst h; exact List.length_eq_zero_iff.1 hl

theorem intsAt_of_owns' {w : World} {base e n : Nat} {v : Value} {zs : List Int} (h : w.ownsRow base e 1 v n (zs.map (Value.int .i64))) : ∃ a cap, v = .slice a n cap ∧ n ≤ cap ∧ IntsAt w a zs := by
  obtain ⟨h1, h2 | ⟨g, cap, cur, hv, hg, hh, hn, hc, hs, hr⟩⟩ := h
  · obtain ⟨rfl, rfl⟩ := h2
    exact ⟨none, 0, rfl, Nat.le_refl _, .inl (by simpa using h1)⟩
  · rw [Nat.mul_one] at hr hs
    refine ⟨_, cap, hv, hn, .inr ⟨g, 0, rfl, fun i x hx => ?_⟩⟩
    have hx' : (zs.map (Value.int .i64))[i]? = some (.int .i64 x) := by rw [List.getElem?_map, hx]; rfl
    rw [← hr, List.getElem?_take] at hx'
    split at hx'
    · rw [Array.getElem?_toList] at hx'
      simp [World.cell?, hh, hx']
    · cases hx'

end Go.Proofs.Ytekhdggaelppkaa
/- Plain facts on the source that hands out drawn numbers. No program is imported here. -/
namespace Go.Proofs.Ytekhdggaelppkaa.Pure6
open Go.RowKit Pure2

/-- The slice at address a reads, from its head on, the bytes bs; it lies below block B. -/
def BytesAt (B : Nat) (w : World) (a : Option Addr) (bs : List Int) : Prop :=
  (∀ x ∈ bs, 0 ≤ x ∧ x ≤ 255) ∧ (bs = [] ∨ ∃ b off, a = some ⟨b, off, none⟩ ∧ b < B ∧ ∀ i x, bs[i]? = some x → w.cell? ⟨b, off + i, none⟩ = some (.int .u8 x))
theorem BytesAt.at {B : Nat} {w : World} {a : Option Addr} {bs : List Int} (h : BytesAt B w a bs) {k len : Nat} (hl : bs.length = len) (hk : k < len) :
    ∃ b off x, a = some ⟨b, off, none⟩ ∧ b < B ∧ w.cell? ⟨b, off + k, none⟩ = some (.int .u8 x) ∧ 0 ≤ x ∧ x ≤ 255 := by
  obtain ⟨hb, h⟩ := h
  have hx : bs[k]? = some bs[k] := List.getElem?_eq_getElem (by omega)
  rcases h with rfl | ⟨b, off, rfl, hB, hc⟩
  · simp at hl; omega
  · have := hb _ (List.mem_of_getElem? hx)
    exact ⟨b, off, _, rfl, hB, hc k _ hx, this.1, this.2⟩
theorem BytesAt.below {B : Nat} {w w' : World} {a : Option Addr} {bs : List Int} (h : BytesAt B w a bs) (hB : Below B w w') : BytesAt B w' a bs := by
  refine ⟨h.1, ?_⟩
  rcases h.2 with rfl | ⟨b, off, rfl, hb, hc⟩
  · exact .inl rfl
  · exact .inr ⟨b, off, rfl, hb, fun i x hx => by rw [hB.cell (p := ⟨b, off + i, none⟩) hb]; exact hc i x hx⟩

/-- the state of a source (block b, from block B on): its code lies below B and has at most 4096 bytes; its place is within the code; its seed is within 0 .. 2147483646 -/
def Src (B : Nat) (T : TypeId) (w : World) (b : Nat) : Prop :=
  ∃ a cap bs k seed, B ≤ b ∧ w.heap[b]? = some (.cells #[.slice a bs.length cap, .int .i64 (k : Nat), .int .i64 seed] T (0, 0)) ∧ k ≤ bs.length ∧ bs.length ≤ 4096 ∧ 0 ≤ seed ∧ seed < 2147483647 ∧ BytesAt B w a bs

theorem src_cells {w : World} {b : Nat} {T : TypeId} {u v x : Value} (h : w.heap[b]? = some (.cells #[u, v, x] T (0, 0))) :
    w.cell? ⟨b, 0, none⟩ = some u ∧ w.cell? ⟨b, 1, none⟩ = some v ∧ w.cell? ⟨b, 2, none⟩ = some x ∧ w.frozen? ⟨b, 0, none⟩ = false ∧ w.frozen? ⟨b, 1, none⟩ = false ∧ w.frozen? ⟨b, 2, none⟩ = false := by
  simp [World.cell?, World.frozen?, h]
theorem block_set {w : World} {b : Nat} {T : TypeId} {u v x y : Value} (h : w.heap[b]? = some (.cells #[u, v, x] T (0, 0))) :
    (w.setCell ⟨b, 2, none⟩ y).heap[b]? = some (.cells #[u, v, y] T (0, 0)) ∧ (w.setCell ⟨b, 1, none⟩ y).heap[b]? = some (.cells #[u, y, x] T (0, 0)) := by
  simp [World.setCell, Array.getElem?_modify, h]

theorem grown_set (w : World) (b o : Nat) (v : Value) : w.grownBy (w.setCell ⟨b, o, none⟩ v) (some b) :=
  ⟨rfl, rfl, rfl, by simp [World.setCell], fun k _ hk => Below.heap_setCell _ _ _ _ (by intro e; subst e; exact hk rfl)⟩
theorem grown_refl (w : World) (r : Option Nat) : w.grownBy w r := ⟨rfl, rfl, rfl, Nat.le_refl _, fun _ _ _ => rfl⟩
theorem grown_trans {w w' w'' : World} {r : Option Nat} (h : w.grownBy w' r) (h' : w'.grownBy w'' r) : w.grownBy w'' r :=
  ⟨h'.os.trans h.os, h'.tape.trans h.tape, h'.output.trans h.output, Nat.le_trans h.size h'.size, fun k hk hr => (h'.block k (Nat.lt_of_lt_of_le hk h.size) hr).trans (h.block k hk hr)⟩
theorem grown_drewN {w w' : World} {r : Option Nat} (h : w.grownBy w' r) (n : Nat) : w.grownBy (w'.drewN n) r := ⟨h.os, h.tape, h.output, h.size, h.block⟩
theorem grown_below {w w' : World} {b B : Nat} (h : w.grownBy w' (some b)) (hb : B ≤ b) (hB : B ≤ w.heap.size) : Below B w w' :=
  ⟨h.os, h.tape, h.output, h.size, fun k hk => h.block k (by omega) (fun e => by cases e; omega)⟩
theorem Src.lt {B : Nat} {T : TypeId} {w : World} {b : Nat} (h : Src B T w b) : b < w.heap.size := by
  obtain ⟨a, cap, bs, k, seed, _, hh, _⟩ := h
  exact (Array.getElem?_eq_some_iff.1 hh).1
theorem Src.base {B : Nat} {T : TypeId} {w : World} {b : Nat} (h : Src B T w b) : B ≤ b := by
  obtain ⟨a, cap, bs, k, seed, h, _⟩ := h; exact h
/-- other memory may change -/
theorem Src.kept {B : Nat} {T : TypeId} {w w' : World} {b : Nat} (h : Src B T w b) (hk : w'.heap[b]? = w.heap[b]?) (hB : Below B w w') : Src B T w' b := by
  obtain ⟨a, cap, bs, k, seed, h1, h2, h3, h4, h5, h6, h7⟩ := h
  exact ⟨a, cap, bs, k, seed, h1, hk.trans h2, h3, h4, h5, h6, h7.below hB⟩

/-- what handing out a number below n says -/
def Drawn (B : Nat) (T : TypeId) (b : Nat) (n : Int) (w : World) (e : Ending) (w' : World) : Prop :=
  ∃ x, e = .returned (.int .i64 x) ∧ (1 < n → 0 ≤ x ∧ x < n) ∧ (n ≤ 1 → x = 0) ∧ Src B T w' b ∧ w.grownBy w' (some b)
theorem drawn_none {B : Nat} {T : TypeId} {w : World} {b : Nat} {a : Option Addr} {cap len : Nat} {bs : List Int} {k : Nat} {seed s' n x : Int} (hBb : B ≤ b) (hB : B ≤ w.heap.size)
    (hh : w.heap[b]? = some (.cells #[.slice a bs.length cap, .int .i64 (k : Nat), .int .i64 seed] T (0, 0))) (hl : len = bs.length) (hk : k ≤ len) (hbl : len ≤ 4096) (h0 : 0 ≤ s') (h1 : s' < 2147483647) (hy : BytesAt B w a bs)
    (hn : 1 < n) (hx : 0 ≤ x) (hx' : x < n) (m : Nat) : Drawn B T b n w (.returned (.int .i64 x)) ((w.setCell ⟨b, 2, none⟩ (.int .i64 s')).drewN m) := by
  subst hl
  have hg : w.grownBy ((w.setCell ⟨b, 2, none⟩ (.int .i64 s')).drewN m) (some b) := grown_drewN (grown_set w b 2 _) m
  exact ⟨x, rfl, fun _ => ⟨hx, hx'⟩, fun h => by omega, ⟨a, cap, bs, k, s', hBb, (block_set hh).1, hk, hbl, h0, h1, hy.below (grown_below hg hBb hB)⟩, hg⟩
theorem drawn_one {B : Nat} {T : TypeId} {w : World} {b : Nat} {a : Option Addr} {cap len : Nat} {bs : List Int} {k : Nat} {seed s' n x : Int} (hBb : B ≤ b) (hB : B ≤ w.heap.size)
    (hh : w.heap[b]? = some (.cells #[.slice a bs.length cap, .int .i64 (k : Nat), .int .i64 seed] T (0, 0))) (hl : len = bs.length) (hk : k < len) (hbl : len ≤ 4096) (h0 : 0 ≤ s') (h1 : s' < 2147483647) (hy : BytesAt B w a bs)
    (hn : 1 < n) (hx : 0 ≤ x) (hx' : x < n) (m m' : Nat) : Drawn B T b n w (.returned (.int .i64 x)) ((((w.setCell ⟨b, 2, none⟩ (.int .i64 s')).drewN m).setCell ⟨b, 1, none⟩ (.int .i64 ((k : Int) + 1))).drewN m') := by
  subst hl
  have hg : w.grownBy ((((w.setCell ⟨b, 2, none⟩ (.int .i64 s')).drewN m).setCell ⟨b, 1, none⟩ (.int .i64 ((k : Int) + 1))).drewN m') (some b) :=
    grown_drewN (grown_trans (grown_drewN (grown_set w b 2 _) m) (grown_set _ b 1 _)) m'
  refine ⟨x, rfl, fun _ => ⟨hx, hx'⟩, fun h => by omega, ⟨a, cap, bs, k + 1, s', hBb, ?_, hk, hbl, h0, h1, hy.below (grown_below hg hBb hB)⟩, hg⟩
  have h2 := (block_set (y := .int .i64 s') hh).1
  have h3 := (block_set (w := (w.setCell ⟨b, 2, none⟩ (.int .i64 s')).drewN m) (y := .int .i64 ((k : Int) + 1)) h2).2
  exact h3
theorem grown_alloc (w : World) (o : Obj) (r : Option Nat) : w.grownBy (w.alloc o) r :=
  ⟨rfl, rfl, rfl, by simp, fun k hk _ => Below.heap_alloc _ _ _ hk⟩
theorem Src.alloc {B : Nat} {T : TypeId} {w : World} {b : Nat} (h : Src B T w b) (o : Obj) : Src B T (w.alloc o) b :=
  h.kept (Below.heap_alloc _ _ _ h.lt) ((Below.refl _ _).alloc (Nat.le_trans h.base (Nat.le_of_lt h.lt)) _)
theorem alloc_ints (w : World) (T : TypeId) (zs : List Int) : ∀ i x, zs[i]? = some x → (w.alloc (.cells (zs.map (Value.int .i64)).toArray T)).cell? ⟨w.heap.size, i, none⟩ = some (.int .i64 x) := by
  intro i x hx
  have : (w.alloc (.cells (zs.map (Value.int .i64)).toArray T)).heap[w.heap.size]? = some (.cells (zs.map (Value.int .i64)).toArray T) := heap_alloc_new w _
  unfold World.cell?
  rw [this]
  simp [hx]
theorem intsAt_of_owns {w : World} {base e n : Nat} {v : Value} {zs : List Int} (h : w.ownsRow base e 1 v n (zs.map (Value.int .i64))) : ∃ a cap, v = .slice a n cap ∧ n ≤ cap ∧ IntsAt w a zs := by
  obtain ⟨h1, h2 | ⟨g, cap, cur, hv, hg, hh, hn, hc, hs, hr⟩⟩ := h
  · obtain ⟨rfl, rfl⟩ := h2
    exact ⟨none, 0, rfl, Nat.le_refl _, .inl (by simpa using h1)⟩
  · rw [Nat.mul_one] at hr hs
    refine ⟨_, cap, hv, hn, .inr ⟨g, 0, rfl, fun i x hx => ?_⟩⟩
    have hx' : (zs.map (Value.int .i64))[i]? = some (.int .i64 x) := by rw [List.getElem?_map, hx]; rfl
    rw [← hr, List.getElem?_take] at hx'
    split at hx'
    · rw [Array.getElem?_toList] at hx'
      simp [World.cell?, hh, hx']
    · cases hx'
/-- some number is handed out -/
def Gave (B : Nat) (T : TypeId) (b : Nat) (w : World) (e : Ending) (w' : World) : Prop := ∃ x, e = .returned (.int .i64 x) ∧ Src B T w' b ∧ w.grownBy w' (some b)
theorem BytesAt.mono {B B' : Nat} {w : World} {a : Option Addr} {bs : List Int} (h : BytesAt B w a bs) (hB : B ≤ B') : BytesAt B' w a bs := by
  refine ⟨h.1, ?_⟩
  rcases h.2 with rfl | ⟨b, off, rfl, hb, hc⟩
  · exact .inl rfl
  · exact .inr ⟨b, off, rfl, by omega, hc⟩
theorem BytesAt.later {w w' : World} {a : Option Addr} {bs : List Int} (h : BytesAt w.heap.size w a bs) (hB : Below w.heap.size w w') : BytesAt w'.heap.size w' a bs := (h.below hB).mono hB.size

end Go.Proofs.Ytekhdggaelppkaa.Pure6
/- Plain facts on court days (chapter 2). No program is imported here. -/
namespace Go.Proofs.Ytekhdggaelppkaa.Pure20
open Go.RowKit Pure2

/-- a day -/
def isDay (n : Int) : Bool := decide (0 ≤ n) && decide (n ≤ 20000)
theorem isDay_iff (n : Int) : isDay n = true ↔ 0 ≤ n ∧ n ≤ 20000 := by simp [isDay]
theorem isDay_no (n : Int) : isDay n = false ↔ n < 0 ∨ 20000 < n := by
  rw [← Bool.not_eq_true, isDay_iff]; omega

/-- holidays: days that increase strictly, at most 40 -/
def Hol (zs : List Int) : Prop := (∀ (i : Nat) x, zs[i]? = some x → isDay x = true) ∧ (∀ (i : Nat) x y, zs[i]? = some x → zs[i + 1]? = some y → x < y) ∧ zs.length ≤ 40
noncomputable def hol (zs : List Int) : Bool := @decide (Hol zs) (Classical.propDecidable _)
theorem hol_iff (zs : List Int) : hol zs = true ↔ Hol zs := by unfold hol; exact @decide_eq_true_iff _ (Classical.propDecidable _)
theorem hol_no (zs : List Int) : hol zs = false ↔ ¬ Hol zs := by rw [← Bool.not_eq_true, hol_iff]
/-- the first k numbers are as holidays are -/
def HolTo (zs : List Int) (k : Nat) : Prop := (∀ (i : Nat) x, i < k → zs[i]? = some x → isDay x = true) ∧ (∀ (i : Nat) x y, i + 1 < k → zs[i]? = some x → zs[i + 1]? = some y → x < y)
theorem holTo_zero (zs : List Int) : HolTo zs 0 := ⟨fun _ _ h => by omega, fun _ _ _ h => by omega⟩
theorem holTo_step {zs : List Int} {k : Nat} {x : Int} (h : HolTo zs k) (hx : zs[k]? = some x) (hd : isDay x = true) (hp : ∀ y, 0 < k → zs[k - 1]? = some y → y < x) : HolTo zs (k + 1) := by
  refine ⟨fun i z hi hz => ?_, fun i u v hi hu hv => ?_⟩
  · by_cases e : i = k
    · subst e; rw [hx] at hz; cases hz; exact hd
    · exact h.1 i z (by omega) hz
  · by_cases e : i + 1 = k
    · subst e; rw [hx] at hv; cases hv; exact hp u (by omega) (by simpa using hu)
    · exact h.2 i u v (by omega) hu hv
theorem holTo_end {zs : List Int} {k : Nat} (h : HolTo zs k) (hk : zs.length ≤ k) (hl : zs.length ≤ 40) : Hol zs := by
  refine ⟨fun i x hx => h.1 i x ?_ hx, fun i x y hx hy => h.2 i x y ?_ hx hy, hl⟩
  · have := (List.getElem?_eq_some_iff.1 hx).1; omega
  · have := (List.getElem?_eq_some_iff.1 hy).1; omega
theorem hol_day {zs : List Int} (h : Hol zs) : ∀ x ∈ zs, 0 ≤ x ∧ x ≤ 20000 := by
  intro x hx
  obtain ⟨i, hi⟩ := List.mem_iff_getElem?.1 hx
  exact (isDay_iff x).1 (h.1 i x hi)

/-- a court day -/
def court (zs : List Int) (d : Int) : Bool := decide (d % 7 < 5) && !zs.contains d
theorem court_iff (zs : List Int) (d : Int) : court zs d = true ↔ d % 7 < 5 ∧ d ∉ zs := by simp [court]
theorem court_no (zs : List Int) (d : Int) : court zs d = false ↔ (5 ≤ d % 7 ∨ d ∈ zs) := by
  rw [← Bool.not_eq_true, court_iff]
  by_cases h : d ∈ zs
  · simp [h]
  · simp [h]

/-- r is the first court day that is not before d -/
def IsNext (zs : List Int) (d r : Int) : Prop := d ≤ r ∧ court zs r = true ∧ ∀ x, d ≤ x → x < r → court zs x = false
theorem isNext_inj {zs : List Int} {d r r' : Int} (h : IsNext zs d r) (h' : IsNext zs d r') : r = r' := by
  rcases Int.lt_trichotomy r r' with c | c | c
  · have := h'.2.2 r h.1 c; rw [h.2.1] at this; cases this
  · exact c
  · have := h.2.2 r' h'.1 c; rw [h'.2.1] at this; cases this
theorem isNext_here {zs : List Int} {d : Int} (h : court zs d = true) : IsNext zs d d := ⟨Int.le_refl _, h, fun x h1 h2 => by omega⟩
theorem isNext_step {zs : List Int} {d r : Int} (h : court zs d = false) (hr : IsNext zs (d + 1) r) : IsNext zs d r := by
  refine ⟨by have := hr.1; omega, hr.2.1, fun x h1 h2 => ?_⟩
  by_cases e : x = d
  · subst e; exact h
  · exact hr.2.2 x (by omega) h2
/-- behind the greatest holiday a court day comes within three days -/
theorem court_late {zs : List Int} (h : ∀ x ∈ zs, x ≤ 20000) (d : Int) (hd : 20000 < d) : court zs d = true ∨ court zs (d + 1) = true ∨ court zs (d + 2) = true := by
  simp only [court_iff]
  have h0 : d ∉ zs := fun e => by have := h _ e; omega
  have h1 : d + 1 ∉ zs := fun e => by have := h _ e; omega
  have h2 : d + 2 ∉ zs := fun e => by have := h _ e; omega
  by_cases c0 : d % 7 < 5
  · exact .inl ⟨c0, h0⟩
  · by_cases c1 : (d + 1) % 7 < 5
    · exact .inr (.inl ⟨c1, h1⟩)
    · exact .inr (.inr ⟨by omega, h2⟩)
theorem next_there {zs : List Int} (h : ∀ x ∈ zs, x ≤ 20000) : ∀ (k : Nat) (d : Int), 20003 ≤ d + k → ∃ r, IsNext zs d r ∧ r ≤ max d 20001 + 2 := by
  intro k
  induction k with
  | zero =>
    intro d hd
    cases hc : court zs d with
    | true => exact ⟨d, isNext_here hc, by omega⟩
    | false =>
      cases hc1 : court zs (d + 1) with
      | true => exact ⟨d + 1, isNext_step hc (isNext_here hc1), by omega⟩
      | false =>
        have hc2 : court zs (d + 2) = true := by
          rcases court_late h d (by omega) with e | e | e
          · rw [e] at hc; cases hc
          · rw [e] at hc1; cases hc1
          · exact e
        exact ⟨d + 2, isNext_step hc (isNext_step hc1 (by rw [show d + 1 + 1 = d + 2 by omega]; exact isNext_here hc2)), by omega⟩
  | succ k ih =>
    intro d hd
    cases hc : court zs d with
    | true => exact ⟨d, isNext_here hc, by omega⟩
    | false =>
      by_cases hl : 20000 < d
      · cases hc1 : court zs (d + 1) with
        | true => exact ⟨d + 1, isNext_step hc (isNext_here hc1), by omega⟩
        | false =>
          have hc2 : court zs (d + 2) = true := by
            rcases court_late h d hl with e | e | e
            · rw [e] at hc; cases hc
            · rw [e] at hc1; cases hc1
            · exact e
          exact ⟨d + 2, isNext_step hc (isNext_step hc1 (by rw [show d + 1 + 1 = d + 2 by omega]; exact isNext_here hc2)), by omega⟩
      · obtain ⟨r, hr, hb⟩ := ih (d + 1) (by omega)
        exact ⟨r, isNext_step hc hr, by omega⟩
theorem next_exists {zs : List Int} (h : ∀ x ∈ zs, x ≤ 20000) (d : Int) : ∃ r, IsNext zs d r ∧ r ≤ max d 20001 + 2 := next_there h (20003 - d).toNat d (by omega)

/-- the number of court days in a .. a + k - 1 -/
def cnt (zs : List Int) (a : Int) : Nat → Int
  | 0 => 0
  | k + 1 => cnt zs a k + (if court zs (a + (k : Int)) = true then 1 else 0)
theorem cnt_add (zs : List Int) (a : Int) (j k : Nat) : cnt zs a (j + k) = cnt zs a j + cnt zs (a + (j : Int)) k := by
  induction k with
  | zero => simp [cnt]
  | succ k ih =>
    rw [← Nat.add_assoc, cnt, cnt, ih, show a + ((j + k : Nat) : Int) = a + (j : Int) + (k : Int) by omega]; omega
theorem cnt_bd (zs : List Int) (a : Int) (k : Nat) : 0 ≤ cnt zs a k ∧ cnt zs a k ≤ k := by
  induction k with
  | zero => simp [cnt]
  | succ k ih => rw [cnt]; split <;> omega
theorem cnt_none {zs : List Int} {a : Int} {k : Nat} (h : ∀ x, a ≤ x → x < a + k → court zs x = false) : cnt zs a k = 0 := by
  induction k with
  | zero => rfl
  | succ k ih =>
    rw [cnt, ih (fun x h1 h2 => h x h1 (by omega)), h (a + (k : Int)) (by omega) (by omega)]; simp
theorem cnt_zero {zs : List Int} {a : Int} {k : Nat} (h : cnt zs a k = 0) : ∀ x, a ≤ x → x < a + k → court zs x = false := by
  induction k with
  | zero => intro x h1 h2; omega
  | succ k ih =>
    intro x h1 h2
    rw [cnt] at h
    have hb := cnt_bd zs a k
    by_cases e : x = a + (k : Int)
    · subst e
      cases hc : court zs (a + (k : Int)) with
      | true => rw [hc] at h; simp at h; omega
      | false => rfl
    · refine ih ?_ x h1 (by omega)
      split at h <;> omega
/-- the number of court days in a .. b - 1 -/
def count (zs : List Int) (a b : Int) : Int := cnt zs a (b - a).toNat
theorem count_none {zs : List Int} {a b : Int} (h : b ≤ a) : count zs a b = 0 := by unfold count; rw [show (b - a).toNat = 0 by omega]; rfl
theorem count_snoc {zs : List Int} {a b : Int} (h : a ≤ b) : count zs a (b + 1) = count zs a b + (if court zs b = true then 1 else 0) := by
  unfold count
  rw [show (b + 1 - a).toNat = (b - a).toNat + 1 by omega, cnt, show a + (((b - a).toNat : Nat) : Int) = b by omega]
theorem count_add {zs : List Int} {a b c : Int} (h : a ≤ b) (h' : b ≤ c) : count zs a c = count zs a b + count zs b c := by
  unfold count
  rw [show (c - a).toNat = (b - a).toNat + (c - b).toNat by omega, cnt_add, show a + (((b - a).toNat : Nat) : Int) = b by omega]
theorem count_bd (zs : List Int) (a b : Int) : 0 ≤ count zs a b ∧ (a ≤ b → count zs a b ≤ b - a) := by
  have := cnt_bd zs a (b - a).toNat
  unfold count; exact ⟨this.1, fun h => by omega⟩
theorem count_zero {zs : List Int} {a b : Int} (h : count zs a b = 0) : ∀ x, a ≤ x → x < b → court zs x = false := fun x h1 h2 => cnt_zero (k := (b - a).toNat) h x h1 (by omega)
theorem count_free {zs : List Int} {a b : Int} (h : ∀ x, a ≤ x → x < b → court zs x = false) : count zs a b = 0 := cnt_none fun x h1 h2 => h x h1 (by omega)
theorem count_next {zs : List Int} {d r : Int} (h : IsNext zs d r) : count zs d r = 0 := count_free h.2.2

/-- r is the n-th court day behind d -/
def IsAdd (zs : List Int) (d : Int) (n : Nat) (r : Int) : Prop := (n = 0 ∧ r = d) ∨ (0 < n ∧ d < r ∧ court zs r = true ∧ count zs (d + 1) r = (n : Int) - 1)
theorem isAdd_le {zs : List Int} {d r : Int} {n : Nat} (h : IsAdd zs d n r) : d ≤ r := by rcases h with ⟨_, rfl⟩ | ⟨_, h, _⟩ <;> omega
theorem isAdd_zero (zs : List Int) (d : Int) : IsAdd zs d 0 d := .inl ⟨rfl, rfl⟩
theorem isAdd_step {zs : List Int} {d r s : Int} {n : Nat} (h : IsAdd zs d n r) (hn : IsNext zs (r + 1) s) : IsAdd zs d (n + 1) s := by
  have h1 := hn.1
  have h2 := isAdd_le h
  refine .inr ⟨by omega, by omega, hn.2.1, ?_⟩
  rcases h with ⟨rfl, rfl⟩ | ⟨h3, h4, h5, h6⟩
  · rw [count_next hn]; rfl
  · rw [count_add (b := r) (by omega) (by omega), h6, count_add (b := r + 1) (by omega) h1, count_next hn, count_snoc (Int.le_refl r), count_none (Int.le_refl r), if_pos h5]
    omega
theorem isAdd_inj {zs : List Int} {d r s : Int} {n : Nat} (h : IsAdd zs d n r) (h' : IsAdd zs d n s) : r = s := by
  rcases h with ⟨h1, h2⟩ | ⟨h1, h2, h3, h4⟩
  · rcases h' with ⟨_, h5⟩ | ⟨h5, _⟩
    · rw [h2, h5]
    · omega
  · rcases h' with ⟨h5, _⟩ | ⟨_, h5, h6, h7⟩
    · omega
    · rcases Int.lt_trichotomy r s with c | c | c
      · exfalso
        have e := count_add (zs := zs) (a := d + 1) (b := r) (c := s) (by omega) (by omega)
        have e2 := count_add (zs := zs) (a := r) (b := r + 1) (c := s) (by omega) (by omega)
        rw [count_snoc (Int.le_refl r), count_none (Int.le_refl r), if_pos h3] at e2
        have := (count_bd zs (r + 1) s).1
        omega
      · exact c
      · exfalso
        have e := count_add (zs := zs) (a := d + 1) (b := s) (c := r) (by omega) (by omega)
        have e2 := count_add (zs := zs) (a := s) (b := s + 1) (c := r) (by omega) (by omega)
        rw [count_snoc (Int.le_refl s), count_none (Int.le_refl s), if_pos h6] at e2
        have := (count_bd zs (s + 1) r).1
        omega

/-- r is the last court day that is not behind d -/
def IsLast (zs : List Int) (d r : Int) : Prop := 0 ≤ r ∧ r ≤ d ∧ court zs r = true ∧ ∀ x, r < x → x ≤ d → court zs x = false
theorem isLast_inj {zs : List Int} {d r r' : Int} (h : IsLast zs d r) (h' : IsLast zs d r') : r = r' := by
  rcases Int.lt_trichotomy r r' with c | c | c
  · have := h.2.2.2 r' c h'.2.1; rw [h'.2.2.1] at this; cases this
  · exact c
  · have := h'.2.2.2 r c h.2.1; rw [h.2.2.1] at this; cases this

/-- the longest run of days in a .. d - 1 that are no court days begins with best and has most days; len: the run that ends with d - 1 -/
def BrkTo (zs : List Int) (a d len best most : Int) : Prop :=
  (0 ≤ len ∧ a ≤ d - len ∧ (∀ x, d - len ≤ x → x < d → court zs x = false) ∧ (d - len = a ∨ court zs (d - len - 1) = true)) ∧
  (0 ≤ most ∧ (0 < most → a ≤ best ∧ best + most ≤ d ∧ ∀ x, best ≤ x → x < best + most → court zs x = false)) ∧
  ∀ x n, 0 < n → a ≤ x → x + n ≤ d → (∀ y, x ≤ y → y < x + n → court zs y = false) → n ≤ most ∧ (n = most → best ≤ x)
/-- the longest break in a .. b -/
def IsBrk (zs : List Int) (a b best most : Int) : Prop :=
  0 < most ∧ a ≤ best ∧ best + most ≤ b + 1 ∧ (∀ x, best ≤ x → x < best + most → court zs x = false) ∧
  ∀ x n, 0 < n → a ≤ x → x + n ≤ b + 1 → (∀ y, x ≤ y → y < x + n → court zs y = false) → n ≤ most ∧ (n = most → best ≤ x)
theorem isBrk_inj {zs : List Int} {a b s n s' n' : Int} (h : IsBrk zs a b s n) (h' : IsBrk zs a b s' n') : s = s' ∧ n = n' := by
  have h1 := h.2.2.2.2 s' n' h'.1 h'.2.1 h'.2.2.1 h'.2.2.2.1
  have h2 := h'.2.2.2.2 s n h.1 h.2.1 h.2.2.1 h.2.2.2.1
  have e : n = n' := by omega
  have := h1.2 e.symm; have := h2.2 e
  exact ⟨by omega, e⟩
theorem brk_start (zs : List Int) (a best : Int) : BrkTo zs a a 0 best 0 :=
  ⟨⟨by omega, by omega, fun x h1 h2 => by omega, .inl (by omega)⟩, ⟨by omega, fun h => by omega⟩, fun x n h1 h2 h3 => by omega⟩
theorem brk_court {zs : List Int} {a d len best most : Int} (h : BrkTo zs a d len best most) (had : a ≤ d) (hc : court zs d = true) : BrkTo zs a (d + 1) 0 best most := by
  obtain ⟨_, ⟨h2, h3⟩, h4⟩ := h
  refine ⟨⟨by omega, by omega, fun x h5 h6 => by omega, .inr (by rw [show d + 1 - 0 - 1 = d by omega]; exact hc)⟩, ⟨h2, fun h5 => ?_⟩, fun x n h5 h6 h7 h8 => ?_⟩
  · have := h3 h5; exact ⟨this.1, by omega, this.2.2⟩
  · by_cases e : x + n = d + 1
    · have := h8 d (by omega) (by omega); rw [hc] at this; cases this
    · exact h4 x n h5 h6 (by omega) h8
/-- a run that ends with d is not longer than the one that is counted -/
theorem run_le {zs : List Int} {a d len x n : Int} (hl : d - len = a ∨ court zs (d - len - 1) = true) (hx : a ≤ x) (hn : x + n = d + 1) (hlen : 0 ≤ len) (h : ∀ y, x ≤ y → y < x + n → court zs y = false) : n ≤ len + 1 := by
  rcases hl with e | e
  · omega
  · by_cases c : n ≤ len + 1
    · exact c
    · have := h (d - len - 1) (by omega) (by omega); rw [e] at this; cases this
theorem brk_more {zs : List Int} {a d len best most : Int} (h : BrkTo zs a d len best most) (hc : court zs d = false) (hm : most < len + 1) : BrkTo zs a (d + 1) (len + 1) (d - (len + 1) + 1) (len + 1) := by
  obtain ⟨⟨h0, h1, hr, hl⟩, ⟨h2, h3⟩, h4⟩ := h
  have hrun : ∀ x, d - len ≤ x → x < d + 1 → court zs x = false := fun x h5 h6 => by
    by_cases e : x = d
    · rw [e]; exact hc
    · exact hr x h5 (by omega)
  refine ⟨⟨by omega, by omega, fun x h5 h6 => hrun x (by omega) h6, by rw [show d + 1 - (len + 1) = d - len by omega]; exact hl⟩, ⟨by omega, fun _ => ⟨by omega, by omega, fun x h5 h6 => hrun x (by omega) (by omega)⟩⟩, fun x n h5 h6 h7 h8 => ?_⟩
  by_cases e : x + n = d + 1
  · have := run_le hl h6 e h0 h8
    exact ⟨this, fun e2 => by omega⟩
  · have := (h4 x n h5 h6 (by omega) h8).1
    exact ⟨by omega, fun e2 => by omega⟩
theorem brk_same {zs : List Int} {a d len best most : Int} (h : BrkTo zs a d len best most) (hc : court zs d = false) (hm : len + 1 ≤ most) : BrkTo zs a (d + 1) (len + 1) best most := by
  obtain ⟨⟨h0, h1, hr, hl⟩, ⟨h2, h3⟩, h4⟩ := h
  have hrun : ∀ x, d - len ≤ x → x < d + 1 → court zs x = false := fun x h5 h6 => by
    by_cases e : x = d
    · rw [e]; exact hc
    · exact hr x h5 (by omega)
  have h3' := h3 (by omega)
  refine ⟨⟨by omega, by omega, fun x h5 h6 => hrun x (by omega) h6, by rw [show d + 1 - (len + 1) = d - len by omega]; exact hl⟩, ⟨h2, fun _ => ⟨h3'.1, by omega, h3'.2.2⟩⟩, fun x n h5 h6 h7 h8 => ?_⟩
  by_cases e : x + n = d + 1
  · have := run_le hl h6 e h0 h8
    exact ⟨by omega, fun e2 => by omega⟩
  · exact h4 x n h5 h6 (by omega) h8
theorem brk_end {zs : List Int} {a b len best most : Int} (h : BrkTo zs a (b + 1) len best most) (hm : 0 < most) : IsBrk zs a b best most :=
  ⟨hm, (h.2.1.2 hm).1, (h.2.1.2 hm).2.1, (h.2.1.2 hm).2.2, h.2.2⟩
/-- no break at all: all days are court days -/
theorem brk_none {zs : List Int} {a b len best : Int} (h : BrkTo zs a (b + 1) len best 0) : ∀ x, a ≤ x → x ≤ b → court zs x = true := by
  intro x h1 h2
  cases hc : court zs x with
  | true => rfl
  | false =>
    have := (h.2.2 x 1 (by omega) h1 (by omega) (fun y h3 h4 => by rw [show y = x by omega]; exact hc)).1
    omega
theorem isBrk_no {zs : List Int} {a b best most : Int} (h : IsBrk zs a b best most) (hall : ∀ x, a ≤ x → x ≤ b → court zs x = true) : False := by
  obtain ⟨h1, h2, h3, h4, _⟩ := h
  have := h4 best (by omega) (by omega)
  rw [hall best h2 (by omega)] at this; cases this
/-- what stands at the ends of the longest break -/
theorem isBrk_ends {zs : List Int} {a b best most : Int} (h : IsBrk zs a b best most) : (a < best → court zs (best - 1) = true) ∧ (best + most ≤ b → court zs (best + most) = true) := by
  obtain ⟨h1, h2, h3, h4, h5⟩ := h
  refine ⟨fun hl => ?_, fun hr => ?_⟩
  · cases hc : court zs (best - 1) with
    | true => rfl
    | false =>
      have := (h5 (best - 1) (most + 1) (by omega) (by omega) (by omega) (fun y h6 h7 => by
        by_cases e : y = best - 1
        · rw [e]; exact hc
        · exact h4 y (by omega) (by omega))).1
      omega
  · cases hc : court zs (best + most) with
    | true => rfl
    | false =>
      have := (h5 best (most + 1) (by omega) (by omega) (by omega) (fun y h6 h7 => by
        by_cases e : y = best + most
        · rw [e]; exact hc
        · exact h4 y (by omega) (by omega))).1
      omega

end Go.Proofs.Ytekhdggaelppkaa.Pure20
/- Plain facts on the answers of chapter 2: the codes, the day that is found, the number that is counted. No program is imported here. -/
namespace Go.Proofs.Ytekhdggaelppkaa.Pure21
open Go.RowKit Pure2 Pure20

/-- the first error of holidays and days -/
noncomputable def code (zs ds : List Int) : Int := if hol zs = true then (if ds.all isDay = true then 0 else 2) else 1
theorem code_ok {zs ds : List Int} (h : Hol zs) (hd : ds.all isDay = true) : code zs ds = 0 := by rw [code, if_pos ((hol_iff zs).2 h), if_pos hd]
theorem code_day {zs ds : List Int} (h : Hol zs) (hd : ¬ ds.all isDay = true) : code zs ds = 2 := by rw [code, if_pos ((hol_iff zs).2 h), if_neg hd]
theorem code_hol {zs ds : List Int} (h : ¬ Hol zs) : code zs ds = 1 := by rw [code, if_neg (fun e => h ((hol_iff zs).1 e))]
theorem code_cases (zs ds : List Int) : (code zs ds = 0 ∧ Hol zs ∧ ds.all isDay = true) ∨ code zs ds = 1 ∨ code zs ds = 2 := by
  by_cases h : Hol zs
  · by_cases hd : ds.all isDay = true
    · exact .inl ⟨code_ok h hd, h, hd⟩
    · exact .inr (.inr (code_day h hd))
  · exact .inr (.inl (code_hol h))
theorem code_twice (zs : List Int) (d : Int) : code zs [d, d] = code zs [d] := by simp [code]
theorem code_zero {zs ds : List Int} (h : code zs ds = 0) : Hol zs ∧ ds.all isDay = true := by
  rcases code_cases zs ds with ⟨_, h1, h2⟩ | e | e
  · exact ⟨h1, h2⟩
  · rw [h] at e; cases e
  · rw [h] at e; cases e
theorem all_one {d : Int} (h : [d].all isDay = true) : 0 ≤ d ∧ d ≤ 20000 := by simpa [isDay] using h
theorem all_two {a b : Int} (h : [a, b].all isDay = true) : (0 ≤ a ∧ a ≤ 20000) ∧ 0 ≤ b ∧ b ≤ 20000 := by simpa [isDay, and_assoc] using h
theorem one_all {d : Int} (h : 0 ≤ d ∧ d ≤ 20000) : [d].all isDay = true := by simpa [isDay] using h
theorem two_all {a b : Int} (h : (0 ≤ a ∧ a ≤ 20000) ∧ 0 ≤ b ∧ b ≤ 20000) : [a, b].all isDay = true := by simpa [isDay, and_assoc] using h

/-- the first court day that is not before d -/
noncomputable def nextOf (zs : List Int) (d : Int) : Int := Classical.epsilon (fun r => IsNext zs d r)
theorem nextOf_eq {zs : List Int} {d r : Int} (h : IsNext zs d r) : nextOf zs d = r := isNext_inj (Classical.epsilon_spec (p := fun r => IsNext zs d r) ⟨r, h⟩) h
theorem nextOf_is {zs : List Int} (h : Hol zs) (d : Int) : IsNext zs d (nextOf zs d) ∧ nextOf zs d ≤ max d 20001 + 2 := by
  obtain ⟨r, h1, h2⟩ := next_exists (fun x hx => (hol_day h x hx).2) d
  rw [nextOf_eq h1]; exact ⟨h1, h2⟩
/-- the n-th court day behind d -/
noncomputable def addOf (zs : List Int) (d : Int) (n : Nat) : Int := Classical.epsilon (fun r => IsAdd zs d n r)
theorem addOf_eq {zs : List Int} {d r : Int} {n : Nat} (h : IsAdd zs d n r) : addOf zs d n = r := isAdd_inj (Classical.epsilon_spec (p := fun r => IsAdd zs d n r) ⟨r, h⟩) h
theorem add_there {zs : List Int} (h : Hol zs) {d : Int} (hd : d ≤ 20000) (n : Nat) : ∃ r, IsAdd zs d n r ∧ r ≤ 20003 + 3 * (n : Int) := by
  induction n with
  | zero => exact ⟨d, isAdd_zero zs d, by omega⟩
  | succ n ih =>
    obtain ⟨r, h1, h2⟩ := ih
    obtain ⟨h3, h4⟩ := nextOf_is h (r + 1)
    exact ⟨_, isAdd_step h1 h3, by omega⟩
theorem addOf_is {zs : List Int} (h : Hol zs) {d : Int} (hd : d ≤ 20000) (n : Nat) : IsAdd zs d n (addOf zs d n) ∧ addOf zs d n ≤ 20003 + 3 * (n : Int) := by
  obtain ⟨r, h1, h2⟩ := add_there h hd n
  rw [addOf_eq h1]; exact ⟨h1, h2⟩
theorem addOf_zero (zs : List Int) (d : Int) : addOf zs d 0 = d := addOf_eq (isAdd_zero zs d)
theorem addOf_succ {zs : List Int} (h : Hol zs) {d : Int} (hd : d ≤ 20000) (n : Nat) : nextOf zs (addOf zs d n + 1) = addOf zs d (n + 1) :=
  (addOf_eq (isAdd_step (addOf_is h hd n).1 (nextOf_is h _).1)).symm
/-- adding goes on: the other way round, a step ahead of n steps -/
theorem addOf_from {zs : List Int} (h : Hol zs) {d : Int} (n : Nat) : ∀ r, IsAdd zs d n r → IsAdd zs d (n + 1) (nextOf zs (r + 1)) := fun _ hr => isAdd_step hr (nextOf_is h _).1

/-- a day, or the limit's error -/
def lim (r : Int) : Int × Int := if 20000 < r then (0, 3) else (r, 0)
theorem lim_yes {r : Int} (h : 20000 < r) : lim r = (0, 3) := by rw [lim, if_pos h]
theorem lim_no {r : Int} (h : ¬ 20000 < r) : lim r = (r, 0) := by rw [lim, if_neg h]

noncomputable def courtR (zs : List Int) (d : Int) : Bool × Int := if code zs [d] = 0 then (court zs d, 0) else (false, code zs [d])
noncomputable def nextR (zs : List Int) (d : Int) : Int × Int := if code zs [d] = 0 then lim (nextOf zs d) else (0, code zs [d])
noncomputable def addR (zs : List Int) (d n : Int) : Int × Int := if code zs [d] = 0 then (if 0 ≤ n ∧ n ≤ 400 then lim (addOf zs d n.toNat) else (0, 2)) else (0, code zs [d])
noncomputable def cntR (zs : List Int) (a b : Int) : Int × Int := if code zs [a, b] = 0 then (count zs a b, 0) else (0, code zs [a, b])
noncomputable def deadR (zs : List Int) (d k : Int) : Int × Int := if code zs [d] = 0 then (if 0 ≤ k ∧ k ≤ 1000 then lim (nextOf zs (d + k)) else (0, 2)) else (0, code zs [d])
/-- the last court day that is not behind d, or the error that there is none -/
noncomputable def lastOf (zs : List Int) (d : Int) : Int × Int := @ite _ (∃ r, IsLast zs d r) (Classical.propDecidable _) (Classical.epsilon (fun r => IsLast zs d r), 0) (0, 4)
theorem lastOf_yes {zs : List Int} {d r : Int} (h : IsLast zs d r) : lastOf zs d = (r, 0) := by
  have hh : ∃ r, IsLast zs d r := ⟨r, h⟩
  rw [lastOf, if_pos hh, isLast_inj (Classical.epsilon_spec (p := fun r => IsLast zs d r) hh) h]
theorem lastOf_no {zs : List Int} {d : Int} (h : ∀ x, 0 ≤ x → x ≤ d → court zs x = false) : lastOf zs d = (0, 4) := by
  rw [lastOf, if_neg]
  rintro ⟨r, h1, h2, h3, _⟩
  rw [h r h1 h2] at h3; cases h3
theorem last_all (zs : List Int) (d : Int) : (∃ r, IsLast zs d r) ∨ ∀ x, 0 ≤ x → x ≤ d → court zs x = false := by
  by_cases hd : d < 0
  · exact .inr fun x h1 h2 => by omega
  obtain ⟨n, rfl⟩ := Int.eq_ofNat_of_zero_le (by omega : 0 ≤ d)
  clear hd
  induction n with
  | zero =>
    cases hc : court zs 0 with
    | true => exact .inl ⟨0, by omega, by simp, hc, fun x h1 h2 => by simp at h2; omega⟩
    | false => exact .inr fun x h1 h2 => by simp at h2; rw [show x = 0 by omega]; exact hc
  | succ n ih =>
    cases hc : court zs ((n + 1 : Nat) : Int) with
    | true => exact .inl ⟨_, by omega, Int.le_refl _, hc, fun x h1 h2 => by omega⟩
    | false =>
      rcases ih with ⟨r, h1, h2, h3, h4⟩ | h
      · refine .inl ⟨r, h1, by omega, h3, fun x h5 h6 => ?_⟩
        by_cases e : x = ((n + 1 : Nat) : Int)
        · rw [e]; exact hc
        · exact h4 x h5 (by omega)
      · refine .inr fun x h5 h6 => ?_
        by_cases e : x = ((n + 1 : Nat) : Int)
        · rw [e]; exact hc
        · exact h x h5 (by omega)
noncomputable def lastR (zs : List Int) (d : Int) : Int × Int := if code zs [d] = 0 then lastOf zs d else (0, code zs [d])
/-- the longest break in a .. b and its length, or the error that there is none -/
noncomputable def brkOf (zs : List Int) (a b : Int) : Int × Int × Int :=
  @ite _ (∃ p : Int × Int, IsBrk zs a b p.1 p.2) (Classical.propDecidable _) ((Classical.epsilon (fun p : Int × Int => IsBrk zs a b p.1 p.2)).1, (Classical.epsilon (fun p : Int × Int => IsBrk zs a b p.1 p.2)).2, 0) (0, 0, 4)
theorem brkOf_yes {zs : List Int} {a b s n : Int} (h : IsBrk zs a b s n) : brkOf zs a b = (s, n, 0) := by
  have hh : ∃ p : Int × Int, IsBrk zs a b p.1 p.2 := ⟨(s, n), h⟩
  obtain ⟨h1, h2⟩ := isBrk_inj (Classical.epsilon_spec (p := fun p : Int × Int => IsBrk zs a b p.1 p.2) hh) h
  rw [brkOf, if_pos hh, h1, h2]
theorem brkOf_no {zs : List Int} {a b : Int} (h : ∀ x, a ≤ x → x ≤ b → court zs x = true) : brkOf zs a b = (0, 0, 4) := by
  rw [brkOf, if_neg]
  rintro ⟨p, hp⟩
  exact isBrk_no hp h
noncomputable def brkR (zs : List Int) (a b : Int) : Int × Int × Int := if code zs [a, b] = 0 then (if 0 ≤ b - a ∧ b - a ≤ 999 then brkOf zs a b else (0, 0, 2)) else (0, 0, code zs [a, b])

theorem ite_iff {p q : Prop} [Decidable p] [Decidable q] (h : p ↔ q) (a b : Int) : (if p then a else b) = if q then a else b := by
  by_cases hp : p
  · rw [if_pos hp, if_pos (h.1 hp)]
  · rw [if_neg hp, if_neg (fun hq => hp (h.2 hq))]
/-- the days from Monday to Friday before d -/
def wd (d : Int) : Int := d / 7 * 5 + min (d % 7) 5
theorem wd_succ (d : Int) : wd (d + 1) = wd d + (if d % 7 < 5 then 1 else 0) := by unfold wd; split <;> omega
/-- the holidays before d that are no Saturday or Sunday -/
def hcn (d : Int) : List Int → Int
  | [] => 0
  | h :: t => (if h < d ∧ h % 7 < 5 then 1 else 0) + hcn d t
theorem hcn_append (d : Int) (a b : List Int) : hcn d (a ++ b) = hcn d a + hcn d b := by
  induction a with
  | nil => simp [hcn]
  | cons x r ih => rw [List.cons_append, hcn, hcn, ih]; omega
theorem hcn_snoc (d : Int) (a : List Int) (x : Int) : hcn d (a ++ [x]) = hcn d a + (if x < d ∧ x % 7 < 5 then 1 else 0) := by rw [hcn_append]; simp [hcn]
theorem hcn_bd (d : Int) (zs : List Int) : 0 ≤ hcn d zs ∧ hcn d zs ≤ zs.length := by
  induction zs with
  | nil => simp [hcn]
  | cons x r ih => rw [hcn, List.length_cons]; split <;> omega
theorem hcn_none {d : Int} {zs : List Int} (h : d ∉ zs) : hcn (d + 1) zs = hcn d zs := by
  induction zs with
  | nil => rfl
  | cons x r ih =>
    have hx : x ≠ d := fun e => h (by rw [e]; exact List.mem_cons_self ..)
    have e : (x < d + 1 ∧ x % 7 < 5) ↔ (x < d ∧ x % 7 < 5) := by omega
    rw [hcn, hcn, ih (fun hm => h (List.mem_cons_of_mem _ hm)), ite_iff e]
theorem hcn_succ {zs : List Int} (hn : zs.Nodup) (d : Int) : hcn (d + 1) zs = hcn d zs + (if d ∈ zs ∧ d % 7 < 5 then 1 else 0) := by
  induction zs with
  | nil => simp [hcn]
  | cons x r ih =>
    rw [List.nodup_cons] at hn
    by_cases e : x = d
    · subst e
      rw [hcn, hcn, hcn_none hn.1, if_neg (by omega : ¬ (x < x ∧ x % 7 < 5))]
      by_cases h5 : x % 7 < 5
      · rw [if_pos ⟨by omega, h5⟩, if_pos ⟨List.mem_cons_self .., h5⟩]; omega
      · rw [if_neg (fun h => h5 h.2), if_neg (fun h => h5 h.2)]; omega
    · have e1 : (x < d + 1 ∧ x % 7 < 5) ↔ (x < d ∧ x % 7 < 5) := by omega
      have e2 : (d ∈ x :: r ∧ d % 7 < 5) ↔ (d ∈ r ∧ d % 7 < 5) := by
        rw [List.mem_cons]; constructor
        · rintro ⟨h | h, h'⟩
          · exact absurd h.symm e
          · exact ⟨h, h'⟩
        · rintro ⟨h, h'⟩; exact ⟨.inr h, h'⟩
      rw [hcn, hcn, ih hn.2, ite_iff e1, ite_iff e2]; omega
theorem hcn_zero {zs : List Int} (h : ∀ x ∈ zs, 0 ≤ x) : hcn 0 zs = 0 := by
  induction zs with
  | nil => rfl
  | cons x r ih =>
    have := h x (List.mem_cons_self ..)
    rw [hcn, ih (fun y hy => h y (List.mem_cons_of_mem _ hy)), if_neg (by omega)]; rfl
theorem hol_lt {zs : List Int} (h : Hol zs) : ∀ (k i : Nat) (x y : Int), zs[i]? = some x → zs[i + k + 1]? = some y → x < y := by
  intro k
  induction k with
  | zero => intro i x y hx hy; exact h.2.1 i x y hx hy
  | succ k ih =>
    intro i x y hx hy
    have hl := (List.getElem?_eq_some_iff.1 hy).1
    have h1 := ih i x _ hx (List.getElem?_eq_getElem (by omega : i + k + 1 < zs.length))
    have h2 := h.2.1 (i + k + 1) _ y (List.getElem?_eq_getElem (by omega : i + k + 1 < zs.length)) (by rw [← hy]; congr 1)
    omega
theorem hol_pair {zs : List Int} (h : Hol zs) : zs.Pairwise (· < ·) := by
  rw [List.pairwise_iff_getElem]
  intro i j hi hj hij
  exact hol_lt h (j - i - 1) i _ _ (List.getElem?_eq_getElem hi) (by rw [show i + (j - i - 1) + 1 = j by omega]; exact List.getElem?_eq_getElem hj)
theorem hol_nodup {zs : List Int} (h : Hol zs) : zs.Nodup := (hol_pair h).imp fun h' => by omega
theorem count_nat {zs : List Int} (h : Hol zs) (k : Nat) : count zs 0 (k : Int) = wd k - hcn k zs := by
  induction k with
  | zero =>
    rw [show ((0 : Nat) : Int) = 0 from rfl, count_none (Int.le_refl 0), hcn_zero (fun x hx => (hol_day h x hx).1)]; rfl
  | succ k ih =>
    rw [show ((k + 1 : Nat) : Int) = (k : Int) + 1 by omega, count_snoc (by omega), ih, wd_succ, hcn_succ (hol_nodup h)]
    by_cases h5 : (k : Int) % 7 < 5
    · by_cases hm : (k : Int) ∈ zs
      · rw [if_neg (by rw [court_iff]; exact fun h => h.2 hm), if_pos h5, if_pos ⟨hm, h5⟩]; omega
      · rw [if_pos ((court_iff zs _).2 ⟨h5, hm⟩), if_pos h5, if_neg (fun h => hm h.1)]; omega
    · rw [if_neg (by rw [court_iff]; exact fun h => h5 h.1), if_neg h5, if_neg (fun h => h5 h.2)]; omega
theorem count_wd {zs : List Int} (h : Hol zs) {d : Int} (hd : 0 ≤ d) : wd d - hcn d zs = count zs 0 d := by
  obtain ⟨k, rfl⟩ := Int.eq_ofNat_of_zero_le hd
  exact (count_nat h k).symm
theorem count_diff {zs : List Int} {a b : Int} (h0 : 0 ≤ a) (h : a ≤ b) : count zs 0 b - count zs 0 a = count zs a b := by rw [count_add h0 h]; omega

/-- whether x is in zs -/
def has (zs : List Int) (x : Int) : Bool := zs.contains x
theorem court_has (zs : List Int) (d : Int) : court zs d = (decide (d % 7 < 5) && !has zs d) := rfl
/-- what a search in a sorted list comes to -/
theorem found_yes {zs : List Int} {k : Nat} {x : Int} (h : zs[k]? = some x) : has zs x = true := by unfold has; simpa using List.mem_of_getElem? h
theorem found_not {zs : List Int} {x : Int} (h : x ∉ zs) : has zs x = false := by unfold has; simpa using h
theorem found_no {zs : List Int} {k : Nat} {x : Int} (h1 : ∀ t y, t < k → zs[t]? = some y → y < x) (h2 : ∀ t y, k ≤ t → zs[t]? = some y → x < y) : has zs x = false := by
  refine found_not fun h => ?_
  obtain ⟨t, ht⟩ := List.mem_iff_getElem?.1 h
  by_cases e : t < k
  · have := h1 t x e ht; omega
  · have := h2 t x (by omega) ht; omega

end Go.Proofs.Ytekhdggaelppkaa.Pure21
/- Plain facts on persons (chapter 4): what a person and persons are, likeness, the most alike one, finding. No program is imported here. -/
namespace Go.Proofs.Ytekhdggaelppkaa.Pure40
open Go.RowKit Pure1

/-- a person: number, first and last name, year, zone -/
structure Pers where
  num : Int
  fst : ByteArray
  lst : ByteArray
  born : Int
  zone : Int

def inR (n a b : Int) : Bool := decide (a ≤ n) && decide (n ≤ b)
def isPers (p : Pers) : Bool := inR p.num 1 1000000 && (isWordL p.fst.data.toList && (isWordL p.lst.data.toList && (inR p.born 1900 2100 && inR p.zone 0 99)))
/-- the value of a person -/
def Pers.val (p : Pers) : Value := .agg #[.int .i64 p.num, .string p.fst, .string p.lst, .int .i64 p.born, .int .i64 p.zone]
/-- the values of its fields -/
def Pers.cells (p : Pers) : List Value := [.int .i64 p.num, .string p.fst, .string p.lst, .int .i64 p.born, .int .i64 p.zone]
/-- the names of a person are no longer than a text may be -/
def Pers.fits (p : Pers) : Prop := p.fst.size ≤ maxLen ∧ p.lst.size ≤ maxLen

theorem inR_iff {n a b : Int} : inR n a b = true ↔ a ≤ n ∧ n ≤ b := by simp [inR]
theorem inR_no {n a b : Int} : inR n a b = false ↔ n < a ∨ b < n := by rw [← Bool.not_eq_true, inR_iff]; omega

/-- A person lies at cell o of block b: five cells. -/
def AtP (w : World) (b o : Nat) (p : Pers) : Prop :=
  w.cell? ⟨b, o, none⟩ = some (.int .i64 p.num) ∧ w.cell? ⟨b, o + 1, none⟩ = some (.string p.fst) ∧ w.cell? ⟨b, o + 2, none⟩ = some (.string p.lst) ∧ w.cell? ⟨b, o + 3, none⟩ = some (.int .i64 p.born) ∧ w.cell? ⟨b, o + 4, none⟩ = some (.int .i64 p.zone)
/-- A person lies in block b, from its first cell on. -/
def AtB (w : World) (b : Nat) (p : Pers) : Prop :=
  w.cell? ⟨b, 0, none⟩ = some (.int .i64 p.num) ∧ w.cell? ⟨b, 1, none⟩ = some (.string p.fst) ∧ w.cell? ⟨b, 2, none⟩ = some (.string p.lst) ∧ w.cell? ⟨b, 3, none⟩ = some (.int .i64 p.born) ∧ w.cell? ⟨b, 4, none⟩ = some (.int .i64 p.zone)
theorem AtB.below {w w' : World} {b : Nat} {p : Pers} (h : AtB w b p) (hb : Below w.heap.size w w') : AtB w' b p :=
  ⟨cell_later hb h.1, cell_later hb h.2.1, cell_later hb h.2.2.1, cell_later hb h.2.2.2.1, cell_later hb h.2.2.2.2⟩
theorem atB_box (w : World) (n : Int) (f l : ByteArray) (b z : Int) (T : TypeId) : AtB (w.alloc (.cells #[.int .i64 n, .string f, .string l, .int .i64 b, .int .i64 z] T)) w.heap.size ⟨n, f, l, b, z⟩ := by
  have h : (w.alloc (.cells #[.int .i64 n, .string f, .string l, .int .i64 b, .int .i64 z] T)).heap[w.heap.size]? = some (.cells #[.int .i64 n, .string f, .string l, .int .i64 b, .int .i64 z] T) := heap_alloc_new w _
  refine ⟨?_, ?_, ?_, ?_, ?_⟩ <;> (unfold World.cell?; rw [h]; rfl)
theorem boxed (w : World) (o : Obj) : Below w.heap.size w (w.alloc o) := (Below.refl _ _).alloc (Nat.le_refl _) _
/-- The slice at address a reads, from its head on, the persons ps. -/
def PersAt (w : World) (a : Option Addr) (ps : List Pers) : Prop :=
  ps = [] ∨ ∃ b off, a = some ⟨b, off, none⟩ ∧ ∀ i p, ps[i]? = some p → AtP w b (off + i * 5) p

theorem AtP.below {w w' : World} {b o : Nat} {p : Pers} (h : AtP w b o p) (hb : Below w.heap.size w w') : AtP w' b o p :=
  ⟨cell_later hb h.1, cell_later hb h.2.1, cell_later hb h.2.2.1, cell_later hb h.2.2.2.1, cell_later hb h.2.2.2.2⟩
theorem AtP.lt {w : World} {b o : Nat} {p : Pers} (h : AtP w b o p) : b < w.heap.size := World.block_lt_of_cell? w _ h.1
theorem PersAt.below {w w' : World} {a : Option Addr} {ps : List Pers} (h : PersAt w a ps) (hb : Below w.heap.size w w') : PersAt w' a ps := by
  rcases h with rfl | ⟨b, off, rfl, hc⟩
  · exact .inl rfl
  · exact .inr ⟨b, off, rfl, fun i x hx => (hc i x hx).below hb⟩
theorem PersAt.at {w : World} {a : Option Addr} {ps : List Pers} (h : PersAt w a ps) {k len : Nat} (hl : ps.length = len) (hk : k < len) :
    ∃ b off p, a = some ⟨b, off, none⟩ ∧ AtP w b (off + k * 5) p ∧ ps[k]? = some p := by
  have hx : ps[k]? = some ps[k] := List.getElem?_eq_getElem (by omega)
  rcases h with rfl | ⟨b, off, rfl, hc⟩
  · simp at hl; omega
  · exact ⟨b, off, _, rfl, hc k _ hx, hx⟩
/-- the names of all persons are no longer than a text may be -/
def Fits (ps : List Pers) : Prop := ∀ p ∈ ps, p.fits
theorem Fits.at {ps : List Pers} (h : Fits ps) {k : Nat} {p : Pers} (hp : ps[k]? = some p) : p.fst.size ≤ maxLen ∧ p.lst.size ≤ maxLen := h p (List.mem_of_getElem? hp)

/-! the persons of a list, in order -/
def okAt (ps : List Pers) (i : Nat) : Bool :=
  match ps[i]? with
  | none => true
  | some p => isPers p && (match i with
    | 0 => true
    | j + 1 => (match ps[j]? with
      | none => true
      | some q => decide (q.num < p.num)))
/-- are they persons? -/
def arePers (ps : List Pers) : Bool := (List.range ps.length).all (okAt ps) && decide (ps.length ≤ 12)
theorem okAt_zero {ps : List Pers} {p : Pers} (h : ps[0]? = some p) : okAt ps 0 = isPers p := by simp [okAt, h]
theorem okAt_succ {ps : List Pers} {j : Nat} {p q : Pers} (h : ps[j + 1]? = some p) (h' : ps[j]? = some q) : okAt ps (j + 1) = (isPers p && decide (q.num < p.num)) := by simp [okAt, h, h']
theorem arePers_no {ps : List Pers} {k : Nat} (hk : k < ps.length) (h : okAt ps k = false) : arePers ps = false := by
  have : (List.range ps.length).all (okAt ps) = false := by
    rw [List.all_eq_false]; exact ⟨k, List.mem_range.2 hk, by simp [h]⟩
  rw [arePers, this, Bool.false_and]
theorem arePers_end {ps : List Pers} {k : Nat} (h : ∀ i, i < k → okAt ps i = true) (hk : ps.length ≤ k) : arePers ps = decide (ps.length ≤ 12) := by
  have : (List.range ps.length).all (okAt ps) = true := by
    rw [List.all_eq_true]; exact fun i hi => h i (by have := List.mem_range.1 hi; omega)
  rw [arePers, this, Bool.true_and]
theorem arePers_at {ps : List Pers} {k : Nat} {p : Pers} (h : arePers ps = true) (hp : ps[k]? = some p) : isPers p = true := by
  simp only [arePers, Bool.and_eq_true, List.all_eq_true] at h
  have hk : k < ps.length := (List.getElem?_eq_some_iff.1 hp).1
  have := h.1 k (List.mem_range.2 hk)
  simp only [okAt, hp, Bool.and_eq_true] at this
  exact this.1
theorem arePers_len {ps : List Pers} (h : arePers ps = true) : ps.length ≤ 12 := by
  simp only [arePers, Bool.and_eq_true, decide_eq_true_eq] at h; exact h.2

end Go.Proofs.Ytekhdggaelppkaa.Pure40
/- Plain facts: a number is put into an increasing list (model's l07Insert); a sorted list, each once. For seats without terms (cut out of Pure70 and Pure72). -/
namespace Go.Proofs.Ytekhdggaelppkaa
open Pure2

/-- a number put in at its place, once -/
def insI : List Int → Int → List Int
  | [], n => [n]
  | z :: zs, n => if z < n then z :: insI zs n else if z = n then z :: zs else n :: z :: zs
theorem insI_at {zs : List Int} {n : Int} {at_ : Nat} (h : ∀ (i : Nat) x, i < at_ → zs[i]? = some x → x < n) (hat : at_ ≤ zs.length) (hs : ∀ x, zs[at_]? = some x → ¬ x < n) :
    insI zs n = if zs[at_]? = some n then zs else zs.take at_ ++ [n] ++ zs.drop at_ := by
  induction zs generalizing at_ with
  | nil => simp at hat; subst hat; rfl
  | cons z zs ih =>
    cases at_ with
    | zero =>
      have hz := hs z rfl
      simp only [insI, if_neg hz, List.getElem?_cons_zero, Option.some.injEq, List.take_zero, List.drop_zero]
      rfl
    | succ k =>
      have hz := h 0 z (by omega) rfl
      have := ih (at_ := k) (fun i x hi hx => h (i + 1) x (by omega) (by simpa using hx)) (by simpa using hat) (fun x hx => hs x (by simpa using hx))
      simp only [insI, if_pos hz, List.getElem?_cons_succ, List.take_succ_cons, List.drop_succ_cons]
      rw [this]
      split <;> rfl
theorem insI_len (zs : List Int) (n : Int) : (insI zs n).length ≤ zs.length + 1 := by
  induction zs with
  | nil => simp [insI]
  | cons z zs ih =>
    unfold insI
    split
    · simp; omega
    · split <;> simp
theorem insI_mem (zs : List Int) (n x : Int) : x ∈ insI zs n ↔ x = n ∨ x ∈ zs := by
  induction zs with
  | nil => simp [insI]
  | cons z zs ih =>
    unfold insI
    split
    · simp only [List.mem_cons, ih]; constructor <;> (intro h; rcases h with h | h | h <;> simp [h])
    · split
      · rename_i h; subst h; simp
      · simp
/-- strictly increasing -/
def Incs (zs : List Int) : Prop := zs.Pairwise (· < ·)
theorem insI_incs {zs : List Int} (h : Incs zs) (n : Int) : Incs (insI zs n) := by
  unfold Incs at h ⊢
  induction zs with
  | nil => simp [insI]
  | cons z zs ih =>
    rw [List.pairwise_cons] at h
    unfold insI
    split
    · rename_i hz
      rw [List.pairwise_cons]
      refine ⟨fun x hx => ?_, ih h.2⟩
      rcases (insI_mem zs n x).1 hx with rfl | hx
      · exact hz
      · exact h.1 x hx
    · split
      · rw [List.pairwise_cons]; exact h
      · rename_i h1 h2
        rw [List.pairwise_cons, List.pairwise_cons]
        refine ⟨fun x hx => ?_, h⟩
        rcases List.mem_cons.1 hx with rfl | hx
        · omega
        · have := h.1 x hx; omega
/-- two strictly increasing lists of the same numbers are one -/
theorem incs_ext : ∀ {xs ys : List Int}, Incs xs → Incs ys → (∀ x, x ∈ xs ↔ x ∈ ys) → xs = ys := by
  intro xs
  induction xs with
  | nil =>
    intro ys _ _ h
    cases ys with
    | nil => rfl
    | cons y ys => have := (h y).2 (by simp); simp at this
  | cons x xs ih =>
    intro ys hx hy h
    cases ys with
    | nil => have := (h x).1 (by simp); simp at this
    | cons y ys =>
      unfold Incs at hx hy
      rw [List.pairwise_cons] at hx hy
      have e : x = y := by
        have h1 : x ∈ y :: ys := (h x).1 (by simp)
        have h2 : y ∈ x :: xs := (h y).2 (by simp)
        rcases List.mem_cons.1 h1 with h1 | h1
        · exact h1
        · rcases List.mem_cons.1 h2 with h2 | h2
          · exact h2.symm
          · have := hy.1 x h1; have := hx.1 y h2; omega
      subst e
      rw [ih hx.2 hy.2 fun z => ?_]
      constructor
      · intro hz
        have := (h z).1 (List.mem_cons_of_mem _ hz)
        rcases List.mem_cons.1 this with e | h3
        · subst e; have := hx.1 z hz; omega
        · exact h3
      · intro hz
        have := (h z).2 (List.mem_cons_of_mem _ hz)
        rcases List.mem_cons.1 this with e | h3
        · subst e; have := hy.1 z hz; omega
        · exact h3
/-- a sorted list, each once -/
theorem compactTo_inv (xs : List Int) (h : xs.Pairwise (· ≤ ·)) : ∀ m, m ≤ xs.length → Incs (Go.Lib.compactUpTo xs.toArray m) ∧ ∀ z, z ∈ Go.Lib.compactUpTo xs.toArray m ↔ ∃ i, i < m ∧ xs[i]? = some z := by
  intro m
  induction m with
  | zero => intro _; exact ⟨List.Pairwise.nil, fun z => by simp [Go.Lib.compactUpTo]⟩
  | succ m ih =>
    intro hm
    obtain ⟨h1, h2⟩ := ih (by omega)
    have hx : xs[m]? = some (xs[m]'(by omega)) := List.getElem?_eq_getElem (by omega)
    have g0 : xs.toArray[m]! = xs[m]'(by omega) := by simp [show m < xs.length by omega]
    rw [Go.Lib.compactUpTo_succ]
    have hkey : ∀ z, (∃ i, i < m + 1 ∧ xs[i]? = some z) ↔ (∃ i, i < m ∧ xs[i]? = some z) ∨ z = xs[m]'(by omega) := fun z => by
      constructor
      · rintro ⟨i, hi, e⟩
        by_cases e2 : i = m
        · subst e2; rw [hx] at e; exact .inr (Option.some.inj e).symm
        · exact .inl ⟨i, by omega, e⟩
      · rintro (⟨i, hi, e⟩ | rfl)
        · exact ⟨i, by omega, e⟩
        · exact ⟨m, by omega, hx⟩
    cases hk : Go.Lib.keeps xs.toArray m with
    | true =>
      rw [if_pos rfl, g0]
      refine ⟨?_, fun z => ?_⟩
      · unfold Incs
        rw [List.pairwise_append]
        refine ⟨h1, List.pairwise_singleton _ _, fun a ha b hb => ?_⟩
        simp at hb; subst hb
        obtain ⟨i, hi, e⟩ := (h2 a).1 ha
        have hp := List.pairwise_iff_getElem.1 h
        have hne : xs[m]'(by omega) ≠ xs[m - 1]'(by omega) := by
          unfold Go.Lib.keeps at hk
          rw [decide_eq_true_iff, g0] at hk
          have g1 : xs.toArray[m - 1]! = xs[m - 1]'(by omega) := by simp [show m - 1 < xs.length by omega]
          rw [g1] at hk
          rcases hk with hk | hk
          · omega
          · exact hk
        have hl1 := hp (m - 1) m (by omega) (by omega) (by omega)
        have hai : a = xs[i]'(by omega) := by rw [List.getElem?_eq_getElem (by omega)] at e; exact (Option.some.inj e).symm
        have hl2 : a ≤ xs[m - 1]'(by omega) := by
          rw [hai]
          by_cases e2 : i = m - 1
          · subst e2; exact Int.le_refl _
          · exact hp i (m - 1) (by omega) (by omega) (by omega)
        omega
      · rw [List.mem_append, h2, hkey]; simp
    | false =>
      have hne : m ≠ 0 ∧ xs[m]'(by omega) = xs[m - 1]'(by omega) := by
        unfold Go.Lib.keeps at hk
        rw [decide_eq_false_iff_not, g0] at hk
        have hm0 : m ≠ 0 := fun e => hk (.inl e)
        have g1 : xs.toArray[m - 1]! = xs[m - 1]'(by omega) := by simp [show m - 1 < xs.length by omega]
        rw [g1] at hk
        exact ⟨hm0, Decidable.byContradiction fun e => hk (.inr e)⟩
      rw [if_neg (by simp), List.append_nil]
      refine ⟨h1, fun z => ?_⟩
      rw [h2, hkey]
      constructor
      · exact .inl
      · rintro (h | rfl)
        · exact h
        · exact ⟨m - 1, by omega, by rw [List.getElem?_eq_getElem (by omega), ← hne.2]⟩
theorem compactL_mem {xs : List Int} (h : xs.Pairwise (· ≤ ·)) (z : Int) : z ∈ Go.Lib.compact xs ↔ z ∈ xs := by
  rw [show Go.Lib.compact xs = Go.Lib.compactUpTo xs.toArray xs.length from rfl, (compactTo_inv xs h xs.length (Nat.le_refl _)).2 z, List.mem_iff_getElem?]
  constructor
  · rintro ⟨i, _, e⟩; exact ⟨i, e⟩
  · rintro ⟨i, e⟩; exact ⟨i, (List.getElem?_eq_some_iff.1 e).1, e⟩
theorem compactL_incs {xs : List Int} (h : xs.Pairwise (· ≤ ·)) : Incs (Go.Lib.compact xs) := (compactTo_inv xs h xs.length (Nat.le_refl _)).1
/-! sorted lists -/
def sortI (zs : List Int) : List Int := zs.mergeSort fun x y => decide (x ≤ y)
theorem sortI_perm (zs : List Int) : (sortI zs).Perm zs := List.mergeSort_perm _ _
theorem sortI_length (zs : List Int) : (sortI zs).length = zs.length := (sortI_perm zs).length_eq
theorem sortI_pair (zs : List Int) : (sortI zs).Pairwise (· ≤ ·) := by
  have h := List.pairwise_mergeSort (le := fun x y : Int => decide (x ≤ y)) (by intro a b c; simp; omega) (by intro a b; simp; omega) zs
  exact h.imp (by simp)
end Go.Proofs.Ytekhdggaelppkaa
/- A struct of numbers: Call. Where it lies, how an argument is opened. (written by flat.py) -/
namespace Go.Proofs.Ytekhdggaelppkaa
open Go.RowKit Go.ChangeShapes Go.WideShapes Go.Deep Pure2

structure Call where
  num : Int
  fst : Int
  day : Int
  moves : Int
deriving DecidableEq
def Call.cells (c : Call) : List Value := [.int .i64 c.num, .int .i64 c.fst, .int .i64 c.day, .int .i64 c.moves]
/-- it lies at cell o of block b -/
def Call.At (w : World) (b o : Nat) (c : Call) : Prop := w.cell? ⟨b, o, none⟩ = some (.int .i64 c.num) ∧ w.cell? ⟨b, o + 1, none⟩ = some (.int .i64 c.fst) ∧ w.cell? ⟨b, o + 2, none⟩ = some (.int .i64 c.day) ∧ w.cell? ⟨b, o + 3, none⟩ = some (.int .i64 c.moves)
/-- .. from the block's first cell on -/
def Call.Box (w : World) (b : Nat) (c : Call) : Prop := w.cell? ⟨b, 0, none⟩ = some (.int .i64 c.num) ∧ w.cell? ⟨b, 1, none⟩ = some (.int .i64 c.fst) ∧ w.cell? ⟨b, 2, none⟩ = some (.int .i64 c.day) ∧ w.cell? ⟨b, 3, none⟩ = some (.int .i64 c.moves)
theorem Call.At.below {w w' : World} {b o : Nat} {c : Call} (h : Call.At w b o c) (hb : Below w.heap.size w w') : Call.At w' b o c :=
  ⟨cell_later hb h.1, cell_later hb h.2.1, cell_later hb h.2.2.1, cell_later hb h.2.2.2⟩
theorem Call.Box.below {w w' : World} {b : Nat} {c : Call} (h : Call.Box w b c) (hb : Below w.heap.size w w') : Call.Box w' b c :=
  ⟨cell_later hb h.1, cell_later hb h.2.1, cell_later hb h.2.2.1, cell_later hb h.2.2.2⟩
theorem Call.At.grown {w w' : World} {b o q : Nat} {c : Call} (h : Call.At w b o c) (hg : w.grownBy w' (some q)) (hne : b ≠ q) : Call.At w' b o c :=
  ⟨hg.cell h.1 (fun e => hne (Option.some.inj e)), hg.cell h.2.1 (fun e => hne (Option.some.inj e)), hg.cell h.2.2.1 (fun e => hne (Option.some.inj e)), hg.cell h.2.2.2 (fun e => hne (Option.some.inj e))⟩
theorem Call.Box.grown {w w' : World} {b q : Nat} {c : Call} (h : Call.Box w b c) (hg : w.grownBy w' (some q)) (hne : b ≠ q) : Call.Box w' b c :=
  ⟨hg.cell h.1 (fun e => hne (Option.some.inj e)), hg.cell h.2.1 (fun e => hne (Option.some.inj e)), hg.cell h.2.2.1 (fun e => hne (Option.some.inj e)), hg.cell h.2.2.2 (fun e => hne (Option.some.inj e))⟩
theorem Call.Box.at {w : World} {b : Nat} {c : Call} (h : Call.Box w b c) : Call.At w b 0 c := by
  unfold Call.At; simp only [Nat.zero_add]; exact h
theorem Call.At.box {w : World} {b : Nat} {c : Call} (h : Call.At w b 0 c) : Call.Box w b c := by
  unfold Call.At at h; simp only [Nat.zero_add] at h; exact h
theorem Call.At.lt {w : World} {b o : Nat} {c : Call} (h : Call.At w b o c) : b < w.heap.size := World.block_lt_of_cell? w _ h.1
theorem Call.boxed (w : World) (c : Call) (T : TypeId) : Call.Box (w.alloc (.cells #[.int .i64 c.num, .int .i64 c.fst, .int .i64 c.day, .int .i64 c.moves] T)) w.heap.size c := by
  have h : (w.alloc (.cells #[.int .i64 c.num, .int .i64 c.fst, .int .i64 c.day, .int .i64 c.moves] T)).heap[w.heap.size]? = some (.cells #[.int .i64 c.num, .int .i64 c.fst, .int .i64 c.day, .int .i64 c.moves] T) := heap_alloc_new w _
  refine ⟨?_, ?_, ?_, ?_⟩ <;> (unfold World.cell?; rw [h]; rfl)
/-- The slice at address a reads, from its head on, the list ts. -/
def Call.ListAt (w : World) (a : Option Addr) (ts : List Call) : Prop :=
  ts = [] ∨ ∃ b off, a = some ⟨b, off, none⟩ ∧ ∀ i c, ts[i]? = some c → Call.At w b (off + i * 4) c
theorem Call.ListAt.below {w w' : World} {a : Option Addr} {ts : List Call} (h : Call.ListAt w a ts) (hb : Below w.heap.size w w') : Call.ListAt w' a ts := by
  rcases h with rfl | ⟨b, off, rfl, hc⟩
  · exact .inl rfl
  · exact .inr ⟨b, off, rfl, fun i x hx => (hc i x hx).below hb⟩
theorem Call.ListAt.at {w : World} {a : Option Addr} {ts : List Call} (h : Call.ListAt w a ts) {n len : Nat} (hl : ts.length = len) (hn : n < len) :
    ∃ b off c, a = some ⟨b, off, none⟩ ∧ Call.At w b (off + n * 4) c ∧ ts[n]? = some c := by
  have hx : ts[n]? = some ts[n] := List.getElem?_eq_getElem (by omega)
  rcases h with rfl | ⟨b, off, rfl, hc⟩
  · simp at hl; omega
  · exact ⟨b, off, _, rfl, hc n _ hx, hx⟩

/-- a type whose values are such structs -/
def Call.Ty (P : Program) (T : TypeId) : Prop :=
  ∃ f0 f1 f2 f3 : Field, P.underlying T = some (.struct #[f0, f1, f2, f3]) ∧ P.cellsOf T = 4 ∧ f0.offset = 0 ∧ f1.offset = 1 ∧ f2.offset = 2 ∧ f3.offset = 3 ∧ P.cellsOf f0.type = 1 ∧ P.cellsOf f1.type = 1 ∧ P.cellsOf f2.type = 1 ∧ P.cellsOf f3.type = 1 ∧ P.underlying f0.type = some (.int .i64) ∧ P.underlying f1.type = some (.int .i64) ∧ P.underlying f2.type = some (.int .i64) ∧ P.underlying f3.type = some (.int .i64)
section
variable {H : Type} {enc : TypeId × Value → H} {P : Program} {w : World} {base : Nat} {spare : Nat → Bool} {held : Bool} {T : TypeId}
theorem Call.of_trod (hT : Call.Ty P T) {fuel : Nat} {cs : List Value} {x : DataW H × List MemPlace} (h : DataW.trod enc P w base spare held fuel T cs = some x) :
    ∃ c : Call, cs = c.cells := by
  obtain ⟨f0, f1, f2, f3, hs, hC, o0, o1, o2, o3, c0, c1, c2, c3, u0, u1, u2, u3⟩ := hT
  obtain ⟨xs, n, _, _, hlen0, hlen, hg⟩ := DataW.trod_struct hs h
  rw [hC] at hlen0
  match cs, hlen0 with
  | [d0, d1, d2, d3], _ =>
    match xs, hlen with
    | [y0, y1, y2, y3], _ =>
      have h0 : DataW.trod enc P w base spare held n f0.type [d0] = some y0 := by simpa [o0, c0] using hg 0 f0 rfl
      have h1 : DataW.trod enc P w base spare held n f1.type [d1] = some y1 := by simpa [o1, c1] using hg 1 f1 rfl
      have h2 : DataW.trod enc P w base spare held n f2.type [d2] = some y2 := by simpa [o2, c2] using hg 2 f2 rfl
      have h3 : DataW.trod enc P w base spare held n f3.type [d3] = some y3 := by simpa [o3, c3] using hg 3 f3 rfl
      obtain ⟨n0, e0, _⟩ := DataW.trod_int u0 h0
      obtain ⟨n1, e1, _⟩ := DataW.trod_int u1 h1
      obtain ⟨n2, e2, _⟩ := DataW.trod_int u2 h2
      obtain ⟨n3, e3, _⟩ := DataW.trod_int u3 h3
      cases e0; cases e1; cases e2; cases e3
      exact ⟨⟨n0, n1, n2, n3⟩, rfl⟩
/-- an argument that is such a struct -/
theorem Call.open (hT : Call.Ty P T) {r : Reach} {b0 : Nat} {v : Value} {d : DataW H} {ps : List MemPlace} (hv : Value.okWide P w r b0 T v) (h : DataW.Trod enc P w base spare held T v d ps) :
    ∃ c : Call, v = .agg #[.int .i64 c.num, .int .i64 c.fst, .int .i64 c.day, .int .i64 c.moves] := by
  obtain ⟨f0, f1, f2, f3, hs, _⟩ := id hT
  obtain ⟨cs, rfl, _⟩ := okWide_struct hs hv
  obtain ⟨fuel, hf⟩ := h
  obtain ⟨p, hp⟩ := Call.of_trod hT hf
  refine ⟨p, ?_⟩
  obtain ⟨l⟩ := cs
  simp only [Value.cells] at hp
  subst hp
  rfl
/-- an argument that is a slice of such structs -/
theorem Call.openS {S : TypeId} (hT : Call.Ty P T) (hS : P.underlying S = some (.slice T)) {fuel : Nat} {a : Option Addr} {len cap : Nat} {x : DataW H × List MemPlace}
    (h : DataW.trod enc P w base spare held fuel S [.slice a len cap] = some x) : ∃ ps : List Call, ps.length = len ∧ len ≤ maxLen ∧ Call.ListAt w a ps := by
  obtain ⟨_, _, _, _, _, hC, _⟩ := id hT
  rcases open_slice hS h with ⟨hcs, _⟩ | ⟨x, l, c, m, n, D, Pl, hcs, _, hl, hm, hmm, _, hi⟩
  · simp at hcs
    obtain ⟨rfl, rfl, rfl⟩ := hcs
    exact ⟨[], rfl, by unfold maxLen; omega, .inl rfl⟩
  · simp at hcs
    obtain ⟨rfl, rfl, rfl⟩ := hcs
    have hlm : len ≤ m := by rw [hmm]; split <;> omega
    haveI : Inhabited Call := ⟨⟨0, 0, 0, 0⟩⟩
    obtain ⟨F, hF⟩ := choose_lt (n := len) (p := fun i (p : Call) => w.cells? base (x.add (i * 4)) 4 = some p.cells) (fun i hi' => by
      obtain ⟨cs', hc, ht⟩ := hi i (by omega)
      obtain ⟨p, rfl⟩ := Call.of_trod hT ht
      rw [hC] at hc
      exact ⟨p, hc⟩)
    refine ⟨(List.range len).map F, by simp, by omega, ?_⟩
    by_cases h0 : len = 0
    · exact .inl (by rw [h0]; rfl)
    · obtain ⟨b, off, spot⟩ := x
      have hspot : spot = none := by
        have := (World.cells?_some (hF 0 (by omega))).2.2 0 (by omega)
        simpa [Addr.add] using World.cell?_spot (this.trans (by rfl : _ = some (Value.int .i64 (F 0).num)))
      subst hspot
      refine .inr ⟨b, off, rfl, fun i p hp => ?_⟩
      obtain ⟨hi', hp'⟩ := List.getElem?_eq_some_iff.1 hp
      rw [List.length_map, List.length_range] at hi'
      simp at hp'
      subst hp'
      have hc := (World.cells?_some (hF i hi')).2.2
      have key : ∀ j, j < 4 → w.cell? ⟨b, off + i * 4 + j, none⟩ = (F i).cells[j]? := fun j hj => by
        have := hc j hj
        rw [add_add] at this
        by_cases hz : i * 4 + j = 0
        · rw [hz] at this
          rw [show off + i * 4 + j = off by omega]
          simpa [Addr.add] using this
        · unfold Addr.add at this
          rw [if_neg hz] at this
          rw [Nat.add_assoc]; exact this
      exact ⟨key 0 (by omega), key 1 (by omega), key 2 (by omega), key 3 (by omega)⟩
end
theorem Try.tyCall : Call.Ty Try.prog 89 :=
  ⟨_, _, _, _, Try.underlying89, by kernel_rfl, rfl, rfl, rfl, rfl, by kernel_rfl, by kernel_rfl, by kernel_rfl, by kernel_rfl, by kernel_rfl, by kernel_rfl, by kernel_rfl, by kernel_rfl⟩
end Go.Proofs.Ytekhdggaelppkaa
