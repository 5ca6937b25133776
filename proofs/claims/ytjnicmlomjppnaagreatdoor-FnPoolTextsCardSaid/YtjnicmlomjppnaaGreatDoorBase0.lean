/- Merged: the texts Pure2 Pure1 Pure3 Base Pure6 Pure30 Pure60 Pure80 Pure5 Pure4 Pure7 Pure40 Pure41 Pure42 Pure8 RoundL Pure86 MarkI, in their order. -/
import Derived.WalkKit
import Derived.WalkSpells
import Derived.WalkLawsBesides
import Derived.Lib.Join
import Derived.Lib.Hide
import Derived.Deep.OwnRows
import Derived.Lib.SplitLaws
import Derived.Lib.Split
import Derived.Lib.ItoaMem
import Derived.Lib.ItoaLen
import Derived.Lib.LaidTab
import Derived.WalkSmall
import Derived.Laws.BytesString
import Derived.Laws.Cells
import Derived.Lib.ParseIntBCases
import Derived.Test.YtjnicmlomjppnaaGreatDoorChecked
/- Plain facts on lists of numbers for chapter 1: values, the error of a list, its sum; and what it means that a slice of int64 reads as a list. No program is imported here. -/
namespace Go.Proofs.YtjnicmlomjppnaaGreatDoor.Pure2
open Go.RowKit

/-- a value: an integer in -10^12 .. 10^12 -/
def isVal (n : Int) : Bool := decide (-1000000000000 ≤ n) && decide (n ≤ 1000000000000)
theorem isVal_iff (n : Int) : isVal n = true ↔ -1000000000000 ≤ n ∧ n ≤ 1000000000000 := by simp [isVal]
theorem isVal_no (n : Int) : isVal n = false ↔ n < -1000000000000 ∨ 1000000000000 < n := by
  rw [← Bool.not_eq_true, isVal_iff]; omega
/-- the first error of a list of numbers: 2 (range), 3 (limit), 0 (none) -/
def listErr (zs : List Int) : Int := if zs.all isVal = true then (if zs.length ≤ 60 then 0 else 3) else 2
def lsum : List Int → Int
  | [] => 0
  | x :: r => x + lsum r
def sumOf (zs : List Int) : Int × Int := if listErr zs = 0 then (if isVal (lsum zs) = true then (lsum zs, 0) else (0, 3)) else (0, listErr zs)

theorem listErr_zero {zs : List Int} (h : zs.all isVal = true) (h' : zs.length ≤ 60) : listErr zs = 0 := by rw [listErr, if_pos h, if_pos h']
theorem listErr_long {zs : List Int} (h : zs.all isVal = true) (h' : ¬ zs.length ≤ 60) : listErr zs = 3 := by rw [listErr, if_pos h, if_neg h']
theorem listErr_range {zs : List Int} (h : ¬ zs.all isVal = true) : listErr zs = 2 := by rw [listErr, if_neg h]
theorem listErr_cases (zs : List Int) : (listErr zs = 0 ∧ zs.all isVal = true ∧ zs.length ≤ 60) ∨ listErr zs = 2 ∨ listErr zs = 3 := by
  unfold listErr; split
  · split
    · exact .inl ⟨rfl, by assumption, by assumption⟩
    · exact .inr (.inr rfl)
  · exact .inr (.inl rfl)
theorem lsum_append (a b : List Int) : lsum (a ++ b) = lsum a + lsum b := by
  induction a with
  | nil => simp [lsum]
  | cons x r ih => simp [lsum, ih]; omega
theorem lsum_snoc (a : List Int) (x : Int) : lsum (a ++ [x]) = lsum a + x := by rw [lsum_append]; simp [lsum]
theorem all_of_snoc {a : List Int} {x : Int} (h : a.all isVal = true) (hx : isVal x = true) : (a ++ [x]).all isVal = true := by
  rw [List.all_append, h]; simp [hx]
theorem lsum_reverse (a : List Int) : lsum a.reverse = lsum a := by
  induction a with
  | nil => rfl
  | cons x r ih => rw [List.reverse_cons, lsum_snoc, ih]; simp only [lsum]; omega
theorem sumOf_reverse (a : List Int) : sumOf a.reverse = sumOf a := by
  have h : listErr a.reverse = listErr a := by simp only [listErr, List.all_reverse, List.length_reverse]
  simp only [sumOf, h, lsum_reverse]
theorem rev_step {zs : List Int} {m : Nat} {x : Int} (hx : zs[m]? = some x) : (zs.drop (m + 1)).reverse ++ [x] = (zs.drop m).reverse := by
  obtain ⟨hm, rfl⟩ := List.getElem?_eq_some_iff.1 hx
  rw [List.drop_eq_getElem_cons hm, List.reverse_cons]
theorem lsum_bd {zs : List Int} (h : zs.all isVal = true) : -(1000000000000 * (zs.length : Int)) ≤ lsum zs ∧ lsum zs ≤ 1000000000000 * (zs.length : Int) := by
  induction zs with
  | nil => simp [lsum]
  | cons x r ih =>
    simp only [List.all_cons, Bool.and_eq_true] at h
    have h1 := (isVal_iff x).1 h.1
    have h2 := ih h.2
    simp only [lsum, List.length_cons]; omega
theorem all_take {zs : List Int} (k : Nat) (h : zs.all isVal = true) : (zs.take k).all isVal = true := by
  rw [List.all_eq_true] at h ⊢; exact fun x hx => h x (List.mem_of_mem_take hx)
theorem lsum_take_bd {zs : List Int} (k : Nat) (h : zs.all isVal = true) (h' : zs.length ≤ 60) : -60000000000000 ≤ lsum (zs.take k) ∧ lsum (zs.take k) ≤ 60000000000000 := by
  have h1 := lsum_bd (all_take k h)
  have h2 : (zs.take k).length ≤ 60 := by have := List.length_take_le k zs; rw [List.length_take]; omega
  omega
theorem all_no {zs : List Int} {k : Nat} {x : Int} (hx : zs[k]? = some x) (h : isVal x = false) : ¬ zs.all isVal = true := by
  intro hh; rw [List.all_eq_true] at hh
  have := hh x (List.mem_of_getElem? hx); rw [h] at this; cases this
theorem isVal_of_all {zs : List Int} {k : Nat} {x : Int} (hx : zs[k]? = some x) (h : zs.all isVal = true) : isVal x = true := by
  rw [List.all_eq_true] at h; exact h x (List.mem_of_getElem? hx)

/-- The slice at address a reads, from its head on, the numbers zs (int64). -/
def IntsAt (w : World) (a : Option Addr) (zs : List Int) : Prop :=
  zs = [] ∨ ∃ b off, a = some ⟨b, off, none⟩ ∧ ∀ i x, zs[i]? = some x → w.cell? ⟨b, off + i, none⟩ = some (.int .i64 x)

theorem IntsAt.at {w : World} {a : Option Addr} {zs : List Int} (h : IntsAt w a zs) {k len : Nat} (hl : zs.length = len) (hk : k < len) :
    ∃ b off x, a = some ⟨b, off, none⟩ ∧ w.cell? ⟨b, off + k, none⟩ = some (.int .i64 x) ∧ zs.take (k + 1) = zs.take k ++ [x] ∧ zs[k]? = some x := by
  have hx : zs[k]? = some zs[k] := List.getElem?_eq_getElem (by omega)
  rcases h with rfl | ⟨b, off, rfl, hc⟩
  · simp at hl; omega
  · exact ⟨b, off, _, rfl, hc k _ hx, by rw [List.take_succ_eq_append_getElem], hx⟩

theorem IntsAt.below {w w' : World} {a : Option Addr} {zs : List Int} (h : IntsAt w a zs) (hb : Below w.heap.size w w') : IntsAt w' a zs := by
  rcases h with rfl | ⟨b, off, rfl, hc⟩
  · exact .inl rfl
  · by_cases hz : zs = []
    · exact .inl hz
    · refine .inr ⟨b, off, rfl, fun i x hx => ?_⟩
      exact cell_later hb (hc i x hx)

end Go.Proofs.YtjnicmlomjppnaaGreatDoor.Pure2
/- Plain facts on lists and numbers for chapter 1: words. No program is imported here. -/
namespace Go.Proofs.YtjnicmlomjppnaaGreatDoor.Pure1

/-- a byte that is a letter a to z -/
def letter (c : UInt8) : Bool := decide (97 ≤ (c.toNat : Int)) && decide ((c.toNat : Int) ≤ 122)
/-- a word: 1 to 16 letters -/
def isWordL (l : List UInt8) : Bool := decide (1 ≤ l.length) && (decide (l.length ≤ 16) && l.all letter)

theorem take_snoc (s : ByteArray) (k : Nat) (h : k < s.size) : s.data.toList.take (k + 1) = s.data.toList.take k ++ [s[k]] := by
  rw [List.take_succ_eq_append_getElem (by simpa using h)]; rfl
theorem all_snoc (s : ByteArray) (k : Nat) (h : k < s.size) (hp : (s.data.toList.take k).all letter = true) (hl : letter s[k] = true) :
    (s.data.toList.take (k + 1)).all letter = true := by
  rw [take_snoc s k h, List.all_append, hp]; simp [hl]
theorem all_no (s : ByteArray) (k : Nat) (h : k < s.size) (hl : letter s[k] = false) : s.data.toList.all letter = false := by
  rw [List.all_eq_false]
  exact ⟨s[k], by simp [ByteArray.getElem_eq_getElem_data], by simp [hl]⟩
theorem isWordL_of_not_all {l : List UInt8} (h : l.all letter = false) : isWordL l = false := by
  simp only [isWordL, h, Bool.and_false]
theorem isWordL_of_all {l : List UInt8} (h : l.all letter = true) : isWordL l = (decide (1 ≤ l.length) && decide (l.length ≤ 16)) := by
  simp only [isWordL, h, Bool.and_true]
theorem isWordL_short {l : List UInt8} (h : l.length < 1) : isWordL l = false := by
  rw [isWordL, decide_eq_false (by omega)]; rfl
theorem isWordL_long {l : List UInt8} (h : 16 < l.length) : isWordL l = false := by
  rw [isWordL, decide_eq_false (p := l.length ≤ 16) (by omega), Bool.false_and, Bool.and_false]
theorem letter_iff (c : UInt8) : letter c = true ↔ 97 ≤ (c.toNat : Int) ∧ (c.toNat : Int) ≤ 122 := by
  simp [letter]
theorem letter_lo {c : UInt8} (h : (c.toNat : Int) < 97) : letter c = false := by
  simp [letter]; omega
theorem letter_hi {c : UInt8} (h : 122 < (c.toNat : Int)) : letter c = false := by
  simp [letter]; omega
theorem letter_in {c : UInt8} (h : 97 ≤ (c.toNat : Int)) (h' : (c.toNat : Int) ≤ 122) : letter c = true := by
  simp [letter]; omega
theorem size_eq (s : ByteArray) : s.data.toList.length = s.size := by simp
theorem take_all (s : ByteArray) (k : Nat) (h : s.size ≤ k) : s.data.toList.take k = s.data.toList := List.take_of_length_le (by simpa using h)

end Go.Proofs.YtjnicmlomjppnaaGreatDoor.Pure1
/- Plain facts on lists of texts for chapter 1: their reading in memory, joining, the words' text. No program is imported here. -/
namespace Go.Proofs.YtjnicmlomjppnaaGreatDoor.Pure3
open Go.RowKit Pure1

/-- The slice at address a reads, from its head on, the texts ss. -/
def StrsAt (w : World) (a : Option Addr) (ss : List ByteArray) : Prop :=
  ss = [] ∨ ∃ b off, a = some ⟨b, off, none⟩ ∧ ∀ i x, ss[i]? = some x → w.cell? ⟨b, off + i, none⟩ = some (.string x)

theorem StrsAt.at {w : World} {a : Option Addr} {ss : List ByteArray} (h : StrsAt w a ss) {k len : Nat} (hl : ss.length = len) (hk : k < len) :
    ∃ b off x, a = some ⟨b, off, none⟩ ∧ w.cell? ⟨b, off + k, none⟩ = some (.string x) ∧ ss.take (k + 1) = ss.take k ++ [x] ∧ ss[k]? = some x := by
  have hx : ss[k]? = some ss[k] := List.getElem?_eq_getElem (by omega)
  rcases h with rfl | ⟨b, off, rfl, hc⟩
  · simp at hl; omega
  · exact ⟨b, off, _, rfl, hc k _ hx, by rw [List.take_succ_eq_append_getElem], hx⟩

theorem StrsAt.below {w w' : World} {a : Option Addr} {ss : List ByteArray} (h : StrsAt w a ss) (hb : Below w.heap.size w w') : StrsAt w' a ss := by
  rcases h with rfl | ⟨b, off, rfl, hc⟩
  · exact .inl rfl
  · exact .inr ⟨b, off, rfl, fun i x hx => cell_later hb (hc i x hx)⟩

/-- how much a list of texts holds: its length and all lengths -/
def strTot : List ByteArray → Nat
  | [] => 0
  | s :: r => 1 + s.size + strTot r
theorem strTot_append (a b : List ByteArray) : strTot (a ++ b) = strTot a + strTot b := by
  induction a with
  | nil => simp [strTot]
  | cons x r ih => simp only [List.cons_append, strTot, ih]; omega
theorem strTot_snoc (a : List ByteArray) (x : ByteArray) : strTot (a ++ [x]) = strTot a + (1 + x.size) := by rw [strTot_append]; simp [strTot]
theorem strTot_len (a : List ByteArray) : a.length ≤ strTot a := by
  induction a with
  | nil => simp
  | cons x r ih => simp only [List.length_cons, strTot]; omega
theorem strTot_take (a : List ByteArray) (k : Nat) : strTot (a.take k) ≤ strTot a := by
  have h := strTot_append (a.take k) (a.drop k); rw [List.take_append_drop] at h; omega
/-- the sizes alone -/
def szs : List ByteArray → Nat
  | [] => 0
  | s :: r => s.size + szs r
theorem szs_append (a b : List ByteArray) : szs (a ++ b) = szs a + szs b := by
  induction a with
  | nil => simp [szs]
  | cons x r ih => simp only [List.cons_append, szs, ih]; omega
theorem szs_snoc (a : List ByteArray) (x : ByteArray) : szs (a ++ [x]) = szs a + x.size := by rw [szs_append]; simp [szs]
theorem szs_take (a : List ByteArray) (k : Nat) : szs (a.take k) ≤ szs a := by
  have h := szs_append (a.take k) (a.drop k); rw [List.take_append_drop] at h; omega
theorem szs_mem {a : List ByteArray} {k : Nat} {x : ByteArray} (h : a[k]? = some x) : x.size ≤ szs a := by
  induction a generalizing k with
  | nil => simp at h
  | cons y r ih =>
    cases k with
    | zero => simp at h; subst h; simp only [szs]; omega
    | succ k => have := ih (k := k) (by simpa using h); simp only [szs]; omega
theorem strTot_eq (a : List ByteArray) : strTot a = a.length + szs a := by
  induction a with
  | nil => rfl
  | cons x r ih => simp only [strTot, szs, List.length_cons, ih]; omega

/-- what is left of n behind the texts, -1 if they hold more -/
def szLeft (ss : List ByteArray) (n : Nat) : Int := if strTot ss ≤ n then (n : Int) - strTot ss else -1
theorem szLeft_no {ss : List ByteArray} {n : Nat} (h : n < strTot ss) : szLeft ss n = -1 := by rw [szLeft, if_neg (by omega)]
theorem szLeft_ok {ss : List ByteArray} {n m : Nat} (h : m + strTot ss = n) : szLeft ss n = m := by rw [szLeft, if_pos (by omega)]; omega

/-- texts joined with something between them -/
def joinB (ss : List ByteArray) (sep : ByteArray) : ByteArray := ⟨(Lib.join (ss.map (·.data.toList)) sep.data.toList).toArray⟩
theorem join_snoc (xs : List (List UInt8)) (y sep : List UInt8) (h : xs ≠ []) : Lib.join (xs ++ [y]) sep = Lib.join xs sep ++ sep ++ y := by
  cases xs with
  | nil => exact absurd rfl h
  | cons x r => rw [List.cons_append, Lib.join_cons, Lib.join_cons]; simp [Lib.joinTail, List.append_assoc]
theorem mk_toList (s : ByteArray) : (⟨s.data.toList.toArray⟩ : ByteArray) = s := by cases s; simp
theorem joinB_snoc (ss : List ByteArray) (y sep : ByteArray) (h : ss ≠ []) : joinB ss sep ++ sep ++ y = joinB (ss ++ [y]) sep := by
  unfold joinB
  rw [List.map_append, List.map_singleton, join_snoc _ _ _ (by simpa using h)]
  conv => lhs; rw [← mk_toList y]
  conv => lhs; lhs; rhs; rw [← mk_toList sep]
  rw [ByteArray.mk_append_mk, ByteArray.mk_append_mk]
theorem joinB_first (y sep : ByteArray) : joinB [] sep ++ y = joinB [y] sep := by
  unfold joinB
  rw [List.map_nil, List.map_singleton, Lib.join_nil, Lib.join_one]
  conv => lhs; rw [← mk_toList y]
  rw [ByteArray.mk_append_mk, List.nil_append]
theorem joinB_size (ss : List ByteArray) (sep : ByteArray) : (joinB ss sep).size ≤ szs ss + sep.size * ss.length := by
  show (Lib.join (ss.map (·.data.toList)) sep.data.toList).toArray.size ≤ _
  rw [List.size_toArray]
  cases ss with
  | nil => rw [List.map_nil, Lib.join_nil]; simp
  | cons x r =>
    rw [List.map_cons, Lib.join_length]
    have h : ∀ l : List ByteArray, Lib.lens (l.map (·.data.toList)) = szs l := by
      intro l; induction l with
      | nil => rfl
      | cons y t ih => simp only [Lib.lens, List.map_cons, List.sum_cons, szs] at ih ⊢; rw [ih, size_eq]
    have h' := h (x :: r)
    rw [List.map_cons] at h'
    rw [h', List.length_map, size_eq, List.length_cons, Nat.mul_succ]
    omega
theorem joinB_take_size (ss : List ByteArray) (sep : ByteArray) (k : Nat) : (joinB (ss.take k) sep).size ≤ szs ss + sep.size * ss.length := by
  have h1 := joinB_size (ss.take k) sep
  have h2 := szs_take ss k
  have h3 : (ss.take k).length ≤ ss.length := by rw [List.length_take]; omega
  have h4 := Nat.mul_le_mul_left sep.size h3
  omega

/-- the text of words, and the error: 1 (a text is no word), 3 (too many), 0 (none) -/
def allWords (ss : List ByteArray) : Bool := ss.all fun s => isWordL s.data.toList
def wordsErr (ss : List ByteArray) : Int := if allWords ss = true then (if ss.length ≤ 60 then 0 else 3) else 1
def comma : ByteArray := ⟨#[44]⟩
def wordsT (ss : List ByteArray) : ByteArray := if ss = [] then ⟨#[45]⟩ else joinB ss comma
def wordsText (ss : List ByteArray) : ByteArray × Int := if wordsErr ss = 0 then (wordsT ss, 0) else (⟨#[]⟩, wordsErr ss)

theorem wordsErr_zero {ss : List ByteArray} (h : allWords ss = true) (h' : ss.length ≤ 60) : wordsErr ss = 0 := by rw [wordsErr, if_pos h, if_pos h']
theorem wordsErr_long {ss : List ByteArray} (h : allWords ss = true) (h' : ¬ ss.length ≤ 60) : wordsErr ss = 3 := by rw [wordsErr, if_pos h, if_neg h']
theorem wordsErr_no {ss : List ByteArray} (h : ¬ allWords ss = true) : wordsErr ss = 1 := by rw [wordsErr, if_neg h]
theorem wordsErr_cases (ss : List ByteArray) : (wordsErr ss = 0 ∧ allWords ss = true ∧ ss.length ≤ 60) ∨ (wordsErr ss = 1 ∧ allWords ss = false) ∨ (wordsErr ss = 3 ∧ allWords ss = true ∧ 60 < ss.length) := by
  unfold wordsErr; split
  · split
    · exact .inl ⟨rfl, by assumption, by assumption⟩
    · exact .inr (.inr ⟨rfl, by assumption, by omega⟩)
  · exact .inr (.inl ⟨rfl, by simp_all⟩)
theorem allWords_snoc {a : List ByteArray} {x : ByteArray} (h : allWords a = true) (hx : isWordL x.data.toList = true) : allWords (a ++ [x]) = true := by
  unfold allWords at *; rw [List.all_append, h]; simp [hx]
theorem allWords_no {ss : List ByteArray} {k : Nat} {x : ByteArray} (hx : ss[k]? = some x) (h : isWordL x.data.toList = false) : allWords ss = false := by
  unfold allWords; rw [List.all_eq_false]; exact ⟨x, List.mem_of_getElem? hx, by simp [h]⟩
theorem word_size {l : List UInt8} (h : isWordL l = true) : l.length ≤ 16 := by
  simp only [isWordL, Bool.and_eq_true, decide_eq_true_eq] at h; exact h.2.1
theorem allWords_szs {ss : List ByteArray} (h : allWords ss = true) : szs ss ≤ 16 * ss.length := by
  induction ss with
  | nil => simp [szs]
  | cons x r ih =>
    unfold allWords at *
    simp only [List.all_cons, Bool.and_eq_true] at h
    have h1 := word_size h.1; rw [size_eq] at h1
    have h2 := ih h.2
    simp only [szs, List.length_cons]; omega

theorem text_ne {x y : ByteArray} (h : x ≠ y) : (x.toList == y.toList) = false := by
  rw [ByteArray.toList_eq, ByteArray.toList_eq, beq_eq_false_iff_ne]
  intro e; exact h (by rw [← mk_toList x, ← mk_toList y, e])
def sameS (xs ys : List ByteArray) : Bool := decide (xs = ys)
theorem sameS_self (xs : List ByteArray) : sameS xs xs = true := by simp [sameS]
theorem sameS_len {xs ys : List ByteArray} (h : xs.length ≠ ys.length) : sameS xs ys = false := by
  simp only [sameS, decide_eq_false_iff_not]; intro e; exact h (by rw [e])
theorem sameS_at {xs ys : List ByteArray} {k : Nat} {x y : ByteArray} (hx : xs[k]? = some x) (hy : ys[k]? = some y) (h : x ≠ y) : sameS xs ys = false := by
  simp only [sameS, decide_eq_false_iff_not]; intro e; rw [e, hy] at hx; cases hx; exact h rfl
theorem sameS_end {xs ys : List ByteArray} {k : Nat} (h : xs.take k = ys.take k) (hx : xs.length ≤ k) (hy : ys.length ≤ k) : sameS xs ys = true := by
  rw [List.take_of_length_le hx, List.take_of_length_le hy] at h; simp [sameS, h]

end Go.Proofs.YtjnicmlomjppnaaGreatDoor.Pure3
/- Small shared facts: equal results, what a call that returns a text says, copies of slices. -/
namespace Go.Proofs.YtjnicmlomjppnaaGreatDoor
open Go.RowKit Pure2 Pure3

theorem ret_bool {a b : Bool} (h : a = b) : Ending.returned (.bool a) = .returned (.bool b) := by rw [h]

theorem ret_bool' {a b : Bool} (h : a = b) : Ending.returned (.bool a) = .returned (.bool b) := by rw [h]

theorem ret_i64 {a b : Int} (h : a = b) : Ending.returned (.int .i64 a) = .returned (.int .i64 b) := by rw [h]

theorem ret_two {a b c d : Int} (h : a = b) (h' : c = d) : Ending.returned (.tuple #[.int .i64 a, .int .i64 c]) = .returned (.tuple #[.int .i64 b, .int .i64 d]) := by rw [h, h']

theorem ret_str {a b : ByteArray} (h : a = b) : Ending.returned (.string a) = .returned (.string b) := by rw [h]

theorem ret_str2 {a b : ByteArray} {c d : Int} (h : a = b) (h' : c = d) : Ending.returned (.tuple #[.string a, .int .i64 c]) = .returned (.tuple #[.string b, .int .i64 d]) := by rw [h, h']

/-- a text is returned; nothing that was there has turned -/
def SaysT (s : ByteArray) (w : World) (e : Ending) (w' : World) : Prop := e = .returned (.string s) ∧ Below w.heap.size w w'

def SaysT2 (s : ByteArray) (n : Int) (w : World) (e : Ending) (w' : World) : Prop := e = .returned (.tuple #[.string s, .int .i64 n]) ∧ Below w.heap.size w w'

/-- a bool is returned; the world has at most drawn -/
def SaysB (b : Bool) (w : World) (e : Ending) (w' : World) : Prop := e = .returned (.bool b) ∧ ∃ n, w' = w.drewN n

theorem drewN_add (w : World) (n m : Nat) : (w.drewN n).drewN m = w.drewN (n + m) := by simp [World.drewN]; omega

/-- a new slice that reads zs; nothing that was there has turned -/
def IsCopy (w : World) (len : Nat) (zs : List Int) (e : Ending) (w' : World) : Prop :=
  ∃ b, e = .returned (.slice (some ⟨b, 0, none⟩) len len) ∧ w.heap.size ≤ b ∧ IntsAt w' (some ⟨b, 0, none⟩) zs ∧ Below w.heap.size w w'

theorem copied {w wr : World} {T len : Nat} {f : Nat → Value} {zs : List Int} (hr : wr.rowIs w.heap.size T len f) (hl : zs.length = len) (hf : ∀ i x, i < len → zs[i]? = some x → f i = .int .i64 x)
    (hB : Below w.heap.size w wr) : IsCopy w len zs (.returned (.slice (some ⟨w.heap.size, 0, none⟩) len len)) wr :=
  ⟨_, rfl, Nat.le_refl _, .inr ⟨_, _, rfl, fun i x hx => by
    have hi : i < len := by rw [← hl]; exact (List.getElem?_eq_some_iff.1 hx).1
    rw [Nat.zero_add, hr.cell hi, hf i x hi hx]⟩, hB⟩

theorem copy_step {zs : List Int} {k : Nat} {x : Int} {f : Nat → Value} (hf : ∀ i y, i < k → zs[i]? = some y → f i = .int .i64 y) (hx : zs[k]? = some x) :
    ∀ i y, i < k + 1 → zs[i]? = some y → (fun j => if j = k then Value.int .i64 x else f j) i = .int .i64 y := by
  intro i y hi hy
  by_cases e : i = k
  · subst e; rw [hx] at hy; cases hy; simp
  · simp only [if_neg e]; exact hf i y (by omega) hy

/-- a new slice that reads zs; nothing that was there has turned -/
def IsCopyS (w : World) (len : Nat) (zs : List ByteArray) (e : Ending) (w' : World) : Prop :=
  ∃ b, e = .returned (.slice (some ⟨b, 0, none⟩) len len) ∧ w.heap.size ≤ b ∧ StrsAt w' (some ⟨b, 0, none⟩) zs ∧ Below w.heap.size w w'

theorem copiedS {w wr : World} {T len : Nat} {f : Nat → Value} {zs : List ByteArray} (hr : wr.rowIs w.heap.size T len f) (hl : zs.length = len) (hf : ∀ i x, i < len → zs[i]? = some x → f i = .string x)
    (hB : Below w.heap.size w wr) : IsCopyS w len zs (.returned (.slice (some ⟨w.heap.size, 0, none⟩) len len)) wr :=
  ⟨_, rfl, Nat.le_refl _, .inr ⟨_, _, rfl, fun i x hx => by
    have hi : i < len := by rw [← hl]; exact (List.getElem?_eq_some_iff.1 hx).1
    rw [Nat.zero_add, hr.cell hi, hf i x hi hx]⟩, hB⟩

theorem copyS_step {zs : List ByteArray} {k : Nat} {x : ByteArray} {f : Nat → Value} (hf : ∀ i y, i < k → zs[i]? = some y → f i = .string y) (hx : zs[k]? = some x) :
    ∀ i y, i < k + 1 → zs[i]? = some y → (fun j => if j = k then Value.string x else f j) i = .string y := by
  intro i y hi hy
  by_cases e : i = k
  · subst e; rw [hx] at hy; cases hy; simp
  · simp only [if_neg e]; exact hf i y (by omega) hy

def sameL (xs ys : List Int) : Bool := decide (xs = ys)

theorem sameL_self (xs : List Int) : sameL xs xs = true := by simp [sameL]

theorem sameL_len {xs ys : List Int} (h : xs.length ≠ ys.length) : sameL xs ys = false := by
  simp only [sameL, decide_eq_false_iff_not]; intro e; exact h (by rw [e])

theorem sameL_at {xs ys : List Int} {k : Nat} {x y : Int} (hx : xs[k]? = some x) (hy : ys[k]? = some y) (h : x ≠ y) : sameL xs ys = false := by
  simp only [sameL, decide_eq_false_iff_not]; intro e; rw [e, hy] at hx; cases hx; exact h rfl

theorem sameL_end {xs ys : List Int} {k : Nat} (h : xs.take k = ys.take k) (hx : xs.length ≤ k) (hy : ys.length ≤ k) : sameL xs ys = true := by
  rw [List.take_of_length_le hx, List.take_of_length_le hy] at h; simp [sameL, h]

/-- from the row that the frame opens to the reading that the contracts take -/
theorem ints_of_row {w : World} {a : Option Addr} {len cap : Nat} {zs : List Int}
    (h : (a = none ∧ len = 0 ∧ cap = 0 ∧ zs = []) ∨ ∃ x, a = some x ∧ len ≤ cap ∧ cap ≤ maxLen ∧ zs.length = cap ∧ (∀ i, i < zs.length → w.cell? (x.add i) = some (.int .i64 (zs.getD i 0))) ∧ ∀ n ∈ zs, (Lit.int .i64 n).wf = true) :
    (zs.take len).length = len ∧ len ≤ maxLen ∧ IntsAt w a (zs.take len) := by
  rcases h with ⟨rfl, rfl, rfl, rfl⟩ | ⟨x, rfl, hl, hm, hz, hc, _⟩
  · exact ⟨rfl, by unfold maxLen; omega, .inl rfl⟩
  · refine ⟨by rw [List.length_take]; omega, by omega, ?_⟩
    by_cases h0 : len = 0
    · exact .inl (by rw [h0]; rfl)
    · obtain ⟨b, off, spot⟩ := x
      have hspot : spot = none := by simpa [Addr.add] using World.cell?_spot (hc 0 (by omega))
      subst hspot
      refine .inr ⟨b, off, rfl, fun i x hx => ?_⟩
      obtain ⟨hi, hx'⟩ := List.getElem?_eq_some_iff.1 hx
      have hi' : i < zs.length := by rw [List.length_take] at hi; omega
      have := hc i hi'
      rw [List.getElem_take] at hx'
      rw [List.getD_eq_getElem?_getD, List.getElem?_eq_getElem hi', Option.getD_some, hx'] at this
      by_cases hi0 : i = 0
      · subst hi0; simpa [Addr.add] using this
      · simpa [Addr.add, hi0] using this

/-- from the row that the frame opens to the reading that the contracts take -/
theorem strs_of_row {w : World} {a : Option Addr} {len cap : Nat} {ss : List ByteArray}
    (h : (a = none ∧ len = 0 ∧ cap = 0 ∧ ss = []) ∨ ∃ x, a = some x ∧ len ≤ cap ∧ cap ≤ maxLen ∧ ss.length = cap ∧ (∀ i, i < ss.length → w.cell? (x.add i) = some (.string (ss.getD i ByteArray.empty))) ∧ ∀ s ∈ ss, s.size ≤ maxLen) :
    (ss.take len).length = len ∧ len ≤ cap ∧ len ≤ maxLen ∧ StrsAt w a (ss.take len) ∧ ∀ s ∈ ss.take len, s.size ≤ maxLen := by
  rcases h with ⟨rfl, rfl, rfl, rfl⟩ | ⟨x, rfl, hl, hm, hz, hc, hs⟩
  · exact ⟨rfl, Nat.le_refl _, by unfold maxLen; omega, .inl rfl, fun s h => by simp at h⟩
  · refine ⟨by rw [List.length_take]; omega, hl, by omega, ?_, fun s h => hs s (List.mem_of_mem_take h)⟩
    by_cases h0 : len = 0
    · exact .inl (by rw [h0]; rfl)
    · obtain ⟨b, off, spot⟩ := x
      have hspot : spot = none := by simpa [Addr.add] using World.cell?_spot (hc 0 (by omega))
      subst hspot
      refine .inr ⟨b, off, rfl, fun i x hx => ?_⟩
      obtain ⟨hi, hx'⟩ := List.getElem?_eq_some_iff.1 hx
      have hi' : i < ss.length := by rw [List.length_take] at hi; omega
      have := hc i hi'
      rw [List.getElem_take] at hx'
      rw [List.getD_eq_getElem?_getD, List.getElem?_eq_getElem hi', Option.getD_some, hx'] at this
      by_cases hi0 : i = 0
      · subst hi0; simpa [Addr.add] using this
      · simpa [Addr.add, hi0] using this

theorem joinB_join {ss : List ByteArray} : (⟨(Lib.join (ss.map (·.data.toList)) comma.data.toList).toArray⟩ : ByteArray) = joinB ss comma := rfl

theorem wordsT_none : wordsT [] = ⟨#[45]⟩ := rfl

theorem wordsT_some {ss : List ByteArray} (h : ss ≠ []) : wordsT ss = joinB ss comma := by rw [wordsT, if_neg h]

theorem len_ne {α : Type} {ss : List α} {len : Nat} (hl : ss.length = len) (h : len ≠ 0) : ss ≠ [] := by
  intro e; subst e; simp at hl; omega

theorem len_eq {α : Type} {ss : List α} {len : Nat} (hl : ss.length = len) (h : len = 0) : ss = [] := by
  subst h; exact List.length_eq_zero_iff.1 hl

theorem intsAt_of_owns' {w : World} {base e n : Nat} {v : Value} {zs : List Int} (h : w.ownsRow base e 1 v n (zs.map (Value.int .i64))) : ∃ a cap, v = .slice a n cap ∧ n ≤ cap ∧ IntsAt w a zs := by
  obtain ⟨h1, h2 | ⟨g, cap, cur, hv, hg, hh, hn, hc, hs, hr⟩⟩ := h
  · obtain ⟨rfl, rfl⟩ := h2
    exact ⟨none, 0, rfl, Nat.le_refl _, .inl (by simpa using h1)⟩
  · rw [Nat.mul_one] at hr hs
    refine ⟨_, cap, hv, hn, .inr ⟨g, 0, rfl, fun i x hx => ?_⟩⟩
    have hx' : (zs.map (Value.int .i64))[i]? = some (.int .i64 x) := by rw [List.getElem?_map, hx]; rfl
    rw [← hr, List.getElem?_take] at hx'
    split at hx'
    · rw [Array.getElem?_toList] at hx'
      simp [World.cell?, hh, hx']
    · cases hx'

end Go.Proofs.YtjnicmlomjppnaaGreatDoor
/- Plain facts on the source that hands out drawn numbers. No program is imported here. -/
namespace Go.Proofs.YtjnicmlomjppnaaGreatDoor.Pure6
open Go.RowKit Pure2

/-- The slice at address a reads, from its head on, the bytes bs; it lies below block B. -/
def BytesAt (B : Nat) (w : World) (a : Option Addr) (bs : List Int) : Prop :=
  (∀ x ∈ bs, 0 ≤ x ∧ x ≤ 255) ∧ (bs = [] ∨ ∃ b off, a = some ⟨b, off, none⟩ ∧ b < B ∧ ∀ i x, bs[i]? = some x → w.cell? ⟨b, off + i, none⟩ = some (.int .u8 x))
theorem BytesAt.at {B : Nat} {w : World} {a : Option Addr} {bs : List Int} (h : BytesAt B w a bs) {k len : Nat} (hl : bs.length = len) (hk : k < len) :
    ∃ b off x, a = some ⟨b, off, none⟩ ∧ b < B ∧ w.cell? ⟨b, off + k, none⟩ = some (.int .u8 x) ∧ 0 ≤ x ∧ x ≤ 255 := by
  obtain ⟨hb, h⟩ := h
  have hx : bs[k]? = some bs[k] := List.getElem?_eq_getElem (by omega)
  rcases h with rfl | ⟨b, off, rfl, hB, hc⟩
  · simp at hl; omega
  · have := hb _ (List.mem_of_getElem? hx)
    exact ⟨b, off, _, rfl, hB, hc k _ hx, this.1, this.2⟩
theorem BytesAt.below {B : Nat} {w w' : World} {a : Option Addr} {bs : List Int} (h : BytesAt B w a bs) (hB : Below B w w') : BytesAt B w' a bs := by
  refine ⟨h.1, ?_⟩
  rcases h.2 with rfl | ⟨b, off, rfl, hb, hc⟩
  · exact .inl rfl
  · exact .inr ⟨b, off, rfl, hb, fun i x hx => by rw [hB.cell (p := ⟨b, off + i, none⟩) hb]; exact hc i x hx⟩

/-- the state of a source (block b, from block B on): its code lies below B and has at most 4096 bytes; its place is within the code; its seed is within 0 .. 2147483646 -/
def Src (B : Nat) (T : TypeId) (w : World) (b : Nat) : Prop :=
  ∃ a cap bs k seed, B ≤ b ∧ w.heap[b]? = some (.cells #[.slice a bs.length cap, .int .i64 (k : Nat), .int .i64 seed] T (0, 0)) ∧ k ≤ bs.length ∧ bs.length ≤ 4096 ∧ 0 ≤ seed ∧ seed < 2147483647 ∧ BytesAt B w a bs

theorem src_cells {w : World} {b : Nat} {T : TypeId} {u v x : Value} (h : w.heap[b]? = some (.cells #[u, v, x] T (0, 0))) :
    w.cell? ⟨b, 0, none⟩ = some u ∧ w.cell? ⟨b, 1, none⟩ = some v ∧ w.cell? ⟨b, 2, none⟩ = some x ∧ w.frozen? ⟨b, 0, none⟩ = false ∧ w.frozen? ⟨b, 1, none⟩ = false ∧ w.frozen? ⟨b, 2, none⟩ = false := by
  simp [World.cell?, World.frozen?, h]
theorem block_set {w : World} {b : Nat} {T : TypeId} {u v x y : Value} (h : w.heap[b]? = some (.cells #[u, v, x] T (0, 0))) :
    (w.setCell ⟨b, 2, none⟩ y).heap[b]? = some (.cells #[u, v, y] T (0, 0)) ∧ (w.setCell ⟨b, 1, none⟩ y).heap[b]? = some (.cells #[u, y, x] T (0, 0)) := by
  simp [World.setCell, Array.getElem?_modify, h]

theorem grown_set (w : World) (b o : Nat) (v : Value) : w.grownBy (w.setCell ⟨b, o, none⟩ v) (some b) :=
  ⟨rfl, rfl, rfl, by simp [World.setCell], fun k _ hk => Below.heap_setCell _ _ _ _ (by intro e; subst e; exact hk rfl)⟩
theorem grown_refl (w : World) (r : Option Nat) : w.grownBy w r := ⟨rfl, rfl, rfl, Nat.le_refl _, fun _ _ _ => rfl⟩
theorem grown_trans {w w' w'' : World} {r : Option Nat} (h : w.grownBy w' r) (h' : w'.grownBy w'' r) : w.grownBy w'' r :=
  ⟨h'.os.trans h.os, h'.tape.trans h.tape, h'.output.trans h.output, Nat.le_trans h.size h'.size, fun k hk hr => (h'.block k (Nat.lt_of_lt_of_le hk h.size) hr).trans (h.block k hk hr)⟩
theorem grown_drewN {w w' : World} {r : Option Nat} (h : w.grownBy w' r) (n : Nat) : w.grownBy (w'.drewN n) r := ⟨h.os, h.tape, h.output, h.size, h.block⟩
theorem grown_below {w w' : World} {b B : Nat} (h : w.grownBy w' (some b)) (hb : B ≤ b) (hB : B ≤ w.heap.size) : Below B w w' :=
  ⟨h.os, h.tape, h.output, h.size, fun k hk => h.block k (by omega) (fun e => by cases e; omega)⟩
theorem Src.lt {B : Nat} {T : TypeId} {w : World} {b : Nat} (h : Src B T w b) : b < w.heap.size := by
  obtain ⟨a, cap, bs, k, seed, _, hh, _⟩ := h
  exact (Array.getElem?_eq_some_iff.1 hh).1
theorem Src.base {B : Nat} {T : TypeId} {w : World} {b : Nat} (h : Src B T w b) : B ≤ b := by
  obtain ⟨a, cap, bs, k, seed, h, _⟩ := h; exact h
/-- other memory may change -/
theorem Src.kept {B : Nat} {T : TypeId} {w w' : World} {b : Nat} (h : Src B T w b) (hk : w'.heap[b]? = w.heap[b]?) (hB : Below B w w') : Src B T w' b := by
  obtain ⟨a, cap, bs, k, seed, h1, h2, h3, h4, h5, h6, h7⟩ := h
  exact ⟨a, cap, bs, k, seed, h1, hk.trans h2, h3, h4, h5, h6, h7.below hB⟩

/-- what handing out a number below n says -/
def Drawn (B : Nat) (T : TypeId) (b : Nat) (n : Int) (w : World) (e : Ending) (w' : World) : Prop :=
  ∃ x, e = .returned (.int .i64 x) ∧ (1 < n → 0 ≤ x ∧ x < n) ∧ (n ≤ 1 → x = 0) ∧ Src B T w' b ∧ w.grownBy w' (some b)
theorem drawn_none {B : Nat} {T : TypeId} {w : World} {b : Nat} {a : Option Addr} {cap len : Nat} {bs : List Int} {k : Nat} {seed s' n x : Int} (hBb : B ≤ b) (hB : B ≤ w.heap.size)
    (hh : w.heap[b]? = some (.cells #[.slice a bs.length cap, .int .i64 (k : Nat), .int .i64 seed] T (0, 0))) (hl : len = bs.length) (hk : k ≤ len) (hbl : len ≤ 4096) (h0 : 0 ≤ s') (h1 : s' < 2147483647) (hy : BytesAt B w a bs)
    (hn : 1 < n) (hx : 0 ≤ x) (hx' : x < n) (m : Nat) : Drawn B T b n w (.returned (.int .i64 x)) ((w.setCell ⟨b, 2, none⟩ (.int .i64 s')).drewN m) := by
  subst hl
  have hg : w.grownBy ((w.setCell ⟨b, 2, none⟩ (.int .i64 s')).drewN m) (some b) := grown_drewN (grown_set w b 2 _) m
  exact ⟨x, rfl, fun _ => ⟨hx, hx'⟩, fun h => by omega, ⟨a, cap, bs, k, s', hBb, (block_set hh).1, hk, hbl, h0, h1, hy.below (grown_below hg hBb hB)⟩, hg⟩
theorem drawn_one {B : Nat} {T : TypeId} {w : World} {b : Nat} {a : Option Addr} {cap len : Nat} {bs : List Int} {k : Nat} {seed s' n x : Int} (hBb : B ≤ b) (hB : B ≤ w.heap.size)
    (hh : w.heap[b]? = some (.cells #[.slice a bs.length cap, .int .i64 (k : Nat), .int .i64 seed] T (0, 0))) (hl : len = bs.length) (hk : k < len) (hbl : len ≤ 4096) (h0 : 0 ≤ s') (h1 : s' < 2147483647) (hy : BytesAt B w a bs)
    (hn : 1 < n) (hx : 0 ≤ x) (hx' : x < n) (m m' : Nat) : Drawn B T b n w (.returned (.int .i64 x)) ((((w.setCell ⟨b, 2, none⟩ (.int .i64 s')).drewN m).setCell ⟨b, 1, none⟩ (.int .i64 ((k : Int) + 1))).drewN m') := by
  subst hl
  have hg : w.grownBy ((((w.setCell ⟨b, 2, none⟩ (.int .i64 s')).drewN m).setCell ⟨b, 1, none⟩ (.int .i64 ((k : Int) + 1))).drewN m') (some b) :=
    grown_drewN (grown_trans (grown_drewN (grown_set w b 2 _) m) (grown_set _ b 1 _)) m'
  refine ⟨x, rfl, fun _ => ⟨hx, hx'⟩, fun h => by omega, ⟨a, cap, bs, k + 1, s', hBb, ?_, hk, hbl, h0, h1, hy.below (grown_below hg hBb hB)⟩, hg⟩
  have h2 := (block_set (y := .int .i64 s') hh).1
  have h3 := (block_set (w := (w.setCell ⟨b, 2, none⟩ (.int .i64 s')).drewN m) (y := .int .i64 ((k : Int) + 1)) h2).2
  exact h3
theorem grown_alloc (w : World) (o : Obj) (r : Option Nat) : w.grownBy (w.alloc o) r :=
  ⟨rfl, rfl, rfl, by simp, fun k hk _ => Below.heap_alloc _ _ _ hk⟩
theorem Src.alloc {B : Nat} {T : TypeId} {w : World} {b : Nat} (h : Src B T w b) (o : Obj) : Src B T (w.alloc o) b :=
  h.kept (Below.heap_alloc _ _ _ h.lt) ((Below.refl _ _).alloc (Nat.le_trans h.base (Nat.le_of_lt h.lt)) _)
theorem alloc_ints (w : World) (T : TypeId) (zs : List Int) : ∀ i x, zs[i]? = some x → (w.alloc (.cells (zs.map (Value.int .i64)).toArray T)).cell? ⟨w.heap.size, i, none⟩ = some (.int .i64 x) := by
  intro i x hx
  have : (w.alloc (.cells (zs.map (Value.int .i64)).toArray T)).heap[w.heap.size]? = some (.cells (zs.map (Value.int .i64)).toArray T) := heap_alloc_new w _
  unfold World.cell?
  rw [this]
  simp [hx]
theorem intsAt_of_owns {w : World} {base e n : Nat} {v : Value} {zs : List Int} (h : w.ownsRow base e 1 v n (zs.map (Value.int .i64))) : ∃ a cap, v = .slice a n cap ∧ n ≤ cap ∧ IntsAt w a zs := by
  obtain ⟨h1, h2 | ⟨g, cap, cur, hv, hg, hh, hn, hc, hs, hr⟩⟩ := h
  · obtain ⟨rfl, rfl⟩ := h2
    exact ⟨none, 0, rfl, Nat.le_refl _, .inl (by simpa using h1)⟩
  · rw [Nat.mul_one] at hr hs
    refine ⟨_, cap, hv, hn, .inr ⟨g, 0, rfl, fun i x hx => ?_⟩⟩
    have hx' : (zs.map (Value.int .i64))[i]? = some (.int .i64 x) := by rw [List.getElem?_map, hx]; rfl
    rw [← hr, List.getElem?_take] at hx'
    split at hx'
    · rw [Array.getElem?_toList] at hx'
      simp [World.cell?, hh, hx']
    · cases hx'
/-- some number is handed out -/
def Gave (B : Nat) (T : TypeId) (b : Nat) (w : World) (e : Ending) (w' : World) : Prop := ∃ x, e = .returned (.int .i64 x) ∧ Src B T w' b ∧ w.grownBy w' (some b)
theorem BytesAt.mono {B B' : Nat} {w : World} {a : Option Addr} {bs : List Int} (h : BytesAt B w a bs) (hB : B ≤ B') : BytesAt B' w a bs := by
  refine ⟨h.1, ?_⟩
  rcases h.2 with rfl | ⟨b, off, rfl, hb, hc⟩
  · exact .inl rfl
  · exact .inr ⟨b, off, rfl, by omega, hc⟩
theorem BytesAt.later {w w' : World} {a : Option Addr} {bs : List Int} (h : BytesAt w.heap.size w a bs) (hB : Below w.heap.size w w') : BytesAt w'.heap.size w' a bs := (h.below hB).mono hB.size

end Go.Proofs.YtjnicmlomjppnaaGreatDoor.Pure6
/- Plain facts on public draws (chapter 3): states, shuffled numbers, commitments. No program is imported here. -/
namespace Go.Proofs.YtjnicmlomjppnaaGreatDoor.Pure30
open Go.RowKit Pure2

/-- a state -/
def isState (s : Int) : Bool := decide (1 ≤ s) && decide (s ≤ 2147483646)
theorem isState_iff (s : Int) : isState s = true ↔ 1 ≤ s ∧ s ≤ 2147483646 := by simp [isState]
theorem isState_no (s : Int) : isState s = false ↔ s < 1 ∨ 2147483646 < s := by rw [← Bool.not_eq_true, isState_iff]; omega
/-- the next state -/
def nx (s : Int) : Int := s * 48271 % 2147483647
/-- the modulus has no divisor in common with the factor: the next state is a state -/
theorem nx_back (s : Int) : nx s * 1899818559 % 2147483647 = s % 2147483647 := by
  unfold nx; omega
theorem nx_state {s : Int} (h : 1 ≤ s ∧ s ≤ 2147483646) : 1 ≤ nx s ∧ nx s ≤ 2147483646 := by
  have h1 := nx_back s
  have h2 : 0 ≤ nx s ∧ nx s < 2147483647 := by unfold nx; omega
  by_cases h0 : nx s = 0
  · rw [h0] at h1; omega
  · omega
/-- a number below n that is drawn in state s -/
def below (s n : Int) : Int := s * n / 2147483647
theorem below_bd {s n : Int} (h : 0 ≤ s ∧ s ≤ 2147483646) (hn : 0 ≤ n) : 0 ≤ below s n ∧ (0 < n → below s n < n) := by
  unfold below
  refine ⟨Int.ediv_nonneg (Int.mul_nonneg h.1 hn) (by omega), fun h0 => ?_⟩
  apply Int.ediv_lt_of_lt_mul (by omega)
  rw [Int.mul_comm]
  exact Int.mul_lt_mul_of_pos_left (by omega) h0

/-- two places are exchanged -/
def swp (l : List Int) (i k : Nat) : List Int := (l.set i (l.getD k 0)).set k (l.getD i 0)
theorem swp_length (l : List Int) (i k : Nat) : (swp l i k).length = l.length := by simp [swp]
theorem swp_getD {l : List Int} {i k : Nat} (hi : i < l.length) (hk : k < l.length) (j : Nat) : (swp l i k).getD j 0 = if j = k then l.getD i 0 else if j = i then l.getD k 0 else l.getD j 0 := by
  unfold swp
  simp only [List.getD_eq_getElem?_getD, List.getElem?_set, List.length_set]
  by_cases h1 : k = j
  · subst h1; simp [hk]
  · by_cases h2 : i = j
    · subst h2; simp [h1, hi, Ne.symm h1]
    · simp [h1, h2, Ne.symm h1, Ne.symm h2]
theorem swp_perm {l : List Int} {i k : Nat} (hi : i < l.length) (hk : k < l.length) : (swp l i k).Perm l := by
  unfold swp
  simp only [List.getD_eq_getElem?_getD, List.getElem?_eq_getElem hi, List.getElem?_eq_getElem hk, Option.getD_some]
  exact List.set_set_perm hi hk

/-- the numbers 0 to n - 1 -/
def nums (n : Nat) : List Int := (List.range n).map fun (i : Nat) => (i : Int)
theorem nums_length (n : Nat) : (nums n).length = n := by simp [nums]
theorem nums_snoc (n : Nat) : nums (n + 1) = nums n ++ [(n : Int)] := by simp [nums, List.range_succ]
theorem nums_mem (n : Nat) (x : Int) : x ∈ nums n ↔ 0 ≤ x ∧ x < n := by
  simp only [nums, List.mem_map, List.mem_range]
  constructor
  · rintro ⟨i, hi, rfl⟩; omega
  · rintro ⟨h0, h1⟩; exact ⟨x.toNat, by omega, by omega⟩
/-- the place that is exchanged with i, in the state behind i + 1 steps -/
def place (s : Int) (n i : Nat) : Nat := i + (below s ((n : Int) - i)).toNat
theorem place_bd {s : Int} {n i : Nat} (hs : 0 ≤ s ∧ s ≤ 2147483646) (hi : i < n) : i ≤ place s n i ∧ place s n i < n := by
  have := below_bd hs (show (0 : Int) ≤ (n : Int) - i by omega)
  have h2 := this.2 (by omega)
  unfold place; omega
/-- state and numbers behind i exchanges -/
def shufTo (s : Int) (n : Nat) : Nat → Int × List Int
  | 0 => (s, nums n)
  | i + 1 => (nx (shufTo s n i).1, swp (shufTo s n i).2 i (place (nx (shufTo s n i).1) n i))
/-- the shuffled numbers -/
def shuf (s : Int) (n : Nat) : List Int := (shufTo s n (n - 1)).2
theorem shufTo_state {s : Int} (h : 1 ≤ s ∧ s ≤ 2147483646) (n i : Nat) : 1 ≤ (shufTo s n i).1 ∧ (shufTo s n i).1 ≤ 2147483646 := by
  induction i with
  | zero => exact h
  | succ i ih => exact nx_state ih
theorem shufTo_length (s : Int) (n i : Nat) : (shufTo s n i).2.length = n := by
  induction i with
  | zero => exact nums_length n
  | succ i ih => simp only [shufTo, swp_length]; exact ih
theorem shufTo_perm {s : Int} (h : 1 ≤ s ∧ s ≤ 2147483646) (n i : Nat) (hi : i ≤ n) : (shufTo s n i).2.Perm (nums n) := by
  induction i with
  | zero => exact List.Perm.refl _
  | succ i ih =>
    have hst := nx_state (shufTo_state h n i)
    have hp := place_bd (n := n) ⟨by omega, hst.2⟩ (show i < n by omega)
    exact (swp_perm (by rw [shufTo_length]; omega) (by rw [shufTo_length]; omega)).trans (ih (by omega))
theorem shuf_perm {s : Int} (h : 1 ≤ s ∧ s ≤ 2147483646) (n : Nat) : (shuf s n).Perm (nums n) := shufTo_perm h n _ (by omega)
theorem shuf_length (s : Int) (n : Nat) : (shuf s n).length = n := shufTo_length s n _
theorem shuf_mem {s : Int} (h : 1 ≤ s ∧ s ≤ 2147483646) (n : Nat) (x : Int) : x ∈ shuf s n ↔ 0 ≤ x ∧ x < n := by rw [(shuf_perm h n).mem_iff, nums_mem]
theorem shuf_nodup {s : Int} (h : 1 ≤ s ∧ s ≤ 2147483646) (n : Nat) : (shuf s n).Nodup := by
  rw [(shuf_perm h n).nodup_iff]
  unfold nums
  exact List.pairwise_map.2 ((List.nodup_range (n := n)).imp fun h e => h (by omega))

/-- the commitment of a state and a salt -/
def commit (s t : Int) : Int := ((s * 16807 + t) % 2147483647 * 65539 + s) % 2147483647
/-- the state behind k steps -/
def nxs (s : Int) : Nat → Int
  | 0 => s
  | k + 1 => nx (nxs s k)
/-- the states behind s -/
def statesTo (s : Int) : Nat → List Int
  | 0 => []
  | k + 1 => statesTo s k ++ [nxs s (k + 1)]
theorem nxs_zero (s : Int) : nxs s 0 = s := rfl
theorem nxs_succ (s : Int) (k : Nat) : nxs s (k + 1) = nx (nxs s k) := rfl
theorem nxs_state {s : Int} (h : 1 ≤ s ∧ s ≤ 2147483646) (k : Nat) : 1 ≤ nxs s k ∧ nxs s k ≤ 2147483646 := by
  induction k with
  | zero => exact h
  | succ k ih => exact nx_state ih
theorem statesTo_succ (s : Int) (k : Nat) : statesTo s (k + 1) = statesTo s k ++ [nxs s (k + 1)] := rfl
theorem statesTo_length (s : Int) (k : Nat) : (statesTo s k).length = k := by
  induction k with
  | zero => rfl
  | succ k ih => rw [statesTo_succ, List.length_append, ih]; rfl
theorem statesTo_at (s : Int) (k i : Nat) (hi : i < k) : (statesTo s k)[i]? = some (nxs s (i + 1)) := by
  induction k with
  | zero => omega
  | succ k ih =>
    rw [statesTo_succ]
    by_cases e : i = k
    · subst e; rw [List.getElem?_append_right (by rw [statesTo_length]; omega), statesTo_length]; simp
    · rw [List.getElem?_append_left (by rw [statesTo_length]; omega)]; exact ih (by omega)

end Go.Proofs.YtjnicmlomjppnaaGreatDoor.Pure30
/- Plain facts on lists that are strictly increasing within bounds. No program is imported here. -/
namespace Go.Proofs.YtjnicmlomjppnaaGreatDoor.Pure60
open Go.RowKit Pure2

/-- strictly increasing, at most c numbers, all within lo .. hi -/
def Rises (c : Nat) (lo hi : Int) (zs : List Int) : Prop := (∀ (i : Nat) x, zs[i]? = some x → lo ≤ x ∧ x ≤ hi) ∧ (∀ (i : Nat) x y, zs[i]? = some x → zs[i + 1]? = some y → x < y) ∧ zs.length ≤ c
noncomputable def rises (c : Nat) (lo hi : Int) (zs : List Int) : Bool := @decide (Rises c lo hi zs) (Classical.propDecidable _)
theorem rises_iff (c : Nat) (lo hi : Int) (zs : List Int) : rises c lo hi zs = true ↔ Rises c lo hi zs := by unfold rises; exact @decide_eq_true_iff _ (Classical.propDecidable _)
theorem rises_no (c : Nat) (lo hi : Int) (zs : List Int) : rises c lo hi zs = false ↔ ¬ Rises c lo hi zs := by rw [← Bool.not_eq_true, rises_iff]
/-- the first k numbers are as described -/
def RisesTo (lo hi : Int) (zs : List Int) (k : Nat) : Prop := (∀ (i : Nat) x, i < k → zs[i]? = some x → lo ≤ x ∧ x ≤ hi) ∧ (∀ (i : Nat) x y, i + 1 < k → zs[i]? = some x → zs[i + 1]? = some y → x < y)
theorem risesTo_zero (lo hi : Int) (zs : List Int) : RisesTo lo hi zs 0 := ⟨fun _ _ h => by omega, fun _ _ _ h => by omega⟩
theorem risesTo_step {lo hi : Int} {zs : List Int} {k : Nat} {x : Int} (h : RisesTo lo hi zs k) (hx : zs[k]? = some x) (hd : lo ≤ x ∧ x ≤ hi) (hp : ∀ y, 0 < k → zs[k - 1]? = some y → y < x) : RisesTo lo hi zs (k + 1) := by
  refine ⟨fun i z hi hz => ?_, fun i u v hi hu hv => ?_⟩
  · by_cases e : i = k
    · subst e; rw [hx] at hz; cases hz; exact hd
    · exact h.1 i z (by omega) hz
  · by_cases e : i + 1 = k
    · subst e; rw [hx] at hv; cases hv; exact hp u (by omega) (by simpa using hu)
    · exact h.2 i u v (by omega) hu hv
theorem risesTo_end {lo hi : Int} {c k : Nat} {zs : List Int} (h : RisesTo lo hi zs k) (hk : zs.length ≤ k) (hl : zs.length ≤ c) : Rises c lo hi zs := by
  refine ⟨fun i x hx => h.1 i x ?_ hx, fun i x y hx hy => h.2 i x y ?_ hx hy, hl⟩
  · have := (List.getElem?_eq_some_iff.1 hx).1; omega
  · have := (List.getElem?_eq_some_iff.1 hy).1; omega
theorem rises_long {c : Nat} {lo hi : Int} {zs : List Int} (h : c < zs.length) : rises c lo hi zs = false := (rises_no _ _ _ zs).2 fun hh => by have := hh.2.2; omega
theorem rises_out {c : Nat} {lo hi : Int} {zs : List Int} {k : Nat} {x : Int} (hx : zs[k]? = some x) (h : ¬ (lo ≤ x ∧ x ≤ hi)) : rises c lo hi zs = false := (rises_no _ _ _ zs).2 fun hh => h (hh.1 k x hx)
theorem rises_down {c : Nat} {lo hi : Int} {zs : List Int} {k : Nat} {x y : Int} (hx : zs[k]? = some x) (hy : zs[k + 1]? = some y) (h : y ≤ x) : rises c lo hi zs = false := (rises_no _ _ _ zs).2 fun hh => by have := hh.2.1 k x y hx hy; omega
theorem rises_end {c : Nat} {lo hi : Int} {zs : List Int} {k : Nat} (h : RisesTo lo hi zs k) (hk : zs.length ≤ k) (hl : zs.length ≤ c) : rises c lo hi zs = true := (rises_iff _ _ _ zs).2 (risesTo_end h hk hl)
theorem risesTo_first {lo hi : Int} {zs : List Int} {x : Int} (hx : zs[0]? = some x) (h : lo ≤ x ∧ x ≤ hi) : RisesTo lo hi zs 1 := risesTo_step (risesTo_zero lo hi zs) hx h (fun y h => by omega)
theorem risesTo_next {lo hi : Int} {zs : List Int} {j : Nat} {x y : Int} (h : RisesTo lo hi zs (j + 1)) (hx : zs[j]? = some x) (hy : zs[j + 1]? = some y) (hd : lo ≤ y ∧ y ≤ hi) (hlt : ¬ y ≤ x) : RisesTo lo hi zs (j + 1 + 1) :=
  risesTo_step h hy hd (fun z _ hz => by rw [Nat.add_sub_cancel] at hz; rw [hx] at hz; cases hz; omega)
/-- the bound on the length apart -/
theorem rises_len (c : Nat) (lo hi : Int) (zs : List Int) : rises c lo hi zs = (decide (zs.length ≤ c) && rises zs.length lo hi zs) := by
  by_cases h : zs.length ≤ c
  · rw [decide_eq_true h, Bool.true_and]
    apply Bool.eq_iff_iff.2
    rw [rises_iff, rises_iff]
    exact ⟨fun hh => ⟨hh.1, hh.2.1, Nat.le_refl _⟩, fun hh => ⟨hh.1, hh.2.1, h⟩⟩
  · rw [decide_eq_false h, Bool.false_and]; exact rises_long (by omega)

end Go.Proofs.YtjnicmlomjppnaaGreatDoor.Pure60
/- Plain facts on pools (chapter 8): pools, who is left, draws, putting back, replays, chances. No program is imported here. -/
namespace Go.Proofs.YtjnicmlomjppnaaGreatDoor.Pure80
open Go.RowKit Pure2 Pure30 Pure60

/-- is a number in a list -/
def mem (zs : List Int) (x : Int) : Bool := decide (x ∈ zs)
theorem mem_iff (zs : List Int) (x : Int) : mem zs x = true ↔ x ∈ zs := by simp [mem]
theorem mem_no (zs : List Int) (x : Int) : mem zs x = false ↔ x ∉ zs := by simp [mem]

structure PoolV where
  nums : List Int
  drawn : List Int
  state : Int
/-- the zero value -/
def zeroP : PoolV := ⟨[], [], 0⟩

/-- the first k drawn numbers are numbers of the pool, each drawn once -/
def DrawnTo (ns ds : List Int) (k : Nat) : Prop := ∀ (i : Nat) x, i < k → ds[i]? = some x → x ∈ ns ∧ x ∉ ds.take i
theorem drawnTo_zero (ns ds : List Int) : DrawnTo ns ds 0 := fun i x h => by omega
theorem drawnTo_step {ns ds : List Int} {k : Nat} {x : Int} (h : DrawnTo ns ds k) (hx : ds[k]? = some x) (h1 : mem ns x = true) (h2 : mem (ds.take k) x = false) : DrawnTo ns ds (k + 1) := by
  intro i y hi hy
  by_cases e : i = k
  · subst e; rw [hx] at hy; cases hy; exact ⟨(mem_iff _ _).1 h1, (mem_no _ _).1 h2⟩
  · exact h i y (by omega) hy
def IsPool (p : PoolV) : Prop := Rises 60 1 1000000 p.nums ∧ DrawnTo p.nums p.drawn p.drawn.length ∧ isState p.state = true
noncomputable def isPool (p : PoolV) : Bool := @decide (IsPool p) (Classical.propDecidable _)
theorem isPool_iff (p : PoolV) : isPool p = true ↔ IsPool p := by unfold isPool; exact @decide_eq_true_iff _ (Classical.propDecidable _)
theorem isPool_no (p : PoolV) : isPool p = false ↔ ¬ IsPool p := by rw [← Bool.not_eq_true, isPool_iff]
theorem pool_rises {p : PoolV} (h : rises 60 1 1000000 p.nums = false) : isPool p = false := (isPool_no p).2 fun hh => (rises_no _ _ _ _).1 h hh.1
theorem pool_out {p : PoolV} {k : Nat} {x : Int} (hx : p.nums[k]? = some x) (h : ¬ (1 ≤ x ∧ x ≤ 1000000)) : isPool p = false := pool_rises (rises_out hx h)
theorem pool_down {p : PoolV} {k : Nat} {x y : Int} (hx : p.nums[k]? = some x) (hy : p.nums[k + 1]? = some y) (h : y ≤ x) : isPool p = false := pool_rises (rises_down hx hy h)
theorem pool_long {p : PoolV} (h : 60 < p.nums.length) : isPool p = false := pool_rises (rises_long h)
theorem pool_none {p : PoolV} {k : Nat} {x : Int} (hx : p.drawn[k]? = some x) (h : mem p.nums x = false) : isPool p = false :=
  (isPool_no p).2 fun hh => (mem_no _ _).1 h (hh.2.1 k x (List.getElem?_eq_some_iff.1 hx).1 hx).1
theorem pool_twice {p : PoolV} {k : Nat} {x : Int} (hx : p.drawn[k]? = some x) (h : mem (p.drawn.take k) x = true) : isPool p = false :=
  (isPool_no p).2 fun hh => (hh.2.1 k x (List.getElem?_eq_some_iff.1 hx).1 hx).2 ((mem_iff _ _).1 h)
theorem pool_end {p : PoolV} {j k : Nat} (h : RisesTo 1 1000000 p.nums j) (hj : p.nums.length ≤ j) (hd : DrawnTo p.nums p.drawn k) (hk : p.drawn.length ≤ k) : isPool p = (decide (p.nums.length ≤ 60) && isState p.state) := by
  by_cases hl : p.nums.length ≤ 60
  · rw [decide_eq_true hl, Bool.true_and]
    cases hs : isState p.state with
    | true => exact (isPool_iff p).2 ⟨risesTo_end h hj hl, fun i x hi hx => hd i x (by omega) hx, hs⟩
    | false => exact (isPool_no p).2 fun hh => by have := hh.2.2; rw [hs] at this; cases this
  · rw [decide_eq_false hl]; exact pool_long (by omega)

theorem drawn_nodup {ns ds : List Int} (h : DrawnTo ns ds ds.length) : ds.Nodup := by
  rw [List.nodup_iff_pairwise_ne, List.pairwise_iff_getElem]
  intro i j hi hj hij e
  refine (h j _ hj (List.getElem?_eq_getElem hj)).2 (List.mem_iff_getElem?.2 ⟨i, ?_⟩)
  rw [List.getElem?_take_of_lt hij, List.getElem?_eq_getElem hi, e]
theorem drawn_sub {ns ds : List Int} (h : DrawnTo ns ds ds.length) : ∀ x ∈ ds, x ∈ ns := by
  intro x hx
  obtain ⟨i, hi⟩ := List.mem_iff_getElem?.1 hx
  exact (h i x (List.getElem?_eq_some_iff.1 hi).1 hi).1
theorem drawn_of {ns ds : List Int} (h1 : ds.Nodup) (h2 : ∀ x ∈ ds, x ∈ ns) : DrawnTo ns ds ds.length := by
  intro i x _ hx
  refine ⟨h2 x (List.mem_of_getElem? hx), fun hm => ?_⟩
  obtain ⟨k, hk⟩ := List.mem_iff_getElem?.1 hm
  rw [List.getElem?_take] at hk
  split at hk
  · rename_i hlt
    rw [List.nodup_iff_pairwise_ne, List.pairwise_iff_getElem] at h1
    obtain ⟨hi, e1⟩ := List.getElem?_eq_some_iff.1 hx
    obtain ⟨hk', e2⟩ := List.getElem?_eq_some_iff.1 hk
    exact h1 k i hk' hi hlt (e2.trans e1.symm)
  · cases hk
theorem pairwise_of_next {zs : List Int} (h : ∀ (i : Nat) x y, zs[i]? = some x → zs[i + 1]? = some y → x < y) : zs.Pairwise (· < ·) := by
  induction zs with
  | nil => exact List.Pairwise.nil
  | cons a r ih =>
    have hr : r.Pairwise (· < ·) := ih fun i x y hx hy => h (i + 1) x y (by simpa using hx) (by simpa using hy)
    refine List.pairwise_cons.2 ⟨?_, hr⟩
    cases r with
    | nil => intro b hb; cases hb
    | cons b r =>
      have hab : a < b := h 0 a b rfl rfl
      intro c hc
      rcases List.mem_cons.1 hc with rfl | hc
      · exact hab
      · exact Int.lt_trans hab ((List.pairwise_cons.1 hr).1 c hc)
theorem rises_nodup {c : Nat} {lo hi : Int} {zs : List Int} (h : Rises c lo hi zs) : zs.Nodup := by
  rw [List.nodup_iff_pairwise_ne]
  exact (pairwise_of_next h.2.1).imp fun h => Int.ne_of_lt h
theorem pool_nodup {p : PoolV} (h : isPool p = true) : p.nums.Nodup := rises_nodup ((isPool_iff p).1 h).1
theorem pool_dnodup {p : PoolV} (h : isPool p = true) : p.drawn.Nodup := drawn_nodup ((isPool_iff p).1 h).2.1
theorem pool_sub {p : PoolV} (h : isPool p = true) : ∀ x ∈ p.drawn, x ∈ p.nums := drawn_sub ((isPool_iff p).1 h).2.1
theorem pool_len {p : PoolV} (h : isPool p = true) : p.nums.length ≤ 60 := ((isPool_iff p).1 h).1.2.2
theorem pool_state {p : PoolV} (h : isPool p = true) : 1 ≤ p.state ∧ p.state ≤ 2147483646 := (isState_iff _).1 ((isPool_iff p).1 h).2.2
theorem pool_range {p : PoolV} (h : isPool p = true) : ∀ x ∈ p.nums, 1 ≤ x ∧ x ≤ 1000000 := by
  intro x hx
  obtain ⟨i, hi⟩ := List.mem_iff_getElem?.1 hx
  exact ((isPool_iff p).1 h).1.1 i x hi
theorem pool_make {p : PoolV} (h : isPool p = true) {ds : List Int} {s : Int} (h1 : ds.Nodup) (h2 : ∀ x ∈ ds, x ∈ p.nums) (h3 : 1 ≤ s ∧ s ≤ 2147483646) : isPool ⟨p.nums, ds, s⟩ = true :=
  (isPool_iff _).2 ⟨((isPool_iff p).1 h).1, drawn_of h1 h2, (isState_iff s).2 h3⟩
theorem len_sub : ∀ {a b : List Int}, a.Nodup → (∀ x ∈ a, x ∈ b) → a.length ≤ b.length := fun {_ _} h1 h2 => (List.Nodup.length_le_of_subset h1 h2)
theorem pool_dlen {p : PoolV} (h : isPool p = true) : p.drawn.length ≤ p.nums.length := len_sub (pool_dnodup h) (pool_sub h)

/-- the numbers that are left -/
def leftL (ns ds : List Int) : List Int := ns.filter fun x => !mem ds x
theorem leftL_mem (ns ds : List Int) (x : Int) : x ∈ leftL ns ds ↔ x ∈ ns ∧ x ∉ ds := by simp [leftL, mem]
theorem leftL_le (ns ds : List Int) : (leftL ns ds).length ≤ ns.length := List.length_filter_le _ _
theorem leftL_none (ns : List Int) : leftL ns [] = ns := by simp [leftL, mem]
theorem leftL_nodup {ns ds : List Int} (h : ns.Nodup) : (leftL ns ds).Nodup := h.sublist List.filter_sublist
theorem leftL_snoc (ns ds : List Int) (x : Int) : leftL ns (ds ++ [x]) = (leftL ns ds).filter fun y => !decide (y = x) := by
  unfold leftL mem
  rw [List.filter_filter]
  congr 1; funext y
  by_cases h1 : y ∈ ds <;> by_cases h2 : y = x <;> simp [h1, h2]
theorem filter_ne_length {zs : List Int} (h : zs.Nodup) {x : Int} (hx : x ∈ zs) : (zs.filter fun y => !decide (y = x)).length + 1 = zs.length := by
  induction zs with
  | nil => cases hx
  | cons a r ih =>
    rw [List.nodup_cons] at h
    by_cases e : a = x
    · subst e
      have : (r.filter fun y => !decide (y = a)) = r := List.filter_eq_self.2 fun y hy => by simp; rintro rfl; exact h.1 hy
      simp [this]
    · have := ih h.2 ((List.mem_cons.1 hx).resolve_left (Ne.symm e))
      simp [e]; omega
theorem leftL_rev {ns : List Int} (h1 : ns.Nodup) : ∀ rs : List Int, rs.reverse.Nodup → (∀ x ∈ rs.reverse, x ∈ ns) → (leftL ns rs.reverse).length + rs.length = ns.length
  | [], _, _ => by rw [List.reverse_nil, leftL_none]; rfl
  | x :: rs, h2, h3 => by
    rw [List.reverse_cons] at h2 h3 ⊢
    have h4 : rs.reverse.Nodup ∧ x ∉ rs.reverse := by
      rw [List.nodup_append] at h2
      exact ⟨h2.1, fun hm => h2.2.2 x hm x (by simp) rfl⟩
    have h5 := leftL_rev h1 rs h4.1 (fun y hy => h3 y (List.mem_append_left _ hy))
    have h6 := filter_ne_length (leftL_nodup (ds := rs.reverse) h1) ((leftL_mem ns rs.reverse x).2 ⟨h3 x (by simp), h4.2⟩)
    rw [leftL_snoc, List.length_cons]
    omega
theorem leftL_length {ns ds : List Int} (h1 : ns.Nodup) (h2 : ds.Nodup) (h3 : ∀ x ∈ ds, x ∈ ns) : (leftL ns ds).length + ds.length = ns.length := by
  have := leftL_rev h1 ds.reverse (by rw [List.reverse_reverse]; exact h2) (by rw [List.reverse_reverse]; exact h3)
  rw [List.reverse_reverse, List.length_reverse] at this; exact this
theorem pool_left {p : PoolV} (h : isPool p = true) : (leftL p.nums p.drawn).length + p.drawn.length = p.nums.length := leftL_length (pool_nodup h) (pool_dnodup h) (pool_sub h)
theorem filter_take_snoc (f : Int → Bool) {zs : List Int} {k : Nat} {x : Int} (hx : zs[k]? = some x) : (zs.take (k + 1)).filter f = (zs.take k).filter f ++ (if f x = true then [x] else []) := by
  rw [List.take_add_one, hx, List.filter_append]
  simp [List.filter_cons]

/-- the number that is drawn in state t -/
def pick (ns ds : List Int) (t : Int) : Int := (leftL ns ds).getD (below t (leftL ns ds).length).toNat 0
/-- drawn numbers and state behind j draws -/
def drawN (ns ds : List Int) (s : Int) : Nat → List Int × Int
  | 0 => (ds, s)
  | j + 1 => ((drawN ns ds s j).1 ++ [pick ns (drawN ns ds s j).1 (nx (drawN ns ds s j).2)], nx (drawN ns ds s j).2)
def outN (ns ds : List Int) (s : Int) (j : Nat) : List Int := (drawN ns ds s j).1.drop ds.length
theorem drawN_length (ns ds : List Int) (s : Int) (j : Nat) : (drawN ns ds s j).1.length = ds.length + j := by
  induction j with
  | zero => rfl
  | succ j ih => simp only [drawN, List.length_append, List.length_singleton]; omega
theorem outN_zero (ns ds : List Int) (s : Int) : outN ns ds s 0 = [] := by simp [outN, drawN]
theorem outN_step (ns ds : List Int) (s : Int) (j : Nat) : outN ns ds s (j + 1) = outN ns ds s j ++ [pick ns (drawN ns ds s j).1 (nx (drawN ns ds s j).2)] := by
  unfold outN
  rw [drawN, List.drop_append_of_le_length (by rw [drawN_length]; omega)]
theorem outN_length (ns ds : List Int) (s : Int) (j : Nat) : (outN ns ds s j).length = j := by
  unfold outN; rw [List.length_drop, drawN_length]; omega
theorem drawN_split (ns ds : List Int) (s : Int) (j : Nat) : (drawN ns ds s j).1 = ds ++ outN ns ds s j := by
  induction j with
  | zero => simp [outN_zero, drawN]
  | succ j ih => rw [outN_step, ← List.append_assoc, ← ih, drawN]
theorem outN_none (ns : List Int) (s : Int) (j : Nat) : outN ns [] s j = (drawN ns [] s j).1 := rfl
theorem drawN_state (ns ds : List Int) {s : Int} (h : 1 ≤ s ∧ s ≤ 2147483646) (j : Nat) : 1 ≤ (drawN ns ds s j).2 ∧ (drawN ns ds s j).2 ≤ 2147483646 := by
  induction j with
  | zero => exact h
  | succ j ih => exact nx_state ih
theorem below_left {ns ds : List Int} {t : Int} (ht : 1 ≤ t ∧ t ≤ 2147483646) (h : 0 < (leftL ns ds).length) : 0 ≤ below t (leftL ns ds).length ∧ (below t (leftL ns ds).length).toNat < (leftL ns ds).length := by
  have h1 := below_bd (s := t) (n := ((leftL ns ds).length : Int)) (by omega) (by omega)
  have h2 := h1.2 (by omega)
  omega
theorem pick_at {ns ds : List Int} {t : Int} (ht : 1 ≤ t ∧ t ≤ 2147483646) (h : 0 < (leftL ns ds).length) : (leftL ns ds)[(below t (leftL ns ds).length).toNat]? = some (pick ns ds t) := by
  have := (below_left ht h).2
  unfold pick
  rw [List.getD_eq_getElem?_getD, List.getElem?_eq_getElem this]; rfl
theorem pick_mem {ns ds : List Int} {t : Int} (ht : 1 ≤ t ∧ t ≤ 2147483646) (h : 0 < (leftL ns ds).length) : pick ns ds t ∈ ns ∧ pick ns ds t ∉ ds := (leftL_mem ns ds _).1 (List.mem_of_getElem? (pick_at ht h))
/-- enough are left for j draws -/
theorem drawN_good {ns ds : List Int} {s : Int} (hs : 1 ≤ s ∧ s ≤ 2147483646) (h1 : ns.Nodup) (h2 : ds.Nodup) (h3 : ∀ x ∈ ds, x ∈ ns) (j : Nat) (hj : ds.length + j ≤ ns.length) : (drawN ns ds s j).1.Nodup ∧ (∀ x ∈ (drawN ns ds s j).1, x ∈ ns) := by
  induction j with
  | zero => exact ⟨h2, h3⟩
  | succ j ih =>
    obtain ⟨i1, i2⟩ := ih (by omega)
    have hl := leftL_length h1 i1 i2
    rw [drawN_length] at hl
    have hp := pick_mem (nx_state (drawN_state ns ds hs j)) (show 0 < (leftL ns (drawN ns ds s j).1).length by omega)
    refine ⟨?_, ?_⟩
    · rw [drawN, List.nodup_append]
      refine ⟨i1, by simp, ?_⟩
      intro a ha b hb e
      rw [List.mem_singleton] at hb
      subst hb e
      exact hp.2 ha
    · intro x hx
      rw [drawN, List.mem_append, List.mem_singleton] at hx
      rcases hx with hx | rfl
      · exact i2 x hx
      · exact hp.1
theorem drawN_left {ns ds : List Int} {s : Int} (hs : 1 ≤ s ∧ s ≤ 2147483646) (h1 : ns.Nodup) (h2 : ds.Nodup) (h3 : ∀ x ∈ ds, x ∈ ns) (j : Nat) (hj : ds.length + j ≤ ns.length) : (leftL ns (drawN ns ds s j).1).length + (ds.length + j) = ns.length := by
  have hg := drawN_good hs h1 h2 h3 j hj
  have := leftL_length h1 hg.1 hg.2
  rw [drawN_length] at this; exact this

/-- the answers -/
noncomputable def makeR (ns : List Int) (s : Int) : PoolV × Int := if isPool ⟨ns, [], s⟩ = true then (⟨ns, [], s⟩, 0) else (zeroP, 1)
noncomputable def leftR (p : PoolV) : List Int × Int := if isPool p = true then (leftL p.nums p.drawn, 0) else ([], 1)
noncomputable def takeC (p : PoolV) (k : Int) : Int := if isPool p = true then (if k < 0 then 2 else if (p.nums.length : Int) - p.drawn.length < k then 3 else 0) else 1
def drawP (p : PoolV) (k : Int) : PoolV := ⟨p.nums, (drawN p.nums p.drawn p.state k.toNat).1, (drawN p.nums p.drawn p.state k.toNat).2⟩
noncomputable def takeR (p : PoolV) (k : Int) : PoolV × List Int × Int := if takeC p k = 0 then (drawP p k, outN p.nums p.drawn p.state k.toNat, 0) else (zeroP, [], takeC p k)
/-- all of back have been drawn, each is told once -/
def BackTo (ds bs : List Int) (k : Nat) : Prop := ∀ (i : Nat) x, i < k → bs[i]? = some x → x ∈ ds
noncomputable def putC (p : PoolV) (bs : List Int) : Int := if isPool p = true then (if bs.all (mem p.drawn) = true then (if bs.Nodup then 0 else 5) else 4) else 1
noncomputable def putR (p : PoolV) (bs : List Int) : PoolV × Int := if putC p bs = 0 then (⟨p.nums, leftL p.drawn bs, p.state⟩, 0) else (zeroP, putC p bs)
noncomputable def replayR (p : PoolV) (s : Int) : Bool × Int := if isPool p = true then (if isState s = true then (decide (drawN p.nums [] s p.drawn.length = (p.drawn, p.state)), 0) else (false, 2)) else (false, 1)
noncomputable def chanceC (p : PoolV) (k : Int) : Int := if isPool p = true then (if 0 ≤ k ∧ k ≤ 60 then (if p.nums.length - p.drawn.length = 0 then 4 else if (p.nums.length : Int) - p.drawn.length < k then 3 else 0) else 2) else 1
noncomputable def chanceR (p : PoolV) (k : Int) : Int × Int × Int := if chanceC p k = 0 then (k / Int.gcd k ((p.nums.length : Int) - p.drawn.length), ((p.nums.length : Int) - p.drawn.length) / Int.gcd k ((p.nums.length : Int) - p.drawn.length), 0) else (0, 0, chanceC p k)

theorem takeC_cases (p : PoolV) (k : Int) : (takeC p k = 0 ∧ isPool p = true ∧ 0 ≤ k ∧ k ≤ (p.nums.length : Int) - p.drawn.length) ∨ takeC p k = 1 ∨ takeC p k = 2 ∨ takeC p k = 3 := by
  unfold takeC
  split
  · split
    · exact .inr (.inr (.inl rfl))
    · split
      · exact .inr (.inr (.inr rfl))
      · exact .inl ⟨rfl, by assumption, by omega, by omega⟩
  · exact .inr (.inl rfl)
theorem take_good {p : PoolV} {k : Int} (h : takeC p k = 0) : isPool p = true ∧ 0 ≤ k ∧ p.drawn.length + k.toNat ≤ p.nums.length := by
  rcases takeC_cases p k with h1 | h1 | h1 | h1
  · exact ⟨h1.2.1, h1.2.2.1, by omega⟩
  all_goals rw [h] at h1; cases h1
theorem take_pool {p : PoolV} {k : Int} (h : takeC p k = 0) : isPool (drawP p k) = true := by
  obtain ⟨h1, h2, h3⟩ := take_good h
  have hg := drawN_good (pool_state h1) (pool_nodup h1) (pool_dnodup h1) (pool_sub h1) k.toNat h3
  exact pool_make h1 hg.1 hg.2 (drawN_state _ _ (pool_state h1) _)
/-- what FnPools asks of a draw -/
theorem take_split {p : PoolV} {k : Int} (h : takeC p k = 0) :
    (leftL (drawP p k).nums (drawP p k).drawn).length + (outN p.nums p.drawn p.state k.toNat).length = (leftL p.nums p.drawn).length ∧ ((outN p.nums p.drawn p.state k.toNat).length : Int) = k
      ∧ ∀ x ∈ outN p.nums p.drawn p.state k.toNat, x ∈ leftL p.nums p.drawn ∧ x ∉ leftL (drawP p k).nums (drawP p k).drawn := by
  obtain ⟨h1, h2, h3⟩ := take_good h
  have hp := pool_left h1
  have hq := drawN_left (pool_state h1) (pool_nodup h1) (pool_dnodup h1) (pool_sub h1) k.toNat h3
  have hg := drawN_good (pool_state h1) (pool_nodup h1) (pool_dnodup h1) (pool_sub h1) k.toNat h3
  have ho := outN_length p.nums p.drawn p.state k.toNat
  refine ⟨?_, by omega, ?_⟩
  · show (leftL p.nums (drawN p.nums p.drawn p.state k.toNat).1).length + _ = _
    omega
  · intro x hx
    have hs := drawN_split p.nums p.drawn p.state k.toNat
    have hx' : x ∈ (drawN p.nums p.drawn p.state k.toNat).1 := by rw [hs]; exact List.mem_append_right _ hx
    refine ⟨(leftL_mem _ _ _).2 ⟨hg.2 x hx', ?_⟩, fun hm => ((leftL_mem _ _ _).1 hm).2 hx'⟩
    have hn := hg.1
    rw [hs, List.nodup_append] at hn
    exact fun hd => hn.2.2 x hd x hx rfl
theorem make_take {ns : List Int} {s : Int} (h : isPool ⟨ns, [], s⟩ = true) (hn : 0 < ns.length) : takeC ⟨ns, [], s⟩ 1 = 0 := by
  rcases takeC_cases ⟨ns, [], s⟩ 1 with h1 | h1 | h1 | h1
  · exact h1.1
  all_goals
    exfalso
    unfold takeC at h1
    rw [if_pos h, if_neg (by omega), if_neg (by simp; omega)] at h1
    cases h1
theorem make_replay {ns : List Int} {s : Int} (h : isPool ⟨ns, [], s⟩ = true) (hn : 0 < ns.length) : replayR (drawP ⟨ns, [], s⟩ 1) s = (true, 0) := by
  have hp := take_pool (make_take h hn)
  have hs : isState s = true := ((isPool_iff _).1 h).2.2
  unfold replayR
  rw [if_pos hp, if_pos hs]
  have e : (drawP ⟨ns, [], s⟩ 1).drawn.length = 1 := by show (drawN ns [] s 1).1.length = 1; rw [drawN_length]; rfl
  rw [e]
  congr 1
  exact decide_eq_true rfl
theorem put_count {p : PoolV} {bs : List Int} (h : putC p bs = 0) : (leftL p.drawn bs).length + bs.length = p.drawn.length := by
  unfold putC at h
  split at h
  · split at h
    · split at h
      · rename_i h1 h2 h3
        exact leftL_length (pool_dnodup h1) h3 fun x hx => (mem_iff _ _).1 (List.all_eq_true.1 h2 x hx)
      · cases h
    · cases h
  · cases h
theorem chance_good {p : PoolV} {k : Int} (h : chanceC p k = 0) : isPool p = true ∧ 0 ≤ k ∧ k ≤ (p.nums.length : Int) - p.drawn.length ∧ 0 < (p.nums.length : Int) - p.drawn.length := by
  unfold chanceC at h
  split at h
  · rename_i h1
    split at h
    · split at h
      · cases h
      · split at h
        · cases h
        · have := pool_dlen h1; exact ⟨h1, by omega, by omega, by omega⟩
    · cases h
  · cases h
theorem gcd_cross (k n : Int) : k / Int.gcd k n * n = k * (n / Int.gcd k n) := by
  have h1 : (Int.gcd k n : Int) ∣ k := Int.gcd_dvd_left ..
  have h2 : (Int.gcd k n : Int) ∣ n := Int.gcd_dvd_right ..
  obtain ⟨a, ha⟩ := h1
  obtain ⟨b, hb⟩ := h2
  by_cases h0 : (Int.gcd k n : Int) = 0
  · rw [h0, Int.zero_mul] at ha hb; rw [h0, Int.ediv_zero, Int.ediv_zero, Int.zero_mul, Int.mul_zero]
  · have e1 : k / (Int.gcd k n : Int) = a := by
      conv => lhs; lhs; rw [ha]
      exact Int.mul_ediv_cancel_left a h0
    have e2 : n / (Int.gcd k n : Int) = b := by
      conv => lhs; lhs; rw [hb]
      exact Int.mul_ediv_cancel_left b h0
    rw [e1, e2]
    conv => lhs; rw [hb]
    conv => rhs; rw [ha]
    rw [← Int.mul_assoc, Int.mul_comm a]
theorem chance_split {p : PoolV} {k : Int} (h : chanceC p k = 0) : (chanceR p k).1 * (leftL p.nums p.drawn).length = k * (chanceR p k).2.1 ∧ (chanceR p k).1 ≤ (chanceR p k).2.1 := by
  obtain ⟨h1, h2, h3, h4⟩ := chance_good h
  have hp := pool_left h1
  have e : ((leftL p.nums p.drawn).length : Int) = (p.nums.length : Int) - p.drawn.length := by omega
  unfold chanceR
  rw [if_pos h, e]
  refine ⟨gcd_cross _ _, ?_⟩
  exact Int.ediv_le_ediv (by have : 0 < Int.gcd k ((p.nums.length : Int) - p.drawn.length) := Int.gcd_pos_of_ne_zero_right _ (by omega); omega) h3
end Go.Proofs.YtjnicmlomjppnaaGreatDoor.Pure80
/- Plain facts on splitting a text at commas. No program is imported here. -/
namespace Go.Proofs.YtjnicmlomjppnaaGreatDoor.Pure5
open Go.RowKit Pure1 Pure3

/-- the pieces of a text between the bytes c; acc: what stands ahead of the text in its first piece -/
def spl (c : UInt8) (acc : List UInt8) : List UInt8 → List (List UInt8)
  | [] => [acc]
  | x :: r => if x = c then acc :: spl c [] r else spl c (acc ++ [x]) r
def pre (p : List UInt8) : List (List UInt8) → List (List UInt8)
  | [] => [p]
  | h :: t => (p ++ h) :: t
theorem spl_pre (c : UInt8) : ∀ (l acc : List UInt8), spl c acc l = pre acc (spl c [] l)
  | [], acc => by simp [spl, pre]
  | x :: r, acc => by
    by_cases h : x = c
    · simp [spl, h, pre]
    · simp only [spl, if_neg h, List.nil_append]
      rw [spl_pre c r (acc ++ [x]), spl_pre c r [x]]
      cases spl c [] r with
      | nil => simp [pre]
      | cons y t => simp [pre]
theorem spl_cons_ne {c x : UInt8} (h : x ≠ c) (r : List UInt8) : spl c [] (x :: r) = pre [x] (spl c [] r) := by
  rw [spl, if_neg h, List.nil_append, spl_pre]
theorem splitK_spl (c : UInt8) : ∀ l : List UInt8, Lib.splitK [c] 0 (Lib.count l [c]) l = spl c [] l
  | [] => by rw [Lib.count_one]; rfl
  | x :: r => by
    have ih := splitK_spl c r
    by_cases h : x = c
    · subst h
      have hix : Lib.index (x :: r) [x] = 0 := by rw [Lib.index]; simp [List.isPrefixOf]
      rw [Lib.count_cons_eq, Nat.add_comm, Lib.splitK, hix, spl, if_pos rfl, ← ih]
      rfl
    · rw [Lib.count_cons_ne x c r h, spl_cons_ne h, ← ih]
      have hp : ([c] : List UInt8).isPrefixOf (x :: r) = false := by simp [List.isPrefixOf, Ne.symm h]
      have hix : Lib.index (x :: r) [c] = if Lib.index r [c] == -1 then -1 else Lib.index r [c] + 1 := by rw [Lib.index, hp]; simp
      cases hk : Lib.count r [c] with
      | zero => simp [Lib.splitK, pre]
      | succ k =>
        by_cases hm : Lib.index r [c] = -1
        · have := Lib.count_miss hm; omega
        · have hge := Lib.index_ge r [c]
          obtain ⟨j, hj⟩ : ∃ j : Nat, Lib.index r [c] = j := ⟨(Lib.index r [c]).toNat, by omega⟩
          have hix' : Lib.index (x :: r) [c] = ((j + 1 : Nat) : Int) := by rw [hix, if_neg (fun e => hm (beq_iff_eq.1 e)), hj]; omega
          have n1 : ¬ ((((j + 1 : Nat) : Int) == -1) = true) := fun e => by have := beq_iff_eq.1 e; omega
          have n2 : ¬ (((j : Int) == -1) = true) := fun e => by have := beq_iff_eq.1 e; omega
          rw [Lib.splitK, Lib.splitK, hix', hj, if_neg n1, if_neg n2]
          simp [pre]

/-- the pieces of a text between commas -/
def parts (s : ByteArray) : List ByteArray := (spl 44 [] s.data.toList).map fun l => ⟨l.toArray⟩
theorem toList_inj {a b : List ByteArray} (h : a.map (·.data.toList) = b.map (·.data.toList)) : a = b := by
  induction a generalizing b with
  | nil => cases b with
    | nil => rfl
    | cons y t => simp at h
  | cons x r ih => cases b with
    | nil => simp at h
    | cons y t =>
      simp only [List.map_cons, List.cons.injEq] at h
      rw [ih h.2, ← mk_toList x, h.1, mk_toList]
theorem splitB_parts (s : ByteArray) : Lib.splitB comma 0 (Lib.countB s comma) s = parts s := by
  apply toList_inj
  rw [Lib.splitB_data]
  show Lib.splitK [44] 0 (Lib.count s.data.toList [44]) s.data.toList = _
  rw [splitK_spl]
  simp [parts, List.map_map, Function.comp_def]
theorem parts_length (s : ByteArray) : (parts s).length = Lib.countB s comma + 1 := by
  rw [← splitB_parts]; exact Lib.splitB_all comma (by decide) 0 _ s rfl

/-- the state of the loop that splits: what is done, and what still comes -/
def Mid (s : ByteArray) (done : List ByteArray) (frm i : Nat) : Prop :=
  frm ≤ i ∧ i ≤ s.size ∧ done ++ (spl 44 ((s.data.toList.drop frm).take (i - frm)) (s.data.toList.drop i)).map (fun l => (⟨l.toArray⟩ : ByteArray)) = parts s
theorem Mid.start (s : ByteArray) : Mid s [] 0 0 := ⟨Nat.le_refl _, Nat.zero_le _, by simp [parts]⟩
theorem drop_cons (s : ByteArray) (i : Nat) (h : i < s.size) : s.data.toList.drop i = s[i] :: s.data.toList.drop (i + 1) := by
  rw [List.drop_eq_getElem_cons (by simpa using h)]; rfl
theorem extract_mk (s : ByteArray) (a b : Nat) : (⟨((s.data.toList.drop a).take (b - a)).toArray⟩ : ByteArray) = s.extract a b := by
  rw [← Lib.extract_data, mk_toList]
theorem Mid.comma {s : ByteArray} {done : List ByteArray} {frm i : Nat} (h : Mid s done frm i) (hi : i < s.size) (hc : s[i] = 44) : Mid s (done ++ [s.extract frm i]) (i + 1) (i + 1) := by
  obtain ⟨h1, h2, h3⟩ := h
  refine ⟨Nat.le_refl _, by omega, ?_⟩
  rw [← h3, drop_cons s i hi, spl, if_pos hc, Nat.sub_self, List.take_zero, List.map_cons, extract_mk]
  simp
theorem Mid.other {s : ByteArray} {done : List ByteArray} {frm i : Nat} (h : Mid s done frm i) (hi : i < s.size) (hc : s[i] ≠ 44) : Mid s done frm (i + 1) := by
  obtain ⟨h1, h2, h3⟩ := h
  refine ⟨by omega, by omega, ?_⟩
  have e : i + 1 - frm = (i - frm) + 1 := by omega
  have hx : (s.data.toList.drop frm)[i - frm]? = some s[i] := by
    rw [List.getElem?_drop, show frm + (i - frm) = i by omega, List.getElem?_eq_getElem (by simpa using hi)]; rfl
  rw [← h3, drop_cons s i hi, spl, if_neg hc, e, List.take_add_one, hx]
  rfl
theorem Mid.last {s : ByteArray} {done : List ByteArray} {frm : Nat} (h : Mid s done frm s.size) : done ++ [s.extract frm s.size] = parts s := by
  obtain ⟨h1, h2, h3⟩ := h
  rw [← h3, List.drop_eq_nil_of_le (by simp : s.data.toList.length ≤ s.size), spl, List.map_singleton, extract_mk]

theorem spl_ne (c : UInt8) : ∀ (l acc : List UInt8), 1 ≤ (spl c acc l).length
  | [], acc => by simp [spl]
  | x :: r, acc => by
    by_cases h : x = c
    · simp [spl, h]
    · rw [spl, if_neg h]; exact spl_ne c r _
theorem spl_len (c : UInt8) : ∀ (l acc : List UInt8), (spl c acc l).length ≤ l.length + 1
  | [], acc => by simp [spl]
  | x :: r, acc => by
    by_cases h : x = c
    · simp only [spl, if_pos h, List.length_cons]; have := spl_len c r []; omega
    · rw [spl, if_neg h]; have := spl_len c r (acc ++ [x]); simp only [List.length_cons]; omega
theorem parts_len_le (s : ByteArray) : (parts s).length ≤ s.size + 1 := by
  rw [parts, List.length_map]; have := spl_len 44 s.data.toList []; rw [Pure1.size_eq] at this; exact this
theorem Mid.len {s : ByteArray} {done : List ByteArray} {frm i : Nat} (h : Mid s done frm i) : done.length ≤ s.size := by
  obtain ⟨h1, h2, h3⟩ := h
  have e := congrArg List.length h3
  rw [List.length_append, List.length_map] at e
  have := spl_ne 44 (s.data.toList.drop i) ((s.data.toList.drop frm).take (i - frm))
  have := parts_len_le s
  omega
theorem extract_size_le (s : ByteArray) (a b : Nat) : (s.extract a b).size ≤ s.size := by rw [ByteArray.size_extract]; omega
theorem spl_sizes (c : UInt8) : ∀ (l acc : List UInt8), ∀ p ∈ spl c acc l, p.length ≤ acc.length + l.length
  | [], acc, p, h => by simp [spl] at h; subst h; simp
  | x :: r, acc, p, h => by
    by_cases e : x = c
    · simp only [spl, if_pos e, List.mem_cons] at h
      rcases h with rfl | h
      · omega
      · have := spl_sizes c r [] p h; simp at this ⊢; omega
    · rw [spl, if_neg e] at h
      have := spl_sizes c r _ p h
      simp at this ⊢; omega
theorem parts_sizes (s : ByteArray) : ∀ x ∈ parts s, x.size ≤ s.size := by
  intro x hx
  simp only [parts, List.mem_map] at hx
  obtain ⟨l, hl, rfl⟩ := hx
  have := spl_sizes 44 _ _ l hl
  show l.toArray.size ≤ _
  rw [List.size_toArray]; simpa using this

/-- the words with a text, and the error -/
def minus : ByteArray := ⟨#[45]⟩
theorem minus_yes : (minus.toList == [45]) = true := by rw [ByteArray.toList_eq]; rfl
theorem minus_no {s : ByteArray} (h : s ≠ minus) : (s.toList == [45]) = false := by
  rw [ByteArray.toList_eq, beq_eq_false_iff_ne]
  intro e; apply h; rw [← mk_toList s, e]; rfl
/-- what the program takes for the parts -/
def iparts (s : ByteArray) : List ByteArray := if s = minus then [] else parts s
theorem iparts_len (s : ByteArray) : (iparts s).length ≤ s.size + 1 := by
  unfold iparts; split
  · exact Nat.zero_le _
  · exact parts_len_le s
theorem iparts_sizes (s : ByteArray) : ∀ x ∈ iparts s, x.size ≤ s.size := by
  unfold iparts; split
  · intro x h; simp at h
  · exact parts_sizes s
def readWords (s : ByteArray) : List ByteArray × Int := if s = minus then ([], 0) else if wordsErr (parts s) = 0 then (parts s, 0) else ([], 6)
theorem readWords_eq (s : ByteArray) : readWords s = if wordsErr (iparts s) = 0 then (iparts s, 0) else ([], 6) := by
  unfold readWords iparts
  split
  · rw [if_pos (show wordsErr [] = 0 from rfl)]
  · rfl
theorem readWords_len (s : ByteArray) : (readWords s).1.length ≤ s.size + 1 := by
  rw [readWords_eq]; split
  · exact iparts_len s
  · exact Nat.zero_le _

end Go.Proofs.YtjnicmlomjppnaaGreatDoor.Pure5
/- Plain facts on decimal texts for chapter 1. No program is imported here. -/
namespace Go.Proofs.YtjnicmlomjppnaaGreatDoor.Pure4
open Go.RowKit Pure2 Pure3

/-- a number in decimal -/
def decB (n : Int) : ByteArray := ⟨(Lib.itoa n).toArray⟩
/-- one digit's text -/
def dig1 (n : Int) : ByteArray := ⟨#[UInt8.ofNat (48 + n).toNat]⟩
theorem dig1_nat (u : Nat) : dig1 u = ⟨#[UInt8.ofNat (48 + u)]⟩ := by unfold dig1; rw [show (48 + (u : Int)).toNat = 48 + u by omega]
theorem decB_small {n : Int} (h0 : 0 ≤ n) (h : n < 10) : decB n = dig1 n := by
  obtain ⟨u, rfl⟩ := Int.eq_ofNat_of_zero_le h0
  rw [dig1_nat]
  unfold decB
  rw [Lib.itoa_nonneg, Lib.decDigits_one (by omega)]
theorem decB_big {n : Int} (h : 10 ≤ n) : decB n = decB (n / 10) ++ dig1 (n % 10) := by
  obtain ⟨u, rfl⟩ := Int.eq_ofNat_of_zero_le (by omega : 0 ≤ n)
  have e1 : ((u : Int) / 10) = ((u / 10 : Nat) : Int) := by omega
  have e2 : ((u : Int) % 10) = ((u % 10 : Nat) : Int) := by omega
  rw [e1, e2, dig1_nat]
  unfold decB
  rw [Lib.itoa_nonneg, Lib.itoa_nonneg, Lib.decDigits, dif_neg (by omega)]
  exact (ByteArray.mk_append_mk _ _).symm
theorem decB_size {n : Int} (h0 : -9223372036854775808 ≤ n) (h1 : n ≤ 9223372036854775807) : (decB n).size ≤ 21 := by
  show (Lib.itoa n).toArray.size ≤ 21
  rw [List.size_toArray]; exact Lib.itoa_length_le n h0 h1
theorem dig1_size (n : Int) : (dig1 n).size = 1 := rfl
theorem decB_neg {n : Int} (h : 1 ≤ n) : decB (-n) = ⟨#[45]⟩ ++ decB n := by
  obtain ⟨u, rfl⟩ := Int.eq_ofNat_of_zero_le (by omega : 0 ≤ n)
  unfold decB
  rw [Lib.itoa_neg u (by omega), Lib.itoa_nonneg]
  exact (ByteArray.mk_append_mk [45] _).symm

/-- cents, at least 0 -/
def moneyB (n : Int) : ByteArray := decB (n / 100) ++ ⟨#[46]⟩ ++ dig1 (n % 100 / 10) ++ dig1 (n % 10)
/-- cents, with a sign -/
def moneyT (n : Int) : ByteArray := if n < 0 then ⟨#[45]⟩ ++ moneyB (-n) else moneyB n
/-- two digits -/
def twoB (n : Int) : ByteArray := dig1 (n / 10) ++ dig1 (n % 10)
theorem ba_assoc (a b c : ByteArray) : a ++ b ++ c = a ++ (b ++ c) := ByteArray.append_assoc
theorem ba_nil (a : ByteArray) : (⟨#[]⟩ : ByteArray) ++ a = a := by
  apply ByteArray.ext; simp [ByteArray.data_append]
theorem twoB_small {n : Int} (h0 : 0 ≤ n) (h : n < 10) : (⟨#[48]⟩ : ByteArray) ++ decB n = twoB n := by
  have e1 : n / 10 = 0 := by omega
  have e2 : n % 10 = n := by omega
  unfold twoB
  rw [e1, e2, decB_small h0 h]; rfl
theorem twoB_big {n : Int} (h0 : 10 ≤ n) (h : n < 100) : decB n = twoB n := by
  rw [decB_big h0, decB_small (by omega) (by omega)]; rfl
theorem twoB_size (n : Int) : (twoB n).size = 2 := rfl
theorem money_impl {n : Int} (_h : 0 ≤ n) : decB (n / 100) ++ ⟨#[46]⟩ ++ twoB (n % 100) = moneyB n := by
  unfold twoB moneyB
  rw [show n % 100 % 10 = n % 10 by omega, ba_assoc _ (dig1 _) (dig1 _)]
theorem moneyB_size {n : Int} (h0 : 0 ≤ n) (h1 : n ≤ 9223372036854775807) : (moneyB n).size ≤ 24 := by
  unfold moneyB
  rw [ByteArray.size_append, ByteArray.size_append, ByteArray.size_append, dig1_size, dig1_size]
  have := decB_size (n := n / 100) (by omega) (by omega)
  have e : (⟨#[46]⟩ : ByteArray).size = 1 := rfl
  omega
theorem moneyT_size {n : Int} (h0 : -9223372036854775807 ≤ n) (h1 : n ≤ 9223372036854775807) : (moneyT n).size ≤ 25 := by
  unfold moneyT
  split
  · rw [ByteArray.size_append]
    have := moneyB_size (n := -n) (by omega) (by omega)
    have e : (⟨#[45]⟩ : ByteArray).size = 1 := rfl
    omega
  · have := moneyB_size (n := n) (by omega) (by omega); omega
theorem moneyT_neg {n : Int} (h : n < 0) : moneyT n = ⟨#[45]⟩ ++ moneyB (-n) := by rw [moneyT, if_pos h]
theorem moneyT_pos {n : Int} (h : 0 ≤ n) : moneyT n = moneyB n := by rw [moneyT, if_neg (by omega)]
/-- the text of cents and the error -/
def moneyText (n : Int) : ByteArray × Int := if isVal n = true then (moneyT n, 0) else (⟨#[]⟩, 2)

/-- the text of a list of numbers -/
def listT (zs : List Int) : ByteArray := wordsT (zs.map decB)
theorem listT_some {zs : List Int} (h : zs ≠ []) : listT zs = joinB (zs.map decB) comma := by
  rw [listT, wordsT, if_neg (by simpa using h)]
def listText (zs : List Int) : ByteArray × Int := if listErr zs = 0 then (listT zs, 0) else (⟨#[]⟩, listErr zs)
theorem decB_val {x : Int} (h : isVal x = true) : (decB x).size ≤ 21 := by
  have := (isVal_iff x).1 h; exact decB_size (by omega) (by omega)
theorem numTexts_size (zs : List Int) (h : zs.all isVal = true) : szs (zs.map decB) ≤ 21 * zs.length := by
  induction zs with
  | nil => simp [szs]
  | cons x r ih =>
    simp only [List.all_cons, Bool.and_eq_true] at h
    have h1 := decB_val h.1; have h2 := ih h.2
    simp only [List.map_cons, szs, List.length_cons]; omega
theorem joinN_size (zs : List Int) (sep : ByteArray) (k : Nat) (h : zs.all isVal = true) (hl : zs.length ≤ 1000000) (hs : sep.size ≤ 100) : (joinB ((zs.map decB).take k) sep).size ≤ 121000000 := by
  have h1 := joinB_size ((zs.map decB).take k) sep
  have h2 := numTexts_size zs h
  have h2' := szs_take (zs.map decB) k
  have h3 : ((zs.map decB).take k).length ≤ zs.length := by rw [List.length_take, List.length_map]; omega
  have h4 : sep.size * ((zs.map decB).take k).length ≤ 100 * 1000000 := Nat.mul_le_mul hs (by omega)
  omega
theorem take_map_snoc {zs : List Int} {k : Nat} {x : Int} (ht : zs.take (k + 1) = zs.take k ++ [x]) : (zs.map decB).take (k + 1) = (zs.map decB).take k ++ [decB x] := by
  rw [← List.map_take, ht, List.map_append, List.map_singleton, List.map_take]

/-- 'string([]byte{c})': the text of one byte -/
theorem run_string_one {P : Program} (src dst e : TypeId) (hs : P.underlying src = some (.slice e)) (he : P.underlying e = some (.int .u8)) (hd : P.underlying dst = some .string)
    (w : World) (b : Nat) (m : Int) (c : Nat) (hc : w.cell? ⟨b, 0, none⟩ = some (.int .u8 m)) :
    (convert src dst (.slice (some ⟨b, 0, none⟩) 1 c)).run P w = .ok (.string ⟨#[UInt8.ofNat m.toNat]⟩) w := by
  rw [run_convert_bytes_string w src dst e _ _ _ hs he hd, run_bytesToString w ⟨b, 0, none⟩ 1 c [m] (by
    have := run_loadCells_list (P := P) (w := w) ⟨b, 0, none⟩ [.int .u8 m] (fun j v hj => by
      cases j with
      | zero => simp at hj; subst hj; simpa [Addr.add] using hc
      | succ j => simp at hj)
    simpa using this)]
  rfl

/-- the mark with the number k -/
def mk (k : Int) : ByteArray := ⟨#[109]⟩ ++ decB k
/-- the state of the loop that writes a mark's digits -/
def MkMid (k c : Int) (o : ByteArray) : Prop := if c = 0 then o = decB k else decB c ++ o = decB k
theorem MkMid.start (k : Int) (h : 0 < k) : MkMid k k ⟨#[]⟩ := by
  unfold MkMid; rw [if_neg (by omega)]; apply ByteArray.ext; simp [ByteArray.data_append]
theorem MkMid.step {k c : Int} {o : ByteArray} (h : MkMid k c o) (hc : 0 < c) : MkMid k (c / 10) (dig1 (c % 10) ++ o) := by
  unfold MkMid at h ⊢
  rw [if_neg (by omega)] at h
  by_cases h10 : c < 10
  · rw [if_pos (by omega), show c % 10 = c by omega, ← decB_small (by omega) h10, h]
  · rw [if_neg (by omega), ← ba_assoc, ← decB_big (by omega), h]
theorem MkMid.size {k c : Int} {o : ByteArray} (h : MkMid k c o) (h0 : 0 ≤ k) (h1 : k ≤ 9223372036854775807) : o.size ≤ 21 := by
  have hs := decB_size (n := k) (by omega) h1
  unfold MkMid at h
  split at h
  · rw [h]; exact hs
  · have := congrArg ByteArray.size h; rw [ByteArray.size_append] at this; omega
theorem MkMid.fin {k : Int} {o : ByteArray} (h : MkMid k 0 o) : (⟨#[109]⟩ : ByteArray) ++ o = mk k := by
  unfold MkMid at h; rw [if_pos rfl] at h; rw [h]; rfl
theorem mk_size {k : Int} (h0 : 0 ≤ k) (h1 : k ≤ 9223372036854775807) : (mk k).size ≤ 22 := by
  unfold mk; rw [ByteArray.size_append]
  have := decB_size (n := k) (by omega) h1
  have e : (⟨#[109]⟩ : ByteArray).size = 1 := rfl
  omega

/-- a world in which the library's table of powers of ten lies -/
def Tabs (P : Program) (w : World) : Prop := Lib.TabIs P w "internal/strconv.uint64pow10" .u64 Lib.pow10Tab
theorem Tabs.below {P : Program} {g : Nat} (hg : P.globalNamed "internal/strconv.uint64pow10" = some g) {w w' : World} (h : Tabs P w) (hb : Below w.heap.size w w') : Tabs P w' := by
  have hlt : g < w.heap.size := World.block_lt_of_cell? w _ (Lib.TabIs.cell h hg 0 (by decide))
  exact var?_below hb hg hlt h

theorem bcell {W w1 : World} (hb : Below W.heap.size W w1) : (∀ b o, b < W.heap.size → w1.cell? ⟨b, o, none⟩ = W.cell? ⟨b, o, none⟩) ∧ (∀ b o, b < W.heap.size → w1.frozen? ⟨b, o, none⟩ = W.frozen? ⟨b, o, none⟩) :=
  ⟨fun b o h => hb.cell (p := ⟨b, o, none⟩) h, fun b o h => hb.frozen (p := ⟨b, o, none⟩) h⟩
/-- Behind the library's own writes into new blocks. -/
theorem below_grow (w : World) (k : Nat) (os : Array Obj) : Below w.heap.size w (Go.Sort.grow (w.drewN k) os) :=
  ⟨rfl, rfl, rfl, by show w.heap.size ≤ (w.heap ++ os).size; rw [Array.size_append]; omega, fun i hi => Go.Sort.heap_grow_old (w.drewN k) os hi⟩

end Go.Proofs.YtjnicmlomjppnaaGreatDoor.Pure4
/- Plain facts on reading decimal texts. No program is imported here. -/
namespace Go.Proofs.YtjnicmlomjppnaaGreatDoor.Pure7
open Go.RowKit Pure1 Pure2 Pure3 Pure4 Pure5

def digit (c : UInt8) : Prop := 48 ≤ c.toNat ∧ c.toNat ≤ 57
/-- the number that digits spell, behind what stands ahead -/
def val (acc : Nat) (l : List UInt8) : Nat := l.foldl (fun a c => 10 * a + (c.toNat - 48)) acc
theorem val_nil (acc : Nat) : val acc [] = acc := by unfold val; rw [List.foldl_nil]
theorem val_cons (acc : Nat) (c : UInt8) (r : List UInt8) : val acc (c :: r) = val (10 * acc + (c.toNat - 48)) r := by unfold val; rw [List.foldl_cons]
theorem val_append (l r : List UInt8) (acc : Nat) : val acc (l ++ r) = val (val acc l) r := by
  induction l generalizing acc with
  | nil => rw [List.nil_append, val_nil]
  | cons c l ih => rw [List.cons_append, val_cons, val_cons, ih]
theorem val_mono (l : List UInt8) : ∀ acc, acc ≤ val acc l := by
  induction l with
  | nil => intro acc; rw [val_nil]; exact Nat.le_refl acc
  | cons c l ih =>
    intro acc
    have h : acc ≤ 10 * acc + (c.toNat - 48) := by omega
    rw [val_cons]; exact Nat.le_trans h (ih (10 * acc + (c.toNat - 48)))
theorem digit_of (n : Nat) (h : n < 10) : digit (UInt8.ofNat (48 + n)) ∧ (UInt8.ofNat (48 + n)).toNat = 48 + n := by
  have e : (UInt8.ofNat (48 + n)).toNat = 48 + n := by
    rw [UInt8.toNat_ofNat']; exact Nat.mod_eq_of_lt (by omega)
  exact ⟨⟨by rw [e]; omega, by rw [e]; omega⟩, e⟩
theorem dec_spec (u : Nat) : (∀ c ∈ Lib.decDigits u, digit c) ∧ val 0 (Lib.decDigits u) = u := by
  induction u using Nat.strongRecOn with
  | _ u ih =>
    by_cases h : u < 10
    · rw [Lib.decDigits_one h]
      have := digit_of u h
      refine ⟨fun c hc => by rw [List.mem_singleton] at hc; rw [hc]; exact this.1, ?_⟩
      have e : 10 * 0 + (48 + u - 48) = u := by omega
      rw [val_cons, val_nil, this.2, e]
    · rw [Lib.decDigits, dif_neg h]
      have h1 := ih (u / 10) (by omega)
      have h2 := digit_of (u % 10) (by omega)
      refine ⟨fun c hc => ?_, ?_⟩
      · rcases List.mem_append.1 hc with hc | hc
        · exact h1.1 c hc
        · rw [List.mem_singleton] at hc; rw [hc]; exact h2.1
      · have e : 10 * (u / 10) + (48 + u % 10 - 48) = u := by omega
        rw [val_append, h1.2, val_cons, val_nil, h2.2, e]
theorem dec_ne (u : Nat) : Lib.decDigits u ≠ [] := by
  intro e
  have := congrArg List.length e
  rw [Lib.decDigits_length] at this
  have := Lib.nDigits_pos u
  simp at *; omega
theorem parseM_val (l : List UInt8) : ∀ acc, (∀ c ∈ l, digit c) → val acc l < 18446744073709551610 → Lib.parseUintM 18446744073709551615 acc l = .ok (val acc l) := by
  induction l with
  | nil => intro acc _ _; rw [val_nil]; rfl
  | cons c l ih =>
    intro acc hd hv
    have hc := hd c (by simp)
    have hm := val_mono l (10 * acc + (c.toNat - 48))
    rw [val_cons] at hv
    have hc' : 48 ≤ c.toNat ∧ c.toNat ≤ 57 := hc
    have hb := Nat.lt_of_le_of_lt hm hv
    have g1 : ¬ 1844674407370955162 ≤ acc := by omega
    have g2 : ¬ 18446744073709551615 < acc * 10 + (c.toNat - 48) := by omega
    rw [Lib.parseUintM, if_pos hc', if_neg g1, if_neg g2, Nat.mul_comm acc 10, ih _ (fun d hd' => hd d (by simp [hd'])) hv, val_cons]
theorem parse_itoa (m : Int) (h0 : -9223372036854775808 ≤ m) (h1 : m ≤ 9223372036854775807) : Lib.parseIntB 64 (Lib.itoa m) = .ok m := by
  have e1 : (2 : Nat) ^ (64 - 1) = 9223372036854775808 := by decide
  have e2 : (2 : Nat) ^ 64 - 1 = 18446744073709551615 := by decide
  by_cases h : m < 0
  · obtain ⟨u, rfl⟩ : ∃ u : Nat, m = -(u : Int) := ⟨m.natAbs, by omega⟩
    rw [Lib.itoa_neg u (by omega), Lib.parseIntB_minus, Lib.parseUintB, if_neg (dec_ne u), e1, e2, parseM_val _ 0 (dec_spec u).1 (by rw [(dec_spec u).2]; omega), (dec_spec u).2]
    show (if 9223372036854775808 < u then Lib.NumEnd.range else Lib.NumEnd.ok (-(u : Int))) = _
    rw [if_neg (by omega)]
  · obtain ⟨u, rfl⟩ := Int.eq_ofNat_of_zero_le (by omega : 0 ≤ m)
    rw [Lib.itoa_nonneg]
    cases hd : Lib.decDigits u with
    | nil => exact absurd hd (dec_ne u)
    | cons c r =>
      have hc := (dec_spec u).1 c (by rw [hd]; simp)
      unfold digit at hc
      rw [Lib.parseIntB_plain 64 c r (by omega) (by omega), ← hd, Lib.parseUintB, if_neg (dec_ne u), e1, e2, parseM_val _ 0 (dec_spec u).1 (by rw [(dec_spec u).2]; omega), (dec_spec u).2]
      show (if 9223372036854775808 ≤ u then Lib.NumEnd.range else Lib.NumEnd.ok (u : Int)) = _
      rw [if_neg (by omega)]
theorem decB_inj {m n : Int} (h0 : -9223372036854775808 ≤ m) (h1 : m ≤ 9223372036854775807) (h2 : -9223372036854775808 ≤ n) (h3 : n ≤ 9223372036854775807) (h : decB m = decB n) : m = n := by
  have e : Lib.itoa m = Lib.itoa n := by
    have := congrArg (fun s : ByteArray => s.data.toList) h
    simpa [decB] using this
  have := parse_itoa m h0 h1
  rw [e, parse_itoa n h2 h3] at this
  exact (Lib.NumEnd.ok.inj this).symm
/-- the numbers that l01Value reads: 1 to 13 digits, no superfluous zero -/
theorem dec_len {u : Nat} (h : u < 10000000000000) : (Lib.decDigits u).length ≤ 13 := by
  rw [Lib.decDigits_length]
  by_cases h0 : u = 0
  · subst h0; rw [Lib.nDigits_small (by omega)]; omega
  · have h1 := Lib.nDigits_pos u
    apply Nat.le_of_not_lt
    intro h13
    have key : ∀ k v, 1 ≤ v → k < Lib.nDigits v → 10 ^ k ≤ v := by
      intro k
      induction k with
      | zero => intro v hv _; simpa using hv
      | succ k ih =>
        intro v hv hk
        by_cases hs : v < 10
        · rw [Lib.nDigits_small hs] at hk; omega
        · rw [Lib.nDigits_big hs] at hk
          have := ih (v / 10) (by omega) (by omega)
          rw [Nat.pow_succ]; omega
    have := key 13 u (by omega) h13
    omega
theorem decB_toList {m : Int} (h : 0 ≤ m) : (decB m).data.toList = Lib.decDigits m.toNat := by
  obtain ⟨u, rfl⟩ := Int.eq_ofNat_of_zero_le h
  unfold decB; rw [Lib.itoa_nonneg, Int.toNat_natCast]
/-- the bytes of a text as digits, from the first k on -/
theorem val_take (l : List UInt8) (k : Nat) (c : UInt8) (h : l[k]? = some c) : val 0 (l.take (k + 1)) = 10 * val 0 (l.take k) + (c.toNat - 48) := by
  rw [List.take_add_one, h, val_append]; simp only [Option.toList]; rw [val_cons, val_nil]
theorem val_lt (l : List UInt8) (h : ∀ c ∈ l, digit c) : val 0 l < 10 ^ l.length := by
  have key : ∀ (l : List UInt8) (acc : Nat), (∀ c ∈ l, digit c) → val acc l < (acc + 1) * 10 ^ l.length := by
    intro l
    induction l with
    | nil => intro acc _; rw [val_nil]; simp
    | cons c r ih =>
      intro acc hd
      have hc : 48 ≤ c.toNat ∧ c.toNat ≤ 57 := hd c (by simp)
      rw [val_cons]
      refine Nat.lt_of_lt_of_le (ih _ (fun d hd' => hd d (by simp [hd']))) ?_
      rw [List.length_cons, Nat.pow_succ, Nat.mul_comm (10 ^ r.length) 10, ← Nat.mul_assoc]
      exact Nat.mul_le_mul_right _ (by omega)
  have := key l 0 h
  simpa using this

/-- what reading a number says: either the number with this text, or that there is none in the range -/
def NumRead (t : ByteArray) (lo hi : Int) (n : Int) (b : Bool) : Prop := (b = true → decB n = t ∧ lo ≤ n ∧ n ≤ hi) ∧ (b = false → ∀ m, lo ≤ m → m ≤ hi → decB m ≠ t)

end Go.Proofs.YtjnicmlomjppnaaGreatDoor.Pure7
/- Plain facts on persons (chapter 4): what a person and persons are, likeness, the most alike one, finding. No program is imported here. -/
namespace Go.Proofs.YtjnicmlomjppnaaGreatDoor.Pure40
open Go.RowKit Pure1

/-- a person: number, first and last name, year, zone -/
structure Pers where
  num : Int
  fst : ByteArray
  lst : ByteArray
  born : Int
  zone : Int

def inR (n a b : Int) : Bool := decide (a ≤ n) && decide (n ≤ b)
def isPers (p : Pers) : Bool := inR p.num 1 1000000 && (isWordL p.fst.data.toList && (isWordL p.lst.data.toList && (inR p.born 1900 2100 && inR p.zone 0 99)))
/-- the value of a person -/
def Pers.val (p : Pers) : Value := .agg #[.int .i64 p.num, .string p.fst, .string p.lst, .int .i64 p.born, .int .i64 p.zone]
/-- the values of its fields -/
def Pers.cells (p : Pers) : List Value := [.int .i64 p.num, .string p.fst, .string p.lst, .int .i64 p.born, .int .i64 p.zone]
/-- the names of a person are no longer than a text may be -/
def Pers.fits (p : Pers) : Prop := p.fst.size ≤ maxLen ∧ p.lst.size ≤ maxLen

theorem inR_iff {n a b : Int} : inR n a b = true ↔ a ≤ n ∧ n ≤ b := by simp [inR]
theorem inR_no {n a b : Int} : inR n a b = false ↔ n < a ∨ b < n := by rw [← Bool.not_eq_true, inR_iff]; omega

/-- A person lies at cell o of block b: five cells. -/
def AtP (w : World) (b o : Nat) (p : Pers) : Prop :=
  w.cell? ⟨b, o, none⟩ = some (.int .i64 p.num) ∧ w.cell? ⟨b, o + 1, none⟩ = some (.string p.fst) ∧ w.cell? ⟨b, o + 2, none⟩ = some (.string p.lst) ∧ w.cell? ⟨b, o + 3, none⟩ = some (.int .i64 p.born) ∧ w.cell? ⟨b, o + 4, none⟩ = some (.int .i64 p.zone)
/-- A person lies in block b, from its first cell on. -/
def AtB (w : World) (b : Nat) (p : Pers) : Prop :=
  w.cell? ⟨b, 0, none⟩ = some (.int .i64 p.num) ∧ w.cell? ⟨b, 1, none⟩ = some (.string p.fst) ∧ w.cell? ⟨b, 2, none⟩ = some (.string p.lst) ∧ w.cell? ⟨b, 3, none⟩ = some (.int .i64 p.born) ∧ w.cell? ⟨b, 4, none⟩ = some (.int .i64 p.zone)
theorem AtB.below {w w' : World} {b : Nat} {p : Pers} (h : AtB w b p) (hb : Below w.heap.size w w') : AtB w' b p :=
  ⟨cell_later hb h.1, cell_later hb h.2.1, cell_later hb h.2.2.1, cell_later hb h.2.2.2.1, cell_later hb h.2.2.2.2⟩
theorem atB_box (w : World) (n : Int) (f l : ByteArray) (b z : Int) (T : TypeId) : AtB (w.alloc (.cells #[.int .i64 n, .string f, .string l, .int .i64 b, .int .i64 z] T)) w.heap.size ⟨n, f, l, b, z⟩ := by
  have h : (w.alloc (.cells #[.int .i64 n, .string f, .string l, .int .i64 b, .int .i64 z] T)).heap[w.heap.size]? = some (.cells #[.int .i64 n, .string f, .string l, .int .i64 b, .int .i64 z] T) := heap_alloc_new w _
  refine ⟨?_, ?_, ?_, ?_, ?_⟩ <;> (unfold World.cell?; rw [h]; rfl)
theorem boxed (w : World) (o : Obj) : Below w.heap.size w (w.alloc o) := (Below.refl _ _).alloc (Nat.le_refl _) _
/-- The slice at address a reads, from its head on, the persons ps. -/
def PersAt (w : World) (a : Option Addr) (ps : List Pers) : Prop :=
  ps = [] ∨ ∃ b off, a = some ⟨b, off, none⟩ ∧ ∀ i p, ps[i]? = some p → AtP w b (off + i * 5) p

theorem AtP.below {w w' : World} {b o : Nat} {p : Pers} (h : AtP w b o p) (hb : Below w.heap.size w w') : AtP w' b o p :=
  ⟨cell_later hb h.1, cell_later hb h.2.1, cell_later hb h.2.2.1, cell_later hb h.2.2.2.1, cell_later hb h.2.2.2.2⟩
theorem AtP.lt {w : World} {b o : Nat} {p : Pers} (h : AtP w b o p) : b < w.heap.size := World.block_lt_of_cell? w _ h.1
theorem PersAt.below {w w' : World} {a : Option Addr} {ps : List Pers} (h : PersAt w a ps) (hb : Below w.heap.size w w') : PersAt w' a ps := by
  rcases h with rfl | ⟨b, off, rfl, hc⟩
  · exact .inl rfl
  · exact .inr ⟨b, off, rfl, fun i x hx => (hc i x hx).below hb⟩
theorem PersAt.at {w : World} {a : Option Addr} {ps : List Pers} (h : PersAt w a ps) {k len : Nat} (hl : ps.length = len) (hk : k < len) :
    ∃ b off p, a = some ⟨b, off, none⟩ ∧ AtP w b (off + k * 5) p ∧ ps[k]? = some p := by
  have hx : ps[k]? = some ps[k] := List.getElem?_eq_getElem (by omega)
  rcases h with rfl | ⟨b, off, rfl, hc⟩
  · simp at hl; omega
  · exact ⟨b, off, _, rfl, hc k _ hx, hx⟩
/-- the names of all persons are no longer than a text may be -/
def Fits (ps : List Pers) : Prop := ∀ p ∈ ps, p.fits
theorem Fits.at {ps : List Pers} (h : Fits ps) {k : Nat} {p : Pers} (hp : ps[k]? = some p) : p.fst.size ≤ maxLen ∧ p.lst.size ≤ maxLen := h p (List.mem_of_getElem? hp)

/-! the persons of a list, in order -/
def okAt (ps : List Pers) (i : Nat) : Bool :=
  match ps[i]? with
  | none => true
  | some p => isPers p && (match i with
    | 0 => true
    | j + 1 => (match ps[j]? with
      | none => true
      | some q => decide (q.num < p.num)))
/-- are they persons? -/
def arePers (ps : List Pers) : Bool := (List.range ps.length).all (okAt ps) && decide (ps.length ≤ 12)
theorem okAt_zero {ps : List Pers} {p : Pers} (h : ps[0]? = some p) : okAt ps 0 = isPers p := by simp [okAt, h]
theorem okAt_succ {ps : List Pers} {j : Nat} {p q : Pers} (h : ps[j + 1]? = some p) (h' : ps[j]? = some q) : okAt ps (j + 1) = (isPers p && decide (q.num < p.num)) := by simp [okAt, h, h']
theorem arePers_no {ps : List Pers} {k : Nat} (hk : k < ps.length) (h : okAt ps k = false) : arePers ps = false := by
  have : (List.range ps.length).all (okAt ps) = false := by
    rw [List.all_eq_false]; exact ⟨k, List.mem_range.2 hk, by simp [h]⟩
  rw [arePers, this, Bool.false_and]
theorem arePers_end {ps : List Pers} {k : Nat} (h : ∀ i, i < k → okAt ps i = true) (hk : ps.length ≤ k) : arePers ps = decide (ps.length ≤ 12) := by
  have : (List.range ps.length).all (okAt ps) = true := by
    rw [List.all_eq_true]; exact fun i hi => h i (by have := List.mem_range.1 hi; omega)
  rw [arePers, this, Bool.true_and]
theorem arePers_at {ps : List Pers} {k : Nat} {p : Pers} (h : arePers ps = true) (hp : ps[k]? = some p) : isPers p = true := by
  simp only [arePers, Bool.and_eq_true, List.all_eq_true] at h
  have hk : k < ps.length := (List.getElem?_eq_some_iff.1 hp).1
  have := h.1 k (List.mem_range.2 hk)
  simp only [okAt, hp, Bool.and_eq_true] at this
  exact this.1
theorem arePers_len {ps : List Pers} (h : arePers ps = true) : ps.length ≤ 12 := by
  simp only [arePers, Bool.and_eq_true, decide_eq_true_eq] at h; exact h.2

end Go.Proofs.YtjnicmlomjppnaaGreatDoor.Pure40
/- Plain facts on the likeness of words and of persons (chapter 4). No program is imported here. -/
namespace Go.Proofs.YtjnicmlomjppnaaGreatDoor.Pure41
open Go.RowKit Pure1 Pure40

/-- how many elements two lists have in common at their beginning -/
def comL : List UInt8 → List UInt8 → Nat
  | x :: xs, y :: ys => if x = y then comL xs ys + 1 else 0
  | _, _ => 0
theorem comL_eq : ∀ (k : Nat) (a b : List UInt8), a.take k = b.take k → k ≤ a.length → (k = a.length ∨ a[k]? ≠ b[k]?) → comL a b = k
  | 0, [], _, _, _, _ => by simp [comL]
  | 0, x :: xs, [], _, _, _ => by simp [comL]
  | 0, x :: xs, y :: ys, _, _, h => by
    rcases h with h | h
    · simp at h
    · simp only [List.getElem?_cons_zero, ne_eq, Option.some.injEq] at h
      simp [comL, h]
  | k + 1, [], _, _, h, _ => by simp at h
  | k + 1, x :: xs, [], h, _, _ => by simp at h
  | k + 1, x :: xs, y :: ys, h, hk, h2 => by
    simp only [List.take_succ_cons, List.cons.injEq] at h
    have := comL_eq k xs ys h.2 (by simpa using hk) (by simpa using h2)
    simp [comL, h.1, this]
theorem comL_comm : ∀ (a b : List UInt8), comL a b = comL b a
  | [], [] => rfl
  | [], _ :: _ => rfl
  | _ :: _, [] => rfl
  | x :: xs, y :: ys => by
    simp only [comL]
    by_cases h : x = y
    · rw [if_pos h, if_pos h.symm, comL_comm xs ys]
    · rw [if_neg h, if_neg (fun e => h e.symm)]
def comB (a b : ByteArray) : Nat := comL a.data.toList b.data.toList
theorem comB_stop {a b : ByteArray} {k : Nat} (ht : a.data.toList.take k = b.data.toList.take k) (hk : k < a.size) (hk' : k < b.size) (h : a[k] ≠ b[k]) : comB a b = k := by
  refine comL_eq k _ _ ht (by rw [size_eq]; omega) (.inr ?_)
  have e1 : a.data.toList[k]? = some a[k] := by rw [Array.getElem?_toList, Array.getElem?_eq_getElem hk]; rfl
  have e2 : b.data.toList[k]? = some b[k] := by rw [Array.getElem?_toList, Array.getElem?_eq_getElem hk']; rfl
  rw [e1, e2]; exact fun e => h (Option.some.inj e)
theorem comB_end {a b : ByteArray} {k : Nat} (ht : a.data.toList.take k = b.data.toList.take k) (hk : k = a.size) : comB a b = k :=
  comL_eq k _ _ ht (by rw [size_eq]; omega) (.inl (by rw [size_eq]; exact hk))
theorem take_step {a b : ByteArray} {k : Nat} (ht : a.data.toList.take k = b.data.toList.take k) (hk : k < a.size) (hk' : k < b.size) (h : a[k] = b[k]) : a.data.toList.take (k + 1) = b.data.toList.take (k + 1) := by
  rw [take_snoc a k hk, take_snoc b k hk', ht, h]
theorem comB_comm (a b : ByteArray) : comB a b = comB b a := comL_comm _ _

/-- does one step turn the shorter word into the longer one? -/
def stepP (a b : ByteArray) : Bool :=
  if a.size = b.size then decide (comB a b < a.size) && ((a.extract (comB a b + 1) a.size).toList == (b.extract (comB a b + 1) b.size).toList)
  else if a.size + 1 = b.size then (a.extract (comB a b) a.size).toList == (b.extract (comB a b + 1) b.size).toList
  else false
/-- does one step turn a word into another one? -/
def oneStep (a b : ByteArray) : Bool := if b.size < a.size then stepP b a else stepP a b
theorem oneStep_comm (a b : ByteArray) : oneStep a b = oneStep b a := by
  unfold oneStep
  by_cases h1 : b.size < a.size
  · rw [if_pos h1, if_neg (by omega)]
  · by_cases h2 : a.size < b.size
    · rw [if_neg h1, if_pos h2]
    · rw [if_neg h1, if_neg h2]
      have e : a.size = b.size := by omega
      unfold stepP
      rw [if_pos e, if_pos e.symm, comB_comm b a, e, BEq.comm]
/-- points for two words -/
def wordP (a b : ByteArray) (same near : Int) : Int := if a = b then same else if oneStep a b = true then near else 0
theorem wordP_comm (a b : ByteArray) (s n : Int) : wordP a b s n = wordP b a s n := by
  unfold wordP
  rw [oneStep_comm b a]
  by_cases h : a = b
  · rw [if_pos h, if_pos h.symm]
  · have h' : ¬ b = a := fun e => h e.symm
    simp only [if_neg h, if_neg h']
theorem wordP_self (a : ByteArray) (s n : Int) : wordP a a s n = s := by simp [wordP]
theorem wordP_in (a b : ByteArray) {s n : Int} (hs : 0 ≤ s ∧ s ≤ 100) (hn : 0 ≤ n ∧ n ≤ 100) : 0 ≤ wordP a b s n ∧ wordP a b s n ≤ 100 := by
  unfold wordP; split
  · exact hs
  · split
    · exact hn
    · omega
def bornP (x y : Int) : Int := if x = y then 20 else if x - y = 1 ∨ x - y = -1 then 10 else 0
theorem bornP_comm (x y : Int) : bornP x y = bornP y x := by
  unfold bornP
  by_cases h : x = y
  · rw [if_pos h, if_pos h.symm]
  · have h' : ¬ y = x := fun e => h e.symm
    simp only [if_neg h, if_neg h']
    by_cases h2 : x - y = 1 ∨ x - y = -1
    · have h3 : y - x = 1 ∨ y - x = -1 := by omega
      simp only [if_pos h2, if_pos h3]
    · have h3 : ¬ (y - x = 1 ∨ y - x = -1) := by omega
      simp only [if_neg h2, if_neg h3]
/-- the likeness of two persons -/
def likeP (a b : Pers) : Int := wordP a.lst b.lst 40 25 + wordP a.fst b.fst 30 20 + bornP a.born b.born + (if a.zone = b.zone then 10 else 0)
theorem likeP_comm (a b : Pers) : likeP a b = likeP b a := by
  unfold likeP
  rw [wordP_comm a.lst, wordP_comm a.fst, bornP_comm a.born]
  by_cases h : a.zone = b.zone
  · rw [if_pos h, if_pos h.symm]
  · rw [if_neg h, if_neg (fun e => h e.symm)]
theorem likeP_self (a : Pers) : likeP a a = 100 := by simp [likeP, wordP_self, bornP]

theorem isPers_parts {p : Pers} (h : isPers p = true) : (1 ≤ p.num ∧ p.num ≤ 1000000) ∧ p.fst.size ≤ 16 ∧ p.lst.size ≤ 16 ∧ (1900 ≤ p.born ∧ p.born ≤ 2100) ∧ (0 ≤ p.zone ∧ p.zone ≤ 99) := by
  simp only [isPers, Bool.and_eq_true, inR_iff] at h
  obtain ⟨h1, h2, h3, h4, h5⟩ := h
  have hw : ∀ s : ByteArray, isWordL s.data.toList = true → s.size ≤ 16 := fun s hs => by
    by_cases e : 16 < s.data.toList.length
    · rw [isWordL_long e] at hs; cases hs
    · rw [size_eq] at e; omega
  exact ⟨h1, hw _ h2, hw _ h3, h4, h5⟩

end Go.Proofs.YtjnicmlomjppnaaGreatDoor.Pure41
/- Plain facts on a person's text (chapter 4): its parts between slashes. No program is imported here. -/
namespace Go.Proofs.YtjnicmlomjppnaaGreatDoor.Pure42
open Go.RowKit Pure1 Pure3 Pure4 Pure5 Pure7 Pure40 Pure41

def slash : ByteArray := ⟨#[47]⟩
/-- the pieces of a text between slashes -/
def partsS (s : ByteArray) : List ByteArray := (spl 47 [] s.data.toList).map fun l => ⟨l.toArray⟩
/-- the state of the loop that splits: what is done, and what still comes -/
def MidS (s : ByteArray) (done : List ByteArray) (frm i : Nat) : Prop :=
  frm ≤ i ∧ i ≤ s.size ∧ done ++ (spl 47 ((s.data.toList.drop frm).take (i - frm)) (s.data.toList.drop i)).map (fun l => (⟨l.toArray⟩ : ByteArray)) = partsS s
theorem splitB_partsS (s : ByteArray) : Lib.splitB slash 0 (Lib.countB s slash) s = partsS s := by
  apply toList_inj
  rw [Lib.splitB_data]
  show Lib.splitK [47] 0 (Lib.count s.data.toList [47]) s.data.toList = _
  rw [splitK_spl]
  simp [partsS, List.map_map, Function.comp_def]
theorem partsS_length (s : ByteArray) : (partsS s).length = Lib.countB s slash + 1 := by
  rw [← splitB_partsS]; exact Lib.splitB_all slash (by decide) 0 _ s rfl

theorem MidS.start (s : ByteArray) : MidS s [] 0 0 := ⟨Nat.le_refl _, Nat.zero_le _, by simp [partsS]⟩
theorem MidS.slash {s : ByteArray} {done : List ByteArray} {frm i : Nat} (h : MidS s done frm i) (hi : i < s.size) (hc : s[i] = 47) : MidS s (done ++ [s.extract frm i]) (i + 1) (i + 1) := by
  obtain ⟨h1, h2, h3⟩ := h
  refine ⟨Nat.le_refl _, by omega, ?_⟩
  rw [← h3, drop_cons s i hi, spl, if_pos hc, Nat.sub_self, List.take_zero, List.map_cons, extract_mk]
  simp
theorem MidS.other {s : ByteArray} {done : List ByteArray} {frm i : Nat} (h : MidS s done frm i) (hi : i < s.size) (hc : s[i] ≠ 47) : MidS s done frm (i + 1) := by
  obtain ⟨h1, h2, h3⟩ := h
  refine ⟨by omega, by omega, ?_⟩
  have e : i + 1 - frm = (i - frm) + 1 := by omega
  have hx : (s.data.toList.drop frm)[i - frm]? = some s[i] := by
    rw [List.getElem?_drop, show frm + (i - frm) = i by omega, List.getElem?_eq_getElem (by simpa using hi)]; rfl
  rw [← h3, drop_cons s i hi, spl, if_neg hc, e, List.take_add_one, hx]
  rfl
theorem MidS.last {s : ByteArray} {done : List ByteArray} {frm : Nat} (h : MidS s done frm s.size) : done ++ [s.extract frm s.size] = partsS s := by
  obtain ⟨h1, h2, h3⟩ := h
  rw [← h3, List.drop_eq_nil_of_le (by simp : s.data.toList.length ≤ s.size), spl, List.map_singleton, extract_mk]

theorem partsS_len_le (s : ByteArray) : (partsS s).length ≤ s.size + 1 := by
  rw [partsS, List.length_map]; have := spl_len 47 s.data.toList []; rw [Pure1.size_eq] at this; exact this
theorem MidS.len {s : ByteArray} {done : List ByteArray} {frm i : Nat} (h : MidS s done frm i) : done.length ≤ s.size := by
  obtain ⟨h1, h2, h3⟩ := h
  have e := congrArg List.length h3
  rw [List.length_append, List.length_map] at e
  have := spl_ne 47 (s.data.toList.drop i) ((s.data.toList.drop frm).take (i - frm))
  have := partsS_len_le s
  omega
theorem partsS_sizes (s : ByteArray) : ∀ x ∈ partsS s, x.size ≤ s.size := by
  intro x hx
  simp only [partsS, List.mem_map] at hx
  obtain ⟨l, hl, rfl⟩ := hx
  have := spl_sizes 47 _ _ l hl
  show l.toArray.size ≤ _
  rw [List.size_toArray]; simpa using this


/-- a person's text -/
def textP (p : Pers) : ByteArray := decB p.num ++ slash ++ p.fst ++ slash ++ p.lst ++ slash ++ decB p.born ++ slash ++ decB p.zone
/-- the pieces of a person's text -/
def fields (p : Pers) : List ByteArray := [decB p.num, p.fst, p.lst, decB p.born, decB p.zone]
theorem join_fields (p : Pers) : (⟨(Lib.join ((fields p).map (·.data.toList)) slash.data.toList).toArray⟩ : ByteArray) = textP p := by
  rw [← mk_toList (textP p)]
  congr 1
  simp [fields, textP, Lib.join, slash, ByteArray.data_append]
/-- PersonText's answer -/
def textOfP (p : Pers) : ByteArray × Int := if isPers p = true then (textP p, 0) else (⟨#[]⟩, 1)
def zeroP : Pers := ⟨0, ⟨#[]⟩, ⟨#[]⟩, 0, 0⟩
open Classical in
/-- ReadPerson's answer -/
noncomputable def readR (s : ByteArray) : Pers × Int := if h : ∃ p : Pers, isPers p = true ∧ partsS s = fields p then (Classical.choose h, 0) else (zeroP, 6)
theorem fields_inj {p q : Pers} (hp : isPers p = true) (hq : isPers q = true) (h : fields p = fields q) : p = q := by
  obtain ⟨⟨a1, a2⟩, _, _, ⟨b1, b2⟩, z1, z2⟩ := isPers_parts hp
  obtain ⟨⟨a1', a2'⟩, _, _, ⟨b1', b2'⟩, z1', z2'⟩ := isPers_parts hq
  simp only [fields, List.cons.injEq, and_true] at h
  obtain ⟨h0, h1, h2, h3, h4⟩ := h
  have e0 := decB_inj (by omega) (by omega) (by omega) (by omega) h0
  have e3 := decB_inj (by omega) (by omega) (by omega) (by omega) h3
  have e4 := decB_inj (by omega) (by omega) (by omega) (by omega) h4
  obtain ⟨n, f, l, b, z⟩ := p
  obtain ⟨n', f', l', b', z'⟩ := q
  simp only at e0 h1 h2 e3 e4
  subst e0 h1 h2 e3 e4
  rfl
theorem readR_yes {s : ByteArray} {p : Pers} (hp : isPers p = true) (h : partsS s = fields p) : readR s = (p, 0) := by
  have hx : ∃ p : Pers, isPers p = true ∧ partsS s = fields p := ⟨p, hp, h⟩
  unfold readR
  rw [dif_pos hx]
  obtain ⟨h1, h2⟩ := Classical.choose_spec hx
  rw [fields_inj h1 hp (h2.symm.trans h)]
theorem readR_no {s : ByteArray} (h : ∀ p : Pers, isPers p = true → partsS s ≠ fields p) : readR s = (zeroP, 6) := by
  unfold readR
  rw [dif_neg (fun ⟨p, hp, he⟩ => h p hp he)]
theorem readR_cases (s : ByteArray) : (∃ p, isPers p = true ∧ partsS s = fields p ∧ readR s = (p, 0)) ∨ readR s = (zeroP, 6) := by
  by_cases h : ∃ p : Pers, isPers p = true ∧ partsS s = fields p
  · obtain ⟨p, hp, he⟩ := h
    exact .inl ⟨p, hp, he, readR_yes hp he⟩
  · exact .inr (readR_no (fun p hp he => h ⟨p, hp, he⟩))

end Go.Proofs.YtjnicmlomjppnaaGreatDoor.Pure42
/- Plain facts on reading lists of numbers. No program is imported here. -/
namespace Go.Proofs.YtjnicmlomjppnaaGreatDoor.Pure8
open Go.RowKit Pure1 Pure2 Pure3 Pure4 Pure5 Pure7

/-- the list has this text -/
def IsList (s : ByteArray) (zs : List Int) : Prop := iparts s = zs.map decB ∧ listErr zs = 0
theorem val_bd {x : Int} (h : isVal x = true) : -9223372036854775808 ≤ x ∧ x ≤ 9223372036854775807 := by
  have := (isVal_iff x).1 h; omega
theorem map_dec_inj : ∀ {a b : List Int}, (∀ n ∈ a, -9223372036854775808 ≤ n ∧ n ≤ 9223372036854775807) → (∀ n ∈ b, -9223372036854775808 ≤ n ∧ n ≤ 9223372036854775807) → a.map decB = b.map decB → a = b
  | [], [], _, _, _ => rfl
  | [], y :: t, _, _, h => by simp at h
  | x :: r, [], _, _, h => by simp at h
  | x :: r, y :: t, ha, hb, h => by
    simp only [List.map_cons, List.cons.injEq] at h
    have h1 := ha x (by simp); have h2 := hb y (by simp)
    rw [decB_inj h1.1 h1.2 h2.1 h2.2 h.1, map_dec_inj (fun n hn => ha n (by simp [hn])) (fun n hn => hb n (by simp [hn])) h.2]
theorem listErr_bd {zs : List Int} (h : listErr zs = 0) : ∀ n ∈ zs, -9223372036854775808 ≤ n ∧ n ≤ 9223372036854775807 := by
  rcases listErr_cases zs with ⟨_, hall, _⟩ | h2 | h3
  · intro n hn; rw [List.all_eq_true] at hall; exact val_bd (hall n hn)
  · omega
  · omega
/-- the numbers with a text, and the error -/
noncomputable def readList (s : ByteArray) : List Int × Int := @dite _ (∃ zs, IsList s zs) (Classical.propDecidable _) (fun h => (h.choose, 0)) (fun _ => ([], 6))
theorem readList_yes {s : ByteArray} {zs : List Int} (h : IsList s zs) : readList s = (zs, 0) := by
  unfold readList
  rw [dif_pos ⟨zs, h⟩]
  have hc := (⟨zs, h⟩ : ∃ zs, IsList s zs).choose_spec
  rw [map_dec_inj (listErr_bd hc.2) (listErr_bd h.2) (hc.1.symm.trans h.1)]
theorem readList_no {s : ByteArray} (h : ∀ zs, ¬ IsList s zs) : readList s = ([], 6) := by
  unfold readList
  rw [dif_neg (fun ⟨zs, hz⟩ => h zs hz)]
theorem readList_of {s : ByteArray} {ns : List Int} (h : iparts s = ns.map decB) (hb : ∀ n ∈ ns, -9223372036854775808 ≤ n ∧ n ≤ 9223372036854775807) : readList s = if listErr ns = 0 then (ns, 0) else ([], 6) := by
  by_cases he : listErr ns = 0
  · rw [if_pos he]; exact readList_yes ⟨h, he⟩
  · rw [if_neg he]
    refine readList_no fun zs hz => he ?_
    rw [map_dec_inj hb (listErr_bd hz.2) (h.symm.trans hz.1)]; exact hz.2
theorem readList_bad {s x : ByteArray} (hx : x ∈ iparts s) (h : ∀ m, -9999999999999 ≤ m → m ≤ 9999999999999 → decB m ≠ x) : readList s = ([], 6) := by
  refine readList_no fun zs hz => ?_
  rw [hz.1, List.mem_map] at hx
  obtain ⟨m, hm, e⟩ := hx
  rcases listErr_cases zs with ⟨_, hall, _⟩ | h2 | h3
  · rw [List.all_eq_true] at hall
    have := (isVal_iff m).1 (hall m hm)
    exact h m (by omega) (by omega) e
  · have := hz.2; omega
  · have := hz.2; omega
theorem iparts_parts {s : ByteArray} (h : s ≠ minus) : iparts s = parts s := by rw [iparts, if_neg h]
theorem readList_minus : readList minus = ([], 0) := readList_yes ⟨by rw [iparts, if_pos rfl]; rfl, rfl⟩
theorem readList_len (s : ByteArray) : (readList s).1.length ≤ 60 := by
  by_cases h : ∃ zs, IsList s zs
  · obtain ⟨zs, hz⟩ := h
    rw [readList_yes hz]
    rcases listErr_cases zs with ⟨_, _, h60⟩ | h2 | h3
    · exact h60
    · have := hz.2; omega
    · have := hz.2; omega
  · rw [readList_no (fun zs hz => h ⟨zs, hz⟩)]; exact Nat.zero_le _
theorem take_snocS {ss : List ByteArray} {ns : List Int} {k : Nat} {x : ByteArray} {n : Int} (ht : ss.take (k + 1) = ss.take k ++ [x]) (h : ss.take k = ns.map decB) (hn : decB n = x) : ss.take (k + 1) = (ns ++ [n]).map decB := by
  rw [ht, h, List.map_append, List.map_singleton, hn]
theorem bd_snoc {ns : List Int} {n lo hi : Int} (h : ∀ m ∈ ns, lo ≤ m ∧ m ≤ hi) (h1 : lo ≤ n) (h2 : n ≤ hi) : ∀ m ∈ ns ++ [n], lo ≤ m ∧ m ≤ hi := by
  intro m hm
  rcases List.mem_append.1 hm with hm | hm
  · exact h m hm
  · rw [List.mem_singleton] at hm; rw [hm]; exact ⟨h1, h2⟩

end Go.Proofs.YtjnicmlomjppnaaGreatDoor.Pure8
/- Plain facts: words and numbers are recovered from their text. No program is imported here. -/
namespace Go.Proofs.YtjnicmlomjppnaaGreatDoor.Pure8
open Go.RowKit Pure1 Pure2 Pure3 Pure4 Pure5 Pure7

theorem join_two (x y : List UInt8) (r : List (List UInt8)) (sep : List UInt8) : Lib.join (x :: y :: r) sep = x ++ (sep ++ Lib.join (y :: r) sep) := by
  rw [Lib.join_cons, Lib.join_cons]; simp [Lib.joinTail, List.append_assoc]
theorem spl_app (c : UInt8) : ∀ (x : List UInt8), c ∉ x → ∀ acc l, spl c acc (x ++ c :: l) = (acc ++ x) :: spl c [] l
  | [], _, acc, l => by simp [spl]
  | y :: r, h, acc, l => by
    have h1 : ¬ y = c := fun e => h (by rw [e]; exact List.mem_cons_self)
    have h2 : c ∉ r := fun e => h (List.mem_cons_of_mem _ e)
    rw [List.cons_append, spl, if_neg h1, spl_app c r h2, List.append_assoc]; rfl
theorem spl_last (c : UInt8) : ∀ (x : List UInt8), c ∉ x → ∀ acc, spl c acc x = [acc ++ x]
  | [], _, acc => by simp [spl]
  | y :: r, h, acc => by
    have h1 : ¬ y = c := fun e => h (by rw [e]; exact List.mem_cons_self)
    have h2 : c ∉ r := fun e => h (List.mem_cons_of_mem _ e)
    rw [spl, if_neg h1, spl_last c r h2, List.append_assoc]; rfl
theorem spl_join (c : UInt8) : ∀ (xs : List (List UInt8)), xs ≠ [] → (∀ x ∈ xs, c ∉ x) → spl c [] (Lib.join xs [c]) = xs
  | [], h, _ => absurd rfl h
  | [x], _, h => by rw [Lib.join_one, spl_last c x (h x List.mem_cons_self), List.nil_append]
  | x :: y :: r, _, h => by
    rw [join_two]
    show spl c [] (x ++ c :: Lib.join (y :: r) [c]) = _
    rw [spl_app c x (h x List.mem_cons_self), spl_join c (y :: r) (by simp) (fun z hz => h z (List.mem_cons_of_mem _ hz)), List.nil_append]
theorem join_spl (c : UInt8) : ∀ (l acc : List UInt8), Lib.join (spl c acc l) [c] = acc ++ l
  | [], acc => by rw [spl, Lib.join_one, List.append_nil]
  | x :: r, acc => by
    by_cases h : x = c
    · subst h
      rw [spl, if_pos rfl]
      have ih := join_spl x r []
      have hne := spl_ne x r []
      cases hs : spl x [] r with
      | nil => rw [hs] at hne; simp at hne
      | cons y t => rw [hs] at ih; rw [join_two, ih]; rfl
    · rw [spl, if_neg h, join_spl c r (acc ++ [x]), List.append_assoc]; rfl
theorem join_parts (s : ByteArray) : joinB (parts s) comma = s := by
  unfold joinB parts
  rw [List.map_map, show ((fun x : ByteArray => x.data.toList) ∘ fun l : List UInt8 => (⟨l.toArray⟩ : ByteArray)) = id from funext fun l => by simp, List.map_id]
  show (⟨(Lib.join (spl 44 [] s.data.toList) [44]).toArray⟩ : ByteArray) = s
  rw [join_spl, List.nil_append, mk_toList]
theorem parts_join {ss : List ByteArray} (h : ss ≠ []) (hc : ∀ x ∈ ss, (44 : UInt8) ∉ x.data.toList) : parts (joinB ss comma) = ss := by
  unfold joinB parts
  show (spl 44 [] (Lib.join (ss.map (·.data.toList)) [44])).map _ = ss
  rw [spl_join 44 _ (by simpa using h) (by intro x hx; obtain ⟨y, hy, rfl⟩ := List.mem_map.1 hx; exact hc y hy), List.map_map]
  rw [show ((fun l : List UInt8 => (⟨l.toArray⟩ : ByteArray)) ∘ fun x : ByteArray => x.data.toList) = id from funext fun l => mk_toList l, List.map_id]
theorem parts_ne (s : ByteArray) : parts s ≠ [] := by
  intro e; have := spl_ne 44 s.data.toList []; unfold parts at e
  rw [List.map_eq_nil_iff] at e; rw [e] at this; simp at this
theorem text_parts (s : ByteArray) : wordsT (iparts s) = s := by
  by_cases h : s = minus
  · rw [iparts, if_pos h, h]; rfl
  · rw [iparts, if_neg h, wordsT, if_neg (parts_ne s), join_parts]
theorem parts_text {ss : List ByteArray} (hc : ∀ x ∈ ss, (44 : UInt8) ∉ x.data.toList) (hm : ∀ x ∈ ss, x ≠ minus) : iparts (wordsT ss) = ss := by
  by_cases h : ss = []
  · subst h; rfl
  · rw [wordsT, if_neg h]
    have e := parts_join h hc
    by_cases hj : joinB ss comma = minus
    · exfalso
      have e2 : parts minus = [minus] := by unfold parts minus; simp [spl]
      rw [hj, e2] at e
      exact hm minus (by rw [← e]; exact List.mem_cons_self) rfl
    · rw [iparts, if_neg hj, e]

theorem word_no44 {l : List UInt8} (h : isWordL l = true) (c : UInt8) (hc : c.toNat < 97) : c ∉ l := by
  intro hm
  have : Pure1.letter c = true := by
    simp only [isWordL, Bool.and_eq_true, List.all_eq_true] at h
    exact h.2.2 c hm
  have := ((Pure1.letter_iff c).1 this).1
  omega
theorem words_there (ss : List ByteArray) : ∃ t bad, wordsText ss = (t, bad) ∧ ((bad = 0 ∧ readWords t = (ss, 0) ∧ t.size ≤ 1048576) ∨ bad = 1 ∨ bad = 3) := by
  unfold wordsText
  rcases wordsErr_cases ss with ⟨he, hall, h60⟩ | ⟨he, _⟩ | ⟨he, _⟩
  · rw [if_pos he]
    have hw : ∀ x ∈ ss, isWordL x.data.toList = true := by unfold allWords at hall; exact List.all_eq_true.1 hall
    have hp : iparts (wordsT ss) = ss := parts_text (fun x hx => word_no44 (hw x hx) 44 (by decide)) (fun x hx e => by have := word_no44 (hw x hx) 45 (by decide); rw [e] at this; exact this (by decide))
    refine ⟨_, _, rfl, .inl ⟨rfl, ?_, ?_⟩⟩
    · rw [readWords_eq, hp, if_pos he]
    · unfold wordsT
      split
      · exact (by decide : (1 : Nat) ≤ 1048576)
      · have h1 := joinB_size ss comma
        have h2 := allWords_szs hall
        have h3 : comma.size = 1 := rfl
        rw [h3] at h1
        omega
  · rw [if_neg (by rw [he]; decide)]; exact ⟨_, _, rfl, .inr (.inl he)⟩
  · rw [if_neg (by rw [he]; decide)]; exact ⟨_, _, rfl, .inr (.inr he)⟩
theorem words_back (s : ByteArray) : ∃ ys one, readWords s = (ys, one) ∧ ((one = 0 ∧ wordsText ys = (s, 0) ∧ ys.length ≤ 60 ∧ ∀ x ∈ ys, x.size ≤ 16) ∨ (one = 6 ∧ ys = [])) := by
  rw [readWords_eq]
  by_cases h : wordsErr (iparts s) = 0
  · rw [if_pos h]
    refine ⟨_, _, rfl, .inl ⟨rfl, by rw [wordsText, if_pos h, text_parts], ?_⟩⟩
    rcases wordsErr_cases (iparts s) with ⟨_, hall, h60⟩ | ⟨he, _⟩ | ⟨he, _⟩
    · refine ⟨h60, fun x hx => ?_⟩
      have := word_size (List.all_eq_true.1 (show (iparts s).all _ = true from hall) x hx)
      simpa using this
    · rw [he] at h; cases h
    · rw [he] at h; cases h
  · rw [if_neg h]; exact ⟨_, _, rfl, .inr ⟨rfl, rfl⟩⟩

theorem dec_no44 (n : Int) : (44 : UInt8) ∉ (decB n).data.toList := by
  intro hm
  by_cases h : n < 0
  · obtain ⟨u, rfl⟩ : ∃ u : Nat, n = -(u : Int) := ⟨(-n).toNat, by omega⟩
    rw [decB_neg (by omega), ByteArray.data_append, Array.toList_append, List.mem_append] at hm
    rcases hm with hm | hm
    · revert hm; decide
    · rw [decB_toList (by omega)] at hm
      have := ((dec_spec _).1 _ hm).1
      revert this; decide
  · rw [decB_toList (by omega)] at hm
    have := ((dec_spec _).1 _ hm).1
    revert this; decide
theorem dec_minus (n : Int) : decB n ≠ minus := by
  intro e
  have e2 : (decB n).data.toList = [45] := by rw [e]; rfl
  by_cases h : n < 0
  · obtain ⟨u, rfl⟩ : ∃ u : Nat, n = -(u : Int) := ⟨(-n).toNat, by omega⟩
    rw [decB_neg (by omega), ByteArray.data_append, Array.toList_append] at e2
    rw [decB_toList (by omega)] at e2
    have e3 : (45 : UInt8) :: Lib.decDigits ((u : Int)).toNat = [45] := e2
    exact dec_ne _ (List.cons.inj e3).2
  · rw [decB_toList (by omega)] at e2
    have := ((dec_spec n.toNat).1 45 (by rw [e2]; exact List.mem_cons_self)).1
    revert this; decide
theorem lists_there (zs : List Int) : ∃ t bad, listText zs = (t, bad) ∧ ((bad = 0 ∧ readList t = (zs, 0) ∧ t.size ≤ 1048576) ∨ bad = 2 ∨ bad = 3) := by
  unfold listText
  rcases listErr_cases zs with ⟨he, hall, h60⟩ | he | he
  · rw [if_pos he]
    have hp : iparts (listT zs) = zs.map decB := parts_text (fun x hx => by obtain ⟨n, _, rfl⟩ := List.mem_map.1 hx; exact dec_no44 n) (fun x hx => by obtain ⟨n, _, rfl⟩ := List.mem_map.1 hx; exact dec_minus n)
    refine ⟨_, _, rfl, .inl ⟨rfl, readList_yes ⟨hp, he⟩, ?_⟩⟩
    unfold listT wordsT
    split
    · exact (by decide : (1 : Nat) ≤ 1048576)
    · have h1 := joinB_size (zs.map decB) comma
      have h2 := numTexts_size zs hall
      have h3 : comma.size = 1 := rfl
      rw [List.length_map, h3] at h1
      omega
  · rw [if_neg (by rw [he]; decide)]; exact ⟨_, _, rfl, .inr (.inl he)⟩
  · rw [if_neg (by rw [he]; decide)]; exact ⟨_, _, rfl, .inr (.inr he)⟩
theorem lists_back (s : ByteArray) : ∃ ys one, readList s = (ys, one) ∧ ((one = 0 ∧ listText ys = (s, 0) ∧ ys.length ≤ 60) ∨ (one = 6 ∧ ys = [])) := by
  by_cases h : ∃ zs, IsList s zs
  · obtain ⟨zs, hz⟩ := h
    have hl := readList_len s
    rw [readList_yes hz] at hl
    refine ⟨zs, 0, readList_yes hz, .inl ⟨rfl, ?_, hl⟩⟩
    rw [listText, if_pos hz.2, listT, ← hz.1, text_parts]
  · exact ⟨[], 6, readList_no (fun zs hz => h ⟨zs, hz⟩), .inr ⟨rfl, rfl⟩⟩

end Go.Proofs.YtjnicmlomjppnaaGreatDoor.Pure8
/- Plain facts on the texts of pools: what ReadPool answers. No program is imported here. -/
namespace Go.Proofs.YtjnicmlomjppnaaGreatDoor.Pure86
open Go.RowKit Pure1 Pure2 Pure3 Pure4 Pure5 Pure7 Pure8 Pure30 Pure42 Pure60
open Pure80 hiding zeroP

/-- a pool's text between its slashes -/
def fieldsQ (p : PoolV) : List ByteArray := [listT p.nums, listT p.drawn, decB p.state]
theorem pool_errs {p : PoolV} (h : isPool p = true) : listErr p.nums = 0 ∧ listErr p.drawn = 0 := by
  have hr := pool_range h
  have hn := pool_len h; have hd := pool_dlen h
  exact ⟨listErr_zero (List.all_eq_true.2 fun x hx => (isVal_iff x).2 (by have := hr x hx; omega)) hn, listErr_zero (List.all_eq_true.2 fun x hx => (isVal_iff x).2 (by have := hr x (pool_sub h x hx); omega)) (by omega)⟩
theorem list_read {zs : List Int} (h : listErr zs = 0) : readList (listT zs) = (zs, 0) := by
  obtain ⟨t, bad, he, hh⟩ := lists_there zs
  rw [listText, if_pos h] at he
  injection he with h1 h2
  subst h1 h2
  rcases hh with ⟨_, h3, _⟩ | h3 | h3
  · exact h3
  · exact absurd h3 (by decide)
  · exact absurd h3 (by decide)
theorem read_list {s : ByteArray} {ys : List Int} (h : readList s = (ys, 0)) : listT ys = s := by
  obtain ⟨zs, one, he, hh⟩ := lists_back s
  rw [h] at he
  injection he with h1 h2
  subst h1 h2
  rcases hh with ⟨_, h3, _⟩ | ⟨h3, _⟩
  · unfold listText at h3
    split at h3
    · injection h3
    · rename_i hn
      injection h3 with _ h4
      exact absurd h4 hn
  · exact absurd h3 (by decide)
theorem fieldsQ_inj {p q : PoolV} (hp : isPool p = true) (hq : isPool q = true) (h : fieldsQ p = fieldsQ q) : p = q := by
  simp only [fieldsQ, List.cons.injEq, and_true] at h
  obtain ⟨h0, h1, h2⟩ := h
  have e0 := list_read (pool_errs hp).1; rw [h0, list_read (pool_errs hq).1] at e0
  have e1 := list_read (pool_errs hp).2; rw [h1, list_read (pool_errs hq).2] at e1
  have sp := pool_state hp; have sq := pool_state hq
  have e2 := decB_inj (by omega) (by omega) (by omega) (by omega) h2
  obtain ⟨a, b, c⟩ := p
  obtain ⟨a', b', c'⟩ := q
  have e0' := congrArg Prod.fst e0
  have e1' := congrArg Prod.fst e1
  simp only at e0' e1' e2
  subst e0' e1' e2
  rfl
open Classical in
/-- ReadPool's answer -/
noncomputable def readQ (s : ByteArray) : PoolV × Int := if h : ∃ p : PoolV, isPool p = true ∧ partsS s = fieldsQ p then (Classical.choose h, 0) else (Pure80.zeroP, 6)
theorem readQ_yes {s : ByteArray} {p : PoolV} (hp : isPool p = true) (h : partsS s = fieldsQ p) : readQ s = (p, 0) := by
  have hx : ∃ p : PoolV, isPool p = true ∧ partsS s = fieldsQ p := ⟨p, hp, h⟩
  unfold readQ
  rw [dif_pos hx]
  obtain ⟨h1, h2⟩ := Classical.choose_spec hx
  rw [fieldsQ_inj h1 hp (h2.symm.trans h)]
theorem readQ_no {s : ByteArray} (h : ∀ p : PoolV, isPool p = true → partsS s ≠ fieldsQ p) : readQ s = (Pure80.zeroP, 6) := by
  unfold readQ
  rw [dif_neg (fun ⟨p, hp, he⟩ => h p hp he)]
theorem readQ_cases (s : ByteArray) : (∃ p, isPool p = true ∧ partsS s = fieldsQ p ∧ readQ s = (p, 0)) ∨ readQ s = (Pure80.zeroP, 6) := by
  by_cases h : ∃ p : PoolV, isPool p = true ∧ partsS s = fieldsQ p
  · obtain ⟨p, hp, he⟩ := h
    exact .inl ⟨p, hp, he, readQ_yes hp he⟩
  · exact .inr (readQ_no (fun p hp he => h ⟨p, hp, he⟩))
theorem readQ_len {s : ByteArray} (h : (partsS s).length ≠ 3) : readQ s = (Pure80.zeroP, 6) := readQ_no fun p _ e => h (by rw [e]; rfl)
/-- three parts: what came of each decides -/
theorem readQ_good {s a b c : ByteArray} (h : partsS s = [a, b, c]) {zs ds : List Int} {st : Int} (ha : readList a = (zs, 0)) (hb : readList b = (ds, 0)) (hc : decB st = c) (hp : isPool ⟨zs, ds, st⟩ = true) : readQ s = (⟨zs, ds, st⟩, 0) :=
  readQ_yes hp (by rw [h, fieldsQ, read_list ha, read_list hb, hc])
theorem readQ_first {s a b c : ByteArray} (h : partsS s = [a, b, c]) (ha : (readList a).2 ≠ 0) : readQ s = (Pure80.zeroP, 6) := readQ_no fun p hp e => by
  rw [h, fieldsQ] at e
  injection e with e0 _
  rw [e0, list_read (pool_errs hp).1] at ha; exact ha rfl
theorem readQ_second {s a b c : ByteArray} (h : partsS s = [a, b, c]) (ha : (readList b).2 ≠ 0) : readQ s = (Pure80.zeroP, 6) := readQ_no fun p hp e => by
  rw [h, fieldsQ] at e
  injection e with _ e0
  injection e0 with e0 _
  rw [e0, list_read (pool_errs hp).2] at ha; exact ha rfl
theorem readQ_third {s a b c : ByteArray} (h : partsS s = [a, b, c]) {lo hi n : Int} (hlo : lo ≤ 1) (hhi : 2147483646 ≤ hi) (hc : NumRead c lo hi n false) : readQ s = (Pure80.zeroP, 6) := readQ_no fun p hp e => by
  rw [h, fieldsQ] at e
  injection e with _ e0
  injection e0 with _ e0
  injection e0 with e0 _
  have sp := pool_state hp
  exact hc.2 rfl p.state (by omega) (by omega) e0.symm
theorem readQ_fourth {s a b c : ByteArray} (h : partsS s = [a, b, c]) {zs ds : List Int} {st : Int} (ha : readList a = (zs, 0)) (hb : readList b = (ds, 0)) (hc : decB st = c) (hst : -9223372036854775808 ≤ st ∧ st ≤ 9223372036854775807) (hp : isPool ⟨zs, ds, st⟩ = false) : readQ s = (Pure80.zeroP, 6) := readQ_no fun p hp' e => by
  rw [h, fieldsQ] at e
  injection e with e0 e
  injection e with e1 e
  injection e with e2 _
  rw [e0, list_read (pool_errs hp').1] at ha
  rw [e1, list_read (pool_errs hp').2] at hb
  have sp := pool_state hp'
  have e3 := decB_inj hst.1 hst.2 (by omega) (by omega) (hc.trans e2)
  have ha' := congrArg Prod.fst ha; have hb' := congrArg Prod.fst hb
  simp only at ha' hb'
  subst ha' hb' e3
  rw [hp'] at hp; cases hp
theorem readQ_small (s : ByteArray) : (readQ s).1.nums.length ≤ 60 ∧ (readQ s).1.drawn.length ≤ 60 := by
  rcases readQ_cases s with ⟨p, hp, _, hr⟩ | hr
  · rw [hr]; have := pool_len hp; have := pool_dlen hp; exact ⟨by assumption, by show p.drawn.length ≤ 60; omega⟩
  · rw [hr]; exact ⟨Nat.zero_le _, Nat.zero_le _⟩
end Go.Proofs.YtjnicmlomjppnaaGreatDoor.Pure86
/- Contracts of the laws' own helpers on marks in slices of int64: markInt64S, heldInt64S. -/
namespace Go.Proofs.YtjnicmlomjppnaaGreatDoor
open Go.RowKit Pure2

/-- a slice of int64 in a row of the call's own (from block B on): its first len numbers are given by g -/
def OwnI (B : Nat) (w : World) (a : Option Addr) (len : Nat) (g : Nat → Int) : Prop :=
  len = 0 ∨ ∃ b f N, a = some ⟨b, 0, none⟩ ∧ B ≤ b ∧ len ≤ N ∧ w.rowIs b 2 N f ∧ ∀ i, i < len → f i = .int .i64 (g i)
theorem OwnI.below {B : Nat} {w w' : World} {a : Option Addr} {len : Nat} {g : Nat → Int} (h : OwnI B w a len g) (hb : Below w.heap.size w w') : OwnI B w' a len g := by
  rcases h with h | ⟨b, f, N, rfl, hB, hN, hr, hf⟩
  · exact .inl h
  · exact .inr ⟨b, f, N, rfl, hB, hN, hr.of_block (hb.block b hr.lt), hf⟩
theorem OwnI.at {B : Nat} {w : World} {a : Option Addr} {len : Nat} {g : Nat → Int} (h : OwnI B w a len g) {n : Nat} (hn : n < len) : ∃ b, a = some ⟨b, 0, none⟩ ∧ w.cell? ⟨b, n, none⟩ = some (.int .i64 (g n)) := by
  rcases h with h | ⟨b, f, N, rfl, hB, hN, hr, hf⟩
  · omega
  · exact ⟨b, rfl, by rw [hr.cell (by omega), hf n hn]⟩
theorem ownI_reads {B : Nat} {w : World} {a : Option Addr} {zs : List Int} (h : OwnI B w a zs.length (fun i => zs.getD i 0)) : IntsAt w a zs := by
  rcases h with h | ⟨b, f, N, rfl, hb, hN, hr, hf⟩
  · exact .inl (List.length_eq_zero_iff.1 h)
  · refine .inr ⟨b, 0, rfl, fun i x hx => ?_⟩
    have hi := (List.getElem?_eq_some_iff.1 hx).1
    rw [Nat.zero_add, hr.cell (by omega), hf i hi]
    simp [List.getD, hx]

def MarkedI (B : Nat) (a : Option Addr) (len : Nat) (k : Int) (w : World) (e : Ending) (w' : World) : Prop :=
  e = .returned (.int .i64 (k + len)) ∧ OwnI B w' a len (fun i => k + i) ∧ Below B w w' ∧ w.heap.size ≤ w'.heap.size
theorem markI_step {k : Int} {n : Nat} {f : Nat → Value} (hf : ∀ i, i < n → f i = .int .i64 (k + i)) :
    ∀ i, i < n + 1 → (fun j => if j = n then Value.int .i64 (k + n) else f j) i = .int .i64 (k + i) := by
  intro i hi
  by_cases e : i = n
  · subst e; simp
  · simp only [if_neg e]; exact hf i (by omega)

end Go.Proofs.YtjnicmlomjppnaaGreatDoor
