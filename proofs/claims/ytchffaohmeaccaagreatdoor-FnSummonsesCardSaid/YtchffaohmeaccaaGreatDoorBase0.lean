/- Merged: the texts Pure2 Pure1 Pure3 Base Pure6 Pure20 Pure40 SummonsA Pure90 Pure21 Pure91 Info SummonsB SummonsC Big EqInt LikeInt IntL MarkI BuildI, in their order. -/
import Derived.WalkKit
import Derived.WalkSpells
import Derived.WalkLawsBesides
import Derived.Lib.Join
import Derived.Lib.Hide
import Derived.Deep.OwnRows
import Derived.Test.YtchffaohmeaccaaGreatDoorChecked
import Derived.ProofKit
import Derived.OpenShut
import Derived.ChangeOld
import Derived.Deep.Slices
import Derived.Lib.QuietBelow
import Derived.IntWalk
import Derived.Deep.QuietTactic
import Derived.BigQuiet
import Derived.Outline
import Derived.Deep.MidRow
import Derived.Maps.AppendAt
import Derived.OwnWalk
import Derived.Lib.OwnBridge
/- Plain facts on lists of numbers for chapter 1: values, the error of a list, its sum; and what it means that a slice of int64 reads as a list. No program is imported here. -/
namespace Go.Proofs.YtchffaohmeaccaaGreatDoor.Pure2
open Go.RowKit

/-- a value: an integer in -10^12 .. 10^12 -/
def isVal (n : Int) : Bool := decide (-1000000000000 ≤ n) && decide (n ≤ 1000000000000)
theorem isVal_iff (n : Int) : isVal n = true ↔ -1000000000000 ≤ n ∧ n ≤ 1000000000000 := by simp [isVal]
theorem isVal_no (n : Int) : isVal n = false ↔ n < -1000000000000 ∨ 1000000000000 < n := by
  rw [← Bool.not_eq_true, isVal_iff]; omega
/-- the first error of a list of numbers: 2 (range), 3 (limit), 0 (none) -/
def listErr (zs : List Int) : Int := if zs.all isVal = true then (if zs.length ≤ 60 then 0 else 3) else 2
def lsum : List Int → Int
  | [] => 0
  | x :: r => x + lsum r
def sumOf (zs : List Int) : Int × Int := if listErr zs = 0 then (if isVal (lsum zs) = true then (lsum zs, 0) else (0, 3)) else (0, listErr zs)

theorem listErr_zero {zs : List Int} (h : zs.all isVal = true) (h' : zs.length ≤ 60) : listErr zs = 0 := by rw [listErr, if_pos h, if_pos h']
theorem listErr_long {zs : List Int} (h : zs.all isVal = true) (h' : ¬ zs.length ≤ 60) : listErr zs = 3 := by rw [listErr, if_pos h, if_neg h']
theorem listErr_range {zs : List Int} (h : ¬ zs.all isVal = true) : listErr zs = 2 := by rw [listErr, if_neg h]
theorem listErr_cases (zs : List Int) : (listErr zs = 0 ∧ zs.all isVal = true ∧ zs.length ≤ 60) ∨ listErr zs = 2 ∨ listErr zs = 3 := by
  unfold listErr; split
  · split
    · exact .inl ⟨rfl, by assumption, by assumption⟩
    · exact .inr (.inr rfl)
  · exact .inr (.inl rfl)
theorem lsum_append (a b : List Int) : lsum (a ++ b) = lsum a + lsum b := by
  induction a with
  | nil => simp [lsum]
  | cons x r ih => simp [lsum, ih]; omega
theorem lsum_snoc (a : List Int) (x : Int) : lsum (a ++ [x]) = lsum a + x := by rw [lsum_append]; simp [lsum]
theorem all_of_snoc {a : List Int} {x : Int} (h : a.all isVal = true) (hx : isVal x = true) : (a ++ [x]).all isVal = true := by
  rw [List.all_append, h]; simp [hx]
theorem lsum_reverse (a : List Int) : lsum a.reverse = lsum a := by
  induction a with
  | nil => rfl
  | cons x r ih => rw [List.reverse_cons, lsum_snoc, ih]; simp only [lsum]; omega
theorem sumOf_reverse (a : List Int) : sumOf a.reverse = sumOf a := by
  have h : listErr a.reverse = listErr a := by simp only [listErr, List.all_reverse, List.length_reverse]
  simp only [sumOf, h, lsum_reverse]
theorem rev_step {zs : List Int} {m : Nat} {x : Int} (hx : zs[m]? = some x) : (zs.drop (m + 1)).reverse ++ [x] = (zs.drop m).reverse := by
  obtain ⟨hm, rfl⟩ := List.getElem?_eq_some_iff.1 hx
  rw [List.drop_eq_getElem_cons hm, List.reverse_cons]
theorem lsum_bd {zs : List Int} (h : zs.all isVal = true) : -(1000000000000 * (zs.length : Int)) ≤ lsum zs ∧ lsum zs ≤ 1000000000000 * (zs.length : Int) := by
  induction zs with
  | nil => simp [lsum]
  | cons x r ih =>
    simp only [List.all_cons, Bool.and_eq_true] at h
    have h1 := (isVal_iff x).1 h.1
    have h2 := ih h.2
    simp only [lsum, List.length_cons]; omega
theorem all_take {zs : List Int} (k : Nat) (h : zs.all isVal = true) : (zs.take k).all isVal = true := by
  rw [List.all_eq_true] at h ⊢; exact fun x hx => h x (List.mem_of_mem_take hx)
theorem lsum_take_bd {zs : List Int} (k : Nat) (h : zs.all isVal = true) (h' : zs.length ≤ 60) : -60000000000000 ≤ lsum (zs.take k) ∧ lsum (zs.take k) ≤ 60000000000000 := by
  have h1 := lsum_bd (all_take k h)
  have h2 : (zs.take k).length ≤ 60 := by have := List.length_take_le k zs; rw [List.length_take]; omega
  omega
theorem all_no {zs : List Int} {k : Nat} {x : Int} (hx : zs[k]? = some x) (h : isVal x = false) : ¬ zs.all isVal = true := by
  intro hh; rw [List.all_eq_true] at hh
  have := hh x (List.mem_of_getElem? hx); rw [h] at this; cases this
theorem isVal_of_all {zs : List Int} {k : Nat} {x : Int} (hx : zs[k]? = some x) (h : zs.all isVal = true) : isVal x = true := by
  rw [List.all_eq_true] at h; exact h x (List.mem_of_getElem? hx)

/-- The slice at address a reads, from its head on, the numbers zs (int64). -/
def IntsAt (w : World) (a : Option Addr) (zs : List Int) : Prop :=
  zs = [] ∨ ∃ b off, a = some ⟨b, off, none⟩ ∧ ∀ i x, zs[i]? = some x → w.cell? ⟨b, off + i, none⟩ = some (.int .i64 x)

theorem IntsAt.at {w : World} {a : Option Addr} {zs : List Int} (h : IntsAt w a zs) {k len : Nat} (hl : zs.length = len) (hk : k < len) :
    ∃ b off x, a = some ⟨b, off, none⟩ ∧ w.cell? ⟨b, off + k, none⟩ = some (.int .i64 x) ∧ zs.take (k + 1) = zs.take k ++ [x] ∧ zs[k]? = some x := by
  have hx : zs[k]? = some zs[k] := List.getElem?_eq_getElem (by omega)
  rcases h with rfl | ⟨b, off, rfl, hc⟩
  · simp at hl; omega
  · exact ⟨b, off, _, rfl, hc k _ hx, by rw [List.take_succ_eq_append_getElem], hx⟩

theorem IntsAt.below {w w' : World} {a : Option Addr} {zs : List Int} (h : IntsAt w a zs) (hb : Below w.heap.size w w') : IntsAt w' a zs := by
  rcases h with rfl | ⟨b, off, rfl, hc⟩
  · exact .inl rfl
  · by_cases hz : zs = []
    · exact .inl hz
    · refine .inr ⟨b, off, rfl, fun i x hx => ?_⟩
      exact cell_later hb (hc i x hx)

end Go.Proofs.YtchffaohmeaccaaGreatDoor.Pure2
/- Plain facts on lists and numbers for chapter 1: words. No program is imported here. -/
namespace Go.Proofs.YtchffaohmeaccaaGreatDoor.Pure1

/-- a byte that is a letter a to z -/
def letter (c : UInt8) : Bool := decide (97 ≤ (c.toNat : Int)) && decide ((c.toNat : Int) ≤ 122)
/-- a word: 1 to 16 letters -/
def isWordL (l : List UInt8) : Bool := decide (1 ≤ l.length) && (decide (l.length ≤ 16) && l.all letter)

theorem take_snoc (s : ByteArray) (k : Nat) (h : k < s.size) : s.data.toList.take (k + 1) = s.data.toList.take k ++ [s[k]] := by
  rw [List.take_succ_eq_append_getElem (by simpa using h)]; rfl
theorem all_snoc (s : ByteArray) (k : Nat) (h : k < s.size) (hp : (s.data.toList.take k).all letter = true) (hl : letter s[k] = true) :
    (s.data.toList.take (k + 1)).all letter = true := by
  rw [take_snoc s k h, List.all_append, hp]; simp [hl]
theorem all_no (s : ByteArray) (k : Nat) (h : k < s.size) (hl : letter s[k] = false) : s.data.toList.all letter = false := by
  rw [List.all_eq_false]
  exact ⟨s[k], by simp [ByteArray.getElem_eq_getElem_data], by simp [hl]⟩
theorem isWordL_of_not_all {l : List UInt8} (h : l.all letter = false) : isWordL l = false := by
  simp only [isWordL, h, Bool.and_false]
theorem isWordL_of_all {l : List UInt8} (h : l.all letter = true) : isWordL l = (decide (1 ≤ l.length) && decide (l.length ≤ 16)) := by
  simp only [isWordL, h, Bool.and_true]
theorem isWordL_short {l : List UInt8} (h : l.length < 1) : isWordL l = false := by
  rw [isWordL, decide_eq_false (by omega)]; rfl
theorem isWordL_long {l : List UInt8} (h : 16 < l.length) : isWordL l = false := by
  rw [isWordL, decide_eq_false (p := l.length ≤ 16) (by omega), Bool.false_and, Bool.and_false]
theorem letter_iff (c : UInt8) : letter c = true ↔ 97 ≤ (c.toNat : Int) ∧ (c.toNat : Int) ≤ 122 := by
  simp [letter]
theorem letter_lo {c : UInt8} (h : (c.toNat : Int) < 97) : letter c = false := by
  simp [letter]; omega
theorem letter_hi {c : UInt8} (h : 122 < (c.toNat : Int)) : letter c = false := by
  simp [letter]; omega
theorem letter_in {c : UInt8} (h : 97 ≤ (c.toNat : Int)) (h' : (c.toNat : Int) ≤ 122) : letter c = true := by
  simp [letter]; omega
theorem size_eq (s : ByteArray) : s.data.toList.length = s.size := by simp
theorem take_all (s : ByteArray) (k : Nat) (h : s.size ≤ k) : s.data.toList.take k = s.data.toList := List.take_of_length_le (by simpa using h)

end Go.Proofs.YtchffaohmeaccaaGreatDoor.Pure1
/- Plain facts on lists of texts for chapter 1: their reading in memory, joining, the words' text. No program is imported here. -/
namespace Go.Proofs.YtchffaohmeaccaaGreatDoor.Pure3
open Go.RowKit Pure1

/-- The slice at address a reads, from its head on, the texts ss. -/
def StrsAt (w : World) (a : Option Addr) (ss : List ByteArray) : Prop :=
  ss = [] ∨ ∃ b off, a = some ⟨b, off, none⟩ ∧ ∀ i x, ss[i]? = some x → w.cell? ⟨b, off + i, none⟩ = some (.string x)

theorem StrsAt.at {w : World} {a : Option Addr} {ss : List ByteArray} (h : StrsAt w a ss) {k len : Nat} (hl : ss.length = len) (hk : k < len) :
    ∃ b off x, a = some ⟨b, off, none⟩ ∧ w.cell? ⟨b, off + k, none⟩ = some (.string x) ∧ ss.take (k + 1) = ss.take k ++ [x] ∧ ss[k]? = some x := by
  have hx : ss[k]? = some ss[k] := List.getElem?_eq_getElem (by omega)
  rcases h with rfl | ⟨b, off, rfl, hc⟩
  · simp at hl; omega
  · exact ⟨b, off, _, rfl, hc k _ hx, by rw [List.take_succ_eq_append_getElem], hx⟩

theorem StrsAt.below {w w' : World} {a : Option Addr} {ss : List ByteArray} (h : StrsAt w a ss) (hb : Below w.heap.size w w') : StrsAt w' a ss := by
  rcases h with rfl | ⟨b, off, rfl, hc⟩
  · exact .inl rfl
  · exact .inr ⟨b, off, rfl, fun i x hx => cell_later hb (hc i x hx)⟩

/-- how much a list of texts holds: its length and all lengths -/
def strTot : List ByteArray → Nat
  | [] => 0
  | s :: r => 1 + s.size + strTot r
theorem strTot_append (a b : List ByteArray) : strTot (a ++ b) = strTot a + strTot b := by
  induction a with
  | nil => simp [strTot]
  | cons x r ih => simp only [List.cons_append, strTot, ih]; omega
theorem strTot_snoc (a : List ByteArray) (x : ByteArray) : strTot (a ++ [x]) = strTot a + (1 + x.size) := by rw [strTot_append]; simp [strTot]
theorem strTot_len (a : List ByteArray) : a.length ≤ strTot a := by
  induction a with
  | nil => simp
  | cons x r ih => simp only [List.length_cons, strTot]; omega
theorem strTot_take (a : List ByteArray) (k : Nat) : strTot (a.take k) ≤ strTot a := by
  have h := strTot_append (a.take k) (a.drop k); rw [List.take_append_drop] at h; omega
/-- the sizes alone -/
def szs : List ByteArray → Nat
  | [] => 0
  | s :: r => s.size + szs r
theorem szs_append (a b : List ByteArray) : szs (a ++ b) = szs a + szs b := by
  induction a with
  | nil => simp [szs]
  | cons x r ih => simp only [List.cons_append, szs, ih]; omega
theorem szs_snoc (a : List ByteArray) (x : ByteArray) : szs (a ++ [x]) = szs a + x.size := by rw [szs_append]; simp [szs]
theorem szs_take (a : List ByteArray) (k : Nat) : szs (a.take k) ≤ szs a := by
  have h := szs_append (a.take k) (a.drop k); rw [List.take_append_drop] at h; omega
theorem szs_mem {a : List ByteArray} {k : Nat} {x : ByteArray} (h : a[k]? = some x) : x.size ≤ szs a := by
  induction a generalizing k with
  | nil => simp at h
  | cons y r ih =>
    cases k with
    | zero => simp at h; subst h; simp only [szs]; omega
    | succ k => have := ih (k := k) (by simpa using h); simp only [szs]; omega
theorem strTot_eq (a : List ByteArray) : strTot a = a.length + szs a := by
  induction a with
  | nil => rfl
  | cons x r ih => simp only [strTot, szs, List.length_cons, ih]; omega

/-- what is left of n behind the texts, -1 if they hold more -/
def szLeft (ss : List ByteArray) (n : Nat) : Int := if strTot ss ≤ n then (n : Int) - strTot ss else -1
theorem szLeft_no {ss : List ByteArray} {n : Nat} (h : n < strTot ss) : szLeft ss n = -1 := by rw [szLeft, if_neg (by omega)]
theorem szLeft_ok {ss : List ByteArray} {n m : Nat} (h : m + strTot ss = n) : szLeft ss n = m := by rw [szLeft, if_pos (by omega)]; omega

/-- texts joined with something between them -/
def joinB (ss : List ByteArray) (sep : ByteArray) : ByteArray := ⟨(Lib.join (ss.map (·.data.toList)) sep.data.toList).toArray⟩
theorem join_snoc (xs : List (List UInt8)) (y sep : List UInt8) (h : xs ≠ []) : Lib.join (xs ++ [y]) sep = Lib.join xs sep ++ sep ++ y := by
  cases xs with
  | nil => exact absurd rfl h
  | cons x r => rw [List.cons_append, Lib.join_cons, Lib.join_cons]; simp [Lib.joinTail, List.append_assoc]
theorem mk_toList (s : ByteArray) : (⟨s.data.toList.toArray⟩ : ByteArray) = s := by cases s; simp
theorem joinB_snoc (ss : List ByteArray) (y sep : ByteArray) (h : ss ≠ []) : joinB ss sep ++ sep ++ y = joinB (ss ++ [y]) sep := by
  unfold joinB
  rw [List.map_append, List.map_singleton, join_snoc _ _ _ (by simpa using h)]
  conv => lhs; rw [← mk_toList y]
  conv => lhs; lhs; rhs; rw [← mk_toList sep]
  rw [ByteArray.mk_append_mk, ByteArray.mk_append_mk]
theorem joinB_first (y sep : ByteArray) : joinB [] sep ++ y = joinB [y] sep := by
  unfold joinB
  rw [List.map_nil, List.map_singleton, Lib.join_nil, Lib.join_one]
  conv => lhs; rw [← mk_toList y]
  rw [ByteArray.mk_append_mk, List.nil_append]
theorem joinB_size (ss : List ByteArray) (sep : ByteArray) : (joinB ss sep).size ≤ szs ss + sep.size * ss.length := by
  show (Lib.join (ss.map (·.data.toList)) sep.data.toList).toArray.size ≤ _
  rw [List.size_toArray]
  cases ss with
  | nil => rw [List.map_nil, Lib.join_nil]; simp
  | cons x r =>
    rw [List.map_cons, Lib.join_length]
    have h : ∀ l : List ByteArray, Lib.lens (l.map (·.data.toList)) = szs l := by
      intro l; induction l with
      | nil => rfl
      | cons y t ih => simp only [Lib.lens, List.map_cons, List.sum_cons, szs] at ih ⊢; rw [ih, size_eq]
    have h' := h (x :: r)
    rw [List.map_cons] at h'
    rw [h', List.length_map, size_eq, List.length_cons, Nat.mul_succ]
    omega
theorem joinB_take_size (ss : List ByteArray) (sep : ByteArray) (k : Nat) : (joinB (ss.take k) sep).size ≤ szs ss + sep.size * ss.length := by
  have h1 := joinB_size (ss.take k) sep
  have h2 := szs_take ss k
  have h3 : (ss.take k).length ≤ ss.length := by rw [List.length_take]; omega
  have h4 := Nat.mul_le_mul_left sep.size h3
  omega

/-- the text of words, and the error: 1 (a text is no word), 3 (too many), 0 (none) -/
def allWords (ss : List ByteArray) : Bool := ss.all fun s => isWordL s.data.toList
def wordsErr (ss : List ByteArray) : Int := if allWords ss = true then (if ss.length ≤ 60 then 0 else 3) else 1
def comma : ByteArray := ⟨#[44]⟩
def wordsT (ss : List ByteArray) : ByteArray := if ss = [] then ⟨#[45]⟩ else joinB ss comma
def wordsText (ss : List ByteArray) : ByteArray × Int := if wordsErr ss = 0 then (wordsT ss, 0) else (⟨#[]⟩, wordsErr ss)

theorem wordsErr_zero {ss : List ByteArray} (h : allWords ss = true) (h' : ss.length ≤ 60) : wordsErr ss = 0 := by rw [wordsErr, if_pos h, if_pos h']
theorem wordsErr_long {ss : List ByteArray} (h : allWords ss = true) (h' : ¬ ss.length ≤ 60) : wordsErr ss = 3 := by rw [wordsErr, if_pos h, if_neg h']
theorem wordsErr_no {ss : List ByteArray} (h : ¬ allWords ss = true) : wordsErr ss = 1 := by rw [wordsErr, if_neg h]
theorem wordsErr_cases (ss : List ByteArray) : (wordsErr ss = 0 ∧ allWords ss = true ∧ ss.length ≤ 60) ∨ (wordsErr ss = 1 ∧ allWords ss = false) ∨ (wordsErr ss = 3 ∧ allWords ss = true ∧ 60 < ss.length) := by
  unfold wordsErr; split
  · split
    · exact .inl ⟨rfl, by assumption, by assumption⟩
    · exact .inr (.inr ⟨rfl, by assumption, by omega⟩)
  · exact .inr (.inl ⟨rfl, by simp_all⟩)
theorem allWords_snoc {a : List ByteArray} {x : ByteArray} (h : allWords a = true) (hx : isWordL x.data.toList = true) : allWords (a ++ [x]) = true := by
  unfold allWords at *; rw [List.all_append, h]; simp [hx]
theorem allWords_no {ss : List ByteArray} {k : Nat} {x : ByteArray} (hx : ss[k]? = some x) (h : isWordL x.data.toList = false) : allWords ss = false := by
  unfold allWords; rw [List.all_eq_false]; exact ⟨x, List.mem_of_getElem? hx, by simp [h]⟩
theorem word_size {l : List UInt8} (h : isWordL l = true) : l.length ≤ 16 := by
  simp only [isWordL, Bool.and_eq_true, decide_eq_true_eq] at h; exact h.2.1
theorem allWords_szs {ss : List ByteArray} (h : allWords ss = true) : szs ss ≤ 16 * ss.length := by
  induction ss with
  | nil => simp [szs]
  | cons x r ih =>
    unfold allWords at *
    simp only [List.all_cons, Bool.and_eq_true] at h
    have h1 := word_size h.1; rw [size_eq] at h1
    have h2 := ih h.2
    simp only [szs, List.length_cons]; omega

theorem text_ne {x y : ByteArray} (h : x ≠ y) : (x.toList == y.toList) = false := by
  rw [ByteArray.toList_eq, ByteArray.toList_eq, beq_eq_false_iff_ne]
  intro e; exact h (by rw [← mk_toList x, ← mk_toList y, e])
def sameS (xs ys : List ByteArray) : Bool := decide (xs = ys)
theorem sameS_self (xs : List ByteArray) : sameS xs xs = true := by simp [sameS]
theorem sameS_len {xs ys : List ByteArray} (h : xs.length ≠ ys.length) : sameS xs ys = false := by
  simp only [sameS, decide_eq_false_iff_not]; intro e; exact h (by rw [e])
theorem sameS_at {xs ys : List ByteArray} {k : Nat} {x y : ByteArray} (hx : xs[k]? = some x) (hy : ys[k]? = some y) (h : x ≠ y) : sameS xs ys = false := by
  simp only [sameS, decide_eq_false_iff_not]; intro e; rw [e, hy] at hx; cases hx; exact h rfl
theorem sameS_end {xs ys : List ByteArray} {k : Nat} (h : xs.take k = ys.take k) (hx : xs.length ≤ k) (hy : ys.length ≤ k) : sameS xs ys = true := by
  rw [List.take_of_length_le hx, List.take_of_length_le hy] at h; simp [sameS, h]

end Go.Proofs.YtchffaohmeaccaaGreatDoor.Pure3
/- Small shared facts: equal results, what a call that returns a text says, copies of slices. -/
namespace Go.Proofs.YtchffaohmeaccaaGreatDoor
open Go.RowKit Pure2 Pure3

theorem ret_bool {a b : Bool} (h : a = b) : Ending.returned (.bool a) = .returned (.bool b) := by rw [h]

theorem ret_bool' {a b : Bool} (h : a = b) : Ending.returned (.bool a) = .returned (.bool b) := by rw [h]

theorem ret_i64 {a b : Int} (h : a = b) : Ending.returned (.int .i64 a) = .returned (.int .i64 b) := by rw [h]

theorem ret_two {a b c d : Int} (h : a = b) (h' : c = d) : Ending.returned (.tuple #[.int .i64 a, .int .i64 c]) = .returned (.tuple #[.int .i64 b, .int .i64 d]) := by rw [h, h']

theorem ret_str {a b : ByteArray} (h : a = b) : Ending.returned (.string a) = .returned (.string b) := by rw [h]

theorem ret_str2 {a b : ByteArray} {c d : Int} (h : a = b) (h' : c = d) : Ending.returned (.tuple #[.string a, .int .i64 c]) = .returned (.tuple #[.string b, .int .i64 d]) := by rw [h, h']

/-- a text is returned; nothing that was there has turned -/
def SaysT (s : ByteArray) (w : World) (e : Ending) (w' : World) : Prop := e = .returned (.string s) ∧ Below w.heap.size w w'

def SaysT2 (s : ByteArray) (n : Int) (w : World) (e : Ending) (w' : World) : Prop := e = .returned (.tuple #[.string s, .int .i64 n]) ∧ Below w.heap.size w w'

/-- a bool is returned; the world has at most drawn -/
def SaysB (b : Bool) (w : World) (e : Ending) (w' : World) : Prop := e = .returned (.bool b) ∧ ∃ n, w' = w.drewN n

theorem drewN_add (w : World) (n m : Nat) : (w.drewN n).drewN m = w.drewN (n + m) := by simp [World.drewN]; omega

/-- a new slice that reads zs; nothing that was there has turned -/
def IsCopy (w : World) (len : Nat) (zs : List Int) (e : Ending) (w' : World) : Prop :=
  ∃ b, e = .returned (.slice (some ⟨b, 0, none⟩) len len) ∧ w.heap.size ≤ b ∧ IntsAt w' (some ⟨b, 0, none⟩) zs ∧ Below w.heap.size w w'

theorem copied {w wr : World} {T len : Nat} {f : Nat → Value} {zs : List Int} (hr : wr.rowIs w.heap.size T len f) (hl : zs.length = len) (hf : ∀ i x, i < len → zs[i]? = some x → f i = .int .i64 x)
    (hB : Below w.heap.size w wr) : IsCopy w len zs (.returned (.slice (some ⟨w.heap.size, 0, none⟩) len len)) wr :=
  ⟨_, rfl, Nat.le_refl _, .inr ⟨_, _, rfl, fun i x hx => by
    have hi : i < len := by rw [← hl]; exact (List.getElem?_eq_some_iff.1 hx).1
    rw [Nat.zero_add, hr.cell hi, hf i x hi hx]⟩, hB⟩

theorem copy_step {zs : List Int} {k : Nat} {x : Int} {f : Nat → Value} (hf : ∀ i y, i < k → zs[i]? = some y → f i = .int .i64 y) (hx : zs[k]? = some x) :
    ∀ i y, i < k + 1 → zs[i]? = some y → (fun j => if j = k then Value.int .i64 x else f j) i = .int .i64 y := by
  intro i y hi hy
  by_cases e : i = k
  · subst e; rw [hx] at hy; cases hy; simp
  · simp only [if_neg e]; exact hf i y (by omega) hy

/-- a new slice that reads zs; nothing that was there has turned -/
def IsCopyS (w : World) (len : Nat) (zs : List ByteArray) (e : Ending) (w' : World) : Prop :=
  ∃ b, e = .returned (.slice (some ⟨b, 0, none⟩) len len) ∧ w.heap.size ≤ b ∧ StrsAt w' (some ⟨b, 0, none⟩) zs ∧ Below w.heap.size w w'

theorem copiedS {w wr : World} {T len : Nat} {f : Nat → Value} {zs : List ByteArray} (hr : wr.rowIs w.heap.size T len f) (hl : zs.length = len) (hf : ∀ i x, i < len → zs[i]? = some x → f i = .string x)
    (hB : Below w.heap.size w wr) : IsCopyS w len zs (.returned (.slice (some ⟨w.heap.size, 0, none⟩) len len)) wr :=
  ⟨_, rfl, Nat.le_refl _, .inr ⟨_, _, rfl, fun i x hx => by
    have hi : i < len := by rw [← hl]; exact (List.getElem?_eq_some_iff.1 hx).1
    rw [Nat.zero_add, hr.cell hi, hf i x hi hx]⟩, hB⟩

theorem copyS_step {zs : List ByteArray} {k : Nat} {x : ByteArray} {f : Nat → Value} (hf : ∀ i y, i < k → zs[i]? = some y → f i = .string y) (hx : zs[k]? = some x) :
    ∀ i y, i < k + 1 → zs[i]? = some y → (fun j => if j = k then Value.string x else f j) i = .string y := by
  intro i y hi hy
  by_cases e : i = k
  · subst e; rw [hx] at hy; cases hy; simp
  · simp only [if_neg e]; exact hf i y (by omega) hy

def sameL (xs ys : List Int) : Bool := decide (xs = ys)

theorem sameL_self (xs : List Int) : sameL xs xs = true := by simp [sameL]

theorem sameL_len {xs ys : List Int} (h : xs.length ≠ ys.length) : sameL xs ys = false := by
  simp only [sameL, decide_eq_false_iff_not]; intro e; exact h (by rw [e])

theorem sameL_at {xs ys : List Int} {k : Nat} {x y : Int} (hx : xs[k]? = some x) (hy : ys[k]? = some y) (h : x ≠ y) : sameL xs ys = false := by
  simp only [sameL, decide_eq_false_iff_not]; intro e; rw [e, hy] at hx; cases hx; exact h rfl

theorem sameL_end {xs ys : List Int} {k : Nat} (h : xs.take k = ys.take k) (hx : xs.length ≤ k) (hy : ys.length ≤ k) : sameL xs ys = true := by
  rw [List.take_of_length_le hx, List.take_of_length_le hy] at h; simp [sameL, h]

/-- from the row that the frame opens to the reading that the contracts take -/
theorem ints_of_row {w : World} {a : Option Addr} {len cap : Nat} {zs : List Int}
    (h : (a = none ∧ len = 0 ∧ cap = 0 ∧ zs = []) ∨ ∃ x, a = some x ∧ len ≤ cap ∧ cap ≤ maxLen ∧ zs.length = cap ∧ (∀ i, i < zs.length → w.cell? (x.add i) = some (.int .i64 (zs.getD i 0))) ∧ ∀ n ∈ zs, (Lit.int .i64 n).wf = true) :
    (zs.take len).length = len ∧ len ≤ maxLen ∧ IntsAt w a (zs.take len) := by
  rcases h with ⟨rfl, rfl, rfl, rfl⟩ | ⟨x, rfl, hl, hm, hz, hc, _⟩
  · exact ⟨rfl, by unfold maxLen; omega, .inl rfl⟩
  · refine ⟨by rw [List.length_take]; omega, by omega, ?_⟩
    by_cases h0 : len = 0
    · exact .inl (by rw [h0]; rfl)
    · obtain ⟨b, off, spot⟩ := x
      have hspot : spot = none := by simpa [Addr.add] using World.cell?_spot (hc 0 (by omega))
      subst hspot
      refine .inr ⟨b, off, rfl, fun i x hx => ?_⟩
      obtain ⟨hi, hx'⟩ := List.getElem?_eq_some_iff.1 hx
      have hi' : i < zs.length := by rw [List.length_take] at hi; omega
      have := hc i hi'
      rw [List.getElem_take] at hx'
      rw [List.getD_eq_getElem?_getD, List.getElem?_eq_getElem hi', Option.getD_some, hx'] at this
      by_cases hi0 : i = 0
      · subst hi0; simpa [Addr.add] using this
      · simpa [Addr.add, hi0] using this

/-- from the row that the frame opens to the reading that the contracts take -/
theorem strs_of_row {w : World} {a : Option Addr} {len cap : Nat} {ss : List ByteArray}
    (h : (a = none ∧ len = 0 ∧ cap = 0 ∧ ss = []) ∨ ∃ x, a = some x ∧ len ≤ cap ∧ cap ≤ maxLen ∧ ss.length = cap ∧ (∀ i, i < ss.length → w.cell? (x.add i) = some (.string (ss.getD i ByteArray.empty))) ∧ ∀ s ∈ ss, s.size ≤ maxLen) :
    (ss.take len).length = len ∧ len ≤ cap ∧ len ≤ maxLen ∧ StrsAt w a (ss.take len) ∧ ∀ s ∈ ss.take len, s.size ≤ maxLen := by
  rcases h with ⟨rfl, rfl, rfl, rfl⟩ | ⟨x, rfl, hl, hm, hz, hc, hs⟩
  · exact ⟨rfl, Nat.le_refl _, by unfold maxLen; omega, .inl rfl, fun s h => by simp at h⟩
  · refine ⟨by rw [List.length_take]; omega, hl, by omega, ?_, fun s h => hs s (List.mem_of_mem_take h)⟩
    by_cases h0 : len = 0
    · exact .inl (by rw [h0]; rfl)
    · obtain ⟨b, off, spot⟩ := x
      have hspot : spot = none := by simpa [Addr.add] using World.cell?_spot (hc 0 (by omega))
      subst hspot
      refine .inr ⟨b, off, rfl, fun i x hx => ?_⟩
      obtain ⟨hi, hx'⟩ := List.getElem?_eq_some_iff.1 hx
      have hi' : i < ss.length := by rw [List.length_take] at hi; omega
      have := hc i hi'
      rw [List.getElem_take] at hx'
      rw [List.getD_eq_getElem?_getD, List.getElem?_eq_getElem hi', Option.getD_some, hx'] at this
      by_cases hi0 : i = 0
      · subst hi0; simpa [Addr.add] using this
      · simpa [Addr.add, hi0] using this

theorem joinB_join {ss : List ByteArray} : (⟨(Lib.join (ss.map (·.data.toList)) comma.data.toList).toArray⟩ : ByteArray) = joinB ss comma := rfl

theorem wordsT_none : wordsT [] = ⟨#[45]⟩ := rfl

theorem wordsT_some {ss : List ByteArray} (h : ss ≠ []) : wordsT ss = joinB ss comma := by rw [wordsT, if_neg h]

theorem len_ne {α : Type} {ss : List α} {len : Nat} (hl : ss.length = len) (h : len ≠ 0) : ss ≠ [] := by
  intro e; subst e; simp at hl; omega

theorem len_eq {α : Type} {ss : List α} {len : Nat} (hl : ss.length = len) (h : len = 0) : ss = [] := by
  subst h; exact List.length_eq_zero_iff.1 hl

theorem intsAt_of_owns' {w : World} {base e n : Nat} {v : Value} {zs : List Int} (h : w.ownsRow base e 1 v n (zs.map (Value.int .i64))) : ∃ a cap, v = .slice a n cap ∧ n ≤ cap ∧ IntsAt w a zs := by
  obtain ⟨h1, h2 | ⟨g, cap, cur, hv, hg, hh, hn, hc, hs, hr⟩⟩ := h
  · obtain ⟨rfl, rfl⟩ := h2
    exact ⟨none, 0, rfl, Nat.le_refl _, .inl (by simpa using h1)⟩
  · rw [Nat.mul_one] at hr hs
    refine ⟨_, cap, hv, hn, .inr ⟨g, 0, rfl, fun i x hx => ?_⟩⟩
    have hx' : (zs.map (Value.int .i64))[i]? = some (.int .i64 x) := by rw [List.getElem?_map, hx]; rfl
    rw [← hr, List.getElem?_take] at hx'
    split at hx'
    · rw [Array.getElem?_toList] at hx'
      simp [World.cell?, hh, hx']
    · cases hx'

end Go.Proofs.YtchffaohmeaccaaGreatDoor
/- Plain facts on the source that hands out drawn numbers. No program is imported here. -/
namespace Go.Proofs.YtchffaohmeaccaaGreatDoor.Pure6
open Go.RowKit Pure2

/-- The slice at address a reads, from its head on, the bytes bs; it lies below block B. -/
def BytesAt (B : Nat) (w : World) (a : Option Addr) (bs : List Int) : Prop :=
  (∀ x ∈ bs, 0 ≤ x ∧ x ≤ 255) ∧ (bs = [] ∨ ∃ b off, a = some ⟨b, off, none⟩ ∧ b < B ∧ ∀ i x, bs[i]? = some x → w.cell? ⟨b, off + i, none⟩ = some (.int .u8 x))
theorem BytesAt.at {B : Nat} {w : World} {a : Option Addr} {bs : List Int} (h : BytesAt B w a bs) {k len : Nat} (hl : bs.length = len) (hk : k < len) :
    ∃ b off x, a = some ⟨b, off, none⟩ ∧ b < B ∧ w.cell? ⟨b, off + k, none⟩ = some (.int .u8 x) ∧ 0 ≤ x ∧ x ≤ 255 := by
  obtain ⟨hb, h⟩ := h
  have hx : bs[k]? = some bs[k] := List.getElem?_eq_getElem (by omega)
  rcases h with rfl | ⟨b, off, rfl, hB, hc⟩
  · simp at hl; omega
  · have := hb _ (List.mem_of_getElem? hx)
    exact ⟨b, off, _, rfl, hB, hc k _ hx, this.1, this.2⟩
theorem BytesAt.below {B : Nat} {w w' : World} {a : Option Addr} {bs : List Int} (h : BytesAt B w a bs) (hB : Below B w w') : BytesAt B w' a bs := by
  refine ⟨h.1, ?_⟩
  rcases h.2 with rfl | ⟨b, off, rfl, hb, hc⟩
  · exact .inl rfl
  · exact .inr ⟨b, off, rfl, hb, fun i x hx => by rw [hB.cell (p := ⟨b, off + i, none⟩) hb]; exact hc i x hx⟩

/-- the state of a source (block b, from block B on): its code lies below B and has at most 4096 bytes; its place is within the code; its seed is within 0 .. 2147483646 -/
def Src (B : Nat) (T : TypeId) (w : World) (b : Nat) : Prop :=
  ∃ a cap bs k seed, B ≤ b ∧ w.heap[b]? = some (.cells #[.slice a bs.length cap, .int .i64 (k : Nat), .int .i64 seed] T (0, 0)) ∧ k ≤ bs.length ∧ bs.length ≤ 4096 ∧ 0 ≤ seed ∧ seed < 2147483647 ∧ BytesAt B w a bs

theorem src_cells {w : World} {b : Nat} {T : TypeId} {u v x : Value} (h : w.heap[b]? = some (.cells #[u, v, x] T (0, 0))) :
    w.cell? ⟨b, 0, none⟩ = some u ∧ w.cell? ⟨b, 1, none⟩ = some v ∧ w.cell? ⟨b, 2, none⟩ = some x ∧ w.frozen? ⟨b, 0, none⟩ = false ∧ w.frozen? ⟨b, 1, none⟩ = false ∧ w.frozen? ⟨b, 2, none⟩ = false := by
  simp [World.cell?, World.frozen?, h]
theorem block_set {w : World} {b : Nat} {T : TypeId} {u v x y : Value} (h : w.heap[b]? = some (.cells #[u, v, x] T (0, 0))) :
    (w.setCell ⟨b, 2, none⟩ y).heap[b]? = some (.cells #[u, v, y] T (0, 0)) ∧ (w.setCell ⟨b, 1, none⟩ y).heap[b]? = some (.cells #[u, y, x] T (0, 0)) := by
  simp [World.setCell, Array.getElem?_modify, h]

theorem grown_set (w : World) (b o : Nat) (v : Value) : w.grownBy (w.setCell ⟨b, o, none⟩ v) (some b) :=
  ⟨rfl, rfl, rfl, by simp [World.setCell], fun k _ hk => Below.heap_setCell _ _ _ _ (by intro e; subst e; exact hk rfl)⟩
theorem grown_refl (w : World) (r : Option Nat) : w.grownBy w r := ⟨rfl, rfl, rfl, Nat.le_refl _, fun _ _ _ => rfl⟩
theorem grown_trans {w w' w'' : World} {r : Option Nat} (h : w.grownBy w' r) (h' : w'.grownBy w'' r) : w.grownBy w'' r :=
  ⟨h'.os.trans h.os, h'.tape.trans h.tape, h'.output.trans h.output, Nat.le_trans h.size h'.size, fun k hk hr => (h'.block k (Nat.lt_of_lt_of_le hk h.size) hr).trans (h.block k hk hr)⟩
theorem grown_drewN {w w' : World} {r : Option Nat} (h : w.grownBy w' r) (n : Nat) : w.grownBy (w'.drewN n) r := ⟨h.os, h.tape, h.output, h.size, h.block⟩
theorem grown_below {w w' : World} {b B : Nat} (h : w.grownBy w' (some b)) (hb : B ≤ b) (hB : B ≤ w.heap.size) : Below B w w' :=
  ⟨h.os, h.tape, h.output, h.size, fun k hk => h.block k (by omega) (fun e => by cases e; omega)⟩
theorem Src.lt {B : Nat} {T : TypeId} {w : World} {b : Nat} (h : Src B T w b) : b < w.heap.size := by
  obtain ⟨a, cap, bs, k, seed, _, hh, _⟩ := h
  exact (Array.getElem?_eq_some_iff.1 hh).1
theorem Src.base {B : Nat} {T : TypeId} {w : World} {b : Nat} (h : Src B T w b) : B ≤ b := by
  obtain ⟨a, cap, bs, k, seed, h, _⟩ := h; exact h
/-- other memory may change -/
theorem Src.kept {B : Nat} {T : TypeId} {w w' : World} {b : Nat} (h : Src B T w b) (hk : w'.heap[b]? = w.heap[b]?) (hB : Below B w w') : Src B T w' b := by
  obtain ⟨a, cap, bs, k, seed, h1, h2, h3, h4, h5, h6, h7⟩ := h
  exact ⟨a, cap, bs, k, seed, h1, hk.trans h2, h3, h4, h5, h6, h7.below hB⟩

/-- what handing out a number below n says -/
def Drawn (B : Nat) (T : TypeId) (b : Nat) (n : Int) (w : World) (e : Ending) (w' : World) : Prop :=
  ∃ x, e = .returned (.int .i64 x) ∧ (1 < n → 0 ≤ x ∧ x < n) ∧ (n ≤ 1 → x = 0) ∧ Src B T w' b ∧ w.grownBy w' (some b)
theorem drawn_none {B : Nat} {T : TypeId} {w : World} {b : Nat} {a : Option Addr} {cap len : Nat} {bs : List Int} {k : Nat} {seed s' n x : Int} (hBb : B ≤ b) (hB : B ≤ w.heap.size)
    (hh : w.heap[b]? = some (.cells #[.slice a bs.length cap, .int .i64 (k : Nat), .int .i64 seed] T (0, 0))) (hl : len = bs.length) (hk : k ≤ len) (hbl : len ≤ 4096) (h0 : 0 ≤ s') (h1 : s' < 2147483647) (hy : BytesAt B w a bs)
    (hn : 1 < n) (hx : 0 ≤ x) (hx' : x < n) (m : Nat) : Drawn B T b n w (.returned (.int .i64 x)) ((w.setCell ⟨b, 2, none⟩ (.int .i64 s')).drewN m) := by
  subst hl
  have hg : w.grownBy ((w.setCell ⟨b, 2, none⟩ (.int .i64 s')).drewN m) (some b) := grown_drewN (grown_set w b 2 _) m
  exact ⟨x, rfl, fun _ => ⟨hx, hx'⟩, fun h => by omega, ⟨a, cap, bs, k, s', hBb, (block_set hh).1, hk, hbl, h0, h1, hy.below (grown_below hg hBb hB)⟩, hg⟩
theorem drawn_one {B : Nat} {T : TypeId} {w : World} {b : Nat} {a : Option Addr} {cap len : Nat} {bs : List Int} {k : Nat} {seed s' n x : Int} (hBb : B ≤ b) (hB : B ≤ w.heap.size)
    (hh : w.heap[b]? = some (.cells #[.slice a bs.length cap, .int .i64 (k : Nat), .int .i64 seed] T (0, 0))) (hl : len = bs.length) (hk : k < len) (hbl : len ≤ 4096) (h0 : 0 ≤ s') (h1 : s' < 2147483647) (hy : BytesAt B w a bs)
    (hn : 1 < n) (hx : 0 ≤ x) (hx' : x < n) (m m' : Nat) : Drawn B T b n w (.returned (.int .i64 x)) ((((w.setCell ⟨b, 2, none⟩ (.int .i64 s')).drewN m).setCell ⟨b, 1, none⟩ (.int .i64 ((k : Int) + 1))).drewN m') := by
  subst hl
  have hg : w.grownBy ((((w.setCell ⟨b, 2, none⟩ (.int .i64 s')).drewN m).setCell ⟨b, 1, none⟩ (.int .i64 ((k : Int) + 1))).drewN m') (some b) :=
    grown_drewN (grown_trans (grown_drewN (grown_set w b 2 _) m) (grown_set _ b 1 _)) m'
  refine ⟨x, rfl, fun _ => ⟨hx, hx'⟩, fun h => by omega, ⟨a, cap, bs, k + 1, s', hBb, ?_, hk, hbl, h0, h1, hy.below (grown_below hg hBb hB)⟩, hg⟩
  have h2 := (block_set (y := .int .i64 s') hh).1
  have h3 := (block_set (w := (w.setCell ⟨b, 2, none⟩ (.int .i64 s')).drewN m) (y := .int .i64 ((k : Int) + 1)) h2).2
  exact h3
theorem grown_alloc (w : World) (o : Obj) (r : Option Nat) : w.grownBy (w.alloc o) r :=
  ⟨rfl, rfl, rfl, by simp, fun k hk _ => Below.heap_alloc _ _ _ hk⟩
theorem Src.alloc {B : Nat} {T : TypeId} {w : World} {b : Nat} (h : Src B T w b) (o : Obj) : Src B T (w.alloc o) b :=
  h.kept (Below.heap_alloc _ _ _ h.lt) ((Below.refl _ _).alloc (Nat.le_trans h.base (Nat.le_of_lt h.lt)) _)
theorem alloc_ints (w : World) (T : TypeId) (zs : List Int) : ∀ i x, zs[i]? = some x → (w.alloc (.cells (zs.map (Value.int .i64)).toArray T)).cell? ⟨w.heap.size, i, none⟩ = some (.int .i64 x) := by
  intro i x hx
  have : (w.alloc (.cells (zs.map (Value.int .i64)).toArray T)).heap[w.heap.size]? = some (.cells (zs.map (Value.int .i64)).toArray T) := heap_alloc_new w _
  unfold World.cell?
  rw [this]
  simp [hx]
theorem intsAt_of_owns {w : World} {base e n : Nat} {v : Value} {zs : List Int} (h : w.ownsRow base e 1 v n (zs.map (Value.int .i64))) : ∃ a cap, v = .slice a n cap ∧ n ≤ cap ∧ IntsAt w a zs := by
  obtain ⟨h1, h2 | ⟨g, cap, cur, hv, hg, hh, hn, hc, hs, hr⟩⟩ := h
  · obtain ⟨rfl, rfl⟩ := h2
    exact ⟨none, 0, rfl, Nat.le_refl _, .inl (by simpa using h1)⟩
  · rw [Nat.mul_one] at hr hs
    refine ⟨_, cap, hv, hn, .inr ⟨g, 0, rfl, fun i x hx => ?_⟩⟩
    have hx' : (zs.map (Value.int .i64))[i]? = some (.int .i64 x) := by rw [List.getElem?_map, hx]; rfl
    rw [← hr, List.getElem?_take] at hx'
    split at hx'
    · rw [Array.getElem?_toList] at hx'
      simp [World.cell?, hh, hx']
    · cases hx'
/-- some number is handed out -/
def Gave (B : Nat) (T : TypeId) (b : Nat) (w : World) (e : Ending) (w' : World) : Prop := ∃ x, e = .returned (.int .i64 x) ∧ Src B T w' b ∧ w.grownBy w' (some b)
theorem BytesAt.mono {B B' : Nat} {w : World} {a : Option Addr} {bs : List Int} (h : BytesAt B w a bs) (hB : B ≤ B') : BytesAt B' w a bs := by
  refine ⟨h.1, ?_⟩
  rcases h.2 with rfl | ⟨b, off, rfl, hb, hc⟩
  · exact .inl rfl
  · exact .inr ⟨b, off, rfl, by omega, hc⟩
theorem BytesAt.later {w w' : World} {a : Option Addr} {bs : List Int} (h : BytesAt w.heap.size w a bs) (hB : Below w.heap.size w w') : BytesAt w'.heap.size w' a bs := (h.below hB).mono hB.size

end Go.Proofs.YtchffaohmeaccaaGreatDoor.Pure6
/- Plain facts on court days (chapter 2). No program is imported here. -/
namespace Go.Proofs.YtchffaohmeaccaaGreatDoor.Pure20
open Go.RowKit Pure2

/-- a day -/
def isDay (n : Int) : Bool := decide (0 ≤ n) && decide (n ≤ 20000)
theorem isDay_iff (n : Int) : isDay n = true ↔ 0 ≤ n ∧ n ≤ 20000 := by simp [isDay]
theorem isDay_no (n : Int) : isDay n = false ↔ n < 0 ∨ 20000 < n := by
  rw [← Bool.not_eq_true, isDay_iff]; omega

/-- holidays: days that increase strictly, at most 40 -/
def Hol (zs : List Int) : Prop := (∀ (i : Nat) x, zs[i]? = some x → isDay x = true) ∧ (∀ (i : Nat) x y, zs[i]? = some x → zs[i + 1]? = some y → x < y) ∧ zs.length ≤ 40
noncomputable def hol (zs : List Int) : Bool := @decide (Hol zs) (Classical.propDecidable _)
theorem hol_iff (zs : List Int) : hol zs = true ↔ Hol zs := by unfold hol; exact @decide_eq_true_iff _ (Classical.propDecidable _)
theorem hol_no (zs : List Int) : hol zs = false ↔ ¬ Hol zs := by rw [← Bool.not_eq_true, hol_iff]
/-- the first k numbers are as holidays are -/
def HolTo (zs : List Int) (k : Nat) : Prop := (∀ (i : Nat) x, i < k → zs[i]? = some x → isDay x = true) ∧ (∀ (i : Nat) x y, i + 1 < k → zs[i]? = some x → zs[i + 1]? = some y → x < y)
theorem holTo_zero (zs : List Int) : HolTo zs 0 := ⟨fun _ _ h => by omega, fun _ _ _ h => by omega⟩
theorem holTo_step {zs : List Int} {k : Nat} {x : Int} (h : HolTo zs k) (hx : zs[k]? = some x) (hd : isDay x = true) (hp : ∀ y, 0 < k → zs[k - 1]? = some y → y < x) : HolTo zs (k + 1) := by
  refine ⟨fun i z hi hz => ?_, fun i u v hi hu hv => ?_⟩
  · by_cases e : i = k
    · subst e; rw [hx] at hz; cases hz; exact hd
    · exact h.1 i z (by omega) hz
  · by_cases e : i + 1 = k
    · subst e; rw [hx] at hv; cases hv; exact hp u (by omega) (by simpa using hu)
    · exact h.2 i u v (by omega) hu hv
theorem holTo_end {zs : List Int} {k : Nat} (h : HolTo zs k) (hk : zs.length ≤ k) (hl : zs.length ≤ 40) : Hol zs := by
  refine ⟨fun i x hx => h.1 i x ?_ hx, fun i x y hx hy => h.2 i x y ?_ hx hy, hl⟩
  · have := (List.getElem?_eq_some_iff.1 hx).1; omega
  · have := (List.getElem?_eq_some_iff.1 hy).1; omega
theorem hol_day {zs : List Int} (h : Hol zs) : ∀ x ∈ zs, 0 ≤ x ∧ x ≤ 20000 := by
  intro x hx
  obtain ⟨i, hi⟩ := List.mem_iff_getElem?.1 hx
  exact (isDay_iff x).1 (h.1 i x hi)

/-- a court day -/
def court (zs : List Int) (d : Int) : Bool := decide (d % 7 < 5) && !zs.contains d
theorem court_iff (zs : List Int) (d : Int) : court zs d = true ↔ d % 7 < 5 ∧ d ∉ zs := by simp [court]
theorem court_no (zs : List Int) (d : Int) : court zs d = false ↔ (5 ≤ d % 7 ∨ d ∈ zs) := by
  rw [← Bool.not_eq_true, court_iff]
  by_cases h : d ∈ zs
  · simp [h]
  · simp [h]

/-- r is the first court day that is not before d -/
def IsNext (zs : List Int) (d r : Int) : Prop := d ≤ r ∧ court zs r = true ∧ ∀ x, d ≤ x → x < r → court zs x = false
theorem isNext_inj {zs : List Int} {d r r' : Int} (h : IsNext zs d r) (h' : IsNext zs d r') : r = r' := by
  rcases Int.lt_trichotomy r r' with c | c | c
  · have := h'.2.2 r h.1 c; rw [h.2.1] at this; cases this
  · exact c
  · have := h.2.2 r' h'.1 c; rw [h'.2.1] at this; cases this
theorem isNext_here {zs : List Int} {d : Int} (h : court zs d = true) : IsNext zs d d := ⟨Int.le_refl _, h, fun x h1 h2 => by omega⟩
theorem isNext_step {zs : List Int} {d r : Int} (h : court zs d = false) (hr : IsNext zs (d + 1) r) : IsNext zs d r := by
  refine ⟨by have := hr.1; omega, hr.2.1, fun x h1 h2 => ?_⟩
  by_cases e : x = d
  · subst e; exact h
  · exact hr.2.2 x (by omega) h2
/-- behind the greatest holiday a court day comes within three days -/
theorem court_late {zs : List Int} (h : ∀ x ∈ zs, x ≤ 20000) (d : Int) (hd : 20000 < d) : court zs d = true ∨ court zs (d + 1) = true ∨ court zs (d + 2) = true := by
  simp only [court_iff]
  have h0 : d ∉ zs := fun e => by have := h _ e; omega
  have h1 : d + 1 ∉ zs := fun e => by have := h _ e; omega
  have h2 : d + 2 ∉ zs := fun e => by have := h _ e; omega
  by_cases c0 : d % 7 < 5
  · exact .inl ⟨c0, h0⟩
  · by_cases c1 : (d + 1) % 7 < 5
    · exact .inr (.inl ⟨c1, h1⟩)
    · exact .inr (.inr ⟨by omega, h2⟩)
theorem next_there {zs : List Int} (h : ∀ x ∈ zs, x ≤ 20000) : ∀ (k : Nat) (d : Int), 20003 ≤ d + k → ∃ r, IsNext zs d r ∧ r ≤ max d 20001 + 2 := by
  intro k
  induction k with
  | zero =>
    intro d hd
    cases hc : court zs d with
    | true => exact ⟨d, isNext_here hc, by omega⟩
    | false =>
      cases hc1 : court zs (d + 1) with
      | true => exact ⟨d + 1, isNext_step hc (isNext_here hc1), by omega⟩
      | false =>
        have hc2 : court zs (d + 2) = true := by
          rcases court_late h d (by omega) with e | e | e
          · rw [e] at hc; cases hc
          · rw [e] at hc1; cases hc1
          · exact e
        exact ⟨d + 2, isNext_step hc (isNext_step hc1 (by rw [show d + 1 + 1 = d + 2 by omega]; exact isNext_here hc2)), by omega⟩
  | succ k ih =>
    intro d hd
    cases hc : court zs d with
    | true => exact ⟨d, isNext_here hc, by omega⟩
    | false =>
      by_cases hl : 20000 < d
      · cases hc1 : court zs (d + 1) with
        | true => exact ⟨d + 1, isNext_step hc (isNext_here hc1), by omega⟩
        | false =>
          have hc2 : court zs (d + 2) = true := by
            rcases court_late h d hl with e | e | e
            · rw [e] at hc; cases hc
            · rw [e] at hc1; cases hc1
            · exact e
          exact ⟨d + 2, isNext_step hc (isNext_step hc1 (by rw [show d + 1 + 1 = d + 2 by omega]; exact isNext_here hc2)), by omega⟩
      · obtain ⟨r, hr, hb⟩ := ih (d + 1) (by omega)
        exact ⟨r, isNext_step hc hr, by omega⟩
theorem next_exists {zs : List Int} (h : ∀ x ∈ zs, x ≤ 20000) (d : Int) : ∃ r, IsNext zs d r ∧ r ≤ max d 20001 + 2 := next_there h (20003 - d).toNat d (by omega)

/-- the number of court days in a .. a + k - 1 -/
def cnt (zs : List Int) (a : Int) : Nat → Int
  | 0 => 0
  | k + 1 => cnt zs a k + (if court zs (a + (k : Int)) = true then 1 else 0)
theorem cnt_add (zs : List Int) (a : Int) (j k : Nat) : cnt zs a (j + k) = cnt zs a j + cnt zs (a + (j : Int)) k := by
  induction k with
  | zero => simp [cnt]
  | succ k ih =>
    rw [← Nat.add_assoc, cnt, cnt, ih, show a + ((j + k : Nat) : Int) = a + (j : Int) + (k : Int) by omega]; omega
theorem cnt_bd (zs : List Int) (a : Int) (k : Nat) : 0 ≤ cnt zs a k ∧ cnt zs a k ≤ k := by
  induction k with
  | zero => simp [cnt]
  | succ k ih => rw [cnt]; split <;> omega
theorem cnt_none {zs : List Int} {a : Int} {k : Nat} (h : ∀ x, a ≤ x → x < a + k → court zs x = false) : cnt zs a k = 0 := by
  induction k with
  | zero => rfl
  | succ k ih =>
    rw [cnt, ih (fun x h1 h2 => h x h1 (by omega)), h (a + (k : Int)) (by omega) (by omega)]; simp
theorem cnt_zero {zs : List Int} {a : Int} {k : Nat} (h : cnt zs a k = 0) : ∀ x, a ≤ x → x < a + k → court zs x = false := by
  induction k with
  | zero => intro x h1 h2; omega
  | succ k ih =>
    intro x h1 h2
    rw [cnt] at h
    have hb := cnt_bd zs a k
    by_cases e : x = a + (k : Int)
    · subst e
      cases hc : court zs (a + (k : Int)) with
      | true => rw [hc] at h; simp at h; omega
      | false => rfl
    · refine ih ?_ x h1 (by omega)
      split at h <;> omega
/-- the number of court days in a .. b - 1 -/
def count (zs : List Int) (a b : Int) : Int := cnt zs a (b - a).toNat
theorem count_none {zs : List Int} {a b : Int} (h : b ≤ a) : count zs a b = 0 := by unfold count; rw [show (b - a).toNat = 0 by omega]; rfl
theorem count_snoc {zs : List Int} {a b : Int} (h : a ≤ b) : count zs a (b + 1) = count zs a b + (if court zs b = true then 1 else 0) := by
  unfold count
  rw [show (b + 1 - a).toNat = (b - a).toNat + 1 by omega, cnt, show a + (((b - a).toNat : Nat) : Int) = b by omega]
theorem count_add {zs : List Int} {a b c : Int} (h : a ≤ b) (h' : b ≤ c) : count zs a c = count zs a b + count zs b c := by
  unfold count
  rw [show (c - a).toNat = (b - a).toNat + (c - b).toNat by omega, cnt_add, show a + (((b - a).toNat : Nat) : Int) = b by omega]
theorem count_bd (zs : List Int) (a b : Int) : 0 ≤ count zs a b ∧ (a ≤ b → count zs a b ≤ b - a) := by
  have := cnt_bd zs a (b - a).toNat
  unfold count; exact ⟨this.1, fun h => by omega⟩
theorem count_zero {zs : List Int} {a b : Int} (h : count zs a b = 0) : ∀ x, a ≤ x → x < b → court zs x = false := fun x h1 h2 => cnt_zero (k := (b - a).toNat) h x h1 (by omega)
theorem count_free {zs : List Int} {a b : Int} (h : ∀ x, a ≤ x → x < b → court zs x = false) : count zs a b = 0 := cnt_none fun x h1 h2 => h x h1 (by omega)
theorem count_next {zs : List Int} {d r : Int} (h : IsNext zs d r) : count zs d r = 0 := count_free h.2.2

/-- r is the n-th court day behind d -/
def IsAdd (zs : List Int) (d : Int) (n : Nat) (r : Int) : Prop := (n = 0 ∧ r = d) ∨ (0 < n ∧ d < r ∧ court zs r = true ∧ count zs (d + 1) r = (n : Int) - 1)
theorem isAdd_le {zs : List Int} {d r : Int} {n : Nat} (h : IsAdd zs d n r) : d ≤ r := by rcases h with ⟨_, rfl⟩ | ⟨_, h, _⟩ <;> omega
theorem isAdd_zero (zs : List Int) (d : Int) : IsAdd zs d 0 d := .inl ⟨rfl, rfl⟩
theorem isAdd_step {zs : List Int} {d r s : Int} {n : Nat} (h : IsAdd zs d n r) (hn : IsNext zs (r + 1) s) : IsAdd zs d (n + 1) s := by
  have h1 := hn.1
  have h2 := isAdd_le h
  refine .inr ⟨by omega, by omega, hn.2.1, ?_⟩
  rcases h with ⟨rfl, rfl⟩ | ⟨h3, h4, h5, h6⟩
  · rw [count_next hn]; rfl
  · rw [count_add (b := r) (by omega) (by omega), h6, count_add (b := r + 1) (by omega) h1, count_next hn, count_snoc (Int.le_refl r), count_none (Int.le_refl r), if_pos h5]
    omega
theorem isAdd_inj {zs : List Int} {d r s : Int} {n : Nat} (h : IsAdd zs d n r) (h' : IsAdd zs d n s) : r = s := by
  rcases h with ⟨h1, h2⟩ | ⟨h1, h2, h3, h4⟩
  · rcases h' with ⟨_, h5⟩ | ⟨h5, _⟩
    · rw [h2, h5]
    · omega
  · rcases h' with ⟨h5, _⟩ | ⟨_, h5, h6, h7⟩
    · omega
    · rcases Int.lt_trichotomy r s with c | c | c
      · exfalso
        have e := count_add (zs := zs) (a := d + 1) (b := r) (c := s) (by omega) (by omega)
        have e2 := count_add (zs := zs) (a := r) (b := r + 1) (c := s) (by omega) (by omega)
        rw [count_snoc (Int.le_refl r), count_none (Int.le_refl r), if_pos h3] at e2
        have := (count_bd zs (r + 1) s).1
        omega
      · exact c
      · exfalso
        have e := count_add (zs := zs) (a := d + 1) (b := s) (c := r) (by omega) (by omega)
        have e2 := count_add (zs := zs) (a := s) (b := s + 1) (c := r) (by omega) (by omega)
        rw [count_snoc (Int.le_refl s), count_none (Int.le_refl s), if_pos h6] at e2
        have := (count_bd zs (s + 1) r).1
        omega

/-- r is the last court day that is not behind d -/
def IsLast (zs : List Int) (d r : Int) : Prop := 0 ≤ r ∧ r ≤ d ∧ court zs r = true ∧ ∀ x, r < x → x ≤ d → court zs x = false
theorem isLast_inj {zs : List Int} {d r r' : Int} (h : IsLast zs d r) (h' : IsLast zs d r') : r = r' := by
  rcases Int.lt_trichotomy r r' with c | c | c
  · have := h.2.2.2 r' c h'.2.1; rw [h'.2.2.1] at this; cases this
  · exact c
  · have := h'.2.2.2 r c h.2.1; rw [h.2.2.1] at this; cases this

/-- the longest run of days in a .. d - 1 that are no court days begins with best and has most days; len: the run that ends with d - 1 -/
def BrkTo (zs : List Int) (a d len best most : Int) : Prop :=
  (0 ≤ len ∧ a ≤ d - len ∧ (∀ x, d - len ≤ x → x < d → court zs x = false) ∧ (d - len = a ∨ court zs (d - len - 1) = true)) ∧
  (0 ≤ most ∧ (0 < most → a ≤ best ∧ best + most ≤ d ∧ ∀ x, best ≤ x → x < best + most → court zs x = false)) ∧
  ∀ x n, 0 < n → a ≤ x → x + n ≤ d → (∀ y, x ≤ y → y < x + n → court zs y = false) → n ≤ most ∧ (n = most → best ≤ x)
/-- the longest break in a .. b -/
def IsBrk (zs : List Int) (a b best most : Int) : Prop :=
  0 < most ∧ a ≤ best ∧ best + most ≤ b + 1 ∧ (∀ x, best ≤ x → x < best + most → court zs x = false) ∧
  ∀ x n, 0 < n → a ≤ x → x + n ≤ b + 1 → (∀ y, x ≤ y → y < x + n → court zs y = false) → n ≤ most ∧ (n = most → best ≤ x)
theorem isBrk_inj {zs : List Int} {a b s n s' n' : Int} (h : IsBrk zs a b s n) (h' : IsBrk zs a b s' n') : s = s' ∧ n = n' := by
  have h1 := h.2.2.2.2 s' n' h'.1 h'.2.1 h'.2.2.1 h'.2.2.2.1
  have h2 := h'.2.2.2.2 s n h.1 h.2.1 h.2.2.1 h.2.2.2.1
  have e : n = n' := by omega
  have := h1.2 e.symm; have := h2.2 e
  exact ⟨by omega, e⟩
theorem brk_start (zs : List Int) (a best : Int) : BrkTo zs a a 0 best 0 :=
  ⟨⟨by omega, by omega, fun x h1 h2 => by omega, .inl (by omega)⟩, ⟨by omega, fun h => by omega⟩, fun x n h1 h2 h3 => by omega⟩
theorem brk_court {zs : List Int} {a d len best most : Int} (h : BrkTo zs a d len best most) (had : a ≤ d) (hc : court zs d = true) : BrkTo zs a (d + 1) 0 best most := by
  obtain ⟨_, ⟨h2, h3⟩, h4⟩ := h
  refine ⟨⟨by omega, by omega, fun x h5 h6 => by omega, .inr (by rw [show d + 1 - 0 - 1 = d by omega]; exact hc)⟩, ⟨h2, fun h5 => ?_⟩, fun x n h5 h6 h7 h8 => ?_⟩
  · have := h3 h5; exact ⟨this.1, by omega, this.2.2⟩
  · by_cases e : x + n = d + 1
    · have := h8 d (by omega) (by omega); rw [hc] at this; cases this
    · exact h4 x n h5 h6 (by omega) h8
/-- a run that ends with d is not longer than the one that is counted -/
theorem run_le {zs : List Int} {a d len x n : Int} (hl : d - len = a ∨ court zs (d - len - 1) = true) (hx : a ≤ x) (hn : x + n = d + 1) (hlen : 0 ≤ len) (h : ∀ y, x ≤ y → y < x + n → court zs y = false) : n ≤ len + 1 := by
  rcases hl with e | e
  · omega
  · by_cases c : n ≤ len + 1
    · exact c
    · have := h (d - len - 1) (by omega) (by omega); rw [e] at this; cases this
theorem brk_more {zs : List Int} {a d len best most : Int} (h : BrkTo zs a d len best most) (hc : court zs d = false) (hm : most < len + 1) : BrkTo zs a (d + 1) (len + 1) (d - (len + 1) + 1) (len + 1) := by
  obtain ⟨⟨h0, h1, hr, hl⟩, ⟨h2, h3⟩, h4⟩ := h
  have hrun : ∀ x, d - len ≤ x → x < d + 1 → court zs x = false := fun x h5 h6 => by
    by_cases e : x = d
    · rw [e]; exact hc
    · exact hr x h5 (by omega)
  refine ⟨⟨by omega, by omega, fun x h5 h6 => hrun x (by omega) h6, by rw [show d + 1 - (len + 1) = d - len by omega]; exact hl⟩, ⟨by omega, fun _ => ⟨by omega, by omega, fun x h5 h6 => hrun x (by omega) (by omega)⟩⟩, fun x n h5 h6 h7 h8 => ?_⟩
  by_cases e : x + n = d + 1
  · have := run_le hl h6 e h0 h8
    exact ⟨this, fun e2 => by omega⟩
  · have := (h4 x n h5 h6 (by omega) h8).1
    exact ⟨by omega, fun e2 => by omega⟩
theorem brk_same {zs : List Int} {a d len best most : Int} (h : BrkTo zs a d len best most) (hc : court zs d = false) (hm : len + 1 ≤ most) : BrkTo zs a (d + 1) (len + 1) best most := by
  obtain ⟨⟨h0, h1, hr, hl⟩, ⟨h2, h3⟩, h4⟩ := h
  have hrun : ∀ x, d - len ≤ x → x < d + 1 → court zs x = false := fun x h5 h6 => by
    by_cases e : x = d
    · rw [e]; exact hc
    · exact hr x h5 (by omega)
  have h3' := h3 (by omega)
  refine ⟨⟨by omega, by omega, fun x h5 h6 => hrun x (by omega) h6, by rw [show d + 1 - (len + 1) = d - len by omega]; exact hl⟩, ⟨h2, fun _ => ⟨h3'.1, by omega, h3'.2.2⟩⟩, fun x n h5 h6 h7 h8 => ?_⟩
  by_cases e : x + n = d + 1
  · have := run_le hl h6 e h0 h8
    exact ⟨by omega, fun e2 => by omega⟩
  · exact h4 x n h5 h6 (by omega) h8
theorem brk_end {zs : List Int} {a b len best most : Int} (h : BrkTo zs a (b + 1) len best most) (hm : 0 < most) : IsBrk zs a b best most :=
  ⟨hm, (h.2.1.2 hm).1, (h.2.1.2 hm).2.1, (h.2.1.2 hm).2.2, h.2.2⟩
/-- no break at all: all days are court days -/
theorem brk_none {zs : List Int} {a b len best : Int} (h : BrkTo zs a (b + 1) len best 0) : ∀ x, a ≤ x → x ≤ b → court zs x = true := by
  intro x h1 h2
  cases hc : court zs x with
  | true => rfl
  | false =>
    have := (h.2.2 x 1 (by omega) h1 (by omega) (fun y h3 h4 => by rw [show y = x by omega]; exact hc)).1
    omega
theorem isBrk_no {zs : List Int} {a b best most : Int} (h : IsBrk zs a b best most) (hall : ∀ x, a ≤ x → x ≤ b → court zs x = true) : False := by
  obtain ⟨h1, h2, h3, h4, _⟩ := h
  have := h4 best (by omega) (by omega)
  rw [hall best h2 (by omega)] at this; cases this
/-- what stands at the ends of the longest break -/
theorem isBrk_ends {zs : List Int} {a b best most : Int} (h : IsBrk zs a b best most) : (a < best → court zs (best - 1) = true) ∧ (best + most ≤ b → court zs (best + most) = true) := by
  obtain ⟨h1, h2, h3, h4, h5⟩ := h
  refine ⟨fun hl => ?_, fun hr => ?_⟩
  · cases hc : court zs (best - 1) with
    | true => rfl
    | false =>
      have := (h5 (best - 1) (most + 1) (by omega) (by omega) (by omega) (fun y h6 h7 => by
        by_cases e : y = best - 1
        · rw [e]; exact hc
        · exact h4 y (by omega) (by omega))).1
      omega
  · cases hc : court zs (best + most) with
    | true => rfl
    | false =>
      have := (h5 best (most + 1) (by omega) (by omega) (by omega) (fun y h6 h7 => by
        by_cases e : y = best + most
        · rw [e]; exact hc
        · exact h4 y (by omega) (by omega))).1
      omega

end Go.Proofs.YtchffaohmeaccaaGreatDoor.Pure20
/- Plain facts on persons (chapter 4): what a person and persons are, likeness, the most alike one, finding. No program is imported here. -/
namespace Go.Proofs.YtchffaohmeaccaaGreatDoor.Pure40
open Go.RowKit Pure1

/-- a person: number, first and last name, year, zone -/
structure Pers where
  num : Int
  fst : ByteArray
  lst : ByteArray
  born : Int
  zone : Int

def inR (n a b : Int) : Bool := decide (a ≤ n) && decide (n ≤ b)
def isPers (p : Pers) : Bool := inR p.num 1 1000000 && (isWordL p.fst.data.toList && (isWordL p.lst.data.toList && (inR p.born 1900 2100 && inR p.zone 0 99)))
/-- the value of a person -/
def Pers.val (p : Pers) : Value := .agg #[.int .i64 p.num, .string p.fst, .string p.lst, .int .i64 p.born, .int .i64 p.zone]
/-- the values of its fields -/
def Pers.cells (p : Pers) : List Value := [.int .i64 p.num, .string p.fst, .string p.lst, .int .i64 p.born, .int .i64 p.zone]
/-- the names of a person are no longer than a text may be -/
def Pers.fits (p : Pers) : Prop := p.fst.size ≤ maxLen ∧ p.lst.size ≤ maxLen

theorem inR_iff {n a b : Int} : inR n a b = true ↔ a ≤ n ∧ n ≤ b := by simp [inR]
theorem inR_no {n a b : Int} : inR n a b = false ↔ n < a ∨ b < n := by rw [← Bool.not_eq_true, inR_iff]; omega

/-- A person lies at cell o of block b: five cells. -/
def AtP (w : World) (b o : Nat) (p : Pers) : Prop :=
  w.cell? ⟨b, o, none⟩ = some (.int .i64 p.num) ∧ w.cell? ⟨b, o + 1, none⟩ = some (.string p.fst) ∧ w.cell? ⟨b, o + 2, none⟩ = some (.string p.lst) ∧ w.cell? ⟨b, o + 3, none⟩ = some (.int .i64 p.born) ∧ w.cell? ⟨b, o + 4, none⟩ = some (.int .i64 p.zone)
/-- A person lies in block b, from its first cell on. -/
def AtB (w : World) (b : Nat) (p : Pers) : Prop :=
  w.cell? ⟨b, 0, none⟩ = some (.int .i64 p.num) ∧ w.cell? ⟨b, 1, none⟩ = some (.string p.fst) ∧ w.cell? ⟨b, 2, none⟩ = some (.string p.lst) ∧ w.cell? ⟨b, 3, none⟩ = some (.int .i64 p.born) ∧ w.cell? ⟨b, 4, none⟩ = some (.int .i64 p.zone)
theorem AtB.below {w w' : World} {b : Nat} {p : Pers} (h : AtB w b p) (hb : Below w.heap.size w w') : AtB w' b p :=
  ⟨cell_later hb h.1, cell_later hb h.2.1, cell_later hb h.2.2.1, cell_later hb h.2.2.2.1, cell_later hb h.2.2.2.2⟩
theorem atB_box (w : World) (n : Int) (f l : ByteArray) (b z : Int) (T : TypeId) : AtB (w.alloc (.cells #[.int .i64 n, .string f, .string l, .int .i64 b, .int .i64 z] T)) w.heap.size ⟨n, f, l, b, z⟩ := by
  have h : (w.alloc (.cells #[.int .i64 n, .string f, .string l, .int .i64 b, .int .i64 z] T)).heap[w.heap.size]? = some (.cells #[.int .i64 n, .string f, .string l, .int .i64 b, .int .i64 z] T) := heap_alloc_new w _
  refine ⟨?_, ?_, ?_, ?_, ?_⟩ <;> (unfold World.cell?; rw [h]; rfl)
theorem boxed (w : World) (o : Obj) : Below w.heap.size w (w.alloc o) := (Below.refl _ _).alloc (Nat.le_refl _) _
/-- The slice at address a reads, from its head on, the persons ps. -/
def PersAt (w : World) (a : Option Addr) (ps : List Pers) : Prop :=
  ps = [] ∨ ∃ b off, a = some ⟨b, off, none⟩ ∧ ∀ i p, ps[i]? = some p → AtP w b (off + i * 5) p

theorem AtP.below {w w' : World} {b o : Nat} {p : Pers} (h : AtP w b o p) (hb : Below w.heap.size w w') : AtP w' b o p :=
  ⟨cell_later hb h.1, cell_later hb h.2.1, cell_later hb h.2.2.1, cell_later hb h.2.2.2.1, cell_later hb h.2.2.2.2⟩
theorem AtP.lt {w : World} {b o : Nat} {p : Pers} (h : AtP w b o p) : b < w.heap.size := World.block_lt_of_cell? w _ h.1
theorem PersAt.below {w w' : World} {a : Option Addr} {ps : List Pers} (h : PersAt w a ps) (hb : Below w.heap.size w w') : PersAt w' a ps := by
  rcases h with rfl | ⟨b, off, rfl, hc⟩
  · exact .inl rfl
  · exact .inr ⟨b, off, rfl, fun i x hx => (hc i x hx).below hb⟩
theorem PersAt.at {w : World} {a : Option Addr} {ps : List Pers} (h : PersAt w a ps) {k len : Nat} (hl : ps.length = len) (hk : k < len) :
    ∃ b off p, a = some ⟨b, off, none⟩ ∧ AtP w b (off + k * 5) p ∧ ps[k]? = some p := by
  have hx : ps[k]? = some ps[k] := List.getElem?_eq_getElem (by omega)
  rcases h with rfl | ⟨b, off, rfl, hc⟩
  · simp at hl; omega
  · exact ⟨b, off, _, rfl, hc k _ hx, hx⟩
/-- the names of all persons are no longer than a text may be -/
def Fits (ps : List Pers) : Prop := ∀ p ∈ ps, p.fits
theorem Fits.at {ps : List Pers} (h : Fits ps) {k : Nat} {p : Pers} (hp : ps[k]? = some p) : p.fst.size ≤ maxLen ∧ p.lst.size ≤ maxLen := h p (List.mem_of_getElem? hp)

/-! the persons of a list, in order -/
def okAt (ps : List Pers) (i : Nat) : Bool :=
  match ps[i]? with
  | none => true
  | some p => isPers p && (match i with
    | 0 => true
    | j + 1 => (match ps[j]? with
      | none => true
      | some q => decide (q.num < p.num)))
/-- are they persons? -/
def arePers (ps : List Pers) : Bool := (List.range ps.length).all (okAt ps) && decide (ps.length ≤ 12)
theorem okAt_zero {ps : List Pers} {p : Pers} (h : ps[0]? = some p) : okAt ps 0 = isPers p := by simp [okAt, h]
theorem okAt_succ {ps : List Pers} {j : Nat} {p q : Pers} (h : ps[j + 1]? = some p) (h' : ps[j]? = some q) : okAt ps (j + 1) = (isPers p && decide (q.num < p.num)) := by simp [okAt, h, h']
theorem arePers_no {ps : List Pers} {k : Nat} (hk : k < ps.length) (h : okAt ps k = false) : arePers ps = false := by
  have : (List.range ps.length).all (okAt ps) = false := by
    rw [List.all_eq_false]; exact ⟨k, List.mem_range.2 hk, by simp [h]⟩
  rw [arePers, this, Bool.false_and]
theorem arePers_end {ps : List Pers} {k : Nat} (h : ∀ i, i < k → okAt ps i = true) (hk : ps.length ≤ k) : arePers ps = decide (ps.length ≤ 12) := by
  have : (List.range ps.length).all (okAt ps) = true := by
    rw [List.all_eq_true]; exact fun i hi => h i (by have := List.mem_range.1 hi; omega)
  rw [arePers, this, Bool.true_and]
theorem arePers_at {ps : List Pers} {k : Nat} {p : Pers} (h : arePers ps = true) (hp : ps[k]? = some p) : isPers p = true := by
  simp only [arePers, Bool.and_eq_true, List.all_eq_true] at h
  have hk : k < ps.length := (List.getElem?_eq_some_iff.1 hp).1
  have := h.1 k (List.mem_range.2 hk)
  simp only [okAt, hp, Bool.and_eq_true] at this
  exact this.1
theorem arePers_len {ps : List Pers} (h : arePers ps = true) : ps.length ≤ 12 := by
  simp only [arePers, Bool.and_eq_true, decide_eq_true_eq] at h; exact h.2

end Go.Proofs.YtchffaohmeaccaaGreatDoor.Pure40
/- A struct of numbers: Summons. Where it lies, how an argument is opened. (written by flat.py) -/
namespace Go.Proofs.YtchffaohmeaccaaGreatDoor
open Go.RowKit Go.ChangeShapes Go.WideShapes Go.Deep Pure2

structure Summons where
  num : Int
  sent : Int
  due : Int
  ans : Int
  done : Int
deriving DecidableEq
def Summons.cells (c : Summons) : List Value := [.int .i64 c.num, .int .i64 c.sent, .int .i64 c.due, .int .i64 c.ans, .int .i64 c.done]
/-- it lies at cell o of block b -/
def Summons.At (w : World) (b o : Nat) (c : Summons) : Prop := w.cell? ⟨b, o, none⟩ = some (.int .i64 c.num) ∧ w.cell? ⟨b, o + 1, none⟩ = some (.int .i64 c.sent) ∧ w.cell? ⟨b, o + 2, none⟩ = some (.int .i64 c.due) ∧ w.cell? ⟨b, o + 3, none⟩ = some (.int .i64 c.ans) ∧ w.cell? ⟨b, o + 4, none⟩ = some (.int .i64 c.done)
/-- .. from the block's first cell on -/
def Summons.Box (w : World) (b : Nat) (c : Summons) : Prop := w.cell? ⟨b, 0, none⟩ = some (.int .i64 c.num) ∧ w.cell? ⟨b, 1, none⟩ = some (.int .i64 c.sent) ∧ w.cell? ⟨b, 2, none⟩ = some (.int .i64 c.due) ∧ w.cell? ⟨b, 3, none⟩ = some (.int .i64 c.ans) ∧ w.cell? ⟨b, 4, none⟩ = some (.int .i64 c.done)
theorem Summons.At.below {w w' : World} {b o : Nat} {c : Summons} (h : Summons.At w b o c) (hb : Below w.heap.size w w') : Summons.At w' b o c :=
  ⟨cell_later hb h.1, cell_later hb h.2.1, cell_later hb h.2.2.1, cell_later hb h.2.2.2.1, cell_later hb h.2.2.2.2⟩
theorem Summons.Box.below {w w' : World} {b : Nat} {c : Summons} (h : Summons.Box w b c) (hb : Below w.heap.size w w') : Summons.Box w' b c :=
  ⟨cell_later hb h.1, cell_later hb h.2.1, cell_later hb h.2.2.1, cell_later hb h.2.2.2.1, cell_later hb h.2.2.2.2⟩
theorem Summons.At.grown {w w' : World} {b o q : Nat} {c : Summons} (h : Summons.At w b o c) (hg : w.grownBy w' (some q)) (hne : b ≠ q) : Summons.At w' b o c :=
  ⟨hg.cell h.1 (fun e => hne (Option.some.inj e)), hg.cell h.2.1 (fun e => hne (Option.some.inj e)), hg.cell h.2.2.1 (fun e => hne (Option.some.inj e)), hg.cell h.2.2.2.1 (fun e => hne (Option.some.inj e)), hg.cell h.2.2.2.2 (fun e => hne (Option.some.inj e))⟩
theorem Summons.Box.grown {w w' : World} {b q : Nat} {c : Summons} (h : Summons.Box w b c) (hg : w.grownBy w' (some q)) (hne : b ≠ q) : Summons.Box w' b c :=
  ⟨hg.cell h.1 (fun e => hne (Option.some.inj e)), hg.cell h.2.1 (fun e => hne (Option.some.inj e)), hg.cell h.2.2.1 (fun e => hne (Option.some.inj e)), hg.cell h.2.2.2.1 (fun e => hne (Option.some.inj e)), hg.cell h.2.2.2.2 (fun e => hne (Option.some.inj e))⟩
theorem Summons.Box.at {w : World} {b : Nat} {c : Summons} (h : Summons.Box w b c) : Summons.At w b 0 c := by
  unfold Summons.At; simp only [Nat.zero_add]; exact h
theorem Summons.At.box {w : World} {b : Nat} {c : Summons} (h : Summons.At w b 0 c) : Summons.Box w b c := by
  unfold Summons.At at h; simp only [Nat.zero_add] at h; exact h
theorem Summons.At.lt {w : World} {b o : Nat} {c : Summons} (h : Summons.At w b o c) : b < w.heap.size := World.block_lt_of_cell? w _ h.1
theorem Summons.boxed (w : World) (c : Summons) (T : TypeId) : Summons.Box (w.alloc (.cells #[.int .i64 c.num, .int .i64 c.sent, .int .i64 c.due, .int .i64 c.ans, .int .i64 c.done] T)) w.heap.size c := by
  have h : (w.alloc (.cells #[.int .i64 c.num, .int .i64 c.sent, .int .i64 c.due, .int .i64 c.ans, .int .i64 c.done] T)).heap[w.heap.size]? = some (.cells #[.int .i64 c.num, .int .i64 c.sent, .int .i64 c.due, .int .i64 c.ans, .int .i64 c.done] T) := heap_alloc_new w _
  refine ⟨?_, ?_, ?_, ?_, ?_⟩ <;> (unfold World.cell?; rw [h]; rfl)
/-- The slice at address a reads, from its head on, the list ts. -/
def Summons.ListAt (w : World) (a : Option Addr) (ts : List Summons) : Prop :=
  ts = [] ∨ ∃ b off, a = some ⟨b, off, none⟩ ∧ ∀ i c, ts[i]? = some c → Summons.At w b (off + i * 5) c
theorem Summons.ListAt.below {w w' : World} {a : Option Addr} {ts : List Summons} (h : Summons.ListAt w a ts) (hb : Below w.heap.size w w') : Summons.ListAt w' a ts := by
  rcases h with rfl | ⟨b, off, rfl, hc⟩
  · exact .inl rfl
  · exact .inr ⟨b, off, rfl, fun i x hx => (hc i x hx).below hb⟩
theorem Summons.ListAt.at {w : World} {a : Option Addr} {ts : List Summons} (h : Summons.ListAt w a ts) {n len : Nat} (hl : ts.length = len) (hn : n < len) :
    ∃ b off c, a = some ⟨b, off, none⟩ ∧ Summons.At w b (off + n * 5) c ∧ ts[n]? = some c := by
  have hx : ts[n]? = some ts[n] := List.getElem?_eq_getElem (by omega)
  rcases h with rfl | ⟨b, off, rfl, hc⟩
  · simp at hl; omega
  · exact ⟨b, off, _, rfl, hc n _ hx, hx⟩

/-- a type whose values are such structs -/
def Summons.Ty (P : Program) (T : TypeId) : Prop :=
  ∃ f0 f1 f2 f3 f4 : Field, P.underlying T = some (.struct #[f0, f1, f2, f3, f4]) ∧ P.cellsOf T = 5 ∧ f0.offset = 0 ∧ f1.offset = 1 ∧ f2.offset = 2 ∧ f3.offset = 3 ∧ f4.offset = 4 ∧ P.cellsOf f0.type = 1 ∧ P.cellsOf f1.type = 1 ∧ P.cellsOf f2.type = 1 ∧ P.cellsOf f3.type = 1 ∧ P.cellsOf f4.type = 1 ∧ P.underlying f0.type = some (.int .i64) ∧ P.underlying f1.type = some (.int .i64) ∧ P.underlying f2.type = some (.int .i64) ∧ P.underlying f3.type = some (.int .i64) ∧ P.underlying f4.type = some (.int .i64)
section
variable {H : Type} {enc : TypeId × Value → H} {P : Program} {w : World} {base : Nat} {spare : Nat → Bool} {held : Bool} {T : TypeId}
theorem Summons.of_trod (hT : Summons.Ty P T) {fuel : Nat} {cs : List Value} {x : DataW H × List MemPlace} (h : DataW.trod enc P w base spare held fuel T cs = some x) :
    ∃ c : Summons, cs = c.cells := by
  obtain ⟨f0, f1, f2, f3, f4, hs, hC, o0, o1, o2, o3, o4, c0, c1, c2, c3, c4, u0, u1, u2, u3, u4⟩ := hT
  obtain ⟨xs, n, _, _, hlen0, hlen, hg⟩ := DataW.trod_struct hs h
  rw [hC] at hlen0
  match cs, hlen0 with
  | [d0, d1, d2, d3, d4], _ =>
    match xs, hlen with
    | [y0, y1, y2, y3, y4], _ =>
      have h0 : DataW.trod enc P w base spare held n f0.type [d0] = some y0 := by simpa [o0, c0] using hg 0 f0 rfl
      have h1 : DataW.trod enc P w base spare held n f1.type [d1] = some y1 := by simpa [o1, c1] using hg 1 f1 rfl
      have h2 : DataW.trod enc P w base spare held n f2.type [d2] = some y2 := by simpa [o2, c2] using hg 2 f2 rfl
      have h3 : DataW.trod enc P w base spare held n f3.type [d3] = some y3 := by simpa [o3, c3] using hg 3 f3 rfl
      have h4 : DataW.trod enc P w base spare held n f4.type [d4] = some y4 := by simpa [o4, c4] using hg 4 f4 rfl
      obtain ⟨n0, e0, _⟩ := DataW.trod_int u0 h0
      obtain ⟨n1, e1, _⟩ := DataW.trod_int u1 h1
      obtain ⟨n2, e2, _⟩ := DataW.trod_int u2 h2
      obtain ⟨n3, e3, _⟩ := DataW.trod_int u3 h3
      obtain ⟨n4, e4, _⟩ := DataW.trod_int u4 h4
      cases e0; cases e1; cases e2; cases e3; cases e4
      exact ⟨⟨n0, n1, n2, n3, n4⟩, rfl⟩
/-- an argument that is such a struct -/
theorem Summons.open (hT : Summons.Ty P T) {r : Reach} {b0 : Nat} {v : Value} {d : DataW H} {ps : List MemPlace} (hv : Value.okWide P w r b0 T v) (h : DataW.Trod enc P w base spare held T v d ps) :
    ∃ c : Summons, v = .agg #[.int .i64 c.num, .int .i64 c.sent, .int .i64 c.due, .int .i64 c.ans, .int .i64 c.done] := by
  obtain ⟨f0, f1, f2, f3, f4, hs, _⟩ := id hT
  obtain ⟨cs, rfl, _⟩ := okWide_struct hs hv
  obtain ⟨fuel, hf⟩ := h
  obtain ⟨p, hp⟩ := Summons.of_trod hT hf
  refine ⟨p, ?_⟩
  obtain ⟨l⟩ := cs
  simp only [Value.cells] at hp
  subst hp
  rfl
/-- an argument that is a slice of such structs -/
theorem Summons.openS {S : TypeId} (hT : Summons.Ty P T) (hS : P.underlying S = some (.slice T)) {fuel : Nat} {a : Option Addr} {len cap : Nat} {x : DataW H × List MemPlace}
    (h : DataW.trod enc P w base spare held fuel S [.slice a len cap] = some x) : ∃ ps : List Summons, ps.length = len ∧ len ≤ maxLen ∧ Summons.ListAt w a ps := by
  obtain ⟨_, _, _, _, _, _, hC, _⟩ := id hT
  rcases open_slice hS h with ⟨hcs, _⟩ | ⟨x, l, c, m, n, D, Pl, hcs, _, hl, hm, hmm, _, hi⟩
  · simp at hcs
    obtain ⟨rfl, rfl, rfl⟩ := hcs
    exact ⟨[], rfl, by unfold maxLen; omega, .inl rfl⟩
  · simp at hcs
    obtain ⟨rfl, rfl, rfl⟩ := hcs
    have hlm : len ≤ m := by rw [hmm]; split <;> omega
    haveI : Inhabited Summons := ⟨⟨0, 0, 0, 0, 0⟩⟩
    obtain ⟨F, hF⟩ := choose_lt (n := len) (p := fun i (p : Summons) => w.cells? base (x.add (i * 5)) 5 = some p.cells) (fun i hi' => by
      obtain ⟨cs', hc, ht⟩ := hi i (by omega)
      obtain ⟨p, rfl⟩ := Summons.of_trod hT ht
      rw [hC] at hc
      exact ⟨p, hc⟩)
    refine ⟨(List.range len).map F, by simp, by omega, ?_⟩
    by_cases h0 : len = 0
    · exact .inl (by rw [h0]; rfl)
    · obtain ⟨b, off, spot⟩ := x
      have hspot : spot = none := by
        have := (World.cells?_some (hF 0 (by omega))).2.2 0 (by omega)
        simpa [Addr.add] using World.cell?_spot (this.trans (by rfl : _ = some (Value.int .i64 (F 0).num)))
      subst hspot
      refine .inr ⟨b, off, rfl, fun i p hp => ?_⟩
      obtain ⟨hi', hp'⟩ := List.getElem?_eq_some_iff.1 hp
      rw [List.length_map, List.length_range] at hi'
      simp at hp'
      subst hp'
      have hc := (World.cells?_some (hF i hi')).2.2
      have key : ∀ j, j < 5 → w.cell? ⟨b, off + i * 5 + j, none⟩ = (F i).cells[j]? := fun j hj => by
        have := hc j hj
        rw [add_add] at this
        by_cases hz : i * 5 + j = 0
        · rw [hz] at this
          rw [show off + i * 5 + j = off by omega]
          simpa [Addr.add] using this
        · unfold Addr.add at this
          rw [if_neg hz] at this
          rw [Nat.add_assoc]; exact this
      exact ⟨key 0 (by omega), key 1 (by omega), key 2 (by omega), key 3 (by omega), key 4 (by omega)⟩
end
end Go.Proofs.YtchffaohmeaccaaGreatDoor
/- Plain facts on chapter 9: summonses, answers, reminders. -/
namespace Go.Proofs.YtchffaohmeaccaaGreatDoor
open Pure2 Pure20 Pure40

def okAns (s : Summons) : Bool := if s.ans = 0 then decide (s.done = 0) else inR s.ans 1 3 && inR s.done s.sent 20000
def okM (s : Summons) : Bool := inR s.num 1 1000000 && (isDay s.sent && (inR s.due s.sent 20000 && okAns s))
/-- .. as the model asks it -/
theorem okM_spec (s : Summons) : okM s = (inR s.num 1 1000000 && (isDay s.sent && (inR s.due s.sent 20000 && (inR s.ans 0 3 && (if s.ans = 0 then decide (s.done = 0) else inR s.done s.sent 20000))))) := by
  have h : okAns s = (inR s.ans 0 3 && (if s.ans = 0 then decide (s.done = 0) else inR s.done s.sent 20000)) := by
    unfold okAns
    by_cases h0 : s.ans = 0
    · rw [if_pos h0, if_pos h0, h0]; rfl
    · rw [if_neg h0, if_neg h0]
      congr 1
      unfold inR
      by_cases h1 : 1 ≤ s.ans
      · rw [decide_eq_true h1, decide_eq_true (show 0 ≤ s.ans by omega)]
      · rw [decide_eq_false h1, decide_eq_false (show ¬ 0 ≤ s.ans by omega)]
  unfold okM; rw [h]
theorem okM_parts {s : Summons} (h : okM s = true) : (1 ≤ s.num ∧ s.num ≤ 1000000) ∧ (0 ≤ s.sent ∧ s.sent ≤ 20000) ∧ (s.sent ≤ s.due ∧ s.due ≤ 20000) ∧ ((s.ans = 0 ∧ s.done = 0) ∨ ((1 ≤ s.ans ∧ s.ans ≤ 3) ∧ s.sent ≤ s.done ∧ s.done ≤ 20000)) := by
  unfold okM at h
  simp only [Bool.and_eq_true, inR_iff, isDay_iff] at h
  refine ⟨h.1, h.2.1, h.2.2.1, ?_⟩
  have h2 := h.2.2.2
  unfold okAns at h2
  split at h2
  · rename_i h0
    exact .inl ⟨h0, by simpa using h2⟩
  · simp only [Bool.and_eq_true, inR_iff] at h2
    exact .inr h2
theorem okM_of {s : Summons} (h1 : 1 ≤ s.num ∧ s.num ≤ 1000000) (h2 : 0 ≤ s.sent ∧ s.sent ≤ 20000) (h3 : s.sent ≤ s.due ∧ s.due ≤ 20000) (h4 : (s.ans = 0 ∧ s.done = 0) ∨ ((1 ≤ s.ans ∧ s.ans ≤ 3) ∧ s.sent ≤ s.done ∧ s.done ≤ 20000)) : okM s = true := by
  unfold okM
  simp only [Bool.and_eq_true, inR_iff, isDay_iff]
  refine ⟨h1, h2, h3, ?_⟩
  unfold okAns
  rcases h4 with ⟨h5, h6⟩ | ⟨h5, h6⟩
  · rw [if_pos h5]; simpa using h6
  · rw [if_neg (by omega)]; simp only [Bool.and_eq_true, inR_iff]; exact ⟨h5, h6⟩

/-- the first n are summonses -/
def AreMo (ts : List Summons) (n : Nat) : Prop := ∀ (i : Nat) a, i < n → ts[i]? = some a → okM a = true ∧ ∀ b, 0 < i → ts[i - 1]? = some b → b.num < a.num
def AreM (ts : List Summons) : Prop := AreMo ts ts.length ∧ ts.length ≤ 20
noncomputable def areM (ts : List Summons) : Bool := @decide (AreM ts) (Classical.propDecidable _)
theorem areM_iff (ts : List Summons) : areM ts = true ↔ AreM ts := by unfold areM; exact @decide_eq_true_iff _ (Classical.propDecidable _)
theorem areM_no (ts : List Summons) : areM ts = false ↔ ¬ AreM ts := by rw [← Bool.not_eq_true, areM_iff]
theorem lt_of_getM {α : Type} {l : List α} {i : Nat} {a : α} (h : l[i]? = some a) : i < l.length := (List.getElem?_eq_some_iff.1 h).1
theorem areM_bad {ts : List Summons} {i : Nat} {a : Summons} (ha : ts[i]? = some a) (h : okM a = false) : areM ts = false :=
  (areM_no ts).2 fun hh => by have := (hh.1 i a (lt_of_getM ha) ha).1; rw [h] at this; cases this
theorem areM_turn {ts : List Summons} {i : Nat} {a b : Summons} (ha : ts[i + 1]? = some a) (hb : ts[i]? = some b) (h : ¬ b.num < a.num) : areM ts = false :=
  (areM_no ts).2 fun hh => h ((hh.1 (i + 1) a (lt_of_getM ha) ha).2 b (by omega) (by simpa using hb))
theorem areM_long {ts : List Summons} (h : 20 < ts.length) : areM ts = false := (areM_no ts).2 fun hh => by have := hh.2; omega
theorem areM_end {ts : List Summons} {n : Nat} (h : AreMo ts n) (hn : ts.length ≤ n) : areM ts = decide (ts.length ≤ 20) := by
  by_cases hl : ts.length ≤ 20
  · rw [decide_eq_true hl]; exact (areM_iff ts).2 ⟨fun i a hi ha => h i a (by omega) ha, hl⟩
  · rw [decide_eq_false hl]; exact areM_long (by omega)
theorem areMo_zero (ts : List Summons) : AreMo ts 0 := fun i a hi => by omega
theorem areMo_step {ts : List Summons} {n : Nat} {a : Summons} (h : AreMo ts n) (ha : ts[n]? = some a) (h1 : okM a = true) (h2 : ∀ b, 0 < n → ts[n - 1]? = some b → b.num < a.num) : AreMo ts (n + 1) := by
  intro i q hi hq
  by_cases e : i = n
  · subst e; rw [ha] at hq; cases hq; exact ⟨h1, h2⟩
  · exact h i q (by omega) hq
theorem areM_at {ts : List Summons} (h : areM ts = true) {i : Nat} {a : Summons} (ha : ts[i]? = some a) : okM a = true := (((areM_iff ts).1 h).1 i a (lt_of_getM ha) ha).1
theorem areM_len {ts : List Summons} (h : areM ts = true) : ts.length ≤ 20 := ((areM_iff ts).1 h).2
theorem areM_next {ts : List Summons} (h : areM ts = true) {i : Nat} {a b : Summons} (ha : ts[i]? = some a) (hb : ts[i + 1]? = some b) : a.num < b.num :=
  (((areM_iff ts).1 h).1 (i + 1) b (lt_of_getM hb) hb).2 a (by omega) (by simpa using ha)
theorem areM_lt {ts : List Summons} (h : areM ts = true) : ∀ (j i : Nat) {a b : Summons}, i < j → ts[i]? = some a → ts[j]? = some b → a.num < b.num := by
  intro j
  induction j with
  | zero => intro i a b hi; omega
  | succ j ih =>
    intro i a b hi ha hb
    have hj : ts[j]? = some (ts[j]'(by have := lt_of_getM hb; omega)) := List.getElem?_eq_getElem _
    have h1 := areM_next h hj hb
    by_cases e : i = j
    · subst e; rw [ha] at hj; cases hj; exact h1
    · have := ih i (by omega) ha hj; omega

/-- the place of a number -/
def AtPlace (ts : List Summons) (n : Int) (k : Nat) : Prop := k ≤ ts.length ∧ (∀ (i : Nat) s, i < k → ts[i]? = some s → s.num < n) ∧ (∀ s, ts[k]? = some s → ¬ s.num < n)
theorem atPlace_inj {ts : List Summons} {n : Int} {k k' : Nat} (h : AtPlace ts n k) (h' : AtPlace ts n k') : k = k' := by
  rcases Nat.lt_trichotomy k k' with c | c | c
  · have hk : ts[k]? = some (ts[k]'(by have := h'.1; omega)) := List.getElem?_eq_getElem _
    exact absurd (h'.2.1 k _ c hk) (h.2.2 _ hk)
  · exact c
  · have hk : ts[k']? = some (ts[k']'(by have := h.1; omega)) := List.getElem?_eq_getElem _
    exact absurd (h.2.1 k' _ c hk) (h'.2.2 _ hk)
noncomputable def placeM (ts : List Summons) (n : Int) : Nat := Classical.epsilon (AtPlace ts n)
theorem placeM_eq {ts : List Summons} {n : Int} {k : Nat} (h : AtPlace ts n k) : placeM ts n = k := atPlace_inj (Classical.epsilon_spec (p := AtPlace ts n) ⟨k, h⟩) h
theorem place_there (n : Int) : ∀ ts : List Summons, ∃ k, AtPlace ts n k
  | [] => ⟨0, Nat.le_refl _, fun i s hi => by omega, fun s h => by simp at h⟩
  | t :: ts => by
    by_cases h : t.num < n
    · obtain ⟨k, h1, h2, h3⟩ := place_there n ts
      refine ⟨k + 1, by simp; omega, fun i s hi hs => ?_, fun s hs => h3 s (by simpa using hs)⟩
      cases i with
      | zero => simp at hs; subst hs; exact h
      | succ i => exact h2 i s (by omega) (by simpa using hs)
    · exact ⟨0, Nat.zero_le _, fun i s hi => by omega, fun s hs => by simp at hs; subst hs; exact h⟩
theorem placeM_is (ts : List Summons) (n : Int) : AtPlace ts n (placeM ts n) := Classical.epsilon_spec (place_there n ts)
theorem placeM_le (ts : List Summons) (n : Int) : placeM ts n ≤ ts.length := (placeM_is ts n).1
theorem atPlace_zero (ts : List Summons) (n : Int) : (∀ (i : Nat) s, i < 0 → ts[i]? = some s → s.num < n) := fun i s hi => by omega
theorem below_next {ts : List Summons} {n : Int} {k : Nat} {s : Summons} (h : ∀ (i : Nat) s, i < k → ts[i]? = some s → s.num < n) (hs : ts[k]? = some s) (h' : s.num < n) : ∀ (i : Nat) s, i < k + 1 → ts[i]? = some s → s.num < n := by
  intro i x hi hx
  by_cases e : i = k
  · subst e; rw [hs] at hx; cases hx; exact h'
  · exact h i x (by omega) hx
/-- in summonses whoever has the number stands at its place -/
theorem place_found {ts : List Summons} (h : areM ts = true) {n : Int} {k : Nat} {s : Summons} (hs : ts[k]? = some s) (he : s.num = n) : placeM ts n = k :=
  placeM_eq ⟨Nat.le_of_lt (lt_of_getM hs), fun i x hi hx => by have := areM_lt h k i hi hx hs; omega, fun x hx => by rw [hs] at hx; cases hx; omega⟩
/-- who stands at the place, if it is they -/
noncomputable def whoM (ts : List Summons) (n : Int) : Option Summons := match ts[placeM ts n]? with | some s => if s.num = n then some s else none | none => none
theorem whoM_some {ts : List Summons} {n : Int} {s : Summons} (h : whoM ts n = some s) : ts[placeM ts n]? = some s ∧ s.num = n := by
  unfold whoM at h
  split at h
  · rename_i x hx
    split at h
    · rename_i he
      cases h; exact ⟨hx, he⟩
    · cases h
  · cases h
theorem whoM_yes {ts : List Summons} {n : Int} {s : Summons} (hs : ts[placeM ts n]? = some s) (he : s.num = n) : whoM ts n = some s := by unfold whoM; rw [hs]; exact if_pos he
theorem whoM_none {ts : List Summons} (h : areM ts = true) {n : Int} (hn : whoM ts n = none) {i : Nat} {s : Summons} (hs : ts[i]? = some s) : s.num ≠ n := by
  intro he
  have h1 := place_found h hs he
  rw [← h1] at hs
  rw [whoM_yes hs he] at hn; cases hn
theorem whoM_no {ts : List Summons} {n : Int} (h : ∀ (i : Nat) s, ts[i]? = some s → s.num ≠ n) : whoM ts n = none := by
  cases hw : whoM ts n with
  | none => rfl
  | some s => obtain ⟨h1, h2⟩ := whoM_some hw; exact absurd h2 (h _ _ h1)

/-- the codes -/
noncomputable def codeM (ts : List Summons) (d : Int) : Int := if areM ts = true then (if isDay d = true then 0 else 2) else 1
theorem codeM_0 {ts : List Summons} {d : Int} (h : areM ts = true) (h1 : isDay d = true) : codeM ts d = 0 := by rw [codeM, if_pos h, if_pos h1]
theorem codeM_1 {ts : List Summons} {d : Int} (h : areM ts = false) : codeM ts d = 1 := by rw [codeM, if_neg (by rw [h]; decide)]
theorem codeM_2 {ts : List Summons} {d : Int} (h : areM ts = true) (h1 : isDay d = false) : codeM ts d = 2 := by rw [codeM, if_pos h, if_neg (by rw [h1]; decide)]
theorem codeM_cases (ts : List Summons) (d : Int) : (codeM ts d = 0 ∧ areM ts = true ∧ (0 ≤ d ∧ d ≤ 20000)) ∨ codeM ts d = 1 ∨ codeM ts d = 2 := by
  cases h : areM ts
  · exact .inr (.inl (codeM_1 h))
  · cases h1 : isDay d
    · exact .inr (.inr (codeM_2 h h1))
    · exact .inl ⟨codeM_0 h h1, rfl, (isDay_iff d).1 h1⟩
theorem codeM_zero {ts : List Summons} {d : Int} (h : codeM ts d = 0) : areM ts = true ∧ (0 ≤ d ∧ d ≤ 20000) := by
  rcases codeM_cases ts d with ⟨_, h1, h2⟩ | h1 | h1
  · exact ⟨h1, h2⟩
  · rw [h] at h1; cases h1
  · rw [h] at h1; cases h1

/-- a further summons -/
noncomputable def insM (ts : List Summons) (x : Summons) : List Summons := ts.take (placeM ts x.num) ++ [x] ++ ts.drop (placeM ts x.num)
theorem insM_len (ts : List Summons) (x : Summons) : (insM ts x).length = ts.length + 1 := by
  have := placeM_le ts x.num
  simp [insM]; omega
theorem ins_at {α : Type} (ts : List α) (x : α) {p : Nat} (hp : p ≤ ts.length) (i : Nat) : (ts.take p ++ [x] ++ ts.drop p)[i]? = if i < p then ts[i]? else if i = p then some x else ts[i - 1]? := by
  have h0 : (ts.take p).length = p := by rw [List.length_take]; omega
  by_cases h1 : i < p
  · rw [if_pos h1, List.append_assoc, List.getElem?_append_left (by rw [h0]; exact h1), List.getElem?_take, if_pos h1]
  · rw [if_neg h1]
    by_cases h2 : i = p
    · rw [if_pos h2, List.getElem?_append_left (by rw [List.length_append, h0]; simp; omega), List.getElem?_append_right (by rw [h0]; omega), h0, h2, Nat.sub_self]; rfl
    · rw [if_neg h2, List.getElem?_append_right (by rw [List.length_append, h0]; simp; omega), List.length_append, h0, List.getElem?_drop]
      congr 1; simp; omega
theorem insM_at (ts : List Summons) (x : Summons) (i : Nat) : (insM ts x)[i]? = if i < placeM ts x.num then ts[i]? else if i = placeM ts x.num then some x else ts[i - 1]? := ins_at ts x (placeM_le ts x.num) i
/-- it is of summonses again exactly if nobody had the number and there was room -/
theorem insM_are {ts : List Summons} {x : Summons} (h : areM ts = true) (hx : okM x = true) (hw : whoM ts x.num = none) (hl : ts.length < 20) : areM (insM ts x) = true := by
  refine (areM_iff _).2 ⟨?_, by rw [insM_len]; omega⟩
  obtain ⟨p1, p2, p3⟩ := placeM_is ts x.num
  have hne := fun (i : Nat) s (hs : ts[i]? = some s) => whoM_none h hw hs
  intro i a hi ha
  rw [insM_at] at ha
  have hat := insM_at ts x
  generalize placeM ts x.num = p at ha p1 p2 p3 hat
  by_cases h1 : i < p
  · rw [if_pos h1] at ha
    refine ⟨areM_at h ha, fun b h0 hb => ?_⟩
    rw [hat, if_pos (by omega)] at hb
    exact areM_lt h i (i - 1) (by omega) hb ha
  · rw [if_neg h1] at ha
    by_cases h2 : i = p
    · rw [if_pos h2] at ha
      cases ha
      refine ⟨hx, fun b h0 hb => ?_⟩
      rw [hat, if_pos (by omega)] at hb
      exact p2 _ b (by omega) hb
    · rw [if_neg h2] at ha
      refine ⟨areM_at h ha, fun b h0 hb => ?_⟩
      rw [hat, if_neg (by omega)] at hb
      by_cases h3 : i - 1 = p
      · rw [if_pos h3] at hb
        cases hb
        rw [h3] at ha
        have := p3 a ha
        have := hne p a ha
        omega
      · rw [if_neg h3] at hb
        exact areM_lt h (i - 1) (i - 1 - 1) (by omega) hb ha
theorem insM_full {ts : List Summons} {x : Summons} (hl : 20 ≤ ts.length) : areM (insM ts x) = false := areM_long (by rw [insM_len]; omega)
theorem insM_twice {ts : List Summons} {x s : Summons} (hw : whoM ts x.num = some s) : areM (insM ts x) = false := by
  obtain ⟨h1, h2⟩ := whoM_some hw
  have hat := insM_at ts x
  generalize placeM ts x.num = p at h1 hat
  refine areM_turn (i := p) (a := s) (b := x) ?_ ?_ (by omega)
  · rw [hat, if_neg (by omega), if_neg (by omega)]; exact h1
  · rw [hat, if_neg (by omega), if_pos rfl]

/-- open, overdue, reminded -/
def openM (d : Int) (s : Summons) : Bool := decide (s.sent ≤ d) && (decide (s.ans = 0) || decide (d < s.done))
def overM (d : Int) (s : Summons) : Bool := openM d s && decide (s.due < d)
def remD (d : Int) (s : Summons) : Bool := decide (d = s.due + 1) || (decide (d = s.due + 15) || decide (d = s.due + 29))
def remM (d : Int) (s : Summons) : Bool := openM d s && remD d s
theorem remD_iff (d : Int) (s : Summons) : remD d s = true ↔ d = s.due + 1 ∨ d = s.due + 15 ∨ d = s.due + 29 := by simp [remD]
theorem remD_spec {d : Int} {s : Summons} (h : 0 ≤ d - s.due - 1) : remD d s = (decide ((d - s.due - 1) % 14 = 0) && decide ((d - s.due - 1) / 14 < 3)) := by
  rw [Bool.eq_iff_iff, remD_iff]
  simp only [Bool.and_eq_true, decide_eq_true_eq]
  omega
theorem remD_early {d : Int} {s : Summons} (h : ¬ 0 ≤ d - s.due - 1) : remD d s = false := by
  rw [← Bool.not_eq_true, remD_iff]; omega
/-- the numbers of those of whom something holds -/
def numsM (p : Summons → Bool) (ts : List Summons) : List Int := (ts.filter p).map Summons.num
def numsMo (p : Summons → Bool) (ts : List Summons) (k : Nat) : List Int := numsM p (ts.take k)
theorem numsMo_zero (p : Summons → Bool) (ts : List Summons) : numsMo p ts 0 = [] := rfl
theorem numsMo_yes {p : Summons → Bool} {ts : List Summons} {k : Nat} {s : Summons} (hs : ts[k]? = some s) (h : p s = true) : numsMo p ts (k + 1) = numsMo p ts k ++ [s.num] := by
  have hk := lt_of_getM hs
  have : ts[k] = s := Option.some.inj ((List.getElem?_eq_getElem hk).symm.trans hs)
  simp [numsMo, numsM, List.take_succ_eq_append_getElem hk, this, h, List.filter_append]
theorem numsMo_no {p : Summons → Bool} {ts : List Summons} {k : Nat} {s : Summons} (hs : ts[k]? = some s) (h : p s = false) : numsMo p ts (k + 1) = numsMo p ts k := by
  have hk := lt_of_getM hs
  have : ts[k] = s := Option.some.inj ((List.getElem?_eq_getElem hk).symm.trans hs)
  simp [numsMo, numsM, List.take_succ_eq_append_getElem hk, this, h, List.filter_append]
theorem numsMo_end {p : Summons → Bool} {ts : List Summons} {k : Nat} (h : ts.length ≤ k) : numsMo p ts k = numsM p ts := by unfold numsMo; rw [List.take_of_length_le h]
theorem numsMo_len (p : Summons → Bool) (ts : List Summons) (k : Nat) : (numsMo p ts k).length ≤ k := by
  unfold numsMo numsM
  rw [List.length_map]
  refine Nat.le_trans (List.length_filter_le _ _) ?_
  rw [List.length_take]; omega
theorem numsM_len (p : Summons → Bool) (ts : List Summons) : (numsM p ts).length ≤ ts.length := by
  unfold numsM; rw [List.length_map]; exact List.length_filter_le _ _
noncomputable def onR (p : Int → Summons → Bool) (ts : List Summons) (d : Int) : List Int × Int := if codeM ts d = 0 then (numsM (p d) ts, 0) else ([], codeM ts d)
theorem onR_ok {p : Int → Summons → Bool} {ts : List Summons} {d : Int} (h : codeM ts d = 0) : onR p ts d = (numsM (p d) ts, 0) := by unfold onR; rw [if_pos h]
theorem onR_bad {p : Int → Summons → Bool} {ts : List Summons} {d c : Int} (h : codeM ts d = c) (hc : c ≠ 0) : onR p ts d = ([], c) := by unfold onR; rw [if_neg (by omega), h]
theorem onR_small (p : Int → Summons → Bool) (ts : List Summons) (d : Int) : (onR p ts d).1.length ≤ 20 := by
  unfold onR
  split
  · rename_i h
    exact Nat.le_trans (numsM_len _ _) (areM_len (codeM_zero h).1)
  · exact Nat.zero_le _

/-- the answer as it was known on a day -/
def byM (d : Int) (s : Summons) : Int := if d < s.done then 0 else s.ans
theorem openM_by (d : Int) (s : Summons) : openM d s = (decide (s.sent ≤ d) && decide (byM d s = 0)) := by
  unfold openM byM
  congr 1
  by_cases h : d < s.done
  · rw [if_pos h, decide_eq_true h]; simp
  · rw [if_neg h, decide_eq_false h, Bool.or_false]
/-- how many were sent by a day and have the answer j, among the first k -/
def cntM (ts : List Summons) (d : Int) (k : Nat) (j : Int) : Int := ((ts.take k).filter (fun s => decide (s.sent ≤ d) && decide (byM d s = j))).length
theorem cntM_zero (ts : List Summons) (d j : Int) : cntM ts d 0 j = 0 := rfl
theorem cntM_step {ts : List Summons} {k : Nat} {s : Summons} (hs : ts[k]? = some s) (d j : Int) : cntM ts d (k + 1) j = cntM ts d k j + (if s.sent ≤ d ∧ byM d s = j then 1 else 0) := by
  have hk := lt_of_getM hs
  have : ts[k] = s := Option.some.inj ((List.getElem?_eq_getElem hk).symm.trans hs)
  unfold cntM
  rw [List.take_succ_eq_append_getElem hk, List.filter_append, List.length_append, this]
  by_cases h : s.sent ≤ d ∧ byM d s = j
  · rw [if_pos h, List.filter_cons_of_pos (by simp [h.1, h.2])]; simp
  · rw [if_neg h, List.filter_cons_of_neg (by simp; exact fun h1 h2 => h ⟨h1, h2⟩)]; simp
theorem cntM_bd (ts : List Summons) (d : Int) (k : Nat) (j : Int) : 0 ≤ cntM ts d k j ∧ cntM ts d k j ≤ k := by
  unfold cntM
  refine ⟨by omega, ?_⟩
  have := List.length_filter_le (fun s : Summons => decide (s.sent ≤ d) && decide (byM d s = j)) (ts.take k)
  rw [List.length_take] at this
  omega
noncomputable def countL (ts : List Summons) (d : Int) (k : Nat) : List Int := [cntM ts d k 0, cntM ts d k 1, cntM ts d k 2, cntM ts d k 3]
noncomputable def countR9 (ts : List Summons) (d : Int) : List Int × Int := if codeM ts d = 0 then (countL ts d ts.length, 0) else ([], codeM ts d)
theorem countR9_ok {ts : List Summons} {d : Int} (h : codeM ts d = 0) : countR9 ts d = (countL ts d ts.length, 0) := by unfold countR9; rw [if_pos h]
theorem countR9_bad {ts : List Summons} {d c : Int} (h : codeM ts d = c) (hc : c ≠ 0) : countR9 ts d = ([], c) := by unfold countR9; rw [if_neg (by omega), h]
theorem countR9_small (ts : List Summons) (d : Int) : (countR9 ts d).1.length ≤ 20 := by
  unfold countR9
  split
  · exact show 4 ≤ 20 by omega
  · exact Nat.zero_le _

/-- the next reminder -/
def anyRem (ts : List Summons) (n : Int) : Prop := ∃ (i : Nat) (s : Summons), ts[i]? = some s ∧ s.ans = 0 ∧ remD n s = true
def FirstRem (ts : List Summons) (d n : Int) : Prop := d < n ∧ n ≤ 20000 ∧ anyRem ts n ∧ ∀ x, d < x → x < n → ¬ anyRem ts x
theorem firstRem_inj {ts : List Summons} {d n n' : Int} (h : FirstRem ts d n) (h' : FirstRem ts d n') : n = n' := by
  rcases Int.lt_trichotomy n n' with c | c | c
  · exact absurd h.2.2.1 (h'.2.2.2 n h.1 c)
  · exact c
  · exact absurd h'.2.2.1 (h.2.2.2 n' h'.1 c)
noncomputable def remL (ts : List Summons) (d : Int) : Int × Int := @ite _ (∃ n, FirstRem ts d n) (Classical.propDecidable _) (Classical.epsilon (FirstRem ts d), 0) (0, 4)
theorem remL_some {ts : List Summons} {d n : Int} (h : FirstRem ts d n) : remL ts d = (n, 0) := by
  have he : ∃ n, FirstRem ts d n := ⟨n, h⟩
  rw [remL, if_pos he, firstRem_inj (Classical.epsilon_spec he) h]
theorem remL_none {ts : List Summons} {d : Int} (h : ¬ ∃ n, FirstRem ts d n) : remL ts d = (0, 4) := by rw [remL, if_neg h]
theorem remL_cases (ts : List Summons) (d : Int) : (∃ n, FirstRem ts d n ∧ remL ts d = (n, 0)) ∨ remL ts d = (0, 4) := by
  by_cases h : ∃ n, FirstRem ts d n
  · obtain ⟨n, h⟩ := h; exact .inl ⟨n, h, remL_some h⟩
  · exact .inr (remL_none h)
/-- .. the model's way: day after day -/
theorem remL_found {ts : List Summons} {d n : Int} (h0 : d < n) (h1 : n ≤ 20000) (hno : ∀ x, d < x → x < n → ¬ anyRem ts x) (h : anyRem ts n) : remL ts d = (n, 0) := remL_some ⟨h0, h1, h, hno⟩
theorem remL_end {ts : List Summons} {d n : Int} (h1 : 20000 < n) (hno : ∀ x, d < x → x < n → ¬ anyRem ts x) : remL ts d = (0, 4) :=
  remL_none fun ⟨y, hy⟩ => hno y hy.1 (by have := hy.2.1; omega) hy.2.2.1
theorem noRem_next {ts : List Summons} {d n : Int} (hno : ∀ x, d < x → x < n → ¬ anyRem ts x) (h : ¬ anyRem ts n) : ∀ x, d < x → x < n + 1 → ¬ anyRem ts x := by
  intro x h0 h1
  by_cases e : x = n
  · subst e; exact h
  · exact hno x h0 (by omega)
theorem anyRem_no {ts : List Summons} {n : Int} {k : Nat} (h : ∀ (i : Nat) s, i < k → ts[i]? = some s → s.ans = 0 → remD n s = false) (hk : ts.length ≤ k) : ¬ anyRem ts n := by
  rintro ⟨i, s, h1, h2, h3⟩
  rw [h i s (by have := lt_of_getM h1; omega) h1 h2] at h3; cases h3
/-- .. the program's way: the least of all reminders behind the day, or 20001 -/
def MinRem (ts : List Summons) (d : Int) (k j : Nat) (m : Int) : Prop :=
  m ≤ 20001 ∧ (m = 20001 ∨ (d < m ∧ anyRem ts m)) ∧
  (∀ (i : Nat) s n, i < k → ts[i]? = some s → s.ans = 0 → remD n s = true → d < n → m ≤ n) ∧
  (∀ s, ts[k]? = some s → s.ans = 0 → ∀ q : Nat, q < j → d < s.due + 1 + q * 14 → m ≤ s.due + 1 + q * 14)
theorem minRem_zero (ts : List Summons) (d : Int) : MinRem ts d 0 0 20001 := ⟨by omega, .inl rfl, fun i s n hi => by omega, fun s _ _ q hq => by omega⟩
theorem minRem_skip {ts : List Summons} {d m : Int} {k j : Nat} (h : MinRem ts d k j m) {s : Summons} (hs : ts[k]? = some s) (hno : ¬ (s.ans = 0 ∧ d < s.due + 1 + j * 14)) : MinRem ts d k (j + 1) m := by
  obtain ⟨h1, h2, h3, h4⟩ := h
  refine ⟨h1, h2, h3, fun x hx h0 q hq hd => ?_⟩
  rw [hs] at hx; cases hx
  by_cases e : q = j
  · subst e; exact absurd ⟨h0, hd⟩ hno
  · exact h4 s hs h0 q (by omega) hd
theorem minRem_take {ts : List Summons} {d m : Int} {k j : Nat} (h : MinRem ts d k j m) {s : Summons} (hs : ts[k]? = some s) (hj : j < 3) (h0 : s.ans = 0) (hd : d < s.due + 1 + j * 14) : MinRem ts d k (j + 1) (min m (s.due + 1 + j * 14)) := by
  obtain ⟨h1, h2, h3, h4⟩ := h
  refine ⟨by omega, ?_, fun i x n hi hx h5 h6 h7 => by have := h3 i x n hi hx h5 h6 h7; omega, fun x hx h0 q hq hd => ?_⟩
  · by_cases c : m ≤ s.due + 1 + j * 14
    · rw [Int.min_eq_left c]; exact h2
    · rw [Int.min_eq_right (by omega)]
      refine .inr ⟨hd, k, s, hs, h0, ?_⟩
      rw [remD_iff]
      omega
  · rw [hs] at hx; cases hx
    by_cases e : q = j
    · subst e; omega
    · have := h4 s hs h0 q (by omega) hd; omega
theorem minRem_next {ts : List Summons} {d m : Int} {k : Nat} (h : MinRem ts d k 3 m) : MinRem ts d (k + 1) 0 m := by
  obtain ⟨h1, h2, h3, h4⟩ := h
  refine ⟨h1, h2, fun i s n hi hs h0 hr hd => ?_, fun s _ _ q hq => by omega⟩
  by_cases e : i = k
  · subst e
    rcases (remD_iff n s).1 hr with rfl | rfl | rfl
    · have := h4 s hs h0 0 (by omega) (by simpa using hd); simpa using this
    · have := h4 s hs h0 1 (by omega) (by simp; omega); simp at this; omega
    · have := h4 s hs h0 2 (by omega) (by simp; omega); simp at this; omega
  · exact h3 i s n (by omega) hs h0 hr hd
theorem minRem_end {ts : List Summons} {d m : Int} {k : Nat} (h : MinRem ts d k 0 m) (hk : ts.length ≤ k) : remL ts d = if 20000 < m then (0, 4) else (m, 0) := by
  obtain ⟨h1, h2, h3, _⟩ := h
  have hall : ∀ x, d < x → x < m → ¬ anyRem ts x := by
    rintro x hx hm ⟨i, s, hs, h0, hr⟩
    have := h3 i s x (by have := lt_of_getM hs; omega) hs h0 hr hx
    omega
  by_cases c : 20000 < m
  · rw [if_pos c]; exact remL_end c hall
  · rw [if_neg c]
    rcases h2 with e | ⟨h5, h6⟩
    · omega
    · exact remL_found h5 (by omega) hall h6
noncomputable def nextR9 (ts : List Summons) (d : Int) : Int × Int := if codeM ts d = 0 then remL ts d else (0, codeM ts d)
theorem nextR9_ok {ts : List Summons} {d : Int} (h : codeM ts d = 0) : nextR9 ts d = remL ts d := by unfold nextR9; rw [if_pos h]
theorem nextR9_bad {ts : List Summons} {d c : Int} (h : codeM ts d = c) (hc : c ≠ 0) : nextR9 ts d = (0, c) := by unfold nextR9; rw [if_neg (by omega), h]

/-- an answer -/
noncomputable def codeA (ts : List Summons) (a d : Int) : Int := if areM ts = true then (if isDay d = true ∧ inR a 1 3 = true then 0 else 2) else 1
theorem codeA_0 {ts : List Summons} {a d : Int} (h : areM ts = true) (h1 : isDay d = true) (h2 : inR a 1 3 = true) : codeA ts a d = 0 := by rw [codeA, if_pos h, if_pos ⟨h1, h2⟩]
theorem codeA_1 {ts : List Summons} {a d : Int} (h : areM ts = false) : codeA ts a d = 1 := by rw [codeA, if_neg (by rw [h]; decide)]
theorem codeA_2 {ts : List Summons} {a d : Int} (h : areM ts = true) (h1 : ¬ (isDay d = true ∧ inR a 1 3 = true)) : codeA ts a d = 2 := by rw [codeA, if_pos h, if_neg h1]
theorem codeA_cases (ts : List Summons) (a d : Int) : (codeA ts a d = 0 ∧ areM ts = true ∧ (0 ≤ d ∧ d ≤ 20000) ∧ 1 ≤ a ∧ a ≤ 3) ∨ codeA ts a d = 1 ∨ codeA ts a d = 2 := by
  cases h : areM ts
  · exact .inr (.inl (codeA_1 h))
  · by_cases h1 : isDay d = true ∧ inR a 1 3 = true
    · exact .inl ⟨codeA_0 h h1.1 h1.2, rfl, (isDay_iff d).1 h1.1, inR_iff.1 h1.2⟩
    · exact .inr (.inr (codeA_2 h h1))
def answered (s : Summons) (a d : Int) : Summons := ⟨s.num, s.sent, s.due, a, d⟩
noncomputable def ansL (ts : List Summons) (n a d : Int) : List Summons × Int :=
  match whoM ts n with
  | some s => if s.ans = 0 ∧ s.sent ≤ d then (ts.set (placeM ts n) (answered s a d), 0) else ([], 5)
  | none => ([], 4)
noncomputable def ansR9 (ts : List Summons) (n a d : Int) : List Summons × Int := if codeA ts a d = 0 then ansL ts n a d else ([], codeA ts a d)
theorem ansR9_ok {ts : List Summons} {n a d : Int} (h : codeA ts a d = 0) : ansR9 ts n a d = ansL ts n a d := by unfold ansR9; rw [if_pos h]
theorem ansR9_bad {ts : List Summons} {n a d c : Int} (h : codeA ts a d = c) (hc : c ≠ 0) : ansR9 ts n a d = ([], c) := by unfold ansR9; rw [if_neg (by omega), h]
theorem ansL_none {ts : List Summons} {n a d : Int} (h : whoM ts n = none) : ansL ts n a d = ([], 4) := by unfold ansL; rw [h]
theorem ansL_state {ts : List Summons} {n a d : Int} {s : Summons} (h : whoM ts n = some s) (hs : ¬ (s.ans = 0 ∧ s.sent ≤ d)) : ansL ts n a d = ([], 5) := by unfold ansL; rw [h]; exact if_neg hs
theorem ansL_yes {ts : List Summons} {n a d : Int} {s : Summons} (h : whoM ts n = some s) (hs : s.ans = 0 ∧ s.sent ≤ d) : ansL ts n a d = (ts.set (placeM ts n) (answered s a d), 0) := by unfold ansL; rw [h]; exact if_pos hs
theorem ansL_cases (ts : List Summons) (n a d : Int) : (∃ s, whoM ts n = some s ∧ s.ans = 0 ∧ s.sent ≤ d ∧ ansL ts n a d = (ts.set (placeM ts n) (answered s a d), 0)) ∨ ansL ts n a d = ([], 4) ∨ ansL ts n a d = ([], 5) := by
  cases h : whoM ts n with
  | none => exact .inr (.inl (ansL_none h))
  | some s =>
    by_cases hs : s.ans = 0 ∧ s.sent ≤ d
    · exact .inl ⟨s, rfl, hs.1, hs.2, ansL_yes h hs⟩
    · exact .inr (.inr (ansL_state h hs))
theorem ansR9_small (ts : List Summons) (n a d : Int) : (ansR9 ts n a d).1.length ≤ 20 := by
  rcases codeA_cases ts a d with ⟨h, ha, _⟩ | h | h
  · rw [ansR9_ok h]
    rcases ansL_cases ts n a d with ⟨s, _, _, _, e⟩ | e | e
    · rw [e]; simp; exact areM_len ha
    · rw [e]; exact Nat.zero_le _
    · rw [e]; exact Nat.zero_le _
  · rw [ansR9_bad h (by omega)]; exact Nat.zero_le _
  · rw [ansR9_bad h (by omega)]; exact Nat.zero_le _
end Go.Proofs.YtchffaohmeaccaaGreatDoor
/- Plain facts on the answers of chapter 2: the codes, the day that is found, the number that is counted. No program is imported here. -/
namespace Go.Proofs.YtchffaohmeaccaaGreatDoor.Pure21
open Go.RowKit Pure2 Pure20

/-- the first error of holidays and days -/
noncomputable def code (zs ds : List Int) : Int := if hol zs = true then (if ds.all isDay = true then 0 else 2) else 1
theorem code_ok {zs ds : List Int} (h : Hol zs) (hd : ds.all isDay = true) : code zs ds = 0 := by rw [code, if_pos ((hol_iff zs).2 h), if_pos hd]
theorem code_day {zs ds : List Int} (h : Hol zs) (hd : ¬ ds.all isDay = true) : code zs ds = 2 := by rw [code, if_pos ((hol_iff zs).2 h), if_neg hd]
theorem code_hol {zs ds : List Int} (h : ¬ Hol zs) : code zs ds = 1 := by rw [code, if_neg (fun e => h ((hol_iff zs).1 e))]
theorem code_cases (zs ds : List Int) : (code zs ds = 0 ∧ Hol zs ∧ ds.all isDay = true) ∨ code zs ds = 1 ∨ code zs ds = 2 := by
  by_cases h : Hol zs
  · by_cases hd : ds.all isDay = true
    · exact .inl ⟨code_ok h hd, h, hd⟩
    · exact .inr (.inr (code_day h hd))
  · exact .inr (.inl (code_hol h))
theorem code_twice (zs : List Int) (d : Int) : code zs [d, d] = code zs [d] := by simp [code]
theorem code_zero {zs ds : List Int} (h : code zs ds = 0) : Hol zs ∧ ds.all isDay = true := by
  rcases code_cases zs ds with ⟨_, h1, h2⟩ | e | e
  · exact ⟨h1, h2⟩
  · rw [h] at e; cases e
  · rw [h] at e; cases e
theorem all_one {d : Int} (h : [d].all isDay = true) : 0 ≤ d ∧ d ≤ 20000 := by simpa [isDay] using h
theorem all_two {a b : Int} (h : [a, b].all isDay = true) : (0 ≤ a ∧ a ≤ 20000) ∧ 0 ≤ b ∧ b ≤ 20000 := by simpa [isDay, and_assoc] using h
theorem one_all {d : Int} (h : 0 ≤ d ∧ d ≤ 20000) : [d].all isDay = true := by simpa [isDay] using h
theorem two_all {a b : Int} (h : (0 ≤ a ∧ a ≤ 20000) ∧ 0 ≤ b ∧ b ≤ 20000) : [a, b].all isDay = true := by simpa [isDay, and_assoc] using h

/-- the first court day that is not before d -/
noncomputable def nextOf (zs : List Int) (d : Int) : Int := Classical.epsilon (fun r => IsNext zs d r)
theorem nextOf_eq {zs : List Int} {d r : Int} (h : IsNext zs d r) : nextOf zs d = r := isNext_inj (Classical.epsilon_spec (p := fun r => IsNext zs d r) ⟨r, h⟩) h
theorem nextOf_is {zs : List Int} (h : Hol zs) (d : Int) : IsNext zs d (nextOf zs d) ∧ nextOf zs d ≤ max d 20001 + 2 := by
  obtain ⟨r, h1, h2⟩ := next_exists (fun x hx => (hol_day h x hx).2) d
  rw [nextOf_eq h1]; exact ⟨h1, h2⟩
/-- the n-th court day behind d -/
noncomputable def addOf (zs : List Int) (d : Int) (n : Nat) : Int := Classical.epsilon (fun r => IsAdd zs d n r)
theorem addOf_eq {zs : List Int} {d r : Int} {n : Nat} (h : IsAdd zs d n r) : addOf zs d n = r := isAdd_inj (Classical.epsilon_spec (p := fun r => IsAdd zs d n r) ⟨r, h⟩) h
theorem add_there {zs : List Int} (h : Hol zs) {d : Int} (hd : d ≤ 20000) (n : Nat) : ∃ r, IsAdd zs d n r ∧ r ≤ 20003 + 3 * (n : Int) := by
  induction n with
  | zero => exact ⟨d, isAdd_zero zs d, by omega⟩
  | succ n ih =>
    obtain ⟨r, h1, h2⟩ := ih
    obtain ⟨h3, h4⟩ := nextOf_is h (r + 1)
    exact ⟨_, isAdd_step h1 h3, by omega⟩
theorem addOf_is {zs : List Int} (h : Hol zs) {d : Int} (hd : d ≤ 20000) (n : Nat) : IsAdd zs d n (addOf zs d n) ∧ addOf zs d n ≤ 20003 + 3 * (n : Int) := by
  obtain ⟨r, h1, h2⟩ := add_there h hd n
  rw [addOf_eq h1]; exact ⟨h1, h2⟩
theorem addOf_zero (zs : List Int) (d : Int) : addOf zs d 0 = d := addOf_eq (isAdd_zero zs d)
theorem addOf_succ {zs : List Int} (h : Hol zs) {d : Int} (hd : d ≤ 20000) (n : Nat) : nextOf zs (addOf zs d n + 1) = addOf zs d (n + 1) :=
  (addOf_eq (isAdd_step (addOf_is h hd n).1 (nextOf_is h _).1)).symm
/-- adding goes on: the other way round, a step ahead of n steps -/
theorem addOf_from {zs : List Int} (h : Hol zs) {d : Int} (n : Nat) : ∀ r, IsAdd zs d n r → IsAdd zs d (n + 1) (nextOf zs (r + 1)) := fun _ hr => isAdd_step hr (nextOf_is h _).1

/-- a day, or the limit's error -/
def lim (r : Int) : Int × Int := if 20000 < r then (0, 3) else (r, 0)
theorem lim_yes {r : Int} (h : 20000 < r) : lim r = (0, 3) := by rw [lim, if_pos h]
theorem lim_no {r : Int} (h : ¬ 20000 < r) : lim r = (r, 0) := by rw [lim, if_neg h]

noncomputable def courtR (zs : List Int) (d : Int) : Bool × Int := if code zs [d] = 0 then (court zs d, 0) else (false, code zs [d])
noncomputable def nextR (zs : List Int) (d : Int) : Int × Int := if code zs [d] = 0 then lim (nextOf zs d) else (0, code zs [d])
noncomputable def addR (zs : List Int) (d n : Int) : Int × Int := if code zs [d] = 0 then (if 0 ≤ n ∧ n ≤ 400 then lim (addOf zs d n.toNat) else (0, 2)) else (0, code zs [d])
noncomputable def cntR (zs : List Int) (a b : Int) : Int × Int := if code zs [a, b] = 0 then (count zs a b, 0) else (0, code zs [a, b])
noncomputable def deadR (zs : List Int) (d k : Int) : Int × Int := if code zs [d] = 0 then (if 0 ≤ k ∧ k ≤ 1000 then lim (nextOf zs (d + k)) else (0, 2)) else (0, code zs [d])
/-- the last court day that is not behind d, or the error that there is none -/
noncomputable def lastOf (zs : List Int) (d : Int) : Int × Int := @ite _ (∃ r, IsLast zs d r) (Classical.propDecidable _) (Classical.epsilon (fun r => IsLast zs d r), 0) (0, 4)
theorem lastOf_yes {zs : List Int} {d r : Int} (h : IsLast zs d r) : lastOf zs d = (r, 0) := by
  have hh : ∃ r, IsLast zs d r := ⟨r, h⟩
  rw [lastOf, if_pos hh, isLast_inj (Classical.epsilon_spec (p := fun r => IsLast zs d r) hh) h]
theorem lastOf_no {zs : List Int} {d : Int} (h : ∀ x, 0 ≤ x → x ≤ d → court zs x = false) : lastOf zs d = (0, 4) := by
  rw [lastOf, if_neg]
  rintro ⟨r, h1, h2, h3, _⟩
  rw [h r h1 h2] at h3; cases h3
theorem last_all (zs : List Int) (d : Int) : (∃ r, IsLast zs d r) ∨ ∀ x, 0 ≤ x → x ≤ d → court zs x = false := by
  by_cases hd : d < 0
  · exact .inr fun x h1 h2 => by omega
  obtain ⟨n, rfl⟩ := Int.eq_ofNat_of_zero_le (by omega : 0 ≤ d)
  clear hd
  induction n with
  | zero =>
    cases hc : court zs 0 with
    | true => exact .inl ⟨0, by omega, by simp, hc, fun x h1 h2 => by simp at h2; omega⟩
    | false => exact .inr fun x h1 h2 => by simp at h2; rw [show x = 0 by omega]; exact hc
  | succ n ih =>
    cases hc : court zs ((n + 1 : Nat) : Int) with
    | true => exact .inl ⟨_, by omega, Int.le_refl _, hc, fun x h1 h2 => by omega⟩
    | false =>
      rcases ih with ⟨r, h1, h2, h3, h4⟩ | h
      · refine .inl ⟨r, h1, by omega, h3, fun x h5 h6 => ?_⟩
        by_cases e : x = ((n + 1 : Nat) : Int)
        · rw [e]; exact hc
        · exact h4 x h5 (by omega)
      · refine .inr fun x h5 h6 => ?_
        by_cases e : x = ((n + 1 : Nat) : Int)
        · rw [e]; exact hc
        · exact h x h5 (by omega)
noncomputable def lastR (zs : List Int) (d : Int) : Int × Int := if code zs [d] = 0 then lastOf zs d else (0, code zs [d])
/-- the longest break in a .. b and its length, or the error that there is none -/
noncomputable def brkOf (zs : List Int) (a b : Int) : Int × Int × Int :=
  @ite _ (∃ p : Int × Int, IsBrk zs a b p.1 p.2) (Classical.propDecidable _) ((Classical.epsilon (fun p : Int × Int => IsBrk zs a b p.1 p.2)).1, (Classical.epsilon (fun p : Int × Int => IsBrk zs a b p.1 p.2)).2, 0) (0, 0, 4)
theorem brkOf_yes {zs : List Int} {a b s n : Int} (h : IsBrk zs a b s n) : brkOf zs a b = (s, n, 0) := by
  have hh : ∃ p : Int × Int, IsBrk zs a b p.1 p.2 := ⟨(s, n), h⟩
  obtain ⟨h1, h2⟩ := isBrk_inj (Classical.epsilon_spec (p := fun p : Int × Int => IsBrk zs a b p.1 p.2) hh) h
  rw [brkOf, if_pos hh, h1, h2]
theorem brkOf_no {zs : List Int} {a b : Int} (h : ∀ x, a ≤ x → x ≤ b → court zs x = true) : brkOf zs a b = (0, 0, 4) := by
  rw [brkOf, if_neg]
  rintro ⟨p, hp⟩
  exact isBrk_no hp h
noncomputable def brkR (zs : List Int) (a b : Int) : Int × Int × Int := if code zs [a, b] = 0 then (if 0 ≤ b - a ∧ b - a ≤ 999 then brkOf zs a b else (0, 0, 2)) else (0, 0, code zs [a, b])

theorem ite_iff {p q : Prop} [Decidable p] [Decidable q] (h : p ↔ q) (a b : Int) : (if p then a else b) = if q then a else b := by
  by_cases hp : p
  · rw [if_pos hp, if_pos (h.1 hp)]
  · rw [if_neg hp, if_neg (fun hq => hp (h.2 hq))]
/-- the days from Monday to Friday before d -/
def wd (d : Int) : Int := d / 7 * 5 + min (d % 7) 5
theorem wd_succ (d : Int) : wd (d + 1) = wd d + (if d % 7 < 5 then 1 else 0) := by unfold wd; split <;> omega
/-- the holidays before d that are no Saturday or Sunday -/
def hcn (d : Int) : List Int → Int
  | [] => 0
  | h :: t => (if h < d ∧ h % 7 < 5 then 1 else 0) + hcn d t
theorem hcn_append (d : Int) (a b : List Int) : hcn d (a ++ b) = hcn d a + hcn d b := by
  induction a with
  | nil => simp [hcn]
  | cons x r ih => rw [List.cons_append, hcn, hcn, ih]; omega
theorem hcn_snoc (d : Int) (a : List Int) (x : Int) : hcn d (a ++ [x]) = hcn d a + (if x < d ∧ x % 7 < 5 then 1 else 0) := by rw [hcn_append]; simp [hcn]
theorem hcn_bd (d : Int) (zs : List Int) : 0 ≤ hcn d zs ∧ hcn d zs ≤ zs.length := by
  induction zs with
  | nil => simp [hcn]
  | cons x r ih => rw [hcn, List.length_cons]; split <;> omega
theorem hcn_none {d : Int} {zs : List Int} (h : d ∉ zs) : hcn (d + 1) zs = hcn d zs := by
  induction zs with
  | nil => rfl
  | cons x r ih =>
    have hx : x ≠ d := fun e => h (by rw [e]; exact List.mem_cons_self ..)
    have e : (x < d + 1 ∧ x % 7 < 5) ↔ (x < d ∧ x % 7 < 5) := by omega
    rw [hcn, hcn, ih (fun hm => h (List.mem_cons_of_mem _ hm)), ite_iff e]
theorem hcn_succ {zs : List Int} (hn : zs.Nodup) (d : Int) : hcn (d + 1) zs = hcn d zs + (if d ∈ zs ∧ d % 7 < 5 then 1 else 0) := by
  induction zs with
  | nil => simp [hcn]
  | cons x r ih =>
    rw [List.nodup_cons] at hn
    by_cases e : x = d
    · subst e
      rw [hcn, hcn, hcn_none hn.1, if_neg (by omega : ¬ (x < x ∧ x % 7 < 5))]
      by_cases h5 : x % 7 < 5
      · rw [if_pos ⟨by omega, h5⟩, if_pos ⟨List.mem_cons_self .., h5⟩]; omega
      · rw [if_neg (fun h => h5 h.2), if_neg (fun h => h5 h.2)]; omega
    · have e1 : (x < d + 1 ∧ x % 7 < 5) ↔ (x < d ∧ x % 7 < 5) := by omega
      have e2 : (d ∈ x :: r ∧ d % 7 < 5) ↔ (d ∈ r ∧ d % 7 < 5) := by
        rw [List.mem_cons]; constructor
        · rintro ⟨h | h, h'⟩
          · exact absurd h.symm e
          · exact ⟨h, h'⟩
        · rintro ⟨h, h'⟩; exact ⟨.inr h, h'⟩
      rw [hcn, hcn, ih hn.2, ite_iff e1, ite_iff e2]; omega
theorem hcn_zero {zs : List Int} (h : ∀ x ∈ zs, 0 ≤ x) : hcn 0 zs = 0 := by
  induction zs with
  | nil => rfl
  | cons x r ih =>
    have := h x (List.mem_cons_self ..)
    rw [hcn, ih (fun y hy => h y (List.mem_cons_of_mem _ hy)), if_neg (by omega)]; rfl
theorem hol_lt {zs : List Int} (h : Hol zs) : ∀ (k i : Nat) (x y : Int), zs[i]? = some x → zs[i + k + 1]? = some y → x < y := by
  intro k
  induction k with
  | zero => intro i x y hx hy; exact h.2.1 i x y hx hy
  | succ k ih =>
    intro i x y hx hy
    have hl := (List.getElem?_eq_some_iff.1 hy).1
    have h1 := ih i x _ hx (List.getElem?_eq_getElem (by omega : i + k + 1 < zs.length))
    have h2 := h.2.1 (i + k + 1) _ y (List.getElem?_eq_getElem (by omega : i + k + 1 < zs.length)) (by rw [← hy]; congr 1)
    omega
theorem hol_pair {zs : List Int} (h : Hol zs) : zs.Pairwise (· < ·) := by
  rw [List.pairwise_iff_getElem]
  intro i j hi hj hij
  exact hol_lt h (j - i - 1) i _ _ (List.getElem?_eq_getElem hi) (by rw [show i + (j - i - 1) + 1 = j by omega]; exact List.getElem?_eq_getElem hj)
theorem hol_nodup {zs : List Int} (h : Hol zs) : zs.Nodup := (hol_pair h).imp fun h' => by omega
theorem count_nat {zs : List Int} (h : Hol zs) (k : Nat) : count zs 0 (k : Int) = wd k - hcn k zs := by
  induction k with
  | zero =>
    rw [show ((0 : Nat) : Int) = 0 from rfl, count_none (Int.le_refl 0), hcn_zero (fun x hx => (hol_day h x hx).1)]; rfl
  | succ k ih =>
    rw [show ((k + 1 : Nat) : Int) = (k : Int) + 1 by omega, count_snoc (by omega), ih, wd_succ, hcn_succ (hol_nodup h)]
    by_cases h5 : (k : Int) % 7 < 5
    · by_cases hm : (k : Int) ∈ zs
      · rw [if_neg (by rw [court_iff]; exact fun h => h.2 hm), if_pos h5, if_pos ⟨hm, h5⟩]; omega
      · rw [if_pos ((court_iff zs _).2 ⟨h5, hm⟩), if_pos h5, if_neg (fun h => hm h.1)]; omega
    · rw [if_neg (by rw [court_iff]; exact fun h => h5 h.1), if_neg h5, if_neg (fun h => h5 h.2)]; omega
theorem count_wd {zs : List Int} (h : Hol zs) {d : Int} (hd : 0 ≤ d) : wd d - hcn d zs = count zs 0 d := by
  obtain ⟨k, rfl⟩ := Int.eq_ofNat_of_zero_le hd
  exact (count_nat h k).symm
theorem count_diff {zs : List Int} {a b : Int} (h0 : 0 ≤ a) (h : a ≤ b) : count zs 0 b - count zs 0 a = count zs a b := by rw [count_add h0 h]; omega

/-- whether x is in zs -/
def has (zs : List Int) (x : Int) : Bool := zs.contains x
theorem court_has (zs : List Int) (d : Int) : court zs d = (decide (d % 7 < 5) && !has zs d) := rfl
/-- what a search in a sorted list comes to -/
theorem found_yes {zs : List Int} {k : Nat} {x : Int} (h : zs[k]? = some x) : has zs x = true := by unfold has; simpa using List.mem_of_getElem? h
theorem found_not {zs : List Int} {x : Int} (h : x ∉ zs) : has zs x = false := by unfold has; simpa using h
theorem found_no {zs : List Int} {k : Nat} {x : Int} (h1 : ∀ t y, t < k → zs[t]? = some y → y < x) (h2 : ∀ t y, k ≤ t → zs[t]? = some y → x < y) : has zs x = false := by
  refine found_not fun h => ?_
  obtain ⟨t, ht⟩ := List.mem_iff_getElem?.1 h
  by_cases e : t < k
  · have := h1 t x e ht; omega
  · have := h2 t x (by omega) ht; omega

end Go.Proofs.YtchffaohmeaccaaGreatDoor.Pure21
/- Plain facts on chapter 9: sending a summons; what the laws need. -/
namespace Go.Proofs.YtchffaohmeaccaaGreatDoor
open Pure2 Pure20 Pure21 Pure40

noncomputable def sendL (hs : List Int) (ts : List Summons) (n d k : Int) : List Summons × Int :=
  if (deadR hs d k).2 = 0 then (if areM (insM ts ⟨n, d, (deadR hs d k).1, 0, 0⟩) = true then (insM ts ⟨n, d, (deadR hs d k).1, 0, 0⟩, 0) else ([], 5)) else ([], (deadR hs d k).2)
noncomputable def sendR (hs : List Int) (ts : List Summons) (n d k : Int) : List Summons × Int :=
  if hol hs = true ∧ areM ts = true then (if inR n 1 1000000 = true then sendL hs ts n d k else ([], 2)) else ([], 1)
theorem sendR_1 {hs : List Int} {ts : List Summons} {n d k : Int} (h : ¬ (hol hs = true ∧ areM ts = true)) : sendR hs ts n d k = ([], 1) := by unfold sendR; rw [if_neg h]
theorem sendR_2 {hs : List Int} {ts : List Summons} {n d k : Int} (h : hol hs = true ∧ areM ts = true) (h1 : inR n 1 1000000 = false) : sendR hs ts n d k = ([], 2) := by unfold sendR; rw [if_pos h, if_neg (by rw [h1]; decide)]
theorem sendR_c {hs : List Int} {ts : List Summons} {n d k due c : Int} (h : hol hs = true ∧ areM ts = true) (h1 : inR n 1 1000000 = true) (h2 : deadR hs d k = (due, c)) (hc : c ≠ 0) : sendR hs ts n d k = ([], c) := by
  unfold sendR sendL; rw [if_pos h, if_pos h1, h2, if_neg hc]
theorem sendR_0 {hs : List Int} {ts : List Summons} {n d k due : Int} (h : hol hs = true ∧ areM ts = true) (h1 : inR n 1 1000000 = true) (h2 : deadR hs d k = (due, 0)) :
    sendR hs ts n d k = if areM (insM ts ⟨n, d, due, 0, 0⟩) = true then (insM ts ⟨n, d, due, 0, 0⟩, 0) else ([], 5) := by
  unfold sendR sendL; rw [if_pos h, if_pos h1, h2, if_pos rfl]
/-- what a deadline is -/
theorem deadR_cases (hs : List Int) (d k : Int) : (∃ due, deadR hs d k = (due, 0) ∧ hol hs = true ∧ (0 ≤ d ∧ d ≤ 20000) ∧ d ≤ due ∧ due ≤ 20000) ∨ (∃ c, deadR hs d k = (0, c) ∧ (c = 1 ∨ c = 2 ∨ c = 3)) := by
  unfold deadR
  rcases code_cases hs [d] with ⟨h, h1, h2⟩ | h | h
  · rw [if_pos h]
    by_cases hk : 0 ≤ k ∧ k ≤ 1000
    · rw [if_pos hk]
      have hn := (nextOf_is h1 (d + k)).1.1
      by_cases hl : 20000 < nextOf hs (d + k)
      · exact .inr ⟨3, by rw [lim_yes hl], by omega⟩
      · exact .inl ⟨_, by rw [lim_no hl], (hol_iff hs).2 h1, all_one h2, by omega, by omega⟩
    · exact .inr ⟨2, by rw [if_neg hk], by omega⟩
  · exact .inr ⟨1, by rw [if_neg (by omega), h], by omega⟩
  · exact .inr ⟨2, by rw [if_neg (by omega), h], by omega⟩
theorem sendR_cases (hs : List Int) (ts : List Summons) (n d k : Int) :
    (∃ due, sendR hs ts n d k = (insM ts ⟨n, d, due, 0, 0⟩, 0) ∧ hol hs = true ∧ areM ts = true ∧ areM (insM ts ⟨n, d, due, 0, 0⟩) = true ∧ (0 ≤ d ∧ d ≤ 20000)) ∨
    (∃ c, sendR hs ts n d k = ([], c) ∧ (c = 1 ∨ c = 2 ∨ c = 3 ∨ c = 5)) := by
  by_cases h : hol hs = true ∧ areM ts = true
  · cases h1 : inR n 1 1000000
    · exact .inr ⟨2, sendR_2 h h1, by omega⟩
    · rcases deadR_cases hs d k with ⟨due, e, _, hd, _⟩ | ⟨c, e, hc⟩
      · rw [sendR_0 h h1 e]
        by_cases ha : areM (insM ts ⟨n, d, due, 0, 0⟩) = true
        · exact .inl ⟨due, by rw [if_pos ha], h.1, h.2, ha, hd⟩
        · exact .inr ⟨5, by rw [if_neg ha], by omega⟩
      · exact .inr ⟨c, sendR_c h h1 e (by omega), by omega⟩
  · exact .inr ⟨1, sendR_1 h, by omega⟩
theorem sendR_small (hs : List Int) (ts : List Summons) (n d k : Int) : (sendR hs ts n d k).1.length ≤ 20 := by
  rcases sendR_cases hs ts n d k with ⟨due, e, _, _, h, _⟩ | ⟨c, e, _⟩
  · rw [e]; exact areM_len h
  · rw [e]; exact Nat.zero_le _

/-! what the laws need -/
theorem overM_open {d : Int} {s : Summons} (h : overM d s = true) : openM d s = true := by unfold overM at h; simp only [Bool.and_eq_true] at h; exact h.1
theorem remM_open {d : Int} {s : Summons} (h : remM d s = true) : openM d s = true := by unfold remM at h; simp only [Bool.and_eq_true] at h; exact h.1
theorem numsM_mem {p : Summons → Bool} {ts : List Summons} {x : Int} : x ∈ numsM p ts ↔ ∃ (i : Nat) (s : Summons), ts[i]? = some s ∧ p s = true ∧ s.num = x := by
  unfold numsM
  rw [List.mem_map]
  constructor
  · rintro ⟨s, h, e⟩
    rw [List.mem_filter] at h
    obtain ⟨i, hi⟩ := List.mem_iff_getElem?.1 h.1
    exact ⟨i, s, hi, h.2, e⟩
  · rintro ⟨i, s, hi, h, e⟩
    exact ⟨s, List.mem_filter.2 ⟨List.mem_of_getElem? hi, h⟩, e⟩
theorem numsM_sub {p q : Summons → Bool} (h : ∀ s, p s = true → q s = true) {ts : List Summons} {x : Int} (hx : x ∈ numsM p ts) : x ∈ numsM q ts := by
  obtain ⟨i, s, h1, h2, h3⟩ := numsM_mem.1 hx
  exact numsM_mem.2 ⟨i, s, h1, h s h2, h3⟩
/-- the list of one who answered is of summonses, and they are not open then -/
theorem answered_ok {s : Summons} {a d : Int} (h : okM s = true) (ha : 1 ≤ a ∧ a ≤ 3) (hd : s.sent ≤ d ∧ d ≤ 20000) : okM (answered s a d) = true := by
  obtain ⟨h1, h2, h3, _⟩ := okM_parts h
  exact okM_of h1 h2 h3 (.inr ⟨ha, hd⟩)
theorem set_are {ts : List Summons} {k : Nat} {s x : Summons} (h : areM ts = true) (hs : ts[k]? = some s) (hx : okM x = true) (hn : x.num = s.num) : areM (ts.set k x) = true := by
  have hk := lt_of_getM hs
  refine (areM_iff _).2 ⟨?_, by rw [List.length_set]; exact areM_len h⟩
  have hat : ∀ (i : Nat) y, (ts.set k x)[i]? = some y → (i = k ∧ y = x) ∨ (i ≠ k ∧ ts[i]? = some y) := by
    intro i y hy
    by_cases e : i = k
    · subst e; rw [List.getElem?_set_self hk] at hy; cases hy; exact .inl ⟨rfl, rfl⟩
    · rw [List.getElem?_set_ne (by omega)] at hy; exact .inr ⟨e, hy⟩
  intro i a _ ha
  rcases hat i a ha with ⟨rfl, rfl⟩ | ⟨e, ha'⟩
  · refine ⟨hx, fun b h0 hb => ?_⟩
    rcases hat _ b hb with ⟨e, _⟩ | ⟨_, hb'⟩
    · omega
    · rw [hn]; exact areM_lt h i (i - 1) (by omega) hb' hs
  · refine ⟨areM_at h ha', fun b h0 hb => ?_⟩
    rcases hat _ b hb with ⟨e, rfl⟩ | ⟨_, hb'⟩
    · rw [hn]; exact areM_lt h i (i - 1) (by omega) (by rw [e]; exact hs) ha'
    · exact areM_lt h i (i - 1) (by omega) hb' ha'
/-- after an answer: open that day can be asked, and they are not among the open ones -/
theorem ans_then {ts : List Summons} {n a d : Int} {ys : List Summons} (h : ansR9 ts n a d = (ys, 0)) : areM ys = true ∧ (onR openM ys d).2 = 0 ∧ n ∉ (onR openM ys d).1 := by
  rcases codeA_cases ts a d with ⟨hc, ha, hd, hb⟩ | hc | hc
  · rw [ansR9_ok hc] at h
    rcases ansL_cases ts n a d with ⟨s, hw, h0, h1, e⟩ | e | e
    · rw [e] at h
      injection h with h _; subst h
      obtain ⟨hs, hn⟩ := whoM_some hw
      have hok := answered_ok (areM_at ha hs) hb ⟨h1, hd.2⟩
      have hy := set_are ha hs hok rfl
      have hk := codeM_0 hy ((isDay_iff d).2 hd)
      rw [onR_ok hk]
      refine ⟨hy, rfl, fun hm => ?_⟩
      obtain ⟨i, x, hx, hp, he⟩ := numsM_mem.1 hm
      have hl := lt_of_getM hs
      by_cases c : i = placeM ts n
      · subst c
        rw [List.getElem?_set_self hl] at hx; cases hx
        unfold openM answered at hp
        simp at hp; omega
      · rw [List.getElem?_set_ne (by omega)] at hx
        exact c ((place_found ha hx he).symm)
    · rw [e] at h; injection h with _ h; omega
    · rw [e] at h; injection h with _ h; omega
  · rw [ansR9_bad hc (by omega)] at h; injection h with _ h; omega
  · rw [ansR9_bad hc (by omega)] at h; injection h with _ h; omega
/-- after sending: they are among the open ones of the day -/
theorem send_then {hs : List Int} {ts : List Summons} {n d k : Int} {ys : List Summons} (h : sendR hs ts n d k = (ys, 0)) : areM ys = true ∧ ys.length = ts.length + 1 ∧ (onR openM ys d).2 = 0 ∧ n ∈ (onR openM ys d).1 := by
  rcases sendR_cases hs ts n d k with ⟨due, e, _, _, hy, hd⟩ | ⟨c, e, hc⟩
  · rw [e] at h
    injection h with h _; subst h
    have hk := codeM_0 hy ((isDay_iff d).2 hd)
    rw [onR_ok hk]
    refine ⟨hy, insM_len _ _, rfl, numsM_mem.2 ⟨placeM ts n, (⟨n, d, due, 0, 0⟩ : Summons), ?_, ?_, rfl⟩⟩
    · rw [insM_at, if_neg (by simp), if_pos rfl]
    · unfold openM; simp
  · rw [e] at h; injection h with _ h; omega
/-- a next reminder is one: somebody is reminded on it -/
theorem next_then {ts : List Summons} {d n : Int} (h : nextR9 ts d = (n, 0)) : (onR remM ts n).2 = 0 ∧ (onR remM ts n).1.length ≠ 0 ∧ d < n := by
  rcases codeM_cases ts d with ⟨hc, ha, hd⟩ | hc | hc
  · rw [nextR9_ok hc] at h
    rcases remL_cases ts d with ⟨m, hf, e⟩ | e
    · rw [e] at h
      injection h with h _; subst h
      obtain ⟨h1, h2, ⟨i, s, hs, h0, hr⟩, _⟩ := hf
      have hk := codeM_0 (d := m) ha ((isDay_iff m).2 ⟨by omega, h2⟩)
      rw [onR_ok hk]
      refine ⟨rfl, fun hl => ?_, h1⟩
      have hm : s.num ∈ numsM (remM m) ts := numsM_mem.2 ⟨i, s, hs, ?_, rfl⟩
      · have e0 : numsM (remM m) ts = [] := List.length_eq_zero_iff.1 hl
        rw [e0] at hm; cases hm
      · obtain ⟨_, _, p3, _⟩ := okM_parts (areM_at ha hs)
        have := (remD_iff m s).1 hr
        unfold remM openM
        rw [hr, h0]
        simp; omega
    · rw [e] at h; injection h with _ h; omega
  · rw [nextR9_bad hc (by omega)] at h; injection h with _ h; omega
  · rw [nextR9_bad hc (by omega)] at h; injection h with _ h; omega
/-- all answers are counted once -/
theorem cnt_open (ts : List Summons) (d : Int) : cntM ts d ts.length 0 = (numsM (openM d) ts).length := by
  unfold cntM numsM
  rw [List.take_length, List.length_map]
  congr 3
  funext s
  rw [openM_by]
theorem cnt_sum (ts : List Summons) (d : Int) : ∀ k, k ≤ ts.length → cntM ts d k 0 + cntM ts d k 1 + cntM ts d k 2 + cntM ts d k 3 ≤ k := by
  intro k
  induction k with
  | zero => intro _; simp [cntM_zero]
  | succ k ih =>
    intro hk
    have hs : ts[k]? = some (ts[k]'(by omega)) := List.getElem?_eq_getElem (by omega)
    have := ih (by omega)
    rw [cntM_step hs, cntM_step hs, cntM_step hs, cntM_step hs]
    (repeat' split) <;> omega
end Go.Proofs.YtchffaohmeaccaaGreatDoor
/- What make lays for slices of int64 and of texts. -/
namespace Go.Proofs.YtchffaohmeaccaaGreatDoor
theorem Tryz.info_i64 : (Tryz.prog.info? 2).map (fun i => (i.zero, i.size, i.bytes)) = some (some (.int .i64 0), 1, 8) := by kernel_rfl
theorem Tryz.info_str : (Tryz.prog.info? 9).map (fun i => (i.zero, i.size, i.bytes)) = some (some (.string ⟨#[]⟩), 1, 16) := by kernel_rfl
end Go.Proofs.YtchffaohmeaccaaGreatDoor
/- The laws' own helpers on Summons: sz, to, eq, mark, held, for one and for a slice. (written by flat.py) -/
namespace Go.Proofs.YtchffaohmeaccaaGreatDoor
open Go.RowKit Go.Sort Pure1 Pure2
set_option linter.unusedSimpArgs false

theorem Summons.bx (w : World) (o : Obj) : Below w.heap.size w (w.alloc o) := (Below.refl _ _).alloc (Nat.le_refl _) o
theorem Summons.results1 {fn : Func} {p : Tmp} {ty : TypeId} (h : fn.results = #[.cell p ty]) (tmps : Array Value) (P : Program) (w : World) :
    (results fn tmps).run P w = ((asAddr (tmps.getD p undef)).run P w).andThen fun a w₁ => (loadVar ty a).run P w₁ := by
  simp only [results, h]
  simp [Sem.run_bind, Result.andThen]

theorem Tryz.infoSummons : (Tryz.prog.info? 58).map (fun i => (i.zero, i.size, i.bytes)) = some (some (.agg #[.int .i64 0, .int .i64 0, .int .i64 0, .int .i64 0, .int .i64 0]), 5, 40) := by kernel_rfl
theorem run_makeSummons (len : Nat) (hm : len ≤ 1048576) (W : World) : (Instr.makeSlice 25 (.int .i64 (len : Int)) (.int .i64 (len : Int))).run Tryz.prog W = .ok (.slice (some ⟨W.heap.size, 0, none⟩) len len) (W.alloc (.cells (madeCells #[.int .i64 0, .int .i64 0, .int .i64 0, .int .i64 0, .int .i64 0] (len * 5)) 58)) := by
  obtain ⟨i, hi, hzz⟩ := Option.map_eq_some_iff.1 Tryz.infoSummons
  simp only [Prod.mk.injEq] at hzz
  obtain ⟨hz, hs, hb⟩ := hzz
  have hr := run_make (P := Tryz.prog) W 25 58 i _ Tryz.underlying25 hi hz .i64 .i64 len len (by omega) (Int.le_refl _) (by rw [hb]; omega) (by omega)
  simp only [Int.toNat_natCast, hs] at hr
  exact hr
theorem Summons.made (w : World) (z : Array Value) (n : Nat) (T : TypeId) : (w.alloc (.cells (madeCells z n) T)).rowIs w.heap.size T n (fun j => ((madeCells z n)[j]?).getD undef) := by
  have := World.rowIs_alloc w (madeCells z n) T (fun j => ((madeCells z n)[j]?).getD undef) (fun i hi => by rw [Array.getElem?_eq_getElem hi]; rfl)
  rwa [size_madeCells] at this
/-- the first n of them lie in the cells f -/
def Summons.Row (f : Nat → Value) (ts : List Summons) (n : Nat) : Prop := ∀ i c, i < n → ts[i]? = some c → f (i * 5) = .int .i64 c.num ∧ f (i * 5 + 1) = .int .i64 c.sent ∧ f (i * 5 + 2) = .int .i64 c.due ∧ f (i * 5 + 3) = .int .i64 c.ans ∧ f (i * 5 + 4) = .int .i64 c.done
def Summons.put (f : Nat → Value) (n : Nat) (c : Summons) : Nat → Value := fun j => if j = n * 5 + 4 then .int .i64 c.done else if j = n * 5 + 3 then .int .i64 c.ans else if j = n * 5 + 2 then .int .i64 c.due else if j = n * 5 + 1 then .int .i64 c.sent else if j = n * 5 then .int .i64 c.num else f j
theorem Summons.Row.step {f : Nat → Value} {ts : List Summons} {n : Nat} {c : Summons} (h : Summons.Row f ts n) (hc : ts[n]? = some c) : Summons.Row (Summons.put f n c) ts (n + 1) := by
  intro i q hi hq
  unfold Summons.put
  by_cases e : i = n
  · subst e
    rw [hc] at hq; cases hq
    simp
  · have hi' : i < n := by omega
    obtain ⟨h0, h1, h2, h3, h4⟩ := h i q hi' hq
    refine ⟨?_, ?_, ?_, ?_, ?_⟩ <;> (repeat rw [if_neg (by omega)]) <;> assumption
theorem Summons.row_put {w : World} {b : Nat} {T : TypeId} {N : Nat} {f : Nat → Value} (h : w.rowIs b T N f) (n : Nat) (c : Summons) : ((((((w.setCell ⟨b, n * 5, none⟩ (.int .i64 c.num)).setCell ⟨b, n * 5 + 1, none⟩ (.int .i64 c.sent)).setCell ⟨b, n * 5 + 2, none⟩ (.int .i64 c.due)).setCell ⟨b, n * 5 + 3, none⟩ (.int .i64 c.ans)).setCell ⟨b, n * 5 + 4, none⟩ (.int .i64 c.done))).rowIs b T N (Summons.put f n c) := (((((h.set (n * 5) (.int .i64 c.num)).set (n * 5 + 1) (.int .i64 c.sent)).set (n * 5 + 2) (.int .i64 c.due)).set (n * 5 + 3) (.int .i64 c.ans)).set (n * 5 + 4) (.int .i64 c.done))
/-- a slice in a row of the call's own (from block B on): the cells of its first len are the numbers g -/
def Summons.Own (B : Nat) (w : World) (a : Option Addr) (len : Nat) (g : Nat → Int) : Prop :=
  len = 0 ∨ ∃ b f N, a = some ⟨b, 0, none⟩ ∧ B ≤ b ∧ len ≤ N ∧ w.rowIs b 58 (N * 5) f ∧ ∀ i, i < len * 5 → f i = .int .i64 (g i)
theorem Summons.Own.below {B : Nat} {w w' : World} {a : Option Addr} {len : Nat} {g : Nat → Int} (h : Summons.Own B w a len g) (hb : Below w.heap.size w w') : Summons.Own B w' a len g := by
  rcases h with h | ⟨b, f, N, rfl, hB, hN, hr, hf⟩
  · exact .inl h
  · exact .inr ⟨b, f, N, rfl, hB, hN, hr.of_block (hb.block b hr.lt), hf⟩
theorem Summons.Own.grown {B q : Nat} {w w' : World} {a : Option Addr} {len : Nat} {g : Nat → Int} (h : Summons.Own B w a len g) (hg : w.grownBy w' (some q)) (hq : q < B) : Summons.Own B w' a len g := by
  rcases h with h | ⟨b, f, N, rfl, hB, hN, hr, hf⟩
  · exact .inl h
  · exact .inr ⟨b, f, N, rfl, hB, hN, hr.of_block (hg.block b hr.lt (fun e => by have := Option.some.inj e; omega)), hf⟩
theorem Summons.Own.mono {B C : Nat} {w : World} {a : Option Addr} {len : Nat} {g : Nat → Int} (h : Summons.Own C w a len g) (hBC : B ≤ C) : Summons.Own B w a len g := by
  rcases h with h | ⟨b, f, N, rfl, hB, rest⟩
  · exact .inl h
  · exact .inr ⟨b, f, N, rfl, Nat.le_trans hBC hB, rest⟩
theorem Summons.Own.at {B : Nat} {w : World} {a : Option Addr} {len : Nat} {g : Nat → Int} (h : Summons.Own B w a len g) {n : Nat} (hn : n < len) :
    ∃ b, a = some ⟨b, 0, none⟩ ∧ w.cell? ⟨b, n * 5, none⟩ = some (.int .i64 (g (n * 5))) ∧ w.cell? ⟨b, n * 5 + 1, none⟩ = some (.int .i64 (g (n * 5 + 1))) ∧ w.cell? ⟨b, n * 5 + 2, none⟩ = some (.int .i64 (g (n * 5 + 2))) ∧ w.cell? ⟨b, n * 5 + 3, none⟩ = some (.int .i64 (g (n * 5 + 3))) ∧ w.cell? ⟨b, n * 5 + 4, none⟩ = some (.int .i64 (g (n * 5 + 4))) := by
  rcases h with h | ⟨b, f, N, rfl, hB, hN, hr, hf⟩
  · omega
  · exact ⟨b, rfl, (by rw [hr.cell (by omega), hf _ (by omega)]), (by rw [hr.cell (by omega), hf _ (by omega)]), (by rw [hr.cell (by omega), hf _ (by omega)]), (by rw [hr.cell (by omega), hf _ (by omega)]), (by rw [hr.cell (by omega), hf _ (by omega)])⟩
/-- the numbers of a list, one behind the other -/
def Summons.flat (ts : List Summons) (j : Nat) : Int := match ts[j / 5]? with | some c => ([c.num, c.sent, c.due, c.ans, c.done].getD (j % 5) 0) | none => 0
theorem Summons.flat_at {ts : List Summons} {i : Nat} {c : Summons} (h : ts[i]? = some c) : Summons.flat ts (i * 5) = c.num ∧ Summons.flat ts (i * 5 + 1) = c.sent ∧ Summons.flat ts (i * 5 + 2) = c.due ∧ Summons.flat ts (i * 5 + 3) = c.ans ∧ Summons.flat ts (i * 5 + 4) = c.done := by
  refine ⟨?_, ?_, ?_, ?_, ?_⟩ <;> (unfold Summons.flat; simp only [show ∀ m, m < 5 → (i * 5 + m) / 5 = i from fun m hm => by omega, show ∀ m, m < 5 → (i * 5 + m) % 5 = m from fun m hm => by omega, show (i * 5) / 5 = i by omega, show (i * 5) % 5 = 0 by omega, show (0 : Nat) < 5 by omega, show (1 : Nat) < 5 by omega, show (2 : Nat) < 5 by omega, show (3 : Nat) < 5 by omega, show (4 : Nat) < 5 by omega, h]; rfl)
theorem Summons.Own.reads {B : Nat} {w : World} {a : Option Addr} {ts : List Summons} (h : Summons.Own B w a ts.length (Summons.flat ts)) : Summons.ListAt w a ts := by
  by_cases h0 : ts.length = 0
  · exact .inl (List.length_eq_zero_iff.1 h0)
  · obtain ⟨b, rfl, _⟩ := h.at (n := 0) (by omega)
    refine .inr ⟨b, 0, rfl, fun i c hc => ?_⟩
    obtain ⟨b', e, hcells⟩ := h.at (List.getElem?_eq_some_iff.1 hc).1
    cases e
    obtain ⟨h0, h1, h2, h3, h4⟩ := hcells
    obtain ⟨g0, g1, g2, g3, g4⟩ := Summons.flat_at hc
    rw [Nat.zero_add]
    exact ⟨h0.trans (by rw [g0]), h1.trans (by rw [g1]), h2.trans (by rw [g2]), h3.trans (by rw [g3]), h4.trans (by rw [g4])⟩
end Go.Proofs.YtchffaohmeaccaaGreatDoor
/- Lists of Summons that a call builds by appending. (written by flat.py) -/
namespace Go.Proofs.YtchffaohmeaccaaGreatDoor
open Go.RowKit Pure1 Pure2

def Summons.vals (ts : List Summons) : List Value := ts.flatMap Summons.cells
theorem Summons.vals_cons (p : Summons) (ts : List Summons) : Summons.vals (p :: ts) = p.cells ++ Summons.vals ts := rfl
theorem Summons.vals_append (ts qs : List Summons) : Summons.vals (ts ++ qs) = Summons.vals ts ++ Summons.vals qs := by simp [Summons.vals]
theorem Summons.vals_len : ∀ ts : List Summons, (Summons.vals ts).length = ts.length * 5
  | [] => rfl
  | p :: ts => by rw [Summons.vals_cons, List.length_append, Summons.vals_len ts, List.length_cons]; show 5 + _ = _; omega
theorem Summons.vals_at {ts : List Summons} {i : Nat} {p : Summons} (h : ts[i]? = some p) : ∀ k, k < 5 → (Summons.vals ts)[i * 5 + k]? = p.cells[k]? := by
  induction ts generalizing i with
  | nil => simp at h
  | cons q qs ih =>
    intro k hk
    rw [Summons.vals_cons]
    cases i with
    | zero =>
      simp at h; subst h
      rw [List.getElem?_append_left (by show 0 * 5 + k < 5; omega)]
      congr 1; omega
    | succ i =>
      rw [List.getElem?_append_right (by show 5 ≤ _; omega)]
      have := ih (i := i) (by simpa using h) k hk
      rw [show (i + 1) * 5 + k - q.cells.length = i * 5 + k from by show (i + 1) * 5 + k - 5 = _; omega]
      exact this
theorem Summons.vals_one {ts : List Summons} : ∀ u ∈ Summons.vals ts, u.oneCell' = true := by
  intro u hu
  obtain ⟨p, _, hp⟩ := List.mem_flatMap.1 hu
  simp only [Summons.cells, List.mem_cons, List.not_mem_nil, or_false] at hp
  rcases hp with rfl | rfl | rfl | rfl | rfl <;> rfl

/-- a list of our own, from block B on -/
def Summons.L (w : World) (B : Nat) (v : Value) (ts : List Summons) : Prop :=
  (∃ g cap, v = .slice (some ⟨g, 0, none⟩) ts.length cap) ∧ w.ownsRow B 58 5 v ts.length (Summons.vals ts)
theorem Summons.L.cell {w : World} {B g cap n : Nat} {ts : List Summons} (h : Summons.L w B (.slice (some ⟨g, 0, none⟩) n cap) ts) {j : Nat} {u : Value} (hu : (Summons.vals ts)[j]? = some u) : w.cell? ⟨g, j, none⟩ = some u := by
  have := h.2.cells (g := g) rfl j u hu
  rw [show (⟨g, 0, none⟩ : Addr).add j = ⟨g, j, none⟩ from by simp [Addr.add]; intro h; exact h.symm] at this
  exact this
theorem Summons.L.at {w : World} {B g cap n : Nat} {ts : List Summons} (h : Summons.L w B (.slice (some ⟨g, 0, none⟩) n cap) ts) {i : Nat} {p : Summons} (hp : ts[i]? = some p) : Summons.At w g (i * 5) p :=
  ⟨h.cell (Summons.vals_at hp 0 (by omega)), h.cell (Summons.vals_at hp 1 (by omega)), h.cell (Summons.vals_at hp 2 (by omega)), h.cell (Summons.vals_at hp 3 (by omega)), h.cell (Summons.vals_at hp 4 (by omega))⟩
theorem Summons.L.reads {w : World} {B g cap n : Nat} {ts : List Summons} (h : Summons.L w B (.slice (some ⟨g, 0, none⟩) n cap) ts) : Summons.ListAt w (some ⟨g, 0, none⟩) ts :=
  .inr ⟨g, 0, rfl, fun i p hp => by rw [Nat.zero_add]; exact h.at hp⟩
theorem Summons.L.below {w w' : World} {B : Nat} {v : Value} {ts : List Summons} (h : Summons.L w B v ts) (hb : Below w.heap.size w w') : Summons.L w' B v ts := by
  obtain ⟨⟨g, cap, rfl⟩, h1, h2⟩ := h
  refine ⟨⟨g, cap, rfl⟩, h1, ?_⟩
  rcases h2 with ⟨h3, _⟩ | ⟨g', cap', cur, h3, h4, h5, h6⟩
  · cases h3
  · exact .inr ⟨g', cap', cur, h3, h4, (hb.block _ (Array.getElem?_eq_some_iff.1 h5).1).trans h5, h6⟩
theorem Summons.L.base {w : World} {B B' : Nat} {v : Value} {ts : List Summons} (h : Summons.L w B v ts) (hb : B' ≤ B) : Summons.L w B' v ts := by
  obtain ⟨h0, h1, h2⟩ := h
  refine ⟨h0, h1, ?_⟩
  rcases h2 with h3 | ⟨g', cap', cur, h3, h4, h5⟩
  · exact .inl h3
  · exact .inr ⟨g', cap', cur, h3, Nat.le_trans hb h4, h5⟩
theorem Tryz.infoSummons' : ∃ i z, Tryz.prog.info? 58 = some i ∧ i.zero = some z ∧ i.size = 5 ∧ i.bytes = 40 ∧ z.cells.size = 5 := by
  obtain ⟨i, hi, hzz⟩ := Option.map_eq_some_iff.1 Tryz.infoSummons
  simp only [Prod.mk.injEq] at hzz
  exact ⟨i, _, hi, hzz.1, hzz.2.1, hzz.2.2, rfl⟩
theorem Summons.L_lit {w : World} {N : Nat} (q : Summons) (hN : N ≤ w.heap.size) : Summons.L (w.alloc (.cells #[.int .i64 q.num, .int .i64 q.sent, .int .i64 q.due, .int .i64 q.ans, .int .i64 q.done] 58)) N (.slice (some ⟨w.heap.size, 0, none⟩) 1 1) [q] :=
  ⟨⟨_, _, rfl⟩, World.ownsRow_lit w #[.int .i64 q.num, .int .i64 q.sent, .int .i64 q.due, .int .i64 q.ans, .int .i64 q.done] 1 hN (by decide) rfl⟩
theorem Summons.L_empty {w : World} {N : Nat} (hN : N ≤ w.heap.size) : Summons.L (w.alloc (.cells #[] 58)) N (.slice (some ⟨w.heap.size, 0, none⟩) 0 0) [] :=
  ⟨⟨_, _, rfl⟩, World.ownsRow_lit w #[] 0 hN (by decide) rfl⟩
theorem Summons.L.grown {w w' : World} {N b : Nat} {v : Value} {ts : List Summons} (h : Summons.L w N v ts) (hg : w.grownBy w' (some b)) (hb : b < N) : Summons.L w' N v ts :=
  ⟨h.1, h.2.kept hg (by
    obtain ⟨g, cap, hv⟩ := h.1
    refine .inr ?_
    intro e
    have := (h.2.lt b e).1; omega)⟩
theorem Summons.L.alloc {w : World} {N : Nat} {v : Value} {ts : List Summons} (h : Summons.L w N v ts) (o : Obj) : Summons.L (w.alloc o) N v ts := h.below (Summons.bx w o)
/-- it lies in a row of the call's own -/
theorem Summons.L.own {w : World} {B : Nat} {v : Value} {ts : List Summons} (h : Summons.L w B v ts) : ∃ a cap, v = .slice a ts.length cap ∧ Summons.Own B w a ts.length (Summons.flat ts) := by
  obtain ⟨⟨g, cap, rfl⟩, hh⟩ := id h
  refine ⟨_, cap, rfl, ?_⟩
  by_cases h0 : ts.length = 0
  · exact .inl h0
  obtain ⟨h1, ⟨e, h2⟩ | ⟨g', cap', cur, e, hg, hb, hn, hc, hs, hr⟩⟩ := hh
  · exact absurd h2 h0
  · cases e
    refine .inr ⟨g, fun i => cur.getD i (.int .i64 0), cap, rfl, hg, hn, ⟨cur, hb, hs, fun i hi => ?_⟩, fun j hj => ?_⟩
    · simp [Array.getD, show i < cur.size by omega]
    · obtain ⟨q, r, hr', rfl⟩ : ∃ q r, r < 5 ∧ j = q * 5 + r := ⟨j / 5, j % 5, Nat.mod_lt _ (by omega), by omega⟩
      have hq : q < ts.length := by omega
      have hcq : ts[q]? = some (ts[q]'hq) := List.getElem?_eq_getElem hq
      have hx := Summons.vals_at hcq r hr'
      rw [← hr, List.getElem?_take_of_lt (by omega), Array.getElem?_toList, Array.getElem?_eq_getElem (by omega)] at hx
      obtain ⟨g0, g1, g2, g3, g4⟩ := Summons.flat_at hcq
      have hv : cur.getD (q * 5 + r) (.int .i64 0) = cur[q * 5 + r]'(by omega) := by simp [Array.getD, show q * 5 + r < cur.size by omega]
      show cur.getD (q * 5 + r) (.int .i64 0) = _
      rw [hv]
      rcases (by omega : r = 0 ∨ r = 1 ∨ r = 2 ∨ r = 3 ∨ r = 4) with rfl | rfl | rfl | rfl | rfl
      · have e := Option.some.inj hx; exact e.trans (by rw [Nat.add_zero, g0])
      · have e := Option.some.inj hx; exact e.trans (by rw [g1])
      · have e := Option.some.inj hx; exact e.trans (by rw [g2])
      · have e := Option.some.inj hx; exact e.trans (by rw [g3])
      · have e := Option.some.inj hx; exact e.trans (by rw [g4])
def Summons.lenL : Value → Nat
  | .slice _ n _ => n
  | _ => 0
theorem Summons.L.len {w : World} {N : Nat} {v : Value} {ts : List Summons} (h : Summons.L w N v ts) : Summons.lenL v = ts.length := by obtain ⟨⟨g, cap, rfl⟩, _⟩ := h; rfl
theorem Summons.append_run {w : World} {B : Nat} {v : Value} {ts qs : List Summons} (ty : TypeId) (h : Summons.L w B v ts) (a : Addr) (c : Nat) (hq : ∀ j u, (Summons.vals qs)[j]? = some u → w.cell? (a.add j) = some u) (hl : ts.length + qs.length ≤ 100000) (hB : B ≤ w.heap.size) :
    ∃ v' w', (Builtin.append_ #[25, 25] ty #[v, .slice (some a) qs.length c]).run Tryz.prog w = .ok v' w' ∧ Summons.L w' B v' (ts ++ qs) ∧ w.grownBy w' v.ownBlock := by
  obtain ⟨i, z, hi, hz, h5, h56, hzs⟩ := Tryz.infoSummons'
  obtain ⟨v', w', h1, h2, h3, h4⟩ := run_append_own (P := Tryz.prog) w B 25 ty 58 i z 5 40 Tryz.underlying25 hi hz h5 h56 hzs (by omega) v ts.length (Summons.vals ts) h.2 a qs.length c (Summons.vals qs) (Summons.vals_len qs) hq Summons.vals_one (by unfold maxLen; omega) (by omega) hB
  refine ⟨v', w', h1, ⟨?_, ?_⟩, h3⟩
  · obtain ⟨g, cap, hv⟩ := h.1
    rcases h2.2 with ⟨h5, _⟩ | ⟨g', cap', cur, h5, _⟩
    · have := (h4.1 h5).1; rw [hv] at this; cases this
    · exact ⟨g', cap', by rw [h5, List.length_append]⟩
  · rw [List.length_append, Summons.vals_append]; exact h2
theorem Summons.L.other {w w' : World} {B g : Nat} {v : Value} {ts : List Summons} (h : Summons.L w B v ts) (hne : ts ≠ []) (he : ∃ cur T, w.heap[g]? = some (.cells cur T (0, 0)) ∧ cur.size = 0) (hg : w.grownBy w' (some g)) : Summons.L w' B v ts := by
  refine ⟨h.1, h.2.kept hg (.inr ?_)⟩
  intro e
  obtain ⟨_, _, h2⟩ := h
  rcases h2 with ⟨rfl, _⟩ | ⟨g', cap, cur, rfl, _, h5, h6, _, h7, _⟩
  · cases e
  · obtain rfl : g' = g := Option.some.inj e
    obtain ⟨cur', T, h8, h9⟩ := he
    rw [h5] at h8
    injection h8 with h8; injection h8 with h8 _ _; subst h8
    have : 0 < ts.length := List.length_pos_iff.2 hne
    have := Nat.mul_le_mul_right 5 h6
    omega
theorem wpList_Summons_append {ops : Array Oper} {rest : List Oper} {o : Oper} {a : Act} {Q : Exit → Act → World → Prop} {w : World} {N : Nat} (hgd : o.guard = none) (s x : Operand)
    (ho : o.op = .call { callee := .builtin .append, args := #[s, x], argTypes := #[25, 25] })
    (v : Value) (ts : List Summons) (hs : a.eval s = v) (h : Summons.L w N v ts) (ad : Addr) (m c : Nat) (qs : List Summons) (hm : qs.length = m) (hx : a.eval x = .slice (some ad) m c) (hq : ∀ j u, (Summons.vals qs)[j]? = some u → w.cell? (ad.add j) = some u)
    (hl : ts.length + qs.length ≤ 100000) (hB : N ≤ w.heap.size)
    (hk : ∀ v' w', Summons.L w' N v' (ts ++ qs) → w.grownBy w' v.ownBlock → (v'.ownBlock = v.ownBlock ∨ v'.ownBlock = some w.heap.size) → wpList Tryz.prog ops Q rest (a.put o.dst v') w') : wpList Tryz.prog ops Q (o :: rest) a w := by
  obtain ⟨i, z, hi, hz, h5, h56, hzs⟩ := Tryz.infoSummons'
  subst hm
  refine wpList_append_own_at (P := Tryz.prog) w hgd s x 25 ho N 58 i z 5 40 Tryz.underlying25 hi hz h5 h56 hzs (by omega) v ts.length (Summons.vals ts) hs h.2 ad qs.length c (Summons.vals qs) hx (Summons.vals_len qs) hq Summons.vals_one (by unfold maxLen; omega) (by omega) hB ?_
  intro v' w' h1 h2 h3 h4
  refine hk v' w' ⟨?_, ?_⟩ h2 h4
  · obtain ⟨g, cap, hv⟩ := h.1
    rcases h1.2 with ⟨h5, _⟩ | ⟨g', cap', cur, h5, _⟩
    · have := (h3.1 h5).1; rw [hv] at this; cases this
    · exact ⟨g', cap', by rw [h5, List.length_append]⟩
  · rw [List.length_append, Summons.vals_append]; exact h1
end Go.Proofs.YtchffaohmeaccaaGreatDoor
/- Contract: laws.big tells whether a code has more than 4096 bytes; and the reading of a code that the frame opens. -/
namespace Go.Proofs.YtchffaohmeaccaaGreatDoor
open Go.RowKit Pure2 Pure6

theorem lawsBig_any (a : Option Addr) (len cap : Nat) (w : World) :
    Calls Tryz.prog 4 #[.slice a len cap] w fun e w' => e = .returned (.bool (decide (4096 < len))) ∧ w = w' := by
  by_cases h : 4096 < len
  all_goals
    go_enter Tryz.func4, Tryz.ntmps4
    go_wp2
    go_ret
    exact ⟨ret_bool' (by simp; omega), rfl⟩

theorem bytes_of_row {w : World} {a : Option Addr} {len cap : Nat} {zs : List Int}
    (h : (a = none ∧ len = 0 ∧ cap = 0 ∧ zs = []) ∨ ∃ x, a = some x ∧ len ≤ cap ∧ cap ≤ maxLen ∧ zs.length = cap ∧ (∀ i, i < zs.length → w.cell? (x.add i) = some (.int .u8 (zs.getD i 0))) ∧ ∀ n ∈ zs, (Lit.int .u8 n).wf = true) :
    (zs.take len).length = len ∧ BytesAt w.heap.size w a (zs.take len) := by
  rcases h with ⟨rfl, rfl, rfl, rfl⟩ | ⟨x, rfl, hl, hm, hz, hc, hw⟩
  · exact ⟨rfl, by simp, .inl rfl⟩
  · refine ⟨by rw [List.length_take]; omega, fun n hn => ?_, ?_⟩
    · have := hw n (List.mem_of_mem_take hn)
      simpa [Lit.wf, IntKind.min, IntKind.max, IntKind.signed, IntKind.bits] using this
    by_cases h0 : len = 0
    · exact .inl (by rw [h0]; rfl)
    · obtain ⟨b, off, spot⟩ := x
      have hspot : spot = none := by simpa [Addr.add] using World.cell?_spot (hc 0 (by omega))
      subst hspot
      refine .inr ⟨b, off, rfl, ?_, fun i x hx => ?_⟩
      · have := World.block_lt_of_cell? w _ (hc 0 (by omega)); simpa [Addr.add] using this
      obtain ⟨hi, hx'⟩ := List.getElem?_eq_some_iff.1 hx
      have hi' : i < zs.length := by rw [List.length_take] at hi; omega
      have := hc i hi'
      rw [List.getElem_take] at hx'
      rw [List.getD_eq_getElem?_getD, List.getElem?_eq_getElem hi', Option.getD_some, hx'] at this
      by_cases hi0 : i = 0
      · subst hi0; simpa [Addr.add] using this
      · simpa [Addr.add, hi0] using this

end Go.Proofs.YtchffaohmeaccaaGreatDoor
/- Contract of the laws' own helper eqInt64S, which compares. -/
namespace Go.Proofs.YtchffaohmeaccaaGreatDoor
open Go.RowKit Pure2

end Go.Proofs.YtchffaohmeaccaaGreatDoor
/- Contract of the laws' own helper likeInts, which compares. -/
namespace Go.Proofs.YtchffaohmeaccaaGreatDoor
open Go.RowKit Pure2

set_option maxHeartbeats 400000 in
theorem likeInts_any (a a' : Option Addr) (len cap len' cap' : Nat) (xs ys : List Int) (w : World) (hl : xs.length = len) (hl' : ys.length = len') (hm : len ≤ maxLen) (hm' : len' ≤ maxLen) (h : IntsAt w a xs) (h' : IntsAt w a' ys) :
    Calls Tryz.prog 17 #[.slice a len cap, .slice a' len' cap'] w (SaysB (sameL xs ys) w) := by
  unfold maxLen at hm hm'
  by_cases hne : len = len'
  · subst hne
    have HL := Lib.hid hl; have HL' := Lib.hid hl'; have HI := Lib.hid h; have HI' := Lib.hid h'; clear hl hl' h h'
    go_enter Tryz.func17, Tryz.ntmps17
    go_wp2
    go_loopw [5] (fun i wr => ∃ k n : Nat, k ≤ len ∧ i = .int .i64 k ∧ wr = w.drewN n ∧ xs.take k = ys.take k) (fun i _ => len - (intOf i).toNat)
    case atStart => exact ⟨0, 0, Nat.zero_le _, rfl, rfl, rfl⟩
    case round =>
      obtain ⟨k, n, hk, rfl, rfl, ht⟩ := hrel
      have HT := Lib.hid ht; clear ht
      by_cases hlt : k < len
      · obtain ⟨b, off, x, ha, hc, ht, hx⟩ := HI.out.at HL.out hlt
        obtain ⟨b', off', y, ha', hc', ht', hy⟩ := HI'.out.at HL'.out hlt
        subst ha; subst ha'
        by_cases hxy : x = y
        · subst hxy
          have HN := Lib.hid (show xs.take (k+1) = ys.take (k+1) by rw [ht, ht', HT.out]); clear ht ht' hx hy
          go_wp2
          go_quiet (fail)
          go_wp2
          go_roundw
          case rel => exact ⟨k + 1, _, by omega, by go_num, rfl, HN.out⟩
          case measure => simp [intOf]; omega
        · have HN := Lib.hid (sameL_at hx hy hxy); clear ht ht' hx hy
          have hxy' : (x != y) = true := by rw [bne_iff_ne]; exact hxy
          clear hxy
          go_wp2
          go_quiet (fail)
          go_wp2
          go_ret
          exact ⟨ret_bool' HN.out.symm, _, drewN_add _ _ _⟩
      · have HN := Lib.hid (sameL_end HT.out (by rw [HL.out]; omega) (by rw [HL'.out]; omega))
        go_wp2
        go_ret
        exact ⟨ret_bool' HN.out.symm, _, rfl⟩
  · have HN := Lib.hid (sameL_len (xs := xs) (ys := ys) (by rw [hl, hl']; exact hne))
    have hne' : ((len : Int) != len') = true := by rw [bne_iff_ne]; omega
    clear hl hl' h h' hne
    go_enter Tryz.func17, Tryz.ntmps17
    go_wp2
    go_ret
    exact ⟨ret_bool' HN.out.symm, 0, rfl⟩

end Go.Proofs.YtchffaohmeaccaaGreatDoor
/- Lists of numbers of our own, for regions that draw their order. -/
namespace Go.Proofs.YtchffaohmeaccaaGreatDoor
open Go.RowKit Pure2

def valsI (zs : List Int) : List Value := zs.map (Value.int .i64)
theorem valsI_len (zs : List Int) : (valsI zs).length = zs.length * 1 := by simp [valsI]
theorem valsI_append (xs ys : List Int) : valsI (xs ++ ys) = valsI xs ++ valsI ys := by simp [valsI]
theorem valsI_one {zs : List Int} : ∀ u ∈ valsI zs, u.oneCell' = true := by
  intro u hu; obtain ⟨x, _, rfl⟩ := List.mem_map.1 hu; rfl
theorem valsI_at {zs : List Int} {i : Nat} {x : Int} (h : zs[i]? = some x) : (valsI zs)[i]? = some (.int .i64 x) := by simp [valsI, h]
def IntL (w : World) (B : Nat) (v : Value) (zs : List Int) : Prop :=
  (∃ g cap, v = .slice (some ⟨g, 0, none⟩) zs.length cap) ∧ w.ownsRow B 2 1 v zs.length (valsI zs)
theorem IntL.cell {w : World} {B g cap n : Nat} {zs : List Int} (h : IntL w B (.slice (some ⟨g, 0, none⟩) n cap) zs) {j : Nat} {u : Value} (hu : (valsI zs)[j]? = some u) : w.cell? ⟨g, j, none⟩ = some u := by
  have := h.2.cells (g := g) rfl j u hu
  rw [show (⟨g, 0, none⟩ : Addr).add j = ⟨g, j, none⟩ from by simp [Addr.add]; intro h; exact h.symm] at this
  exact this
theorem IntL.reads {w : World} {B g cap n : Nat} {zs : List Int} (h : IntL w B (.slice (some ⟨g, 0, none⟩) n cap) zs) : IntsAt w (some ⟨g, 0, none⟩) zs :=
  .inr ⟨g, 0, rfl, fun i x hx => by rw [Nat.zero_add]; exact h.cell (valsI_at hx)⟩
theorem IntL.below {w w' : World} {B : Nat} {v : Value} {zs : List Int} (h : IntL w B v zs) (hb : Below w.heap.size w w') : IntL w' B v zs := by
  obtain ⟨⟨g, cap, rfl⟩, h1, h2⟩ := h
  refine ⟨⟨g, cap, rfl⟩, h1, ?_⟩
  rcases h2 with ⟨h3, _⟩ | ⟨g', cap', cur, h3, h4, h5, h6⟩
  · cases h3
  · exact .inr ⟨g', cap', cur, h3, h4, (hb.block _ (Array.getElem?_eq_some_iff.1 h5).1).trans h5, h6⟩
theorem IntL.base {w : World} {B B' : Nat} {v : Value} {zs : List Int} (h : IntL w B v zs) (hb : B' ≤ B) : IntL w B' v zs := by
  obtain ⟨h0, h1, h2⟩ := h
  refine ⟨h0, h1, ?_⟩
  rcases h2 with h3 | ⟨g', cap', cur, h3, h4, h5⟩
  · exact .inl h3
  · exact .inr ⟨g', cap', cur, h3, Nat.le_trans hb h4, h5⟩
theorem intL_empty {w : World} {N : Nat} (hN : N ≤ w.heap.size) : IntL (w.alloc (.cells #[] 2)) N (.slice (some ⟨w.heap.size, 0, none⟩) 0 0) [] :=
  ⟨⟨_, _, rfl⟩, World.ownsRow_lit w #[] 0 hN (by decide) rfl⟩
theorem IntL.grown {w w' : World} {N b : Nat} {v : Value} {zs : List Int} (h : IntL w N v zs) (hg : w.grownBy w' (some b)) (hb : b < N) : IntL w' N v zs :=
  ⟨h.1, h.2.kept hg (by
    obtain ⟨g, cap, hv⟩ := h.1
    refine .inr ?_
    intro e
    have := (h.2.lt b e).1; omega)⟩
theorem IntL.other {w w' : World} {B g : Nat} {v : Value} {zs : List Int} (h : IntL w B v zs) (hne : zs ≠ []) (he : ∃ cur T, w.heap[g]? = some (.cells cur T (0, 0)) ∧ cur.size = 0) (hg : w.grownBy w' (some g)) : IntL w' B v zs := by
  refine ⟨h.1, h.2.kept hg (.inr ?_)⟩
  intro e
  obtain ⟨_, _, h2⟩ := h
  rcases h2 with ⟨rfl, _⟩ | ⟨g', cap, cur, rfl, _, h5, h6, _, h7, _⟩
  · cases e
  · obtain rfl : g' = g := Option.some.inj e
    obtain ⟨cur', T, h8, h9⟩ := he
    rw [h5] at h8
    injection h8 with h8; injection h8 with h8 _ _; subst h8
    have : 0 < zs.length := List.length_pos_iff.2 hne
    omega
theorem intL_append {w : World} {B : Nat} {v : Value} {ts qs : List Int} (ty : TypeId) (h : IntL w B v ts) (a : Addr) (c : Nat) (hq : ∀ j u, (valsI qs)[j]? = some u → w.cell? (a.add j) = some u) (hl : ts.length + qs.length ≤ 100000) (hB : B ≤ w.heap.size) :
    ∃ v' w', (Builtin.append_ #[24, 24] ty #[v, .slice (some a) qs.length c]).run Tryz.prog w = .ok v' w' ∧ IntL w' B v' (ts ++ qs) ∧ w.grownBy w' v.ownBlock := by
  obtain ⟨i, hi, hzz⟩ := Option.map_eq_some_iff.1 Tryz.info_i64
  simp only [Prod.mk.injEq] at hzz
  obtain ⟨hz, h5, h56⟩ := hzz
  obtain ⟨v', w', h1, h2, h3, h4⟩ := run_append_own (P := Tryz.prog) w B 24 ty 2 i (.int .i64 0) 1 8 Tryz.underlying24 hi hz h5 h56 rfl (by omega) v ts.length (valsI ts) h.2 a qs.length c (valsI qs) (valsI_len qs) hq valsI_one (by unfold maxLen; omega) (by omega) hB
  refine ⟨v', w', h1, ⟨?_, ?_⟩, h3⟩
  · obtain ⟨g, cap, hv⟩ := h.1
    rcases h2.2 with ⟨h5, _⟩ | ⟨g', cap', cur, h5, _⟩
    · have := (h4.1 h5).1; rw [hv] at this; cases this
    · exact ⟨g', cap', by rw [h5, List.length_append]⟩
  · rw [List.length_append, valsI_append]; exact h2
end Go.Proofs.YtchffaohmeaccaaGreatDoor
/- Contracts of the laws' own helpers on marks in slices of int64: markInt64S, heldInt64S. -/
namespace Go.Proofs.YtchffaohmeaccaaGreatDoor
open Go.RowKit Pure2

/-- a slice of int64 in a row of the call's own (from block B on): its first len numbers are given by g -/
def OwnI (B : Nat) (w : World) (a : Option Addr) (len : Nat) (g : Nat → Int) : Prop :=
  len = 0 ∨ ∃ b f N, a = some ⟨b, 0, none⟩ ∧ B ≤ b ∧ len ≤ N ∧ w.rowIs b 2 N f ∧ ∀ i, i < len → f i = .int .i64 (g i)
theorem OwnI.below {B : Nat} {w w' : World} {a : Option Addr} {len : Nat} {g : Nat → Int} (h : OwnI B w a len g) (hb : Below w.heap.size w w') : OwnI B w' a len g := by
  rcases h with h | ⟨b, f, N, rfl, hB, hN, hr, hf⟩
  · exact .inl h
  · exact .inr ⟨b, f, N, rfl, hB, hN, hr.of_block (hb.block b hr.lt), hf⟩
theorem OwnI.at {B : Nat} {w : World} {a : Option Addr} {len : Nat} {g : Nat → Int} (h : OwnI B w a len g) {n : Nat} (hn : n < len) : ∃ b, a = some ⟨b, 0, none⟩ ∧ w.cell? ⟨b, n, none⟩ = some (.int .i64 (g n)) := by
  rcases h with h | ⟨b, f, N, rfl, hB, hN, hr, hf⟩
  · omega
  · exact ⟨b, rfl, by rw [hr.cell (by omega), hf n hn]⟩
theorem ownI_reads {B : Nat} {w : World} {a : Option Addr} {zs : List Int} (h : OwnI B w a zs.length (fun i => zs.getD i 0)) : IntsAt w a zs := by
  rcases h with h | ⟨b, f, N, rfl, hb, hN, hr, hf⟩
  · exact .inl (List.length_eq_zero_iff.1 h)
  · refine .inr ⟨b, 0, rfl, fun i x hx => ?_⟩
    have hi := (List.getElem?_eq_some_iff.1 hx).1
    rw [Nat.zero_add, hr.cell (by omega), hf i hi]
    simp [List.getD, hx]

def MarkedI (B : Nat) (a : Option Addr) (len : Nat) (k : Int) (w : World) (e : Ending) (w' : World) : Prop :=
  e = .returned (.int .i64 (k + len)) ∧ OwnI B w' a len (fun i => k + i) ∧ Below B w w' ∧ w.heap.size ≤ w'.heap.size
theorem markI_step {k : Int} {n : Nat} {f : Nat → Value} (hf : ∀ i, i < n → f i = .int .i64 (k + i)) :
    ∀ i, i < n + 1 → (fun j => if j = n then Value.int .i64 (k + n) else f j) i = .int .i64 (k + i) := by
  intro i hi
  by_cases e : i = n
  · subst e; simp
  · simp only [if_neg e]; exact hf i (by omega)

end Go.Proofs.YtchffaohmeaccaaGreatDoor
/- Lists of numbers that a call builds by adding. -/
namespace Go.Proofs.YtchffaohmeaccaaGreatDoor
open Go.RowKit Go.Sort Pure2 Pure3

theorem info_parts {P : Program} {t : TypeId} {z : Value} {s b : Nat} (h : (P.info? t).map (fun i => (i.zero, i.size, i.bytes)) = some (some z, s, b)) : ∃ i, P.info? t = some i ∧ i.zero = some z ∧ i.size = s ∧ i.bytes = b := by
  obtain ⟨i, hi, hz⟩ := Option.map_eq_some_iff.1 h
  simp only [Prod.mk.injEq] at hz
  exact ⟨i, hi, hz.1, hz.2.1, hz.2.2⟩
/-- a list of numbers that is being built (from block B on) -/
def BuildI (B : Nat) (w : World) (v : Value) (zs : List Int) : Prop := w.ownsRow B 2 1 v zs.length (zs.map (Value.int .i64))
theorem BuildI.nil (B : Nat) (w : World) : BuildI B w (.slice none 0 0) [] := World.ownsRow_nil _ _ _ _
theorem BuildI.empty {B : Nat} {w : World} (hB : B ≤ w.heap.size) : BuildI B (w.alloc (.cells #[] 2)) (.slice (some ⟨w.heap.size, 0, none⟩) 0 0) [] := World.ownsRow_lit (size := 1) w #[] 0 hB (by decide) rfl
theorem BuildI.one {B : Nat} {w : World} (x : Int) (hB : B ≤ w.heap.size) : BuildI B (w.alloc (.cells #[.int .i64 x] 2)) (.slice (some ⟨w.heap.size, 0, none⟩) 1 1) [x] := World.ownsRow_lit (size := 1) w #[.int .i64 x] 1 hB (by decide) rfl
theorem BuildI.below {B : Nat} {w w' : World} {v : Value} {zs : List Int} (h : BuildI B w v zs) (hb : Below w.heap.size w w') : BuildI B w' v zs := by
  refine ⟨h.1, ?_⟩
  rcases h.2 with hn | ⟨g, cap, cur, rfl, hB, hg, rest⟩
  · exact .inl hn
  · exact .inr ⟨g, cap, cur, rfl, hB, by rw [hb.block g (Array.getElem?_eq_some_iff.1 hg).1]; exact hg, rest⟩
theorem BuildI.alloc {B : Nat} {w : World} {v : Value} {zs : List Int} (h : BuildI B w v zs) (o : Obj) : BuildI B (w.alloc o) v zs := h.below ((Below.refl _ _).alloc (Nat.le_refl _) o)
theorem BuildI.own {B : Nat} {w : World} {v : Value} {zs : List Int} (h : BuildI B w v zs) : ∃ a cap, v = .slice a zs.length cap ∧ zs.length ≤ cap ∧ OwnI B w a zs.length (fun i => zs.getD i 0) := by
  obtain ⟨h1, ⟨rfl, h0⟩ | ⟨g, cap, cur, rfl, hg, hh, hn, hc, hs, hr⟩⟩ := id h
  · exact ⟨_, 0, by rw [h0], by omega, .inl h0⟩
  · rw [Nat.mul_one] at hr hs
    refine ⟨_, cap, rfl, hn, .inr ⟨g, fun i => cur.getD i (.int .i64 0), cap, rfl, hg, hn, ⟨cur, hh, hs, fun i hi => ?_⟩, fun i hi => ?_⟩⟩
    · simp [Array.getD, show i < cur.size by omega]
    · have hx : (zs.map (Value.int .i64))[i]? = some (.int .i64 (zs.getD i 0)) := by
        rw [List.getElem?_map, List.getElem?_eq_getElem (by omega)]; simp [List.getElem?_eq_getElem (show i < zs.length by omega)]
      rw [← hr, List.getElem?_take_of_lt hi, Array.getElem?_toList] at hx
      rw [Array.getElem?_eq_getElem (by omega)] at hx
      simp [Array.getD, show i < cur.size by omega]
      simpa using hx
theorem BuildI.grew {B C : Nat} {w0 w w' : World} {v : Value} {zs : List Int} (h : BuildI B w v zs) (hB : Below C w0 w) (hC : C ≤ B) (hs : C ≤ w.heap.size) (hg : w.grownBy w' v.ownBlock) : Below C w0 w' :=
  hB.grown hg hs (fun k hk => Nat.le_trans hC (h.lt k hk).1)

section
variable {ops : Array Oper} {rest : List Oper} {o : Oper} {a : Act} {Q : Exit → Act → World → Prop} {w : World} {B : Nat}
/-- one number more -/
theorem wpList_int_append (hgd : o.guard = none) (s x : Operand) (ho : o.op = .call { callee := .builtin .append, args := #[s, x], argTypes := #[24, 24] })
    (v : Value) (zs : List Int) (hs : a.eval s = v) (h : BuildI B w v zs) (b : Nat) (y : Int) (hx : a.eval x = .slice (some ⟨b, 0, none⟩) 1 1) (hc : w.cell? ⟨b, 0, none⟩ = some (.int .i64 y))
    (hl : zs.length ≤ 1000000) (hB : B ≤ w.heap.size)
    (hk : ∀ v' w', BuildI B w' v' (zs ++ [y]) → w.grownBy w' v.ownBlock → wpList Tryz.prog ops Q rest (a.put o.dst v') w') : wpList Tryz.prog ops Q (o :: rest) a w := by
  obtain ⟨i0, hi, hz0, hz1, hz2⟩ := info_parts Tryz.info_i64
  refine wpList_append_own (P := Tryz.prog) w hgd s x 24 ho B 2 i0 (.int .i64 0) 1 8 Tryz.underlying24 hi hz0 hz1 hz2 rfl (by decide) v zs.length _ hs h ⟨b, 0, none⟩ 1 1 [.int .i64 y] hx rfl ?_ ?_ (by unfold maxLen; omega) (by omega) hB ?_
  · intro j u hu
    have hj := (List.getElem?_eq_some_iff.1 hu).1
    simp at hj; subst hj
    simp at hu; subst hu
    simpa [Addr.add] using hc
  · intro u hu; simp at hu; subst hu; rfl
  · intro v' w' h1 h2 _
    refine hk v' w' ?_ h2
    unfold BuildI
    rw [List.length_append, List.map_append]; exact h1
end
theorem BuildI.parts {B : Nat} {w : World} {v : Value} {zs : List Int} (h : BuildI B w v zs) : (v = .slice none 0 0 ∧ zs = []) ∨ IntL w B v zs := by
  rcases h.2 with ⟨rfl, h0⟩ | ⟨g, cap, cur, rfl, h3⟩
  · exact .inl ⟨rfl, List.length_eq_zero_iff.1 h0⟩
  · exact .inr ⟨⟨g, cap, rfl⟩, h⟩
theorem BuildI.base {w : World} {B B' : Nat} {v : Value} {zs : List Int} (h : BuildI B w v zs) (hb : B' ≤ B) : BuildI B' w v zs := by
  rcases h.parts with ⟨rfl, rfl⟩ | h
  · exact BuildI.nil _ _
  · exact (h.base hb).2
theorem BuildI.slice {w : World} {B : Nat} {v : Value} {zs : List Int} (h : BuildI B w v zs) : ∃ a cap, v = .slice a zs.length cap ∧ IntsAt w a zs := by
  rcases h.parts with ⟨rfl, rfl⟩ | h
  · exact ⟨_, _, rfl, .inl rfl⟩
  · obtain ⟨⟨g, cap, rfl⟩, _⟩ := id h
    exact ⟨_, _, rfl, h.reads⟩
theorem BuildI.lit1 (w : World) (x : Int) (T : TypeId) : (w.alloc (.cells #[.int .i64 x] T)).cell? ⟨w.heap.size, 0, none⟩ = some (.int .i64 x) := by
  unfold World.cell?; rw [heap_alloc_new]; rfl
theorem BuildI.lit2 (w : World) (o : Obj) (x : Int) (T : TypeId) : ((w.alloc o).alloc (.cells #[.int .i64 x] T)).cell? ⟨w.heap.size + 1, 0, none⟩ = some (.int .i64 x) := by
  have h : ((w.alloc o).alloc (.cells #[.int .i64 x] T)).heap[(w.alloc o).heap.size]? = some (.cells #[.int .i64 x] T) := heap_alloc_new _ _
  rw [show (w.alloc o).heap.size = w.heap.size + 1 by simp] at h
  unfold World.cell?; rw [h]; rfl
end Go.Proofs.YtchffaohmeaccaaGreatDoor
