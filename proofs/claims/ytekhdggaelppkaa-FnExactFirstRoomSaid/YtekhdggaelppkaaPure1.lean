/- Plain facts on lists and numbers for chapter 1: words. No program is imported here. -/
import Derived.WalkKit
namespace Go.Proofs.Ytekhdggaelppkaa.Pure1

/-- a byte that is a letter a to z -/
def letter (c : UInt8) : Bool := decide (97 ≤ (c.toNat : Int)) && decide ((c.toNat : Int) ≤ 122)
/-- a word: 1 to 16 letters -/
def isWordL (l : List UInt8) : Bool := decide (1 ≤ l.length) && (decide (l.length ≤ 16) && l.all letter)

theorem take_snoc (s : ByteArray) (k : Nat) (h : k < s.size) : s.data.toList.take (k + 1) = s.data.toList.take k ++ [s[k]] := by
  rw [List.take_succ_eq_append_getElem (by simpa using h)]; rfl
theorem all_snoc (s : ByteArray) (k : Nat) (h : k < s.size) (hp : (s.data.toList.take k).all letter = true) (hl : letter s[k] = true) :
    (s.data.toList.take (k + 1)).all letter = true := by
  rw [take_snoc s k h, List.all_append, hp]; simp [hl]
theorem all_no (s : ByteArray) (k : Nat) (h : k < s.size) (hl : letter s[k] = false) : s.data.toList.all letter = false := by
  rw [List.all_eq_false]
  exact ⟨s[k], by simp [ByteArray.getElem_eq_getElem_data], by simp [hl]⟩
theorem isWordL_of_not_all {l : List UInt8} (h : l.all letter = false) : isWordL l = false := by
  simp only [isWordL, h, Bool.and_false]
theorem isWordL_of_all {l : List UInt8} (h : l.all letter = true) : isWordL l = (decide (1 ≤ l.length) && decide (l.length ≤ 16)) := by
  simp only [isWordL, h, Bool.and_true]
theorem isWordL_short {l : List UInt8} (h : l.length < 1) : isWordL l = false := by
  rw [isWordL, decide_eq_false (by omega)]; rfl
theorem isWordL_long {l : List UInt8} (h : 16 < l.length) : isWordL l = false := by
  rw [isWordL, decide_eq_false (p := l.length ≤ 16) (by omega), Bool.false_and, Bool.and_false]
theorem letter_iff (c : UInt8) : letter c = true ↔ 97 ≤ (c.toNat : Int) ∧ (c.toNat : Int) ≤ 122 := by
  simp [letter]
theorem letter_lo {c : UInt8} (h : (c.toNat : Int) < 97) : letter c = false := by
  simp [letter]; omega
theorem letter_hi {c : UInt8} (h : 122 < (c.toNat : Int)) : letter c = false := by
  simp [letter]; omega
theorem letter_in {c : UInt8} (h : 97 ≤ (c.toNat : Int)) (h' : (c.toNat : Int) ≤ 122) : letter c = true := by
  simp [letter]; omega
theorem size_eq (s : ByteArray) : s.data.toList.length = s.size := by simp
theorem take_all (s : ByteArray) (k : Nat) (h : s.size ≤ k) : s.data.toList.take k = s.data.toList := List.take_of_length_le (by simpa using h)

end Go.Proofs.Ytekhdggaelppkaa.Pure1
