/- Plain facts on the likeness of words and of persons (chapter 4). No program is imported here. -/
import Derived.Test.YtdeiillfdjebdaaPure40
import Derived.WalkKit
import Derived.WalkSpells
import Derived.WalkLawsBesides
namespace Go.Proofs.Ytdeiillfdjebdaa.Pure41
open Go.RowKit Pure1 Pure40

/-- how many elements two lists have in common at their beginning -/
def comL : List UInt8 → List UInt8 → Nat
  | x :: xs, y :: ys => if x = y then comL xs ys + 1 else 0
  | _, _ => 0
theorem comL_eq : ∀ (k : Nat) (a b : List UInt8), a.take k = b.take k → k ≤ a.length → (k = a.length ∨ a[k]? ≠ b[k]?) → comL a b = k
  | 0, [], _, _, _, _ => by simp [comL]
  | 0, x :: xs, [], _, _, _ => by simp [comL]
  | 0, x :: xs, y :: ys, _, _, h => by
    rcases h with h | h
    · simp at h
    · simp only [List.getElem?_cons_zero, ne_eq, Option.some.injEq] at h
      simp [comL, h]
  | k + 1, [], _, _, h, _ => by simp at h
  | k + 1, x :: xs, [], h, _, _ => by simp at h
  | k + 1, x :: xs, y :: ys, h, hk, h2 => by
    simp only [List.take_succ_cons, List.cons.injEq] at h
    have := comL_eq k xs ys h.2 (by simpa using hk) (by simpa using h2)
    simp [comL, h.1, this]
theorem comL_comm : ∀ (a b : List UInt8), comL a b = comL b a
  | [], [] => rfl
  | [], _ :: _ => rfl
  | _ :: _, [] => rfl
  | x :: xs, y :: ys => by
    simp only [comL]
    by_cases h : x = y
    · rw [if_pos h, if_pos h.symm, comL_comm xs ys]
    · rw [if_neg h, if_neg (fun e => h e.symm)]
def comB (a b : ByteArray) : Nat := comL a.data.toList b.data.toList
theorem comB_stop {a b : ByteArray} {k : Nat} (ht : a.data.toList.take k = b.data.toList.take k) (hk : k < a.size) (hk' : k < b.size) (h : a[k] ≠ b[k]) : comB a b = k := by
  refine comL_eq k _ _ ht (by rw [size_eq]; omega) (.inr ?_)
  have e1 : a.data.toList[k]? = some a[k] := by rw [Array.getElem?_toList, Array.getElem?_eq_getElem hk]; rfl
  have e2 : b.data.toList[k]? = some b[k] := by rw [Array.getElem?_toList, Array.getElem?_eq_getElem hk']; rfl
  rw [e1, e2]; exact fun e => h (Option.some.inj e)
theorem comB_end {a b : ByteArray} {k : Nat} (ht : a.data.toList.take k = b.data.toList.take k) (hk : k = a.size) : comB a b = k :=
  comL_eq k _ _ ht (by rw [size_eq]; omega) (.inl (by rw [size_eq]; exact hk))
theorem take_step {a b : ByteArray} {k : Nat} (ht : a.data.toList.take k = b.data.toList.take k) (hk : k < a.size) (hk' : k < b.size) (h : a[k] = b[k]) : a.data.toList.take (k + 1) = b.data.toList.take (k + 1) := by
  rw [take_snoc a k hk, take_snoc b k hk', ht, h]
theorem comB_comm (a b : ByteArray) : comB a b = comB b a := comL_comm _ _

/-- does one step turn the shorter word into the longer one? -/
def stepP (a b : ByteArray) : Bool :=
  if a.size = b.size then decide (comB a b < a.size) && ((a.extract (comB a b + 1) a.size).toList == (b.extract (comB a b + 1) b.size).toList)
  else if a.size + 1 = b.size then (a.extract (comB a b) a.size).toList == (b.extract (comB a b + 1) b.size).toList
  else false
/-- does one step turn a word into another one? -/
def oneStep (a b : ByteArray) : Bool := if b.size < a.size then stepP b a else stepP a b
theorem oneStep_comm (a b : ByteArray) : oneStep a b = oneStep b a := by
  unfold oneStep
  by_cases h1 : b.size < a.size
  · rw [if_pos h1, if_neg (by omega)]
  · by_cases h2 : a.size < b.size
    · rw [if_neg h1, if_pos h2]
    · rw [if_neg h1, if_neg h2]
      have e : a.size = b.size := by omega
      unfold stepP
      rw [if_pos e, if_pos e.symm, comB_comm b a, e, BEq.comm]
/-- points for two words -/
def wordP (a b : ByteArray) (same near : Int) : Int := if a = b then same else if oneStep a b = true then near else 0
theorem wordP_comm (a b : ByteArray) (s n : Int) : wordP a b s n = wordP b a s n := by
  unfold wordP
  rw [oneStep_comm b a]
  by_cases h : a = b
  · rw [if_pos h, if_pos h.symm]
  · have h' : ¬ b = a := fun e => h e.symm
    simp only [if_neg h, if_neg h']
theorem wordP_self (a : ByteArray) (s n : Int) : wordP a a s n = s := by simp [wordP]
theorem wordP_in (a b : ByteArray) {s n : Int} (hs : 0 ≤ s ∧ s ≤ 100) (hn : 0 ≤ n ∧ n ≤ 100) : 0 ≤ wordP a b s n ∧ wordP a b s n ≤ 100 := by
  unfold wordP; split
  · exact hs
  · split
    · exact hn
    · omega
def bornP (x y : Int) : Int := if x = y then 20 else if x - y = 1 ∨ x - y = -1 then 10 else 0
theorem bornP_comm (x y : Int) : bornP x y = bornP y x := by
  unfold bornP
  by_cases h : x = y
  · rw [if_pos h, if_pos h.symm]
  · have h' : ¬ y = x := fun e => h e.symm
    simp only [if_neg h, if_neg h']
    by_cases h2 : x - y = 1 ∨ x - y = -1
    · have h3 : y - x = 1 ∨ y - x = -1 := by omega
      simp only [if_pos h2, if_pos h3]
    · have h3 : ¬ (y - x = 1 ∨ y - x = -1) := by omega
      simp only [if_neg h2, if_neg h3]
/-- the likeness of two persons -/
def likeP (a b : Pers) : Int := wordP a.lst b.lst 40 25 + wordP a.fst b.fst 30 20 + bornP a.born b.born + (if a.zone = b.zone then 10 else 0)
theorem likeP_comm (a b : Pers) : likeP a b = likeP b a := by
  unfold likeP
  rw [wordP_comm a.lst, wordP_comm a.fst, bornP_comm a.born]
  by_cases h : a.zone = b.zone
  · rw [if_pos h, if_pos h.symm]
  · rw [if_neg h, if_neg (fun e => h e.symm)]
theorem likeP_self (a : Pers) : likeP a a = 100 := by simp [likeP, wordP_self, bornP]

theorem isPers_parts {p : Pers} (h : isPers p = true) : (1 ≤ p.num ∧ p.num ≤ 1000000) ∧ p.fst.size ≤ 16 ∧ p.lst.size ≤ 16 ∧ (1900 ≤ p.born ∧ p.born ≤ 2100) ∧ (0 ≤ p.zone ∧ p.zone ≤ 99) := by
  simp only [isPers, Bool.and_eq_true, inR_iff] at h
  obtain ⟨h1, h2, h3, h4, h5⟩ := h
  have hw : ∀ s : ByteArray, isWordL s.data.toList = true → s.size ≤ 16 := fun s hs => by
    by_cases e : 16 < s.data.toList.length
    · rw [isWordL_long e] at hs; cases hs
    · rw [size_eq] at e; omega
  exact ⟨h1, hw _ h2, hw _ h3, h4, h5⟩

end Go.Proofs.Ytdeiillfdjebdaa.Pure41
