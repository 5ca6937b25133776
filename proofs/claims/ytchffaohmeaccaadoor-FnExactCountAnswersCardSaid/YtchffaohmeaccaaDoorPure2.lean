/- Plain facts on lists of numbers for chapter 1: values, the error of a list, its sum; and what it means that a slice of int64 reads as a list. No program is imported here. -/
import Derived.WalkKit
import Derived.WalkSpells
import Derived.WalkLawsBesides
namespace Go.Proofs.YtchffaohmeaccaaDoor.Pure2
open Go.RowKit

/-- a value: an integer in -10^12 .. 10^12 -/
def isVal (n : Int) : Bool := decide (-1000000000000 ≤ n) && decide (n ≤ 1000000000000)
theorem isVal_iff (n : Int) : isVal n = true ↔ -1000000000000 ≤ n ∧ n ≤ 1000000000000 := by simp [isVal]
theorem isVal_no (n : Int) : isVal n = false ↔ n < -1000000000000 ∨ 1000000000000 < n := by
  rw [← Bool.not_eq_true, isVal_iff]; omega
/-- the first error of a list of numbers: 2 (range), 3 (limit), 0 (none) -/
def listErr (zs : List Int) : Int := if zs.all isVal = true then (if zs.length ≤ 60 then 0 else 3) else 2
def lsum : List Int → Int
  | [] => 0
  | x :: r => x + lsum r
def sumOf (zs : List Int) : Int × Int := if listErr zs = 0 then (if isVal (lsum zs) = true then (lsum zs, 0) else (0, 3)) else (0, listErr zs)

theorem listErr_zero {zs : List Int} (h : zs.all isVal = true) (h' : zs.length ≤ 60) : listErr zs = 0 := by rw [listErr, if_pos h, if_pos h']
theorem listErr_long {zs : List Int} (h : zs.all isVal = true) (h' : ¬ zs.length ≤ 60) : listErr zs = 3 := by rw [listErr, if_pos h, if_neg h']
theorem listErr_range {zs : List Int} (h : ¬ zs.all isVal = true) : listErr zs = 2 := by rw [listErr, if_neg h]
theorem listErr_cases (zs : List Int) : (listErr zs = 0 ∧ zs.all isVal = true ∧ zs.length ≤ 60) ∨ listErr zs = 2 ∨ listErr zs = 3 := by
  unfold listErr; split
  · split
    · exact .inl ⟨rfl, by assumption, by assumption⟩
    · exact .inr (.inr rfl)
  · exact .inr (.inl rfl)
theorem lsum_append (a b : List Int) : lsum (a ++ b) = lsum a + lsum b := by
  induction a with
  | nil => simp [lsum]
  | cons x r ih => simp [lsum, ih]; omega
theorem lsum_snoc (a : List Int) (x : Int) : lsum (a ++ [x]) = lsum a + x := by rw [lsum_append]; simp [lsum]
theorem all_of_snoc {a : List Int} {x : Int} (h : a.all isVal = true) (hx : isVal x = true) : (a ++ [x]).all isVal = true := by
  rw [List.all_append, h]; simp [hx]
theorem lsum_reverse (a : List Int) : lsum a.reverse = lsum a := by
  induction a with
  | nil => rfl
  | cons x r ih => rw [List.reverse_cons, lsum_snoc, ih]; simp only [lsum]; omega
theorem sumOf_reverse (a : List Int) : sumOf a.reverse = sumOf a := by
  have h : listErr a.reverse = listErr a := by simp only [listErr, List.all_reverse, List.length_reverse]
  simp only [sumOf, h, lsum_reverse]
theorem rev_step {zs : List Int} {m : Nat} {x : Int} (hx : zs[m]? = some x) : (zs.drop (m + 1)).reverse ++ [x] = (zs.drop m).reverse := by
  obtain ⟨hm, rfl⟩ := List.getElem?_eq_some_iff.1 hx
  rw [List.drop_eq_getElem_cons hm, List.reverse_cons]
theorem lsum_bd {zs : List Int} (h : zs.all isVal = true) : -(1000000000000 * (zs.length : Int)) ≤ lsum zs ∧ lsum zs ≤ 1000000000000 * (zs.length : Int) := by
  induction zs with
  | nil => simp [lsum]
  | cons x r ih =>
    simp only [List.all_cons, Bool.and_eq_true] at h
    have h1 := (isVal_iff x).1 h.1
    have h2 := ih h.2
    simp only [lsum, List.length_cons]; omega
theorem all_take {zs : List Int} (k : Nat) (h : zs.all isVal = true) : (zs.take k).all isVal = true := by
  rw [List.all_eq_true] at h ⊢; exact fun x hx => h x (List.mem_of_mem_take hx)
theorem lsum_take_bd {zs : List Int} (k : Nat) (h : zs.all isVal = true) (h' : zs.length ≤ 60) : -60000000000000 ≤ lsum (zs.take k) ∧ lsum (zs.take k) ≤ 60000000000000 := by
  have h1 := lsum_bd (all_take k h)
  have h2 : (zs.take k).length ≤ 60 := by have := List.length_take_le k zs; rw [List.length_take]; omega
  omega
theorem all_no {zs : List Int} {k : Nat} {x : Int} (hx : zs[k]? = some x) (h : isVal x = false) : ¬ zs.all isVal = true := by
  intro hh; rw [List.all_eq_true] at hh
  have := hh x (List.mem_of_getElem? hx); rw [h] at this; cases this
theorem isVal_of_all {zs : List Int} {k : Nat} {x : Int} (hx : zs[k]? = some x) (h : zs.all isVal = true) : isVal x = true := by
  rw [List.all_eq_true] at h; exact h x (List.mem_of_getElem? hx)

/-- The slice at address a reads, from its head on, the numbers zs (int64). -/
def IntsAt (w : World) (a : Option Addr) (zs : List Int) : Prop :=
  zs = [] ∨ ∃ b off, a = some ⟨b, off, none⟩ ∧ ∀ i x, zs[i]? = some x → w.cell? ⟨b, off + i, none⟩ = some (.int .i64 x)

theorem IntsAt.at {w : World} {a : Option Addr} {zs : List Int} (h : IntsAt w a zs) {k len : Nat} (hl : zs.length = len) (hk : k < len) :
    ∃ b off x, a = some ⟨b, off, none⟩ ∧ w.cell? ⟨b, off + k, none⟩ = some (.int .i64 x) ∧ zs.take (k + 1) = zs.take k ++ [x] ∧ zs[k]? = some x := by
  have hx : zs[k]? = some zs[k] := List.getElem?_eq_getElem (by omega)
  rcases h with rfl | ⟨b, off, rfl, hc⟩
  · simp at hl; omega
  · exact ⟨b, off, _, rfl, hc k _ hx, by rw [List.take_succ_eq_append_getElem], hx⟩

theorem IntsAt.below {w w' : World} {a : Option Addr} {zs : List Int} (h : IntsAt w a zs) (hb : Below w.heap.size w w') : IntsAt w' a zs := by
  rcases h with rfl | ⟨b, off, rfl, hc⟩
  · exact .inl rfl
  · by_cases hz : zs = []
    · exact .inl hz
    · refine .inr ⟨b, off, rfl, fun i x hx => ?_⟩
      exact cell_later hb (hc i x hx)

end Go.Proofs.YtchffaohmeaccaaDoor.Pure2
