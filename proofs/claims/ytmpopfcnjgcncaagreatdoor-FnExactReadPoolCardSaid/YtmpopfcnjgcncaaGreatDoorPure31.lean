/- Plain facts: the answers of chapter 3 as functions. No program is imported here. -/
import Derived.Test.YtmpopfcnjgcncaaGreatDoorBase0
import Derived.WalkKit
namespace Go.Proofs.YtmpopfcnjgcncaaGreatDoor.Pure31
open Go.RowKit Pure2 Pure30

def isSalt (t : Int) : Bool := decide (0 ≤ t) && decide (t ≤ 2147483646)
theorem isSalt_iff (t : Int) : isSalt t = true ↔ 0 ≤ t ∧ t ≤ 2147483646 := by simp [isSalt]
theorem isSalt_no (t : Int) : isSalt t = false ↔ t < 0 ∨ 2147483646 < t := by rw [← Bool.not_eq_true, isSalt_iff]; omega
def isDrawn (n : Int) : Bool := decide (0 ≤ n) && decide (n ≤ 200)
theorem isDrawn_iff (n : Int) : isDrawn n = true ↔ 0 ≤ n ∧ n ≤ 200 := by simp [isDrawn]
theorem isDrawn_no (n : Int) : isDrawn n = false ↔ n < 0 ∨ 200 < n := by rw [← Bool.not_eq_true, isDrawn_iff]; omega

/-- the answers of chapter 3 -/
def nextR (s : Int) : Int × Int := if 1 ≤ s ∧ s ≤ 2147483646 then (nx s, 0) else (0, 2)
def numR (s n : Int) : Int × Int × Int := if (1 ≤ s ∧ s ≤ 2147483646) ∧ 1 ≤ n ∧ n ≤ 1000000 then (below (nx s) n, nx s, 0) else (0, 0, 2)
def shufR (s n : Int) : List Int × Int := if (1 ≤ s ∧ s ≤ 2147483646) ∧ 0 ≤ n ∧ n ≤ 200 then (shuf s n.toNat, 0) else ([], 2)
def sampR (s n k : Int) : List Int × Int := if ((1 ≤ s ∧ s ≤ 2147483646) ∧ 0 ≤ n ∧ n ≤ 200) ∧ 0 ≤ k ∧ k ≤ n then ((shuf s n.toNat).take k.toNat, 0) else ([], 2)
def comR (s t : Int) : Int × Int := if (1 ≤ s ∧ s ≤ 2147483646) ∧ 0 ≤ t ∧ t ≤ 2147483646 then (commit s t, 0) else (0, 2)
def rightR (c s t n : Int) (zs : List Int) : Bool × Int :=
  if (1 ≤ s ∧ s ≤ 2147483646) ∧ (0 ≤ t ∧ t ≤ 2147483646) ∧ (0 ≤ n ∧ n ≤ 200) ∧ (zs.length : Int) ≤ n then (decide (commit s t = c) && sameL zs ((shuf s n.toNat).take zs.length), 0) else (false, 2)
def statesR (s c : Int) : List Int × Int := if (1 ≤ s ∧ s ≤ 2147483646) ∧ 0 ≤ c ∧ c ≤ 200 then (statesTo s c.toNat, 0) else ([], 2)
/-- the place of a number among shuffled ones -/
def idx (zs : List Int) (x : Int) : Nat := zs.findIdx (fun y => decide (y = x))
def placeR (s n x : Int) : Int × Int := if ((1 ≤ s ∧ s ≤ 2147483646) ∧ 0 ≤ n ∧ n ≤ 200) ∧ 0 ≤ x ∧ x < n then ((idx (shuf s n.toNat) x : Nat), 0) else (0, 2)

theorem idx_of {zs : List Int} {x : Int} {k : Nat} (hx : zs[k]? = some x) (hf : ∀ i, i < k → zs[i]? ≠ some x) : idx zs x = k := by
  obtain ⟨hk, hx'⟩ := List.getElem?_eq_some_iff.1 hx
  unfold idx
  refine (List.findIdx_eq hk).2 ⟨by simp [hx'], fun j hj => ?_⟩
  have := hf j hj
  rw [List.getElem?_eq_getElem (by omega)] at this
  simpa using this
theorem shuf_at {s : Int} (h : 1 ≤ s ∧ s ≤ 2147483646) {n : Nat} {x : Int} (h0 : 0 ≤ x) (h1 : x < n) : ∃ k : Nat, k < n ∧ (shuf s n)[k]? = some x := by
  have := (shuf_mem h n x).2 ⟨h0, h1⟩
  obtain ⟨k, hk, hx⟩ := List.getElem_of_mem this
  exact ⟨k, by rw [shuf_length] at hk; exact hk, by rw [List.getElem?_eq_getElem hk, hx]⟩
theorem shuf_one {s : Int} (h : 1 ≤ s ∧ s ≤ 2147483646) {n i j : Nat} {x : Int} (hi : (shuf s n)[i]? = some x) (hj : (shuf s n)[j]? = some x) : i = j := by
  obtain ⟨h1, e1⟩ := List.getElem?_eq_some_iff.1 hi
  obtain ⟨h2, e2⟩ := List.getElem?_eq_some_iff.1 hj
  have hp := List.pairwise_iff_getElem.1 (shuf_nodup h n)
  rcases Nat.lt_trichotomy i j with h3 | h3 | h3
  · exact absurd (e1.trans e2.symm) (hp i j h1 h2 h3)
  · exact h3
  · exact absurd (e2.trans e1.symm) (hp j i h2 h1 h3)
theorem idx_at {s : Int} (h : 1 ≤ s ∧ s ≤ 2147483646) {n : Nat} {x : Int} (h0 : 0 ≤ x) (h1 : x < n) : idx (shuf s n) x < n ∧ (shuf s n)[idx (shuf s n) x]? = some x := by
  obtain ⟨k, hk, hx⟩ := shuf_at h h0 h1
  have : idx (shuf s n) x = k := idx_of hx (fun i hi e => by have := shuf_one h e hx; omega)
  rw [this]; exact ⟨hk, hx⟩

/-- the exchanges one behind the other, the states counted from the first -/
def exch (s : Int) (n : Nat) (l : List Int) (k : Nat) : List Int := swp l k (place (nxs s (k + 1)) n k)
def exchs (s : Int) (n : Nat) (ks : List Nat) : List Int := ks.foldl (exch s n) (nums n)
theorem exchs_snoc (s : Int) (n : Nat) (ks : List Nat) (k : Nat) : exchs s n (ks ++ [k]) = exch s n (exchs s n ks) k := by simp [exchs]
theorem exchs_length (s : Int) (n : Nat) (ks : List Nat) : (exchs s n ks).length = n := by
  suffices h : ∀ (ks : List Nat) (l : List Int), l.length = n → (ks.foldl (exch s n) l).length = n from h ks _ (nums_length n)
  intro ks
  induction ks with
  | nil => exact fun l hl => hl
  | cons k r ih => exact fun l hl => ih _ (by rw [exch, swp_length, hl])
theorem shufTo_state_nxs (s : Int) (n i : Nat) : (shufTo s n i).1 = nxs s i := by
  induction i with
  | zero => rfl
  | succ i ih => rw [nxs_succ, ← ih]; rfl
theorem exchs_range (s : Int) (n i : Nat) : exchs s n (List.range i) = (shufTo s n i).2 := by
  induction i with
  | zero => rfl
  | succ i ih =>
    rw [List.range_succ, exchs_snoc, ih]
    show exch s n _ i = swp (shufTo s n i).2 i (place (nx (shufTo s n i).1) n i)
    rw [exch, nxs_succ, shufTo_state_nxs]
theorem exchs_shuf (s : Int) (n : Nat) : exchs s n (List.range (n - 1)) = shuf s n := exchs_range s n _

theorem shufR_len (s n : Int) : (shufR s n).1.length ≤ 200 := by
  unfold shufR; split
  · rename_i h; rw [shuf_length]; omega
  · simp
theorem sampR_len (s n k : Int) : (sampR s n k).1.length ≤ 200 := by
  unfold sampR; split
  · rename_i h; rw [List.length_take, shuf_length]; omega
  · simp
theorem statesR_len (s n : Int) : (statesR s n).1.length ≤ 200 := by
  unfold statesR; split
  · rename_i h; rw [statesTo_length]; omega
  · simp

end Go.Proofs.YtmpopfcnjgcncaaGreatDoor.Pure31
