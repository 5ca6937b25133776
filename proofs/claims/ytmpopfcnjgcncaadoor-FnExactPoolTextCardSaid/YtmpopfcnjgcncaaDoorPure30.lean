/- Plain facts on public draws (chapter 3): states, shuffled numbers, commitments. No program is imported here. -/
import Derived.Test.YtmpopfcnjgcncaaDoorPure2
import Derived.WalkKit
namespace Go.Proofs.YtmpopfcnjgcncaaDoor.Pure30
open Go.RowKit Pure2

/-- a state -/
def isState (s : Int) : Bool := decide (1 ≤ s) && decide (s ≤ 2147483646)
theorem isState_iff (s : Int) : isState s = true ↔ 1 ≤ s ∧ s ≤ 2147483646 := by simp [isState]
theorem isState_no (s : Int) : isState s = false ↔ s < 1 ∨ 2147483646 < s := by rw [← Bool.not_eq_true, isState_iff]; omega
/-- the next state -/
def nx (s : Int) : Int := s * 48271 % 2147483647
/-- the modulus has no divisor in common with the factor: the next state is a state -/
theorem nx_back (s : Int) : nx s * 1899818559 % 2147483647 = s % 2147483647 := by
  unfold nx; omega
theorem nx_state {s : Int} (h : 1 ≤ s ∧ s ≤ 2147483646) : 1 ≤ nx s ∧ nx s ≤ 2147483646 := by
  have h1 := nx_back s
  have h2 : 0 ≤ nx s ∧ nx s < 2147483647 := by unfold nx; omega
  by_cases h0 : nx s = 0
  · rw [h0] at h1; omega
  · omega
/-- a number below n that is drawn in state s -/
def below (s n : Int) : Int := s * n / 2147483647
theorem below_bd {s n : Int} (h : 0 ≤ s ∧ s ≤ 2147483646) (hn : 0 ≤ n) : 0 ≤ below s n ∧ (0 < n → below s n < n) := by
  unfold below
  refine ⟨Int.ediv_nonneg (Int.mul_nonneg h.1 hn) (by omega), fun h0 => ?_⟩
  apply Int.ediv_lt_of_lt_mul (by omega)
  rw [Int.mul_comm]
  exact Int.mul_lt_mul_of_pos_left (by omega) h0

/-- two places are exchanged -/
def swp (l : List Int) (i k : Nat) : List Int := (l.set i (l.getD k 0)).set k (l.getD i 0)
theorem swp_length (l : List Int) (i k : Nat) : (swp l i k).length = l.length := by simp [swp]
theorem swp_getD {l : List Int} {i k : Nat} (hi : i < l.length) (hk : k < l.length) (j : Nat) : (swp l i k).getD j 0 = if j = k then l.getD i 0 else if j = i then l.getD k 0 else l.getD j 0 := by
  unfold swp
  simp only [List.getD_eq_getElem?_getD, List.getElem?_set, List.length_set]
  by_cases h1 : k = j
  · subst h1; simp [hk]
  · by_cases h2 : i = j
    · subst h2; simp [h1, hi, Ne.symm h1]
    · simp [h1, h2, Ne.symm h1, Ne.symm h2]
theorem swp_perm {l : List Int} {i k : Nat} (hi : i < l.length) (hk : k < l.length) : (swp l i k).Perm l := by
  unfold swp
  simp only [List.getD_eq_getElem?_getD, List.getElem?_eq_getElem hi, List.getElem?_eq_getElem hk, Option.getD_some]
  exact List.set_set_perm hi hk

/-- the numbers 0 to n - 1 -/
def nums (n : Nat) : List Int := (List.range n).map fun (i : Nat) => (i : Int)
theorem nums_length (n : Nat) : (nums n).length = n := by simp [nums]
theorem nums_snoc (n : Nat) : nums (n + 1) = nums n ++ [(n : Int)] := by simp [nums, List.range_succ]
theorem nums_mem (n : Nat) (x : Int) : x ∈ nums n ↔ 0 ≤ x ∧ x < n := by
  simp only [nums, List.mem_map, List.mem_range]
  constructor
  · rintro ⟨i, hi, rfl⟩; omega
  · rintro ⟨h0, h1⟩; exact ⟨x.toNat, by omega, by omega⟩
/-- the place that is exchanged with i, in the state behind i + 1 steps -/
def place (s : Int) (n i : Nat) : Nat := i + (below s ((n : Int) - i)).toNat
theorem place_bd {s : Int} {n i : Nat} (hs : 0 ≤ s ∧ s ≤ 2147483646) (hi : i < n) : i ≤ place s n i ∧ place s n i < n := by
  have := below_bd hs (show (0 : Int) ≤ (n : Int) - i by omega)
  have h2 := this.2 (by omega)
  unfold place; omega
/-- state and numbers behind i exchanges -/
def shufTo (s : Int) (n : Nat) : Nat → Int × List Int
  | 0 => (s, nums n)
  | i + 1 => (nx (shufTo s n i).1, swp (shufTo s n i).2 i (place (nx (shufTo s n i).1) n i))
/-- the shuffled numbers -/
def shuf (s : Int) (n : Nat) : List Int := (shufTo s n (n - 1)).2
theorem shufTo_state {s : Int} (h : 1 ≤ s ∧ s ≤ 2147483646) (n i : Nat) : 1 ≤ (shufTo s n i).1 ∧ (shufTo s n i).1 ≤ 2147483646 := by
  induction i with
  | zero => exact h
  | succ i ih => exact nx_state ih
theorem shufTo_length (s : Int) (n i : Nat) : (shufTo s n i).2.length = n := by
  induction i with
  | zero => exact nums_length n
  | succ i ih => simp only [shufTo, swp_length]; exact ih
theorem shufTo_perm {s : Int} (h : 1 ≤ s ∧ s ≤ 2147483646) (n i : Nat) (hi : i ≤ n) : (shufTo s n i).2.Perm (nums n) := by
  induction i with
  | zero => exact List.Perm.refl _
  | succ i ih =>
    have hst := nx_state (shufTo_state h n i)
    have hp := place_bd (n := n) ⟨by omega, hst.2⟩ (show i < n by omega)
    exact (swp_perm (by rw [shufTo_length]; omega) (by rw [shufTo_length]; omega)).trans (ih (by omega))
theorem shuf_perm {s : Int} (h : 1 ≤ s ∧ s ≤ 2147483646) (n : Nat) : (shuf s n).Perm (nums n) := shufTo_perm h n _ (by omega)
theorem shuf_length (s : Int) (n : Nat) : (shuf s n).length = n := shufTo_length s n _
theorem shuf_mem {s : Int} (h : 1 ≤ s ∧ s ≤ 2147483646) (n : Nat) (x : Int) : x ∈ shuf s n ↔ 0 ≤ x ∧ x < n := by rw [(shuf_perm h n).mem_iff, nums_mem]
theorem shuf_nodup {s : Int} (h : 1 ≤ s ∧ s ≤ 2147483646) (n : Nat) : (shuf s n).Nodup := by
  rw [(shuf_perm h n).nodup_iff]
  unfold nums
  exact List.pairwise_map.2 ((List.nodup_range (n := n)).imp fun h e => h (by omega))

/-- the commitment of a state and a salt -/
def commit (s t : Int) : Int := ((s * 16807 + t) % 2147483647 * 65539 + s) % 2147483647
/-- the state behind k steps -/
def nxs (s : Int) : Nat → Int
  | 0 => s
  | k + 1 => nx (nxs s k)
/-- the states behind s -/
def statesTo (s : Int) : Nat → List Int
  | 0 => []
  | k + 1 => statesTo s k ++ [nxs s (k + 1)]
theorem nxs_zero (s : Int) : nxs s 0 = s := rfl
theorem nxs_succ (s : Int) (k : Nat) : nxs s (k + 1) = nx (nxs s k) := rfl
theorem nxs_state {s : Int} (h : 1 ≤ s ∧ s ≤ 2147483646) (k : Nat) : 1 ≤ nxs s k ∧ nxs s k ≤ 2147483646 := by
  induction k with
  | zero => exact h
  | succ k ih => exact nx_state ih
theorem statesTo_succ (s : Int) (k : Nat) : statesTo s (k + 1) = statesTo s k ++ [nxs s (k + 1)] := rfl
theorem statesTo_length (s : Int) (k : Nat) : (statesTo s k).length = k := by
  induction k with
  | zero => rfl
  | succ k ih => rw [statesTo_succ, List.length_append, ih]; rfl
theorem statesTo_at (s : Int) (k i : Nat) (hi : i < k) : (statesTo s k)[i]? = some (nxs s (i + 1)) := by
  induction k with
  | zero => omega
  | succ k ih =>
    rw [statesTo_succ]
    by_cases e : i = k
    · subst e; rw [List.getElem?_append_right (by rw [statesTo_length]; omega), statesTo_length]; simp
    · rw [List.getElem?_append_left (by rw [statesTo_length]; omega)]; exact ih (by omega)

end Go.Proofs.YtmpopfcnjgcncaaDoor.Pure30
