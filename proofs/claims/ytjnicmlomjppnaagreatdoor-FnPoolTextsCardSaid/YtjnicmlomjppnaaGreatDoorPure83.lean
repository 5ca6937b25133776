/- Plain facts on pools, the program's way: numbers told apart by sorting them, a number taken out of a list. No program is imported here. -/
import Derived.Test.YtjnicmlomjppnaaGreatDoorBase0
import Derived.Lib.SlicesCompact
namespace Go.Proofs.YtjnicmlomjppnaaGreatDoor.Pure83
open Go.RowKit Pure2 Pure30 Pure60 Pure80

/-- no number is told twice -/
def diff (zs : List Int) : Bool := decide zs.Nodup
def sortI (zs : List Int) : List Int := zs.mergeSort fun x y => decide (x ≤ y)
theorem sortI_perm (zs : List Int) : (sortI zs).Perm zs := List.mergeSort_perm _ _
theorem sortI_length (zs : List Int) : (sortI zs).length = zs.length := (sortI_perm zs).length_eq
theorem sortI_pair (zs : List Int) : (sortI zs).Pairwise (· ≤ ·) := by
  have h := List.pairwise_mergeSort (le := fun x y : Int => decide (x ≤ y)) (by intro a b c; simp; omega) (by intro a b; simp; omega) zs
  exact h.imp (by simp)
theorem keeps_all_of_len {xs : List Int} (h : (Go.Lib.compact xs).length = xs.length) : ∀ j, j < xs.length → Go.Lib.keeps xs.toArray j = true := by
  unfold Go.Lib.compact Go.Lib.compactUpTo at h
  rw [List.length_map] at h
  have h2 : ((List.range xs.length).filter (Go.Lib.keeps xs.toArray)).length = (List.range xs.length).length := by rw [List.length_range]; exact h
  have h3 := List.length_filter_eq_length_iff.1 h2
  intro j hj
  exact h3 j (List.mem_range.2 hj)
theorem nodup_of_keeps {xs : List Int} (hs : xs.Pairwise (· ≤ ·)) (h : ∀ j, j < xs.length → Go.Lib.keeps xs.toArray j = true) : xs.Nodup := by
  rw [List.nodup_iff_pairwise_ne, List.pairwise_iff_getElem]
  intro i j hi hj hij e
  have hk := h j hj
  unfold Go.Lib.keeps at hk
  rw [decide_eq_true_iff] at hk
  have g0 : xs.toArray[j]! = xs[j] := by simp [hj]
  have g1 : xs.toArray[j - 1]! = xs[j - 1]'(by omega) := by simp [show j - 1 < xs.length by omega]
  rw [g0, g1] at hk
  have hp := List.pairwise_iff_getElem.1 hs
  have h1 := hp (j - 1) j (by omega) hj (by omega)
  have h2 : xs[i] ≤ xs[j - 1]'(by omega) := by
    by_cases e2 : i = j - 1
    · subst e2; exact Int.le_refl _
    · exact hp i (j - 1) hi (by omega) (by omega)
  rcases hk with hk | hk
  · omega
  · omega
theorem keeps_of_nodup {xs : List Int} (h : xs.Nodup) : ∀ j, j < xs.length → Go.Lib.keeps xs.toArray j = true := by
  intro j hj
  unfold Go.Lib.keeps
  rw [decide_eq_true_iff]
  by_cases e : j = 0
  · exact .inl e
  · refine .inr ?_
    have g0 : xs.toArray[j]! = xs[j] := by simp [hj]
    have g1 : xs.toArray[j - 1]! = xs[j - 1]'(by omega) := by simp [show j - 1 < xs.length by omega]
    rw [g0, g1]
    rw [List.nodup_iff_pairwise_ne, List.pairwise_iff_getElem] at h
    exact fun e2 => h (j - 1) j (by omega) hj (by omega) e2.symm
theorem compact_len (zs : List Int) : ((Go.Lib.compact (sortI zs)).length = zs.length) ↔ zs.Nodup := by
  constructor
  · intro h
    exact (sortI_perm zs).nodup_iff.1 (nodup_of_keeps (sortI_pair zs) (keeps_all_of_len (by rw [h, sortI_length])))
  · intro h
    rw [Go.Lib.compact_all _ (keeps_of_nodup ((sortI_perm zs).nodup_iff.2 h)), sortI_length]
theorem diff_of (zs : List Int) : decide ((Go.Lib.compact (sortI zs)).length = zs.length) = diff zs := by
  unfold diff
  exact decide_eq_decide.2 (compact_len zs)
theorem diff_iff (zs : List Int) : diff zs = true ↔ zs.Nodup := by simp [diff]
theorem diff_no (zs : List Int) : diff zs = false ↔ ¬ zs.Nodup := by simp [diff]

theorem isPool_split (p : PoolV) : isPool p = (rises 60 1 1000000 p.nums && (p.drawn.all (mem p.nums) && (diff p.drawn && isState p.state))) := by
  cases h1 : rises 60 1 1000000 p.nums with
  | false => rw [Bool.false_and]; exact pool_rises h1
  | true =>
    rw [Bool.true_and]
    cases h2 : p.drawn.all (mem p.nums) with
    | false =>
      rw [Bool.false_and]
      refine (isPool_no p).2 fun h => ?_
      rw [← Bool.not_eq_true, List.all_eq_true] at h2
      exact h2 fun x hx => (mem_iff _ _).2 (drawn_sub h.2.1 x hx)
    | true =>
      rw [Bool.true_and]
      cases h3 : diff p.drawn with
      | false => rw [Bool.false_and]; exact (isPool_no p).2 fun h => (diff_no _).1 h3 (drawn_nodup h.2.1)
      | true =>
        rw [Bool.true_and]
        cases h4 : isState p.state with
        | false => exact (isPool_no p).2 fun h => by have := h.2.2; rw [h4] at this; cases this
        | true => exact (isPool_iff p).2 ⟨(rises_iff _ _ _ _).1 h1, drawn_of ((diff_iff _).1 h3) fun x hx => (mem_iff _ _).1 (List.all_eq_true.1 h2 x hx), h4⟩

/-- a number taken out where it stands -/
theorem erase_at : ∀ {zs : List Int}, zs.Nodup → ∀ {k : Nat} {x : Int}, zs[k]? = some x → zs.eraseIdx k = zs.filter fun y => !decide (y = x)
  | [], _, _, _, hx => by simp at hx
  | a :: r, h, 0, x, hx => by
    rw [List.nodup_cons] at h
    have e : a = x := by simpa using hx
    subst e
    have h2 : (r.filter fun y => !decide (y = a)) = r := List.filter_eq_self.2 fun y hy => by simp; rintro rfl; exact h.1 hy
    simp [h2]
  | a :: r, h, k + 1, x, hx => by
    rw [List.nodup_cons] at h
    have hx' : r[k]? = some x := by simpa using hx
    have hne : a ≠ x := fun e => h.1 (e ▸ List.mem_of_getElem? hx')
    rw [List.eraseIdx_cons_succ, erase_at h.2 hx', List.filter_cons]
    simp [hne]
theorem leftL_erase {ns ds : List Int} (h : ns.Nodup) {k : Nat} {x : Int} (hx : (leftL ns ds)[k]? = some x) : (leftL ns ds).eraseIdx k = leftL ns (ds ++ [x]) := by
  rw [leftL_snoc, erase_at (leftL_nodup h) hx]
theorem leftL_take {ns ds : List Int} (h : ns.Nodup) {j k : Nat} {x : Int} (hj : ds[j]? = some x) (hx : (leftL ns (ds.take j))[k]? = some x) : (leftL ns (ds.take j)).eraseIdx k = leftL ns (ds.take (j + 1)) := by
  rw [List.take_add_one, hj, leftL_erase h hx]; rfl
/-- where a number that is still left stands -/
theorem leftL_has {ns ds : List Int} (h2 : ds.Nodup) (h3 : ∀ x ∈ ds, x ∈ ns) {j : Nat} {x : Int} (hj : ds[j]? = some x) : x ∈ leftL ns (ds.take j) := by
  refine (leftL_mem _ _ _).2 ⟨h3 x (List.mem_of_getElem? hj), fun hm => ?_⟩
  obtain ⟨i, hi⟩ := List.mem_iff_getElem?.1 hm
  rw [List.getElem?_take] at hi
  split at hi
  · rename_i hlt
    rw [List.nodup_iff_pairwise_ne, List.pairwise_iff_getElem] at h2
    obtain ⟨ha, e1⟩ := List.getElem?_eq_some_iff.1 hj
    obtain ⟨hb, e2⟩ := List.getElem?_eq_some_iff.1 hi
    exact h2 i j hb ha hlt (e2.trans e1.symm)
  · cases hi
theorem leftL_take_le (ns ds : List Int) (j : Nat) : (leftL ns (ds.take j)).length ≤ ns.length := leftL_le _ _
/-- of a list without repetitions as many are left as have not been taken -/
theorem leftL_take_len {ns ds : List Int} (h1 : ns.Nodup) (h2 : ds.Nodup) (h3 : ∀ x ∈ ds, x ∈ ns) {j : Nat} (hj : j ≤ ds.length) : (leftL ns (ds.take j)).length + j = ns.length := by
  have h := leftL_length h1 (h2.sublist (List.take_sublist j ds)) (fun x hx => h3 x (List.mem_of_mem_take hx))
  rw [List.length_take, Nat.min_eq_left hj] at h; exact h
theorem take_zero_left (ns ds : List Int) : leftL ns (ds.take 0) = ns := by rw [List.take_zero, leftL_none]
theorem take_all_left (ns ds : List Int) {k : Nat} (hk : ds.length ≤ k) : leftL ns (ds.take k) = leftL ns ds := by rw [List.take_of_length_le hk]

/-- the first place of a number -/
def FirstOf (zs : List Int) (x : Int) (n : Int) : Prop := (∃ j : Nat, zs[j]? = some x ∧ n = j) ∨ (x ∉ zs ∧ n = -1)
theorem firstOf_mem {zs : List Int} {x n : Int} (h : FirstOf zs x n) (hx : x ∈ zs) : ∃ j : Nat, zs[j]? = some x ∧ n = j := by
  rcases h with h | h
  · exact h
  · exact absurd hx h.1
theorem firstOf_test {zs : List Int} {x n : Int} (h : FirstOf zs x n) : decide (0 ≤ n) = mem zs x := by
  unfold mem
  rcases h with ⟨j, hj, rfl⟩ | ⟨hn, rfl⟩
  · exact (decide_eq_true (by omega)).trans (decide_eq_true (List.mem_of_getElem? hj)).symm
  · exact (decide_eq_false (by omega)).trans (decide_eq_false hn).symm
/-- all numbers so far are among some -/
def AllTo (zs ns : List Int) (k : Nat) : Prop := ∀ (i : Nat) x, i < k → zs[i]? = some x → mem ns x = true
theorem allTo_zero (zs ns : List Int) : AllTo zs ns 0 := fun i x h => by omega
theorem allTo_step {zs ns : List Int} {k : Nat} {x : Int} (h : AllTo zs ns k) (hx : zs[k]? = some x) (h1 : mem ns x = true) : AllTo zs ns (k + 1) := by
  intro i y hi hy
  by_cases e : i = k
  · subst e; rw [hx] at hy; cases hy; exact h1
  · exact h i y (by omega) hy
theorem allTo_end {zs ns : List Int} {k : Nat} (h : AllTo zs ns k) (hk : zs.length ≤ k) : zs.all (mem ns) = true := by
  rw [List.all_eq_true]
  intro x hx
  obtain ⟨i, hi⟩ := List.mem_iff_getElem?.1 hx
  exact h i x (by have := (List.getElem?_eq_some_iff.1 hi).1; omega) hi
theorem all_not {zs ns : List Int} {k : Nat} {x : Int} (hx : zs[k]? = some x) (h1 : mem ns x = false) : zs.all (mem ns) = false := by
  rw [← Bool.not_eq_true, List.all_eq_true]
  intro h
  have := h x (List.mem_of_getElem? hx)
  rw [h1] at this; cases this

end Go.Proofs.YtjnicmlomjppnaaGreatDoor.Pure83
