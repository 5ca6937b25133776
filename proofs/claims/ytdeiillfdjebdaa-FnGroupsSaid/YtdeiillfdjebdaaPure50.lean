/- Plain facts on graphs of persons who are alike (chapter 5): distances, groups, keepers, chains. No program is imported here. -/
import Derived.WalkKit
namespace Go.Proofs.Ytdeiillfdjebdaa.Pure50

open Classical in
/-- the least number of a kind, 0 if there is none -/
noncomputable def leastP (p : Nat → Prop) : Nat := if h : ∃ k, p k ∧ ∀ j, j < k → ¬ p j then Classical.choose h else 0
theorem least_ex {p : Nat → Prop} {k : Nat} (h : p k) : ∃ k, p k ∧ ∀ j, j < k → ¬ p j := by
  induction k using Nat.strongRecOn with
  | _ k ih =>
    by_cases hk : ∃ j, j < k ∧ p j
    · obtain ⟨j, hj, hp⟩ := hk; exact ih j hj hp
    · exact ⟨k, h, fun j hj hp => hk ⟨j, hj, hp⟩⟩
theorem leastP_spec {p : Nat → Prop} {k : Nat} (h : p k) : p (leastP p) ∧ ∀ j, j < leastP p → ¬ p j := by
  unfold leastP; rw [dif_pos (least_ex h)]; exact Classical.choose_spec (least_ex h)
theorem leastP_le {p : Nat → Prop} {k : Nat} (h : p k) : leastP p ≤ k := by
  have := (leastP_spec h).2 k
  by_cases e : k < leastP p
  · exact absurd h (this e)
  · omega
theorem leastP_eq {p : Nat → Prop} {k : Nat} (h : p k) (h' : ∀ j, j < k → ¬ p j) : leastP p = k := by
  have h1 := leastP_spec h
  have h2 := leastP_le h
  by_cases e : leastP p < k
  · exact absurd h1.1 (h' _ e)
  · omega

/-- a walk of so many steps -/
inductive Reach (A : Nat → Nat → Bool) (b : Nat) : Nat → Nat → Prop
  | here : Reach A b 0 b
  | step {d i j : Nat} : Reach A b d i → A i j = true → Reach A b (d + 1) j

section
variable {A : Nat → Nat → Bool} {n : Nat}

theorem Reach.trans {a b : Nat} : ∀ {e d c : Nat}, Reach A a d b → Reach A b e c → Reach A a (d + e) c
  | 0, _, _, h, .here => h
  | e + 1, d, _, h, .step h1 h2 => by rw [← Nat.add_assoc]; exact .step (h.trans h1) h2
theorem Reach.symm (hs : ∀ i j, A i j = A j i) {a : Nat} : ∀ {d b : Nat}, Reach A a d b → Reach A b d a
  | 0, _, .here => .here
  | d + 1, b, .step (i := i) h1 h2 => by
    have h3 : Reach A b 1 i := .step .here (by rw [hs]; exact h2)
    have := h3.trans (h1.symm hs)
    rwa [Nat.add_comm] at this

/-- they are in one group -/
def Conn (A : Nat → Nat → Bool) (a b : Nat) : Prop := ∃ d, Reach A a d b
theorem Conn.refl (a : Nat) : Conn A a a := ⟨0, .here⟩
theorem Conn.trans {a b c : Nat} (h : Conn A a b) (h' : Conn A b c) : Conn A a c := by
  obtain ⟨d, h⟩ := h; obtain ⟨e, h'⟩ := h'; exact ⟨_, h.trans h'⟩
theorem Conn.symm (hs : ∀ i j, A i j = A j i) {a b : Nat} (h : Conn A a b) : Conn A b a := by obtain ⟨d, h⟩ := h; exact ⟨d, h.symm hs⟩
theorem Conn.edge {a b : Nat} (h : A a b = true) : Conn A a b := ⟨1, .step .here h⟩
theorem Conn.lt (hA : ∀ i j, A i j = true → i < n ∧ j < n) {a b : Nat} (ha : a < n) (h : Conn A a b) : b < n := by
  obtain ⟨d, h⟩ := h
  cases h with
  | here => exact ha
  | step h1 h2 => exact (hA _ _ h2).2

open Classical in
/-- the least number of steps to a person, or -1 -/
noncomputable def dist (A : Nat → Nat → Bool) (b i : Nat) : Int := if Conn A b i then (leastP (fun d => Reach A b d i) : Int) else -1
theorem dist_conn {b i : Nat} (h : Conn A b i) : ∃ d : Nat, dist A b i = d ∧ Reach A b d i ∧ ∀ e, e < d → ¬ Reach A b e i := by
  obtain ⟨k, hk⟩ := id h
  unfold dist; rw [if_pos h]
  exact ⟨_, rfl, leastP_spec (p := fun d => Reach A b d i) hk⟩
theorem dist_none {b i : Nat} (h : ¬ Conn A b i) : dist A b i = -1 := by unfold dist; rw [if_neg h]
theorem dist_nonneg {b i : Nat} : 0 ≤ dist A b i ↔ Conn A b i := by
  constructor
  · intro h; by_cases hc : Conn A b i
    · exact hc
    · rw [dist_none hc] at h; omega
  · intro h; obtain ⟨d, hd, _⟩ := dist_conn h; omega
theorem dist_neg {b i : Nat} : dist A b i < 0 ↔ ¬ Conn A b i := by
  rw [← dist_nonneg]; omega
theorem dist_of {b i d : Nat} (h : Reach A b d i) (h' : ∀ e, e < d → ¬ Reach A b e i) : dist A b i = d := by
  obtain ⟨d', e1, h1, h2⟩ := dist_conn ⟨d, h⟩
  rw [e1]
  by_cases hlt : d' < d
  · exact absurd h1 (h' _ hlt)
  · by_cases hlt2 : d < d'
    · exact absurd h (h2 _ hlt2)
    · omega
theorem dist_le {b i d : Nat} (h : Reach A b d i) : dist A b i ≤ d := by
  obtain ⟨d', e1, h1, h2⟩ := dist_conn ⟨d, h⟩
  by_cases hlt : d < d'
  · exact absurd h (h2 _ hlt)
  · omega
theorem dist_self (b : Nat) : dist A b b = 0 := dist_of (d := 0) .here (fun e he => by omega)
theorem dist_ge (b i : Nat) : -1 ≤ dist A b i := by
  by_cases h : Conn A b i
  · have := dist_nonneg.2 h; omega
  · rw [dist_none h]; omega
theorem dist_zero {b i : Nat} (h : dist A b i = 0) : i = b := by
  obtain ⟨d, e, hr, _⟩ := dist_conn (dist_nonneg.1 (by omega : 0 ≤ dist A b i))
  obtain rfl : d = 0 := by omega
  cases hr; rfl
theorem dist_edge {b i j : Nat} (hi : 0 ≤ dist A b i) (h : A i j = true) : 0 ≤ dist A b j ∧ dist A b j ≤ dist A b i + 1 := by
  obtain ⟨d, e, hr, _⟩ := dist_conn (dist_nonneg.1 hi)
  have h2 : Reach A b (d + 1) j := .step hr h
  exact ⟨dist_nonneg.2 ⟨_, h2⟩, by have := dist_le h2; omega⟩
theorem dist_pred {b j : Nat} {d : Nat} (h : dist A b j = (d : Int) + 1) : ∃ i, dist A b i = d ∧ A i j = true := by
  obtain ⟨k, e, hr, hm⟩ := dist_conn (dist_nonneg.1 (by omega : 0 ≤ dist A b j))
  obtain rfl : k = d + 1 := by omega
  cases hr with
  | step h1 h2 =>
    rename_i i
    refine ⟨i, ?_, h2⟩
    refine dist_of h1 (fun e he hre => hm (e + 1) (by omega) (.step hre h2))
theorem dist_comm (hs : ∀ i j, A i j = A j i) (a b : Nat) : dist A a b = dist A b a := by
  by_cases h : Conn A a b
  · obtain ⟨d, e, hr, hm⟩ := dist_conn h
    rw [e, dist_of (hr.symm hs) (fun e he hre => hm e he (hre.symm hs))]
  · rw [dist_none h, dist_none (fun h' => h (h'.symm hs))]

/-- a list with no number twice, all of them below n, has at most n numbers -/
theorem nodup_le : ∀ {n : Nat} {l : List Nat}, l.Nodup → (∀ x ∈ l, x < n) → l.length ≤ n
  | 0, [], _, _ => by simp
  | 0, x :: _, _, h => by have := h x (by simp); omega
  | n + 1, l, hn, h => by
    have h1 : (l.erase n).length ≤ n := nodup_le (hn.erase n) (fun x hx => by
      have hx' : x ∈ l ∧ x ≠ n := by rw [hn.mem_erase_iff] at hx; exact ⟨hx.2, hx.1⟩
      have := h x hx'.1; omega)
    have := List.le_length_erase (l := l) (a := n)
    omega
theorem dist_row {b i : Nat} : ∀ d : Nat, dist A b i = d → ∃ l : List Nat, l.length = d + 1 ∧ l.Nodup ∧ ∀ x ∈ l, (∃ k : Nat, dist A b x = k ∧ k ≤ d) ∧ (x = i ∨ ∃ y, A x y = true)
  | 0, h => ⟨[i], rfl, by simp, fun x hx => by simp at hx; subst hx; exact ⟨⟨0, h, Nat.le_refl _⟩, .inl rfl⟩⟩
  | d + 1, h => by
    obtain ⟨j, hj, ha⟩ := dist_pred (A := A) (b := b) (j := i) (d := d) (by omega)
    obtain ⟨l, hl, hn, hx⟩ := dist_row (i := j) d hj
    refine ⟨i :: l, by simp [hl], List.nodup_cons.2 ⟨fun hi => ?_, hn⟩, fun x hx' => ?_⟩
    · obtain ⟨⟨k, hk, hle⟩, _⟩ := hx i hi; omega
    · rcases List.mem_cons.1 hx' with rfl | hm
      · exact ⟨⟨d + 1, by omega, Nat.le_refl _⟩, .inl rfl⟩
      · obtain ⟨⟨k, hk, hle⟩, h2⟩ := hx x hm
        refine ⟨⟨k, hk, by omega⟩, .inr ?_⟩
        rcases h2 with rfl | h2
        · exact ⟨_, ha⟩
        · exact h2
theorem dist_lt (hA : ∀ i j, A i j = true → i < n ∧ j < n) {b i : Nat} (hi : i < n) : dist A b i < n := by
  by_cases h : 0 ≤ dist A b i
  · obtain ⟨d, hd, _⟩ := dist_conn (dist_nonneg.1 h)
    obtain ⟨l, hl, hn, hx⟩ := dist_row d hd
    have := nodup_le hn (n := n) (fun x hx' => by
      rcases (hx x hx').2 with rfl | ⟨y, hy⟩
      · exact hi
      · exact (hA _ _ hy).1)
    omega
  · omega

/-- the first person of a group -/
noncomputable def keep (A : Nat → Nat → Bool) (i : Nat) : Nat := leastP (fun j => Conn A i j)
theorem keep_conn (i : Nat) : Conn A i (keep A i) := (leastP_spec (p := fun j => Conn A i j) (.refl i)).1
theorem keep_le {i j : Nat} (h : Conn A i j) : keep A i ≤ j := leastP_le (p := fun j => Conn A i j) h
theorem keep_le_self (i : Nat) : keep A i ≤ i := keep_le (.refl i)
theorem keep_eq {i k : Nat} (h : Conn A i k) (h' : ∀ j, Conn A i j → k ≤ j) : keep A i = k := by
  have h1 := h' _ (keep_conn i); have h2 := keep_le h; omega
theorem keep_same (hs : ∀ i j, A i j = A j i) {i j : Nat} (h : Conn A i j) : keep A i = keep A j :=
  keep_eq (h.trans (keep_conn j)) (fun _ hk => keep_le ((h.symm hs).trans hk))
theorem conn_of_keep (hs : ∀ i j, A i j = A j i) {i j : Nat} (h : keep A i = keep A j) : Conn A i j :=
  (keep_conn i).trans (by rw [h]; exact (keep_conn j).symm hs)
theorem keep_keep (hs : ∀ i j, A i j = A j i) (i : Nat) : keep A (keep A i) = keep A i := (keep_same hs (keep_conn i)).symm
end
end Go.Proofs.Ytdeiillfdjebdaa.Pure50
