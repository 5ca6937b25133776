/- Plain facts on chapter 5: who is alike, pairs, groups, the search for steps from both sides, groups joined by pointers. No program is imported here. -/
import Derived.Test.YtdeiillfdjebdaaPure40
import Derived.Test.YtdeiillfdjebdaaPure41
import Derived.Test.YtdeiillfdjebdaaPure50
import Derived.WalkKit
namespace Go.Proofs.Ytdeiillfdjebdaa.Pure51
open Pure40 Pure41 Pure50

/-- are two persons of a list alike? -/
def adj (ps : List Pers) (m : Int) (i j : Nat) : Bool := match ps[i]?, ps[j]? with
  | some p, some q => decide (m ≤ likeP p q)
  | _, _ => false
theorem adj_at {ps : List Pers} {m : Int} {i j : Nat} {p q : Pers} (hp : ps[i]? = some p) (hq : ps[j]? = some q) : adj ps m i j = decide (m ≤ likeP p q) := by simp [adj, hp, hq]
theorem adj_comm (ps : List Pers) (m : Int) (i j : Nat) : adj ps m i j = adj ps m j i := by
  unfold adj
  cases ps[i]? <;> cases ps[j]? <;> simp [likeP_comm]
theorem adj_lt {ps : List Pers} {m : Int} {i j : Nat} (h : adj ps m i j = true) : i < ps.length ∧ j < ps.length := by
  unfold adj at h
  by_cases h1 : i < ps.length
  · by_cases h2 : j < ps.length
    · exact ⟨h1, h2⟩
    · rw [List.getElem?_eq_none (by omega : ps.length ≤ j)] at h
      cases ps[i]? <;> simp at h
  · rw [List.getElem?_eq_none (by omega : ps.length ≤ i)] at h
    simp at h
theorem adj_self {ps : List Pers} {m : Int} {i : Nat} (hm : m ≤ 100) (h : i < ps.length) : adj ps m i i = true := by
  rw [adj_at (List.getElem?_eq_getElem h) (List.getElem?_eq_getElem h), likeP_self]; simpa using hm
theorem likeP_in (a b : Pers) : 0 ≤ likeP a b ∧ likeP a b ≤ 100 := by
  unfold likeP wordP bornP
  constructor
  all_goals
    split <;> split <;> split <;> split <;> first | omega | (split <;> first | omega | (split <;> first | omega | (split <;> omega)))

/-- numbers as they lie in memory -/
def toI (l : List Nat) : List Int := l.map (fun (k : Nat) => (k : Int))
theorem toI_length (l : List Nat) : (toI l).length = l.length := by simp [toI]
theorem toI_append (l k : List Nat) : toI (l ++ k) = toI l ++ toI k := by simp [toI]
theorem toI_at {l : List Nat} {i x : Nat} (h : l[i]? = some x) : (toI l)[i]? = some (x : Int) := by simp [toI, h]
theorem toI_take (l : List Nat) (k : Nat) : toI (l.take k) = (toI l).take k := by simp [toI]
/-- all numbers below k of a kind -/
def sel (p : Nat → Bool) (k : Nat) : List Nat := (List.range k).filter p
theorem sel_yes {p : Nat → Bool} {k : Nat} (h : p k = true) : sel p (k + 1) = sel p k ++ [k] := by simp [sel, List.range_succ, List.filter_append, h]
theorem sel_no {p : Nat → Bool} {k : Nat} (h : p k = false) : sel p (k + 1) = sel p k := by simp [sel, List.range_succ, List.filter_append, h]
theorem sel_zero (p : Nat → Bool) : sel p 0 = [] := rfl
theorem sel_le (p : Nat → Bool) (k : Nat) : (sel p k).length ≤ k := by
  have := List.length_filter_le p (List.range k); rwa [List.length_range] at this
theorem sel_mem {p : Nat → Bool} {k x : Nat} : x ∈ sel p k ↔ x < k ∧ p x = true := by simp [sel]
theorem sel_congr {p q : Nat → Bool} {k : Nat} (h : ∀ i, i < k → p i = q i) : sel p k = sel q k :=
  List.filter_congr (fun x hx => h x (List.mem_range.1 hx))
theorem sel_head {p : Nat → Bool} {k n : Nat} (hk : k < n) (h : p k = true) (h' : ∀ j, j < k → p j = false) : (sel p n)[0]? = some k := by
  rw [← List.head?_eq_getElem?, sel, List.head?_filter, List.find?_range_eq_some]
  exact ⟨h, List.mem_range.2 hk, fun j hj => by simp [h' j hj]⟩
theorem sel_ne {p : Nat → Bool} {k n : Nat} (hk : k < n) (h : p k = true) : 0 < (sel p n).length :=
  List.length_pos_of_mem (sel_mem.2 ⟨hk, h⟩)
theorem take_get {α : Type} {l : List α} {t : Nat} {x : α} (h : l[t]? = some x) : l.take (t + 1) = l.take t ++ [x] := by
  rw [List.take_add_one, h]; rfl

section
variable {A : Nat → Nat → Bool} {n : Nat}

/-! pairs -/
/-- the pairs of i with all persons behind i and ahead of k -/
def rowTo (A : Nat → Nat → Bool) (i k : Nat) : List (List Int) := (sel (fun k' => decide (i < k') && A i k') k).map (fun (k' : Nat) => [(i : Int), (k' : Int)])
theorem rowTo_start (A : Nat → Nat → Bool) (i : Nat) : rowTo A i (i + 1) = [] := by
  have : sel (fun k' => decide (i < k') && A i k') (i + 1) = [] := by
    rw [List.eq_nil_iff_forall_not_mem]
    intro x hx
    obtain ⟨h1, h2⟩ := sel_mem.1 hx
    simp only [Bool.and_eq_true, decide_eq_true_eq] at h2; omega
  rw [rowTo, this]; rfl
theorem rowTo_yes {i k : Nat} (hk : i < k) (h : A i k = true) : rowTo A i (k + 1) = rowTo A i k ++ [[(i : Int), (k : Int)]] := by
  rw [rowTo, sel_yes (by simp [hk, h]), List.map_append]; rfl
theorem rowTo_no {i k : Nat} (h : A i k = false) : rowTo A i (k + 1) = rowTo A i k := by rw [rowTo, sel_no (by simp [h])]; rfl
/-- the pairs of all persons ahead of i -/
def pairsTo (A : Nat → Nat → Bool) (n : Nat) : Nat → List (List Int)
  | 0 => []
  | i + 1 => pairsTo A n i ++ rowTo A i n
theorem rowTo_le (i k : Nat) : (rowTo A i k).length ≤ k := by rw [rowTo, List.length_map]; exact sel_le _ _
theorem pairsTo_le (n : Nat) : ∀ i, (pairsTo A n i).length ≤ i * n
  | 0 => by simp [pairsTo]
  | i + 1 => by
    have h1 := pairsTo_le n i; have h2 := rowTo_le (A := A) i n
    rw [pairsTo, List.length_append, Nat.succ_mul]; omega
def IsPair (A : Nat → Nat → Bool) (n : Nat) (xs : List Int) : Prop := ∃ a b : Nat, xs = [(a : Int), (b : Int)] ∧ a < b ∧ b < n ∧ A a b = true
theorem rowTo_mem {i k : Nat} {xs : List Int} (h : xs ∈ rowTo A i k) : IsPair A k xs := by
  obtain ⟨x, hx, rfl⟩ := List.mem_map.1 h
  obtain ⟨h1, h2⟩ := sel_mem.1 hx
  simp only [Bool.and_eq_true, decide_eq_true_eq] at h2
  exact ⟨i, x, rfl, h2.1, h1, h2.2⟩
theorem pairsTo_mem : ∀ {i : Nat} {xs : List Int}, xs ∈ pairsTo A n i → IsPair A n xs
  | 0, _, h => by simp [pairsTo] at h
  | i + 1, _, h => by
    rw [pairsTo, List.mem_append] at h
    rcases h with h | h
    · exact pairsTo_mem h
    · exact rowTo_mem h
theorem mem_pairsTo {a b : Nat} (hab : a < b) (hb : b < n) (h : A a b = true) : ∀ {i : Nat}, a < i → [(a : Int), (b : Int)] ∈ pairsTo A n i
  | 0, hi => by omega
  | i + 1, hi => by
    rw [pairsTo, List.mem_append]
    by_cases e : a = i
    · subst e
      refine .inr (List.mem_map.2 ⟨b, sel_mem.2 ⟨hb, by simp [hab, h]⟩, rfl⟩)
    · exact .inl (mem_pairsTo hab hb h (by omega))
/-- all pairs -/
def pairsL (A : Nat → Nat → Bool) (n : Nat) : List (List Int) := pairsTo A n n

/-! groups -/
/-- the group of a person -/
noncomputable def grpL (A : Nat → Nat → Bool) (n a : Nat) : List Nat := sel (fun j => decide (0 ≤ dist A a j)) n
/-- the keepers -/
noncomputable def kpsTo (A : Nat → Nat → Bool) (k : Nat) : List Nat := sel (fun i => decide (keep A i = i)) k
theorem grp_head (hA : ∀ i j, A i j = true → i < n ∧ j < n) {a : Nat} (ha : a < n) : (grpL A n a)[0]? = some (keep A a) :=
  sel_head ((keep_conn a).lt hA ha) (by simpa using dist_nonneg.2 (keep_conn a)) (fun j hj => by
    rw [decide_eq_false_iff_not]; intro h
    have := keep_le (dist_nonneg.1 h); omega)
theorem grp_same (hs : ∀ i j, A i j = A j i) {k : Nat} (hk : keep A k = k) : sel (fun i => decide (keep A i = k)) n = grpL A n k :=
  sel_congr (fun i _ => by
    rw [decide_eq_decide, dist_nonneg]
    constructor
    · intro h; exact conn_of_keep hs (by rw [hk, h])
    · intro h; rw [← keep_same hs h, hk])

theorem ite_iff {p q : Prop} {dp : Decidable p} {dq : Decidable q} (h : p ↔ q) (a b : Int) : (if p then a else b) = if q then a else b := by
  by_cases hp : p
  · rw [if_pos hp, if_pos (h.1 hp)]
  · rw [if_neg hp, if_neg (fun hq => hp (h.2 hq))]

/-! steps: one row after the other -/
open Classical in
/-- what is known at level l, behind all pairs ahead of (i, k) -/
noncomputable def lvl (A : Nat → Nat → Bool) (b l i k x : Nat) : Int :=
  if 0 ≤ dist A b x ∧ dist A b x ≤ l then dist A b x else if ∃ i', (i' < i ∨ (i' = i ∧ x < k)) ∧ dist A b i' = l ∧ A i' x = true then (l : Int) + 1 else -1
theorem lvl_first (b x : Nat) : lvl A b 0 0 0 x = if x = b then 0 else -1 := by
  unfold lvl
  have h2 : ¬ ∃ i', (i' < 0 ∨ (i' = 0 ∧ x < 0)) ∧ dist A b i' = ((0 : Nat) : Int) ∧ A i' x = true := by rintro ⟨i', h, _⟩; omega
  rw [if_neg h2]
  by_cases e : x = b
  · subst e; rw [dist_self, if_pos (by omega), if_pos rfl]
  · rw [if_neg e, if_neg]
    rintro ⟨h1, h2⟩
    exact e (dist_zero (A := A) (b := b) (i := x) (by omega))
theorem lvl_is {b l i k x : Nat} : lvl A b l i k x = l ↔ dist A b x = l := by
  unfold lvl
  split
  · rfl
  · rename_i h
    split
    · constructor <;> intro h' <;> omega
    · constructor <;> intro h' <;> omega
theorem lvl_row {b l i x : Nat} (hx : x < n) : lvl A b l i n x = lvl A b l (i + 1) 0 x := by
  unfold lvl
  have : (∃ i', (i' < i ∨ (i' = i ∧ x < n)) ∧ dist A b i' = (l : Int) ∧ A i' x = true) ↔ (∃ i', (i' < i + 1 ∨ (i' = i + 1 ∧ x < 0)) ∧ dist A b i' = (l : Int) ∧ A i' x = true) := by
    constructor
    · rintro ⟨i', h1, h2⟩; exact ⟨i', by omega, h2⟩
    · rintro ⟨i', h1, h2⟩; exact ⟨i', by omega, h2⟩
  by_cases h0 : 0 ≤ dist A b x ∧ dist A b x ≤ l
  · rw [if_pos h0, if_pos h0]
  · rw [if_neg h0, if_neg h0]; exact ite_iff this _ _
theorem lvl_next (hA : ∀ i j, A i j = true → i < n ∧ j < n) {b l x : Nat} : lvl A b l n 0 x = lvl A b (l + 1) 0 0 x := by
  unfold lvl
  have h2 : ¬ ∃ i', (i' < 0 ∨ (i' = 0 ∧ x < 0)) ∧ dist A b i' = ((l + 1 : Nat) : Int) ∧ A i' x = true := by rintro ⟨i', h, _⟩; omega
  rw [if_neg h2]
  by_cases h : 0 ≤ dist A b x ∧ dist A b x ≤ l
  · rw [if_pos h, if_pos (by omega)]
  · rw [if_neg h]
    by_cases h3 : ∃ i', (i' < n ∨ (i' = n ∧ x < 0)) ∧ dist A b i' = (l : Int) ∧ A i' x = true
    · rw [if_pos h3]
      obtain ⟨i', _, h4, h5⟩ := h3
      have := dist_edge (b := b) (by omega) h5
      rw [if_pos (by omega)]; omega
    · rw [if_neg h3]
      by_cases h4 : 0 ≤ dist A b x ∧ dist A b x ≤ ((l + 1 : Nat) : Int)
      · exfalso
        obtain ⟨i', h5, h6⟩ := dist_pred (A := A) (b := b) (j := x) (d := l) (by omega)
        exact h3 ⟨i', .inl (hA _ _ h6).1, h5, h6⟩
      · rw [if_neg h4]
theorem lvl_yes {b l i k : Nat} (h1 : dist A b i = l) (h2 : lvl A b l i k k < 0) (h3 : A i k = true) (x : Nat) :
    lvl A b l i (k + 1) x = if x = k then (l : Int) + 1 else lvl A b l i k x := by
  by_cases e : x = k
  · subst e
    rw [if_pos rfl]
    unfold lvl at h2 ⊢
    by_cases h : 0 ≤ dist A b x ∧ dist A b x ≤ l
    · rw [if_pos h] at h2; omega
    · rw [if_neg h, if_pos ⟨i, .inr ⟨rfl, by omega⟩, h1, h3⟩]
  · rw [if_neg e]
    unfold lvl
    have : (∃ i', (i' < i ∨ (i' = i ∧ x < k + 1)) ∧ dist A b i' = (l : Int) ∧ A i' x = true) ↔ (∃ i', (i' < i ∨ (i' = i ∧ x < k)) ∧ dist A b i' = (l : Int) ∧ A i' x = true) := by
      constructor <;> (rintro ⟨i', h1, h2⟩; exact ⟨i', by omega, h2⟩)
    by_cases h0 : 0 ≤ dist A b x ∧ dist A b x ≤ l
    · rw [if_pos h0, if_pos h0]
    · rw [if_neg h0, if_neg h0]; exact ite_iff this _ _
theorem lvl_no {b l i k : Nat} (h : dist A b i ≠ l ∨ 0 ≤ lvl A b l i k k ∨ A i k = false) (x : Nat) : lvl A b l i (k + 1) x = lvl A b l i k x := by
  by_cases e : x = k
  · subst e
    unfold lvl
    by_cases h1 : 0 ≤ dist A b x ∧ dist A b x ≤ l
    · rw [if_pos h1, if_pos h1]
    · rw [if_neg h1, if_neg h1]
      by_cases h2 : ∃ i', (i' < i ∨ (i' = i ∧ x < x)) ∧ dist A b i' = (l : Int) ∧ A i' x = true
      · rw [if_pos h2, if_pos]
        obtain ⟨i', h3, h4⟩ := h2
        exact ⟨i', by omega, h4⟩
      · rw [if_neg h2, if_neg]
        rintro ⟨i', h3, h4, h5⟩
        by_cases e : i' = i
        · subst e
          rcases h with h | h | h
          · exact h h4
          · unfold lvl at h; rw [if_neg h1, if_neg h2] at h; omega
          · rw [h5] at h; cases h
        · exact h2 ⟨i', by omega, h4, h5⟩
  · unfold lvl
    have : (∃ i', (i' < i ∨ (i' = i ∧ x < k + 1)) ∧ dist A b i' = (l : Int) ∧ A i' x = true) ↔ (∃ i', (i' < i ∨ (i' = i ∧ x < k)) ∧ dist A b i' = (l : Int) ∧ A i' x = true) := by
      constructor <;> (rintro ⟨i', h1, h2⟩; exact ⟨i', by omega, h2⟩)
    by_cases h0 : 0 ≤ dist A b x ∧ dist A b x ≤ l
    · rw [if_pos h0, if_pos h0]
    · rw [if_neg h0, if_neg h0]; exact ite_iff this _ _
theorem lvl_last (hA : ∀ i j, A i j = true → i < n ∧ j < n) {b x : Nat} (hx : x < n) : lvl A b n 0 0 x = dist A b x := by
  have h1 := dist_lt hA (b := b) hx
  have h2 := dist_ge (A := A) b x
  unfold lvl
  by_cases h : 0 ≤ dist A b x ∧ dist A b x ≤ n
  · rw [if_pos h]
  · rw [if_neg h, if_neg]
    · omega
    · rintro ⟨i', h, _⟩; omega
theorem lvl_in {b l i k x : Nat} (hl : l ≤ n) : -1 ≤ lvl A b l i k x ∧ lvl A b l i k x ≤ n + 1 := by
  unfold lvl
  split
  · omega
  · split <;> omega

/-! steps: a row of those who have been reached -/
/-- what is known while the row q has been reached -/
noncomputable def qv (A : Nat → Nat → Bool) (b : Nat) (q : List Nat) (x : Nat) : Int := if x ∈ q then dist A b x else -1
/-- the row q, of which the first t have been left, and the neighbours below i of the next one have been seen -/
structure Row (A : Nat → Nat → Bool) (n b : Nat) (q : List Nat) (t i : Nat) : Prop where
  first : b ∈ q
  mem : ∀ x ∈ q, x < n ∧ 0 ≤ dist A b x
  nodup : q.Nodup
  sorted : ∀ s u x y : Nat, s < u → q[s]? = some x → q[u]? = some y → dist A b x ≤ dist A b y
  near : ∀ s x y : Nat, q[s]? = some x → q[t]? = some y → dist A b x ≤ dist A b y + 1
  left : ∀ s x : Nat, s < t → q[s]? = some x → ∀ j, A x j = true → j ∈ q
  seen : ∀ x : Nat, q[t]? = some x → ∀ j, j < i → A x j = true → j ∈ q
theorem Row.start {b : Nat} (hb : b < n) : Row A n b [b] 0 0 where
  first := by simp
  mem := fun x hx => by simp at hx; subst hx; exact ⟨hb, by rw [dist_self]; omega⟩
  nodup := by simp
  sorted := fun s u x y hsu hx hy => by
    have := (List.getElem?_eq_some_iff.1 hy).1; simp at this; omega
  near := fun s x y hx hy => by
    have h1 := (List.getElem?_eq_some_iff.1 hx).1; simp at h1; subst h1
    rw [hx] at hy; cases hy; omega
  left := fun s x hs => by omega
  seen := fun x _ j hj => by omega
theorem Row.len {b t i : Nat} {q : List Nat} (h : Row A n b q t i) : q.length ≤ n := nodup_le h.nodup (fun x hx => (h.mem x hx).1)
theorem Row.turn {b t : Nat} {q : List Nat} (hA : ∀ i j, A i j = true → i < n ∧ j < n) (h : Row A n b q t n) (ht : t < q.length) : Row A n b q (t + 1) 0 where
  first := h.first
  mem := h.mem
  nodup := h.nodup
  sorted := h.sorted
  near := fun s x y hx hy => by
    have h1 := h.near s x _ hx (List.getElem?_eq_getElem ht)
    have h2 := h.sorted t (t + 1) _ y (by omega) (List.getElem?_eq_getElem ht) hy
    omega
  left := fun s x hs hx j hj => by
    by_cases e : s = t
    · subst e; exact h.seen x hx j (hA _ _ hj).2 hj
    · exact h.left s x (by omega) hx j hj
  seen := fun x _ j hj => by omega
theorem Row.skip {b t i x : Nat} {q : List Nat} (h : Row A n b q t i) (hx : q[t]? = some x) (hi : i ∈ q ∨ A x i = false) : Row A n b q t (i + 1) where
  first := h.first
  mem := h.mem
  nodup := h.nodup
  sorted := h.sorted
  near := h.near
  left := h.left
  seen := fun y hy j hj hyj => by
    by_cases e : j = i
    · subst e
      rcases hi with hi | hi
      · exact hi
      · rw [hx] at hy; cases hy; rw [hi] at hyj; cases hyj
    · exact h.seen y hy j (by omega) hyj
/-- whoever is no farther than the next one has been reached -/
theorem Row.reached {b t i x : Nat} {q : List Nat} (h : Row A n b q t i) (hx : q[t]? = some x) : ∀ (d : Nat) (v : Nat), dist A b v = d → (d : Int) ≤ dist A b x → v ∈ q
  | 0, v, hv, _ => by have := dist_zero hv; subst this; exact h.first
  | d + 1, v, hv, hd => by
    obtain ⟨j, hj, ha⟩ := dist_pred (A := A) (b := b) (j := v) (d := d) (by omega)
    have hq := h.reached hx d j hj (by omega)
    obtain ⟨s, hs⟩ := List.mem_iff_getElem?.1 hq
    by_cases hst : s < t
    · exact h.left s j hst hs v ha
    · exfalso
      by_cases e : s = t
      · subst e; rw [hx] at hs; cases hs; omega
      · have := h.sorted t s x j (by omega) hx hs; omega
theorem Row.dist {b t i x : Nat} {q : List Nat} (h : Row A n b q t i) (hx : q[t]? = some x) (hi : i ∉ q) (ha : A x i = true) : Pure50.dist A b i = Pure50.dist A b x + 1 := by
  have h0 := (h.mem x (List.mem_of_getElem? hx)).2
  obtain ⟨h1, h2⟩ := dist_edge (b := b) h0 ha
  by_cases h3 : Pure50.dist A b i ≤ Pure50.dist A b x
  · exfalso
    obtain ⟨d, hd⟩ : ∃ d : Nat, Pure50.dist A b i = d := ⟨(Pure50.dist A b i).toNat, by omega⟩
    exact hi (h.reached hx d i hd (by omega))
  · omega
theorem Row.add {b t i x : Nat} {q : List Nat} (h : Row A n b q t i) (hx : q[t]? = some x) (hi : i ∉ q) (hin : i < n) (ha : A x i = true) : Row A n b (q ++ [i]) t (i + 1) := by
  have hd := h.dist hx hi ha
  have h0 := (h.mem x (List.mem_of_getElem? hx)).2
  have ht : t < q.length := (List.getElem?_eq_some_iff.1 hx).1
  have hxt : (q ++ [i])[t]? = some x := by rw [List.getElem?_append_left ht]; exact hx
  have old : ∀ {s y}, (q ++ [i])[s]? = some y → q[s]? = some y ∨ (s = q.length ∧ y = i) := by
    intro s y hy
    by_cases e : s < q.length
    · rw [List.getElem?_append_left e] at hy; exact .inl hy
    · have h1 := (List.getElem?_eq_some_iff.1 hy).1
      rw [List.length_append, List.length_singleton] at h1
      have : s = q.length := by omega
      subst this
      rw [List.getElem?_append_right (Nat.le_refl _)] at hy
      simp at hy
      exact .inr ⟨rfl, hy.symm⟩
  refine ⟨List.mem_append_left _ h.first, ?_, ?_, ?_, ?_, ?_, ?_⟩
  · intro y hy
    rcases List.mem_append.1 hy with hy | hy
    · exact h.mem y hy
    · rw [List.mem_singleton.1 hy]; exact ⟨hin, by omega⟩
  · rw [List.nodup_append]
    exact ⟨h.nodup, by simp, fun y hy z hz e => by rw [List.mem_singleton.1 hz] at e; subst e; exact hi hy⟩
  · intro s u y z hsu hy hz
    rcases old hy with hy1 | ⟨e1, e2⟩
    · rcases old hz with hz1 | ⟨e3, e4⟩
      · exact h.sorted s u y z hsu hy1 hz1
      · have := h.near s y x hy1 hx; rw [e4]; omega
    · have := (List.getElem?_eq_some_iff.1 hz).1; simp at this; omega
  · intro s y z hy hz
    rw [hxt] at hz; cases hz
    rcases old hy with hy1 | ⟨e1, e2⟩
    · exact h.near s y x hy1 hx
    · rw [e2]; omega
  · intro s y hs hy j hj
    rcases old hy with hy1 | ⟨e1, e2⟩
    · exact List.mem_append_left _ (h.left s y hs hy1 j hj)
    · omega
  · intro y hy j hj hyj
    rw [hxt] at hy; cases hy
    by_cases e : j = i
    · subst e; simp
    · exact List.mem_append_left _ (h.seen x hx j (by omega) hyj)
theorem Row.done {b t i : Nat} {q : List Nat} (h : Row A n b q t i) (ht : q.length ≤ t) (x : Nat) : qv A b q x = Pure50.dist A b x := by
  unfold qv
  split
  · rfl
  · rename_i hx
    rw [dist_none]
    rintro ⟨d, hr⟩
    apply hx
    clear hx
    induction hr with
    | here => exact h.first
    | step h1 h2 ih =>
      obtain ⟨s, hs⟩ := List.mem_iff_getElem?.1 ih
      have := (List.getElem?_eq_some_iff.1 hs).1
      exact h.left s _ (by omega) hs _ h2
theorem qv_in {b x : Nat} {q : List Nat} (h : x ∈ q) : qv A b q x = Pure50.dist A b x := if_pos h
theorem qv_neg {b t i x : Nat} {q : List Nat} (h : Row A n b q t i) : qv A b q x < 0 ↔ x ∉ q := by
  unfold qv
  split
  · rename_i hx; have := (h.mem x hx).2; constructor
    · intro h'; omega
    · intro h'; exact absurd hx h'
  · rename_i hx; exact ⟨fun _ => hx, fun _ => by omega⟩
theorem qv_add {b x i : Nat} {q : List Nat} {d : Int} (hd : Pure50.dist A b i = d) : qv A b (q ++ [i]) x = if x = i then d else qv A b q x := by
  unfold qv
  by_cases e : x = i
  · subst e; rw [if_pos (by simp), if_pos rfl, hd]
  · rw [if_neg e]
    simp [e]

/-! groups that are joined by pointers -/
/-- the way from a person to the first of its group -/
inductive Root (par : Nat → Option Nat) : Nat → Nat → Prop
  | top {i : Nat} : par i = none → Root par i i
  | up {i j r : Nat} : par i = some j → Root par j r → Root par i r
theorem Root.fn {par : Nat → Option Nat} {i r : Nat} (h : Root par i r) : ∀ {s}, Root par i s → r = s := by
  induction h with
  | top h => intro s h'; cases h' with
    | top _ => rfl
    | up h2 _ => rw [h] at h2; cases h2
  | up h _ ih => intro s h'; cases h' with
    | top h2 => rw [h] at h2; cases h2
    | up h2 h3 => rw [h] at h2; cases h2; exact ih h3
theorem Root.none {par : Nat → Option Nat} {i r : Nat} (h : Root par i r) : par r = .none := by
  induction h with
  | top h => exact h
  | up _ _ ih => exact ih
/-- the state of the groups: who points to whom, and which pairs have been joined -/
structure Joins (A : Nat → Nat → Bool) (n : Nat) (par : Nat → Option Nat) (done : List (List Int)) : Prop where
  less : ∀ i j, par i = some j → j < i
  conn : ∀ i j, par i = some j → Conn A i j
  low : ∀ i j, par i = some j → i < n
  both : ∀ a b : Nat, [(a : Int), (b : Int)] ∈ done → ∃ r, Root par a r ∧ Root par b r
theorem Joins.start (A : Nat → Nat → Bool) (n : Nat) : Joins A n (fun _ => none) [] where
  less := fun _ _ h => by cases h
  conn := fun _ _ h => by cases h
  low := fun _ _ h => by cases h
  both := fun _ _ h => by cases h
theorem Joins.root {par : Nat → Option Nat} {done : List (List Int)} (h : Joins A n par done) : ∀ i, ∃ r, Root par i r ∧ r ≤ i ∧ Conn A i r := by
  intro i
  induction i using Nat.strongRecOn with
  | _ i ih =>
    cases hp : par i with
    | none => exact ⟨i, .top hp, Nat.le_refl _, .refl _⟩
    | some j =>
      obtain ⟨r, h1, h2, h3⟩ := ih j (h.less i j hp)
      have := h.less i j hp
      exact ⟨r, .up hp h1, by omega, (h.conn i j hp).trans h3⟩
theorem root_set {par : Nat → Option Nat} {x y : Nat} (hx : par x = none) (hy : par y = none) (hxy : x ≠ y) {i r : Nat} (h : Root par i r) :
    Root (fun j => if j = y then some x else par j) i (if r = y then x else r) := by
  induction h with
  | @top i h =>
    by_cases e : i = y
    · subst e
      rw [if_pos rfl]
      exact .up (j := x) (by simp) (.top (by simp [hxy, hx]))
    · rw [if_neg e]; exact .top (by simp [e, h])
  | @up i j r h h2 ih =>
    have : i ≠ y := fun e => by rw [e, hy] at h; cases h
    exact .up (by simp [this, h]) ih
theorem Joins.join {par : Nat → Option Nat} {done : List (List Int)} (hs : ∀ i j, A i j = A j i) (h : Joins A n par done) {a b x y : Nat} (hb : b < n) (ha : a < n) (hab : A a b = true)
    (hx : Root par a x) (hy : Root par b y) : (x = y → Joins A n par (done ++ [[(a : Int), (b : Int)]])) ∧ (x < y → Joins A n (fun j => if j = y then some x else par j) (done ++ [[(a : Int), (b : Int)]])) ∧ (y < x → Joins A n (fun j => if j = x then some y else par j) (done ++ [[(a : Int), (b : Int)]])) := by
  obtain ⟨x', hx', hxa, hcx⟩ := h.root a
  obtain ⟨y', hy', hyb, hcy⟩ := h.root b
  obtain rfl := hx.fn hx'
  obtain rfl := hy.fn hy'
  have hcxy : Conn A x y := (hcx.symm hs).trans ((Conn.edge hab).trans hcy)
  have new : ∀ {par' : Nat → Option Nat}, (∀ a b : Nat, [(a : Int), (b : Int)] ∈ done → ∃ r, Root par' a r ∧ Root par' b r) → (∃ r, Root par' a r ∧ Root par' b r) → ∀ a' b' : Nat, [(a' : Int), (b' : Int)] ∈ done ++ [[(a : Int), (b : Int)]] → ∃ r, Root par' a' r ∧ Root par' b' r := by
    intro par' h1 h2 a' b' hm
    rcases List.mem_append.1 hm with hm | hm
    · exact h1 a' b' hm
    · simp only [List.mem_singleton, List.cons.injEq, and_true] at hm
      obtain ⟨e1, e2⟩ := hm
      obtain rfl : a' = a := by omega
      obtain rfl : b' = b := by omega
      exact h2
  refine ⟨fun e => ?_, fun hlt => ?_, fun hlt => ?_⟩
  · subst e
    exact ⟨h.less, h.conn, h.low, new h.both ⟨x, hx, hy⟩⟩
  · have hset := fun {i r : Nat} (hr : Root par i r) => root_set hx.none hy.none (by omega) hr
    refine ⟨fun i j hj => ?_, fun i j hj => ?_, fun i j hj => ?_, new (fun a' b' hm => ?_) ⟨x, ?_, ?_⟩⟩
    · try simp only at hj
      split at hj
      · cases hj; omega
      · exact h.less i j hj
    · try simp only at hj
      split at hj
      · rename_i e; cases hj; subst e; exact hcxy.symm hs
      · exact h.conn i j hj
    · try simp only at hj
      split at hj
      · omega
      · exact h.low i j hj
    · obtain ⟨r, h1, h2⟩ := h.both a' b' hm; exact ⟨_, hset h1, hset h2⟩
    · have := hset hx; rwa [if_neg (by omega)] at this
    · have := hset hy; rwa [if_pos rfl] at this
  · have hset := fun {i r : Nat} (hr : Root par i r) => root_set hy.none hx.none (by omega) hr
    refine ⟨fun i j hj => ?_, fun i j hj => ?_, fun i j hj => ?_, new (fun a' b' hm => ?_) ⟨y, ?_, ?_⟩⟩
    · try simp only at hj
      split at hj
      · cases hj; omega
      · exact h.less i j hj
    · try simp only at hj
      split at hj
      · rename_i e; cases hj; subst e; exact hcxy
      · exact h.conn i j hj
    · try simp only at hj
      split at hj
      · omega
      · exact h.low i j hj
    · obtain ⟨r, h1, h2⟩ := h.both a' b' hm; exact ⟨_, hset h1, hset h2⟩
    · have := hset hx; rwa [if_pos rfl] at this
    · have := hset hy; rwa [if_neg (by omega)] at this
/-- when all pairs have been joined, the way from a person leads to its keeper -/
theorem Joins.done {par : Nat → Option Nat} (hs : ∀ i j, A i j = A j i) (hA : ∀ i j, A i j = true → i < n ∧ j < n) (h : Joins A n par (pairsL A n)) (i : Nat) : Root par i (keep A i) := by
  obtain ⟨r, h1, h2, h3⟩ := h.root i
  have key : ∀ j, Conn A i j → Root par j r := by
    rintro j ⟨d, hr⟩
    induction hr with
    | here => exact h1
    | @step d x y h4 h5 ih =>
      obtain ⟨hx, hy⟩ := hA _ _ h5
      have ih := ih
      by_cases e : x = y
      · subst e; exact ih
      · by_cases hlt : x < y
        · obtain ⟨s, s1, s2⟩ := h.both x y (mem_pairsTo hlt hy h5 hx)
          rw [ih.fn s1]; exact s2
        · obtain ⟨s, s1, s2⟩ := h.both y x (mem_pairsTo (by omega) hx (by rw [hs]; exact h5) hy)
          rw [ih.fn s2]; exact s1
  have hk : keep A i = r := keep_eq h3 (fun j hj => by
    obtain ⟨r', g1, g2, _⟩ := h.root j
    rw [(key j hj).fn g1]; exact g2)
  rw [hk]; exact h1

/-! chains -/
/-- the next person of a chain -/
noncomputable def nxt (A : Nat → Nat → Bool) (b a : Nat) : Nat := leastP (fun k => dist A b k = dist A b a - 1 ∧ A k a = true)
theorem nxt_spec {a b : Nat} {d : Nat} (h : dist A b a = (d : Int) + 1) : dist A b (nxt A b a) = d ∧ A (nxt A b a) a = true ∧ ∀ j, j < nxt A b a → ¬ (dist A b j = d ∧ A j a = true) := by
  obtain ⟨i, h1, h2⟩ := dist_pred h
  have := leastP_spec (p := fun k => dist A b k = dist A b a - 1 ∧ A k a = true) (k := i) ⟨by omega, h2⟩
  obtain ⟨⟨h3, h4⟩, h5⟩ := this
  refine ⟨by show dist A b (leastP _) = _; omega, h4, fun j hj hc => h5 j hj ⟨by omega, hc.2⟩⟩
/-- a chain of so many links -/
noncomputable def chain (A : Nat → Nat → Bool) (b : Nat) : Nat → Nat → List Nat
  | 0, a => [a]
  | d + 1, a => a :: chain A b d (nxt A b a)
theorem chain_length (b : Nat) : ∀ d a, (chain A b d a).length = d + 1
  | 0, _ => rfl
  | d + 1, a => by rw [chain, List.length_cons, chain_length b d]
theorem chain_cons (b : Nat) (d a : Nat) : chain A b d a = a :: (chain A b d a).tail := by cases d <;> rfl
theorem chain_tail (b d a : Nat) : (chain A b (d + 1) a).tail = nxt A b a :: (chain A b d (nxt A b a)).tail := by
  show chain A b d (nxt A b a) = _
  exact chain_cons b d _
end
end Go.Proofs.Ytdeiillfdjebdaa.Pure51
