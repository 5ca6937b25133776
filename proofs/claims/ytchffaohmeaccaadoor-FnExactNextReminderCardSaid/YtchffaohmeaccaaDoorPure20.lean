/- Plain facts on court days (chapter 2). No program is imported here. -/
import Derived.Test.YtchffaohmeaccaaDoorPure2
import Derived.WalkKit
namespace Go.Proofs.YtchffaohmeaccaaDoor.Pure20
open Go.RowKit Pure2

/-- a day -/
def isDay (n : Int) : Bool := decide (0 ≤ n) && decide (n ≤ 20000)
theorem isDay_iff (n : Int) : isDay n = true ↔ 0 ≤ n ∧ n ≤ 20000 := by simp [isDay]
theorem isDay_no (n : Int) : isDay n = false ↔ n < 0 ∨ 20000 < n := by
  rw [← Bool.not_eq_true, isDay_iff]; omega

/-- holidays: days that increase strictly, at most 40 -/
def Hol (zs : List Int) : Prop := (∀ (i : Nat) x, zs[i]? = some x → isDay x = true) ∧ (∀ (i : Nat) x y, zs[i]? = some x → zs[i + 1]? = some y → x < y) ∧ zs.length ≤ 40
noncomputable def hol (zs : List Int) : Bool := @decide (Hol zs) (Classical.propDecidable _)
theorem hol_iff (zs : List Int) : hol zs = true ↔ Hol zs := by unfold hol; exact @decide_eq_true_iff _ (Classical.propDecidable _)
theorem hol_no (zs : List Int) : hol zs = false ↔ ¬ Hol zs := by rw [← Bool.not_eq_true, hol_iff]
/-- the first k numbers are as holidays are -/
def HolTo (zs : List Int) (k : Nat) : Prop := (∀ (i : Nat) x, i < k → zs[i]? = some x → isDay x = true) ∧ (∀ (i : Nat) x y, i + 1 < k → zs[i]? = some x → zs[i + 1]? = some y → x < y)
theorem holTo_zero (zs : List Int) : HolTo zs 0 := ⟨fun _ _ h => by omega, fun _ _ _ h => by omega⟩
theorem holTo_step {zs : List Int} {k : Nat} {x : Int} (h : HolTo zs k) (hx : zs[k]? = some x) (hd : isDay x = true) (hp : ∀ y, 0 < k → zs[k - 1]? = some y → y < x) : HolTo zs (k + 1) := by
  refine ⟨fun i z hi hz => ?_, fun i u v hi hu hv => ?_⟩
  · by_cases e : i = k
    · subst e; rw [hx] at hz; cases hz; exact hd
    · exact h.1 i z (by omega) hz
  · by_cases e : i + 1 = k
    · subst e; rw [hx] at hv; cases hv; exact hp u (by omega) (by simpa using hu)
    · exact h.2 i u v (by omega) hu hv
theorem holTo_end {zs : List Int} {k : Nat} (h : HolTo zs k) (hk : zs.length ≤ k) (hl : zs.length ≤ 40) : Hol zs := by
  refine ⟨fun i x hx => h.1 i x ?_ hx, fun i x y hx hy => h.2 i x y ?_ hx hy, hl⟩
  · have := (List.getElem?_eq_some_iff.1 hx).1; omega
  · have := (List.getElem?_eq_some_iff.1 hy).1; omega
theorem hol_day {zs : List Int} (h : Hol zs) : ∀ x ∈ zs, 0 ≤ x ∧ x ≤ 20000 := by
  intro x hx
  obtain ⟨i, hi⟩ := List.mem_iff_getElem?.1 hx
  exact (isDay_iff x).1 (h.1 i x hi)

/-- a court day -/
def court (zs : List Int) (d : Int) : Bool := decide (d % 7 < 5) && !zs.contains d
theorem court_iff (zs : List Int) (d : Int) : court zs d = true ↔ d % 7 < 5 ∧ d ∉ zs := by simp [court]
theorem court_no (zs : List Int) (d : Int) : court zs d = false ↔ (5 ≤ d % 7 ∨ d ∈ zs) := by
  rw [← Bool.not_eq_true, court_iff]
  by_cases h : d ∈ zs
  · simp [h]
  · simp [h]

/-- r is the first court day that is not before d -/
def IsNext (zs : List Int) (d r : Int) : Prop := d ≤ r ∧ court zs r = true ∧ ∀ x, d ≤ x → x < r → court zs x = false
theorem isNext_inj {zs : List Int} {d r r' : Int} (h : IsNext zs d r) (h' : IsNext zs d r') : r = r' := by
  rcases Int.lt_trichotomy r r' with c | c | c
  · have := h'.2.2 r h.1 c; rw [h.2.1] at this; cases this
  · exact c
  · have := h.2.2 r' h'.1 c; rw [h'.2.1] at this; cases this
theorem isNext_here {zs : List Int} {d : Int} (h : court zs d = true) : IsNext zs d d := ⟨Int.le_refl _, h, fun x h1 h2 => by omega⟩
theorem isNext_step {zs : List Int} {d r : Int} (h : court zs d = false) (hr : IsNext zs (d + 1) r) : IsNext zs d r := by
  refine ⟨by have := hr.1; omega, hr.2.1, fun x h1 h2 => ?_⟩
  by_cases e : x = d
  · subst e; exact h
  · exact hr.2.2 x (by omega) h2
/-- behind the greatest holiday a court day comes within three days -/
theorem court_late {zs : List Int} (h : ∀ x ∈ zs, x ≤ 20000) (d : Int) (hd : 20000 < d) : court zs d = true ∨ court zs (d + 1) = true ∨ court zs (d + 2) = true := by
  simp only [court_iff]
  have h0 : d ∉ zs := fun e => by have := h _ e; omega
  have h1 : d + 1 ∉ zs := fun e => by have := h _ e; omega
  have h2 : d + 2 ∉ zs := fun e => by have := h _ e; omega
  by_cases c0 : d % 7 < 5
  · exact .inl ⟨c0, h0⟩
  · by_cases c1 : (d + 1) % 7 < 5
    · exact .inr (.inl ⟨c1, h1⟩)
    · exact .inr (.inr ⟨by omega, h2⟩)
theorem next_there {zs : List Int} (h : ∀ x ∈ zs, x ≤ 20000) : ∀ (k : Nat) (d : Int), 20003 ≤ d + k → ∃ r, IsNext zs d r ∧ r ≤ max d 20001 + 2 := by
  intro k
  induction k with
  | zero =>
    intro d hd
    cases hc : court zs d with
    | true => exact ⟨d, isNext_here hc, by omega⟩
    | false =>
      cases hc1 : court zs (d + 1) with
      | true => exact ⟨d + 1, isNext_step hc (isNext_here hc1), by omega⟩
      | false =>
        have hc2 : court zs (d + 2) = true := by
          rcases court_late h d (by omega) with e | e | e
          · rw [e] at hc; cases hc
          · rw [e] at hc1; cases hc1
          · exact e
        exact ⟨d + 2, isNext_step hc (isNext_step hc1 (by rw [show d + 1 + 1 = d + 2 by omega]; exact isNext_here hc2)), by omega⟩
  | succ k ih =>
    intro d hd
    cases hc : court zs d with
    | true => exact ⟨d, isNext_here hc, by omega⟩
    | false =>
      by_cases hl : 20000 < d
      · cases hc1 : court zs (d + 1) with
        | true => exact ⟨d + 1, isNext_step hc (isNext_here hc1), by omega⟩
        | false =>
          have hc2 : court zs (d + 2) = true := by
            rcases court_late h d hl with e | e | e
            · rw [e] at hc; cases hc
            · rw [e] at hc1; cases hc1
            · exact e
          exact ⟨d + 2, isNext_step hc (isNext_step hc1 (by rw [show d + 1 + 1 = d + 2 by omega]; exact isNext_here hc2)), by omega⟩
      · obtain ⟨r, hr, hb⟩ := ih (d + 1) (by omega)
        exact ⟨r, isNext_step hc hr, by omega⟩
theorem next_exists {zs : List Int} (h : ∀ x ∈ zs, x ≤ 20000) (d : Int) : ∃ r, IsNext zs d r ∧ r ≤ max d 20001 + 2 := next_there h (20003 - d).toNat d (by omega)

/-- the number of court days in a .. a + k - 1 -/
def cnt (zs : List Int) (a : Int) : Nat → Int
  | 0 => 0
  | k + 1 => cnt zs a k + (if court zs (a + (k : Int)) = true then 1 else 0)
theorem cnt_add (zs : List Int) (a : Int) (j k : Nat) : cnt zs a (j + k) = cnt zs a j + cnt zs (a + (j : Int)) k := by
  induction k with
  | zero => simp [cnt]
  | succ k ih =>
    rw [← Nat.add_assoc, cnt, cnt, ih, show a + ((j + k : Nat) : Int) = a + (j : Int) + (k : Int) by omega]; omega
theorem cnt_bd (zs : List Int) (a : Int) (k : Nat) : 0 ≤ cnt zs a k ∧ cnt zs a k ≤ k := by
  induction k with
  | zero => simp [cnt]
  | succ k ih => rw [cnt]; split <;> omega
theorem cnt_none {zs : List Int} {a : Int} {k : Nat} (h : ∀ x, a ≤ x → x < a + k → court zs x = false) : cnt zs a k = 0 := by
  induction k with
  | zero => rfl
  | succ k ih =>
    rw [cnt, ih (fun x h1 h2 => h x h1 (by omega)), h (a + (k : Int)) (by omega) (by omega)]; simp
theorem cnt_zero {zs : List Int} {a : Int} {k : Nat} (h : cnt zs a k = 0) : ∀ x, a ≤ x → x < a + k → court zs x = false := by
  induction k with
  | zero => intro x h1 h2; omega
  | succ k ih =>
    intro x h1 h2
    rw [cnt] at h
    have hb := cnt_bd zs a k
    by_cases e : x = a + (k : Int)
    · subst e
      cases hc : court zs (a + (k : Int)) with
      | true => rw [hc] at h; simp at h; omega
      | false => rfl
    · refine ih ?_ x h1 (by omega)
      split at h <;> omega
/-- the number of court days in a .. b - 1 -/
def count (zs : List Int) (a b : Int) : Int := cnt zs a (b - a).toNat
theorem count_none {zs : List Int} {a b : Int} (h : b ≤ a) : count zs a b = 0 := by unfold count; rw [show (b - a).toNat = 0 by omega]; rfl
theorem count_snoc {zs : List Int} {a b : Int} (h : a ≤ b) : count zs a (b + 1) = count zs a b + (if court zs b = true then 1 else 0) := by
  unfold count
  rw [show (b + 1 - a).toNat = (b - a).toNat + 1 by omega, cnt, show a + (((b - a).toNat : Nat) : Int) = b by omega]
theorem count_add {zs : List Int} {a b c : Int} (h : a ≤ b) (h' : b ≤ c) : count zs a c = count zs a b + count zs b c := by
  unfold count
  rw [show (c - a).toNat = (b - a).toNat + (c - b).toNat by omega, cnt_add, show a + (((b - a).toNat : Nat) : Int) = b by omega]
theorem count_bd (zs : List Int) (a b : Int) : 0 ≤ count zs a b ∧ (a ≤ b → count zs a b ≤ b - a) := by
  have := cnt_bd zs a (b - a).toNat
  unfold count; exact ⟨this.1, fun h => by omega⟩
theorem count_zero {zs : List Int} {a b : Int} (h : count zs a b = 0) : ∀ x, a ≤ x → x < b → court zs x = false := fun x h1 h2 => cnt_zero (k := (b - a).toNat) h x h1 (by omega)
theorem count_free {zs : List Int} {a b : Int} (h : ∀ x, a ≤ x → x < b → court zs x = false) : count zs a b = 0 := cnt_none fun x h1 h2 => h x h1 (by omega)
theorem count_next {zs : List Int} {d r : Int} (h : IsNext zs d r) : count zs d r = 0 := count_free h.2.2

/-- r is the n-th court day behind d -/
def IsAdd (zs : List Int) (d : Int) (n : Nat) (r : Int) : Prop := (n = 0 ∧ r = d) ∨ (0 < n ∧ d < r ∧ court zs r = true ∧ count zs (d + 1) r = (n : Int) - 1)
theorem isAdd_le {zs : List Int} {d r : Int} {n : Nat} (h : IsAdd zs d n r) : d ≤ r := by rcases h with ⟨_, rfl⟩ | ⟨_, h, _⟩ <;> omega
theorem isAdd_zero (zs : List Int) (d : Int) : IsAdd zs d 0 d := .inl ⟨rfl, rfl⟩
theorem isAdd_step {zs : List Int} {d r s : Int} {n : Nat} (h : IsAdd zs d n r) (hn : IsNext zs (r + 1) s) : IsAdd zs d (n + 1) s := by
  have h1 := hn.1
  have h2 := isAdd_le h
  refine .inr ⟨by omega, by omega, hn.2.1, ?_⟩
  rcases h with ⟨rfl, rfl⟩ | ⟨h3, h4, h5, h6⟩
  · rw [count_next hn]; rfl
  · rw [count_add (b := r) (by omega) (by omega), h6, count_add (b := r + 1) (by omega) h1, count_next hn, count_snoc (Int.le_refl r), count_none (Int.le_refl r), if_pos h5]
    omega
theorem isAdd_inj {zs : List Int} {d r s : Int} {n : Nat} (h : IsAdd zs d n r) (h' : IsAdd zs d n s) : r = s := by
  rcases h with ⟨h1, h2⟩ | ⟨h1, h2, h3, h4⟩
  · rcases h' with ⟨_, h5⟩ | ⟨h5, _⟩
    · rw [h2, h5]
    · omega
  · rcases h' with ⟨h5, _⟩ | ⟨_, h5, h6, h7⟩
    · omega
    · rcases Int.lt_trichotomy r s with c | c | c
      · exfalso
        have e := count_add (zs := zs) (a := d + 1) (b := r) (c := s) (by omega) (by omega)
        have e2 := count_add (zs := zs) (a := r) (b := r + 1) (c := s) (by omega) (by omega)
        rw [count_snoc (Int.le_refl r), count_none (Int.le_refl r), if_pos h3] at e2
        have := (count_bd zs (r + 1) s).1
        omega
      · exact c
      · exfalso
        have e := count_add (zs := zs) (a := d + 1) (b := s) (c := r) (by omega) (by omega)
        have e2 := count_add (zs := zs) (a := s) (b := s + 1) (c := r) (by omega) (by omega)
        rw [count_snoc (Int.le_refl s), count_none (Int.le_refl s), if_pos h6] at e2
        have := (count_bd zs (s + 1) r).1
        omega

/-- r is the last court day that is not behind d -/
def IsLast (zs : List Int) (d r : Int) : Prop := 0 ≤ r ∧ r ≤ d ∧ court zs r = true ∧ ∀ x, r < x → x ≤ d → court zs x = false
theorem isLast_inj {zs : List Int} {d r r' : Int} (h : IsLast zs d r) (h' : IsLast zs d r') : r = r' := by
  rcases Int.lt_trichotomy r r' with c | c | c
  · have := h.2.2.2 r' c h'.2.1; rw [h'.2.2.1] at this; cases this
  · exact c
  · have := h'.2.2.2 r c h.2.1; rw [h.2.2.1] at this; cases this

/-- the longest run of days in a .. d - 1 that are no court days begins with best and has most days; len: the run that ends with d - 1 -/
def BrkTo (zs : List Int) (a d len best most : Int) : Prop :=
  (0 ≤ len ∧ a ≤ d - len ∧ (∀ x, d - len ≤ x → x < d → court zs x = false) ∧ (d - len = a ∨ court zs (d - len - 1) = true)) ∧
  (0 ≤ most ∧ (0 < most → a ≤ best ∧ best + most ≤ d ∧ ∀ x, best ≤ x → x < best + most → court zs x = false)) ∧
  ∀ x n, 0 < n → a ≤ x → x + n ≤ d → (∀ y, x ≤ y → y < x + n → court zs y = false) → n ≤ most ∧ (n = most → best ≤ x)
/-- the longest break in a .. b -/
def IsBrk (zs : List Int) (a b best most : Int) : Prop :=
  0 < most ∧ a ≤ best ∧ best + most ≤ b + 1 ∧ (∀ x, best ≤ x → x < best + most → court zs x = false) ∧
  ∀ x n, 0 < n → a ≤ x → x + n ≤ b + 1 → (∀ y, x ≤ y → y < x + n → court zs y = false) → n ≤ most ∧ (n = most → best ≤ x)
theorem isBrk_inj {zs : List Int} {a b s n s' n' : Int} (h : IsBrk zs a b s n) (h' : IsBrk zs a b s' n') : s = s' ∧ n = n' := by
  have h1 := h.2.2.2.2 s' n' h'.1 h'.2.1 h'.2.2.1 h'.2.2.2.1
  have h2 := h'.2.2.2.2 s n h.1 h.2.1 h.2.2.1 h.2.2.2.1
  have e : n = n' := by omega
  have := h1.2 e.symm; have := h2.2 e
  exact ⟨by omega, e⟩
theorem brk_start (zs : List Int) (a best : Int) : BrkTo zs a a 0 best 0 :=
  ⟨⟨by omega, by omega, fun x h1 h2 => by omega, .inl (by omega)⟩, ⟨by omega, fun h => by omega⟩, fun x n h1 h2 h3 => by omega⟩
theorem brk_court {zs : List Int} {a d len best most : Int} (h : BrkTo zs a d len best most) (had : a ≤ d) (hc : court zs d = true) : BrkTo zs a (d + 1) 0 best most := by
  obtain ⟨_, ⟨h2, h3⟩, h4⟩ := h
  refine ⟨⟨by omega, by omega, fun x h5 h6 => by omega, .inr (by rw [show d + 1 - 0 - 1 = d by omega]; exact hc)⟩, ⟨h2, fun h5 => ?_⟩, fun x n h5 h6 h7 h8 => ?_⟩
  · have := h3 h5; exact ⟨this.1, by omega, this.2.2⟩
  · by_cases e : x + n = d + 1
    · have := h8 d (by omega) (by omega); rw [hc] at this; cases this
    · exact h4 x n h5 h6 (by omega) h8
/-- a run that ends with d is not longer than the one that is counted -/
theorem run_le {zs : List Int} {a d len x n : Int} (hl : d - len = a ∨ court zs (d - len - 1) = true) (hx : a ≤ x) (hn : x + n = d + 1) (hlen : 0 ≤ len) (h : ∀ y, x ≤ y → y < x + n → court zs y = false) : n ≤ len + 1 := by
  rcases hl with e | e
  · omega
  · by_cases c : n ≤ len + 1
    · exact c
    · have := h (d - len - 1) (by omega) (by omega); rw [e] at this; cases this
theorem brk_more {zs : List Int} {a d len best most : Int} (h : BrkTo zs a d len best most) (hc : court zs d = false) (hm : most < len + 1) : BrkTo zs a (d + 1) (len + 1) (d - (len + 1) + 1) (len + 1) := by
  obtain ⟨⟨h0, h1, hr, hl⟩, ⟨h2, h3⟩, h4⟩ := h
  have hrun : ∀ x, d - len ≤ x → x < d + 1 → court zs x = false := fun x h5 h6 => by
    by_cases e : x = d
    · rw [e]; exact hc
    · exact hr x h5 (by omega)
  refine ⟨⟨by omega, by omega, fun x h5 h6 => hrun x (by omega) h6, by rw [show d + 1 - (len + 1) = d - len by omega]; exact hl⟩, ⟨by omega, fun _ => ⟨by omega, by omega, fun x h5 h6 => hrun x (by omega) (by omega)⟩⟩, fun x n h5 h6 h7 h8 => ?_⟩
  by_cases e : x + n = d + 1
  · have := run_le hl h6 e h0 h8
    exact ⟨this, fun e2 => by omega⟩
  · have := (h4 x n h5 h6 (by omega) h8).1
    exact ⟨by omega, fun e2 => by omega⟩
theorem brk_same {zs : List Int} {a d len best most : Int} (h : BrkTo zs a d len best most) (hc : court zs d = false) (hm : len + 1 ≤ most) : BrkTo zs a (d + 1) (len + 1) best most := by
  obtain ⟨⟨h0, h1, hr, hl⟩, ⟨h2, h3⟩, h4⟩ := h
  have hrun : ∀ x, d - len ≤ x → x < d + 1 → court zs x = false := fun x h5 h6 => by
    by_cases e : x = d
    · rw [e]; exact hc
    · exact hr x h5 (by omega)
  have h3' := h3 (by omega)
  refine ⟨⟨by omega, by omega, fun x h5 h6 => hrun x (by omega) h6, by rw [show d + 1 - (len + 1) = d - len by omega]; exact hl⟩, ⟨h2, fun _ => ⟨h3'.1, by omega, h3'.2.2⟩⟩, fun x n h5 h6 h7 h8 => ?_⟩
  by_cases e : x + n = d + 1
  · have := run_le hl h6 e h0 h8
    exact ⟨by omega, fun e2 => by omega⟩
  · exact h4 x n h5 h6 (by omega) h8
theorem brk_end {zs : List Int} {a b len best most : Int} (h : BrkTo zs a (b + 1) len best most) (hm : 0 < most) : IsBrk zs a b best most :=
  ⟨hm, (h.2.1.2 hm).1, (h.2.1.2 hm).2.1, (h.2.1.2 hm).2.2, h.2.2⟩
/-- no break at all: all days are court days -/
theorem brk_none {zs : List Int} {a b len best : Int} (h : BrkTo zs a (b + 1) len best 0) : ∀ x, a ≤ x → x ≤ b → court zs x = true := by
  intro x h1 h2
  cases hc : court zs x with
  | true => rfl
  | false =>
    have := (h.2.2 x 1 (by omega) h1 (by omega) (fun y h3 h4 => by rw [show y = x by omega]; exact hc)).1
    omega
theorem isBrk_no {zs : List Int} {a b best most : Int} (h : IsBrk zs a b best most) (hall : ∀ x, a ≤ x → x ≤ b → court zs x = true) : False := by
  obtain ⟨h1, h2, h3, h4, _⟩ := h
  have := h4 best (by omega) (by omega)
  rw [hall best h2 (by omega)] at this; cases this
/-- what stands at the ends of the longest break -/
theorem isBrk_ends {zs : List Int} {a b best most : Int} (h : IsBrk zs a b best most) : (a < best → court zs (best - 1) = true) ∧ (best + most ≤ b → court zs (best + most) = true) := by
  obtain ⟨h1, h2, h3, h4, h5⟩ := h
  refine ⟨fun hl => ?_, fun hr => ?_⟩
  · cases hc : court zs (best - 1) with
    | true => rfl
    | false =>
      have := (h5 (best - 1) (most + 1) (by omega) (by omega) (by omega) (fun y h6 h7 => by
        by_cases e : y = best - 1
        · rw [e]; exact hc
        · exact h4 y (by omega) (by omega))).1
      omega
  · cases hc : court zs (best + most) with
    | true => rfl
    | false =>
      have := (h5 best (most + 1) (by omega) (by omega) (by omega) (fun y h6 h7 => by
        by_cases e : y = best + most
        · rw [e]; exact hc
        · exact h4 y (by omega) (by omega))).1
      omega

end Go.Proofs.YtchffaohmeaccaaDoor.Pure20
