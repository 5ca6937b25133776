/- Plain facts on chapter 7: the busiest day. -/
import Derived.Test.YtblbmmajobefiaaPure70
namespace Go.Proofs.Ytblbmmajobefiaa
open Pure2 Pure20 Pure40

theorem incs_sub : ∀ {ys xs : List Int}, Incs xs → Incs ys → (∀ x ∈ xs, x ∈ ys) → xs.length ≤ ys.length := by
  intro ys
  induction ys with
  | nil =>
    intro xs _ _ h
    cases xs with
    | nil => exact Nat.le_refl _
    | cons x xs => have := h x (by simp); simp at this
  | cons y ys ih =>
    intro xs hx hy h
    unfold Incs at hy
    rw [List.pairwise_cons] at hy
    cases xs with
    | nil => exact Nat.zero_le _
    | cons x xs =>
      have hx' := hx
      unfold Incs at hx'
      rw [List.pairwise_cons] at hx'
      by_cases e : x = y
      · subst e
        have := ih hx'.2 hy.2 fun z hz => by
          rcases List.mem_cons.1 (h z (List.mem_cons_of_mem _ hz)) with e | h2
          · have := hx'.1 z hz; omega
          · exact h2
        simp only [List.length_cons]; omega
      · have hxy : y < x := by
          rcases List.mem_cons.1 (h x (by simp)) with e' | h2
          · exact absurd e' e
          · exact hy.1 x h2
        have := ih hx hy.2 fun z hz => by
          rcases List.mem_cons.1 (h z hz) with e' | h2
          · exfalso
            rcases List.mem_cons.1 hz with e2 | h3
            · omega
            · have := hx'.1 z h3; omega
          · exact h2
        simp only [List.length_cons] at this ⊢; omega
theorem serves_iff {d : Int} {c : Term} : serves d c = true ↔ c.frm ≤ d ∧ d ≤ c.to := inR_iff
theorem servL_mem {ts : List Term} {d x : Int} : x ∈ servL ts d ↔ ∃ (i : Nat) (c : Term), ts[i]? = some c ∧ serves d c = true ∧ c.num = x := by
  unfold servL
  rw [numsTo_mem]
  constructor
  · rintro ⟨i, c, _, h1, h2, h3⟩; exact ⟨i, c, h1, h2, h3⟩
  · rintro ⟨i, c, h1, h2, h3⟩; exact ⟨i, c, lt_of_get h1, h1, h2, h3⟩
/-- of those of the first k who serve on a day, the one who began last -/
theorem last_start (ts : List Term) (x : Int) : ∀ k, (∀ (i : Nat) c, i < k → ts[i]? = some c → serves x c = false) ∨ ∃ (i : Nat) (c : Term), i < k ∧ ts[i]? = some c ∧ serves x c = true ∧ ∀ (j : Nat) q, j < k → ts[j]? = some q → serves x q = true → q.frm ≤ c.frm
  | 0 => .inl fun i c h => by omega
  | k + 1 => by
    cases hc : ts[k]? with
    | none =>
      rcases last_start ts x k with h | ⟨i, c, hi, h1, h2, h3⟩
      · exact .inl fun i c hi hx => by
          by_cases e : i = k
          · subst e; rw [hc] at hx; cases hx
          · exact h i c (by omega) hx
      · exact .inr ⟨i, c, by omega, h1, h2, fun j q hj hq hs => by
          by_cases e : j = k
          · subst e; rw [hc] at hq; cases hq
          · exact h3 j q (by omega) hq hs⟩
    | some c0 =>
      cases hs0 : serves x c0 with
      | false =>
        rcases last_start ts x k with h | ⟨i, c, hi, h1, h2, h3⟩
        · exact .inl fun i c hi hx => by
            by_cases e : i = k
            · subst e; rw [hc] at hx; cases hx; exact hs0
            · exact h i c (by omega) hx
        · exact .inr ⟨i, c, by omega, h1, h2, fun j q hj hq hs => by
            by_cases e : j = k
            · subst e; rw [hc] at hq; cases hq; rw [hs0] at hs; cases hs
            · exact h3 j q (by omega) hq hs⟩
      | true =>
        rcases last_start ts x k with h | ⟨i, c, hi, h1, h2, h3⟩
        · exact .inr ⟨k, c0, by omega, hc, hs0, fun j q hj hq hs => by
            by_cases e : j = k
            · subst e; rw [hc] at hq; cases hq; exact Int.le_refl _
            · have := h j q (by omega) hq; rw [hs] at this; cases this⟩
        · by_cases hle : c0.frm ≤ c.frm
          · exact .inr ⟨i, c, by omega, h1, h2, fun j q hj hq hs => by
              by_cases e : j = k
              · subst e; rw [hc] at hq; cases hq; exact hle
              · exact h3 j q (by omega) hq hs⟩
          · exact .inr ⟨k, c0, by omega, hc, hs0, fun j q hj hq hs => by
              by_cases e : j = k
              · subst e; rw [hc] at hq; cases hq; exact Int.le_refl _
              · have := h3 j q (by omega) hq hs; omega⟩
/-- on the day on which one of those who serve began last, no fewer serve -/
theorem start_most (ts : List Term) (x : Int) : servL ts x = [] ∨ ∃ (i : Nat) (c : Term), ts[i]? = some c ∧ c.frm ≤ x ∧ (servL ts x).length ≤ (servL ts c.frm).length := by
  rcases last_start ts x ts.length with h | ⟨i, c, _, h1, h2, h3⟩
  · refine .inl (List.eq_nil_iff_forall_not_mem.2 fun z hz => ?_)
    obtain ⟨i, c, hc, hs, _⟩ := servL_mem.1 hz
    have := h i c (lt_of_get hc) hc; rw [hs] at this; cases this
  · refine .inr ⟨i, c, h1, (serves_iff.1 h2).1, incs_sub (numsTo_incs _ _ _) (numsTo_incs _ _ _) fun z hz => ?_⟩
    obtain ⟨j, q, hq, hs, rfl⟩ := servL_mem.1 hz
    have hle := h3 j q (lt_of_get hq) hq hs
    have := (serves_iff.1 hs).2; have := (serves_iff.1 h2).1
    exact servL_mem.2 ⟨j, q, hq, serves_iff.2 ⟨hle, by omega⟩, rfl⟩
/-- the best of the days on which the first k terms begin -/
def BusyTo (ts : List Term) (k : Nat) (d : Int) (m : Int) : Prop :=
  (k = 0 ∧ d = 0 ∧ m = 0) ∨ ((∃ (i : Nat) (c : Term), i < k ∧ ts[i]? = some c ∧ d = c.frm ∧ ((servL ts d).length : Int) = m) ∧ 1 ≤ m ∧ ∀ (i : Nat) c, i < k → ts[i]? = some c → ((servL ts c.frm).length : Int) < m ∨ (((servL ts c.frm).length : Int) = m ∧ d ≤ c.frm))
theorem busyTo_zero (ts : List Term) : BusyTo ts 0 0 0 := .inl ⟨rfl, rfl, rfl⟩
theorem serv_pos {ts : List Term} (h : areT ts = true) {k : Nat} {c : Term} (hc : ts[k]? = some c) : 1 ≤ (servL ts c.frm).length := by
  have hm : c.num ∈ servL ts c.frm := servL_mem.2 ⟨k, c, hc, serves_iff.2 ⟨Int.le_refl _, (areT_at h hc).2.2.1⟩, rfl⟩
  exact List.length_pos_of_mem hm
theorem busyTo_take {ts : List Term} (h : areT ts = true) {k : Nat} {c : Term} {d m : Int} (hb : BusyTo ts k d m) (hc : ts[k]? = some c) (hn : m < (servL ts c.frm).length ∨ (((servL ts c.frm).length : Int) = m ∧ c.frm < d)) : BusyTo ts (k + 1) c.frm (servL ts c.frm).length := by
  have hp := serv_pos h hc
  refine .inr ⟨⟨k, c, by omega, hc, rfl, rfl⟩, by omega, fun i q hi hq => ?_⟩
  by_cases e : i = k
  · subst e; rw [hc] at hq; cases hq; exact .inr ⟨rfl, Int.le_refl _⟩
  · rcases hb with ⟨h0, _, _⟩ | ⟨_, _, h3⟩
    · omega
    · have := h3 i q (by omega) hq; omega
theorem busyTo_leave {ts : List Term} (h : areT ts = true) {k : Nat} {c : Term} {d m : Int} (hb : BusyTo ts k d m) (hc : ts[k]? = some c) (hn : ¬ m < (servL ts c.frm).length) (hn2 : ¬ (((servL ts c.frm).length : Int) = m ∧ c.frm < d)) : BusyTo ts (k + 1) d m := by
  have hp := serv_pos h hc
  rcases hb with ⟨_, _, h0⟩ | ⟨⟨i, q, hi, h1, h2⟩, h4, h3⟩
  · omega
  · refine .inr ⟨⟨i, q, by omega, h1, h2⟩, h4, fun j x hj hx => ?_⟩
    by_cases e : j = k
    · subst e; rw [hc] at hx; cases hx; omega
    · exact h3 j x (by omega) hx
theorem busyTo_end {ts : List Term} (h : areT ts = true) {d m : Int} (hb : BusyTo ts ts.length d m) (h0 : 0 < ts.length) : Busiest ts d m := by
  rcases hb with ⟨e, _, _⟩ | ⟨⟨i, c, _, hc, rfl, hm⟩, h1, h3⟩
  · omega
  · refine ⟨hm, (areT_at h hc).2.1, fun x _ _ => ?_, fun x _ hx => ?_⟩
    · rcases start_most ts x with e | ⟨j, q, hq, _, hle⟩
      · rw [e]; simp only [List.length_nil]; omega
      · have := h3 j q (lt_of_get hq) hq; omega
    · rcases start_most ts x with e | ⟨j, q, hq, hqx, hle⟩
      · rw [e]; simp only [List.length_nil]; omega
      · have := h3 j q (lt_of_get hq) hq; omega
noncomputable def busyL (ts : List Term) : Int × Int := Classical.epsilon fun p : Int × Int => Busiest ts p.1 p.2
theorem busyL_eq {ts : List Term} {d m : Int} (h : Busiest ts d m) : busyL ts = (d, m) := by
  have he : Busiest ts (busyL ts).1 (busyL ts).2 := Classical.epsilon_spec (p := fun p : Int × Int => Busiest ts p.1 p.2) ⟨(d, m), h⟩
  obtain ⟨h1, h2⟩ := busiest_inj he h
  exact Prod.ext h1 h2
/-- the busiest day, their number, the code -/
noncomputable def busyR (ts : List Term) : (Int × Int) × Int := if codeT ts 1 0 = 0 then (if ts.length = 0 then ((0, 0), 4) else (busyL ts, 0)) else ((0, 0), codeT ts 1 0)
end Go.Proofs.Ytblbmmajobefiaa
