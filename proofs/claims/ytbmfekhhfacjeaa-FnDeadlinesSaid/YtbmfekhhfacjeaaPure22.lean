/- Plain facts on the laws of chapter 2: what adding, deadlines, the next and the last court day and breaks have in common. No program is imported here. -/
import Derived.Test.YtbmfekhhfacjeaaPure2
import Derived.Test.YtbmfekhhfacjeaaPure20
import Derived.Test.YtbmfekhhfacjeaaPure21
import Derived.WalkKit
namespace Go.Proofs.Ytbmfekhhfacjeaa.Pure22
open Go.RowKit Pure2 Pure20 Pure21

theorem courtR_at {zs : List Int} {d : Int} (h : Hol zs) (hd : 0 ≤ d ∧ d ≤ 20000) (c : Bool) (hc : court zs d = c) : courtR zs d = (c, 0) := by
  rw [courtR, if_pos (code_ok h (one_all hd)), hc]
theorem cntR_at {zs : List Int} {a b : Int} (h : Hol zs) (ha : 0 ≤ a ∧ a ≤ 20000) (hb : 0 ≤ b ∧ b ≤ 20000) (n : Int) (hn : count zs a b = n) : cntR zs a b = (n, 0) := by
  rw [cntR, if_pos (code_ok h (two_all ⟨ha, hb⟩)), hn]
theorem lim_inv {r p : Int} (h : lim r = (p, 0)) : r = p ∧ p ≤ 20000 := by
  unfold lim at h; split at h
  · cases h
  · cases h; exact ⟨rfl, by omega⟩
theorem count_first {zs : List Int} {d r : Int} (h : d < r) : count zs d r = (if court zs d = true then 1 else 0) + count zs (d + 1) r := by
  rw [count_add (b := d + 1) (by omega) (by omega), count_snoc (Int.le_refl d), count_none (Int.le_refl d)]; omega

/-- what the answer (p, q) of adding n court days to d says -/
def AddFacts (zs : List Int) (d n p q : Int) : Prop :=
  q ≠ 0 ∨ (q = 0 ∧ n = 0 ∧ p = d) ∨ (q = 0 ∧ 1 ≤ n ∧ n ≤ 400 ∧ courtR zs p = (true, 0) ∧ ((courtR zs d = (true, 0) ∧ cntR zs d p = (n, 0)) ∨ (courtR zs d = (false, 0) ∧ cntR zs d p = (n - 1, 0))))
theorem add_facts {zs : List Int} {d n p q : Int} (h : addR zs d n = (p, q)) : AddFacts zs d n p q := by
  by_cases hq : q = 0
  · subst hq
    unfold addR at h
    split at h
    · rename_i hc
      obtain ⟨hh, hd⟩ := code_zero hc
      have hd := all_one hd
      split at h
      · rename_i hn
        obtain ⟨hr, hp⟩ := lim_inv h
        obtain ⟨m, rfl⟩ := Int.eq_ofNat_of_zero_le hn.1
        rw [Int.toNat_natCast] at hr
        obtain ⟨ha, _⟩ := addOf_is hh hd.2 m
        rw [hr] at ha
        rcases ha with ⟨rfl, rfl⟩ | ⟨h1, h2, h3, h4⟩
        · exact .inr (.inl ⟨rfl, rfl, rfl⟩)
        · refine .inr (.inr ⟨rfl, by omega, hn.2, courtR_at hh ⟨by omega, hp⟩ _ h3, ?_⟩)
          have hcf := count_first (zs := zs) h2
          cases hcd : court zs d with
          | true =>
            rw [hcd, if_pos rfl, h4] at hcf
            exact .inl ⟨courtR_at hh hd _ hcd, cntR_at hh hd ⟨by omega, hp⟩ _ (by omega)⟩
          | false =>
            rw [hcd, if_neg (by decide), h4] at hcf
            exact .inr ⟨courtR_at hh hd _ hcd, cntR_at hh hd ⟨by omega, hp⟩ _ (by omega)⟩
      · cases h
    · rename_i hc
      exact absurd (Prod.mk.inj h).2 hc
  · exact .inl hq

/-- what the answer (p, q) of a deadline says -/
def DeadFacts (zs : List Int) (d k p q : Int) : Prop := q ≠ 0 ∨ (q = 0 ∧ courtR zs p = (true, 0) ∧ d + k ≤ p ∧ 0 ≤ d ∧ d ≤ 20000 ∧ 0 ≤ k ∧ k ≤ 1000)
theorem dead_facts {zs : List Int} {d k p q : Int} (h : deadR zs d k = (p, q)) : DeadFacts zs d k p q := by
  by_cases hq : q = 0
  · subst hq
    unfold deadR at h
    split at h
    · rename_i hc
      obtain ⟨hh, hd⟩ := code_zero hc
      have hd := all_one hd
      split at h
      · rename_i hn
        obtain ⟨hr, hp⟩ := lim_inv h
        obtain ⟨ha, _⟩ := nextOf_is hh (d + k)
        rw [hr] at ha
        exact .inr ⟨rfl, courtR_at hh ⟨by have := ha.1; omega, hp⟩ _ ha.2.1, ha.1, hd.1, hd.2, hn.1, hn.2⟩
      · cases h
    · rename_i hc
      exact absurd (Prod.mk.inj h).2 hc
  · exact .inl hq

/-- what the answers (n, q) of the next and (l, r) of the last court day say together -/
def NearFacts (zs : List Int) (x n q l r : Int) : Prop :=
  q ≠ 0 ∨ (q = 0 ∧ r ≠ 0) ∨ (q = 0 ∧ r = 0 ∧ cntR zs x n = (0, 0) ∧ x ≤ n ∧ ((l < x ∧ cntR zs l x = (1, 0)) ∨ (l = x ∧ cntR zs l x = (0, 0))))
theorem near_facts {zs : List Int} {x n q l r : Int} (h : nextR zs x = (n, q)) (h' : lastR zs x = (l, r)) : NearFacts zs x n q l r := by
  by_cases hq : q = 0
  · subst hq
    by_cases hr : r = 0
    · subst hr
      unfold nextR at h; unfold lastR at h'
      split at h
      · rename_i hc
        rw [if_pos hc] at h'
        obtain ⟨hh, hd⟩ := code_zero hc
        have hd := all_one hd
        obtain ⟨hr, hp⟩ := lim_inv h
        obtain ⟨ha, _⟩ := nextOf_is hh x
        rw [hr] at ha
        refine .inr (.inr ⟨rfl, rfl, cntR_at hh hd ⟨by have := ha.1; omega, hp⟩ _ (count_next ha), ha.1, ?_⟩)
        rcases last_all zs x with ⟨m, hm⟩ | hno
        · rw [lastOf_yes hm] at h'; cases h'
          obtain ⟨h1, h2, h3, h4⟩ := hm
          by_cases hlx : l < x
          · refine .inl ⟨hlx, cntR_at hh ⟨h1, by omega⟩ hd _ ?_⟩
            rw [count_first hlx, h3, if_pos rfl, count_free (fun y h5 h6 => h4 y (by omega) (by omega))]; rfl
          · obtain rfl : l = x := by omega
            exact .inr ⟨rfl, cntR_at hh hd hd _ (count_none (Int.le_refl _))⟩
        · rw [lastOf_no hno] at h'; cases h'
      · rename_i hc
        exact absurd (Prod.mk.inj h).2 hc
    · exact .inr (.inl ⟨rfl, hr⟩)
  · exact .inl hq

/-- what the answer (s, n, q) of the longest break says -/
def BrkFacts (zs : List Int) (a b s n q : Int) : Prop :=
  q ≠ 0 ∨ (q = 0 ∧ 0 ≤ a ∧ a ≤ s ∧ 0 < n ∧ s + n ≤ b + 1 ∧ b ≤ 20000 ∧ (s + n ≤ 20000 → cntR zs s (s + n) = (0, 0)) ∧ (a < s → courtR zs (s - 1) = (true, 0)) ∧ (s + n ≤ b → courtR zs (s + n) = (true, 0)))
theorem brk_facts {zs : List Int} {a b s n q : Int} (h : brkR zs a b = (s, n, q)) : BrkFacts zs a b s n q := by
  by_cases hq : q = 0
  · subst hq
    unfold brkR at h
    split at h
    · rename_i hc
      obtain ⟨hh, hd⟩ := code_zero hc
      obtain ⟨ha, hb⟩ := all_two hd
      split at h
      · rename_i hn
        unfold brkOf at h
        split at h
        · rename_i he
          have hs := Classical.epsilon_spec (p := fun p : Int × Int => IsBrk zs a b p.1 p.2) he
          simp only [Prod.mk.injEq] at h
          obtain ⟨e1, e2, _⟩ := h
          rw [e1, e2] at hs
          obtain ⟨h5, h6⟩ := isBrk_ends hs
          obtain ⟨h1, h2, h3, h4, _⟩ := hs
          exact .inr ⟨rfl, ha.1, h2, h1, h3, hb.2, fun hl => cntR_at hh ⟨by omega, by omega⟩ ⟨by omega, hl⟩ _ (count_free (fun y h7 h8 => h4 y h7 h8)),
            fun hl => courtR_at hh ⟨by omega, by omega⟩ _ (h5 hl), fun hl => courtR_at hh ⟨by omega, by omega⟩ _ (h6 hl)⟩
        · cases h
      · cases h
    · rename_i hc
      exact absurd (Prod.mk.inj (Prod.mk.inj h).2).2 hc
  · exact .inl hq

end Go.Proofs.Ytbmfekhhfacjeaa.Pure22
