/- What the law of likeness needs: pure facts. -/
import Derived.Test.YtlaeceglcmnhbaaPure41
import Derived.Test.YtlaeceglcmnhbaaAns4
import Derived.Test.YtlaeceglcmnhbaaMostA
import Derived.Test.YtlaeceglcmnhbaaArePers
import Derived.Test.YtlaeceglcmnhbaaFind
import Derived.Test.YtlaeceglcmnhbaaList4
namespace Go.Proofs.Ytlaeceglcmnhbaa
open Go.RowKit Pure1 Pure40 Pure41

theorem bestUp_lt {f : Nat → Int} : ∀ k, 0 < k → bestUp f k < k
  | 0, h => by omega
  | k + 1, _ => by
    simp only [bestUp]
    split
    · omega
    · by_cases hk : 0 < k
      · have := bestUp_lt (f := f) k hk; omega
      · have : k = 0 := by omega
        subst this; simp [bestUp]
theorem bestUp_max {f : Nat → Int} : ∀ k i, i < k → f i ≤ f (bestUp f k)
  | 0, i, h => by omega
  | k + 1, i, h => by
    simp only [bestUp]
    by_cases e : i = k
    · subst e; split <;> omega
    · have := bestUp_max (f := f) k i (by omega)
      split <;> omega
/-- what is known of MostAlike's answer -/
theorem most_there (qs : List Pers) (pm : Pers) : ∃ m c, mostP qs pm = (m, c) ∧ ((c = 0 ∧ ∃ mm : Nat, m = mm ∧ mm < qs.length ∧ arePers qs = true ∧ isPers pm = true ∧ ∀ (i : Nat) q r, qs[i]? = some q → qs[mm]? = some r → likeP q pm ≤ likeP r pm) ∨ c ≠ 0) := by
  unfold mostP
  by_cases h : arePers qs = true ∧ isPers pm = true
  · rw [if_pos h]
    by_cases h0 : qs.length = 0
    · rw [if_pos h0]; exact ⟨_, _, rfl, .inr (by omega)⟩
    · rw [if_neg h0]
      refine ⟨_, _, rfl, .inl ⟨rfl, _, rfl, bestUp_lt _ (by omega), h.1, h.2, fun i q r hq hr => ?_⟩⟩
      have hi : i < qs.length := (List.getElem?_eq_some_iff.1 hq).1
      have := bestUp_max (f := likeAt qs pm) qs.length i hi
      rw [likeAt_eq hq, likeAt_eq hr] at this
      exact this
  · rw [if_neg h]; exact ⟨_, _, rfl, .inr (by omega)⟩
/-- what is known of the likeness of two persons -/
theorem like_there (p q : Pers) : ∃ L c, likeOfP p q = (L, c) ∧ ((c = 0 ∧ isPers p = true ∧ isPers q = true ∧ likeOfP q p = (L, 0) ∧ likeOfP p p = (100, 0)) ∨ c = 1) := by
  unfold likeOfP
  by_cases h : isPers p = true ∧ isPers q = true
  · rw [if_pos h]
    refine ⟨_, _, rfl, .inl ⟨rfl, h.1, h.2, ?_, ?_⟩⟩
    · rw [if_pos ⟨h.2, h.1⟩, likeP_comm]
    · rw [if_pos ⟨h.1, h.1⟩, likeP_self]
  · rw [if_neg h]; exact ⟨_, _, rfl, .inr rfl⟩
theorem likeOf_yes {p q : Pers} (hp : isPers p = true) (hq : isPers q = true) : likeOfP p q = (likeP p q, 0) := by unfold likeOfP; rw [if_pos ⟨hp, hq⟩]
theorem small_fits {p : Pers} (h : Small p) : p.fits := by obtain ⟨h1, h2, _⟩ := h; unfold Pers.fits maxLen; omega
theorem SmallL.fits {ps : List Pers} (h : SmallL ps) : Fits ps := fun p hp => small_fits (h p hp)
end Go.Proofs.Ytlaeceglcmnhbaa
