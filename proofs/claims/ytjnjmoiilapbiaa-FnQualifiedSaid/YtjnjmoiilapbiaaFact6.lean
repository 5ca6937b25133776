/- What the answers of chapter 6 have to do with each other (no Go). -/
import Derived.Test.YtjnjmoiilapbiaaPure2
import Derived.Test.YtjnjmoiilapbiaaPure3
import Derived.Test.YtjnjmoiilapbiaaPure40
import Derived.Test.YtjnjmoiilapbiaaPure60
import Derived.Test.YtjnjmoiilapbiaaPure61
namespace Go.Proofs.Ytjnjmoiilapbiaa
open Pure2 Pure3 Pure40 Pure60 Pure61

theorem two_facts {r : Rul} {c : Cand} {x k1 k2 : Int} {q : Bool} (h1 : reasonsR r c = (x, k1)) (h2 : qualR r c = (q, k2)) : k1 = k2 ∧ (k2 ≠ 0 ∨ (k2 = 0 ∧ q = (x == 0))) := by
  unfold reasonsR at h1; unfold qualR at h2
  split at h1 <;> split at h2 <;> first | contradiction | skip
  · cases h1; cases h2; exact ⟨rfl, .inr ⟨rfl, rfl⟩⟩
  · cases h1; cases h2; exact ⟨rfl, .inl (by decide)⟩
theorem areRul_iff (y l m : Int) (zz jj : List Int) : areRul ⟨y, l, m, zz, jj⟩ = (inR y 1900 2200 && (inR l 0 150 && (inR m l 150 && (rises 20 0 99 zz && rises 20 0 20 jj)))) := rfl
theorem year_later {r : Rul} {y : Int} (h : areRul r = true) (h0 : r.year ≤ y) (h1 : y ≤ 2200) : areRul { r with year := y } = true := by
  obtain ⟨ry, l, m, zz, jj⟩ := r
  rw [areRul_iff] at h ⊢
  simp only [Bool.and_eq_true] at h ⊢
  obtain ⟨h2, h3⟩ := h
  exact ⟨inR_iff.2 ⟨by have := (inR_iff.1 h2).1; simp only at h0; omega, h1⟩, h3⟩
theorem from_facts {r : Rul} {c : Cand} {y k : Int} (h : fromR r c = (y, k)) : k ≠ 0 ∨ (k = 0 ∧ qualR { r with year := y } c = (true, 0)) := by
  unfold fromR at h
  split at h
  · rename_i hc
    rcases fromY_cases r c with ⟨f, hf, e⟩ | e
    · rw [e] at h; cases h
      refine .inr ⟨rfl, ?_⟩
      rcases codeC_cases r [c] with ⟨_, ha, hl, hall⟩ | h1
      · have : codeC { r with year := y } [c] = 0 := by
          unfold codeC; exact if_pos ⟨year_later ha hf.1 hf.2.1, hl, hall⟩
        unfold qualR; rw [if_pos this, hf.2.2.1]
      · rw [h1] at hc; exact absurd hc (by decide)
    · rw [e] at h; cases h; exact .inl (by decide)
  · cases h; exact .inl (by decide)
theorem cnt_facts {r : Rul} {cs : List Cand} {xs ks : List Int} {k1 k2 : Int} (h1 : qualOfR r cs = (xs, k1)) (h2 : countR r cs = (ks, k2)) : k1 = k2 ∧ (k2 ≠ 0 ∨ (k2 = 0 ∧ ∀ (i : Nat) x, ks[i]? = some x → x ≤ (cs.length : Int) - (xs.length : Int))) := by
  unfold qualOfR at h1; unfold countR at h2
  split at h1 <;> split at h2 <;> first | contradiction | skip
  · cases h1; cases h2
    refine ⟨rfl, .inr ⟨rfl, fun i x hx => ?_⟩⟩
    unfold countL at hx
    rw [List.getElem?_map] at hx
    have hi : i < 7 := by
      by_cases hi : i < 7
      · exact hi
      · rw [List.getElem?_eq_none (by simp; omega)] at hx; simp at hx
    rw [List.getElem?_range hi] at hx
    simp at hx
    have := cnt_qual r cs i hi cs.length (Nat.le_refl _)
    omega
  · cases h1; cases h2; exact ⟨rfl, .inl (by decide)⟩
theorem text_zero : ∀ n : Fin 128, ((wordsT (namesTo n.val 7)).toList == [45]) = (n.val == 0) := by decide +kernel
theorem text_facts {z k : Int} {t : ByteArray} (h : textR z = (t, k)) : k ≠ 0 ∨ (k = 0 ∧ (t.toList == [45]) = (z == 0)) := by
  unfold textR at h
  split at h
  · rename_i hz
    cases h
    obtain ⟨h0, h1⟩ := inR_iff.1 hz
    obtain ⟨n, rfl⟩ := Int.eq_ofNat_of_zero_le h0
    have := text_zero ⟨n, by omega⟩
    refine .inr ⟨rfl, ?_⟩
    simp only at this
    rw [show ((n : Int)).toNat = n from rfl, this]
    by_cases h0 : n = 0
    · subst h0; rfl
    · rw [beq_eq_false_iff_ne.2 h0, beq_eq_false_iff_ne.2 (by omega)]
  · cases h; exact .inl (by decide)
end Go.Proofs.Ytjnjmoiilapbiaa
