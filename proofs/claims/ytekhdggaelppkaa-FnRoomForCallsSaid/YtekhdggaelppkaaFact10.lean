/- Plain facts that the laws over draws of chapter 10 ask for. -/
import Derived.Test.YtekhdggaelppkaaBase0
import Derived.Test.YtekhdggaelppkaaPure100
import Derived.Test.YtekhdggaelppkaaHasJ
namespace Go.Proofs.Ytekhdggaelppkaa
open Pure2 Pure20 Pure21 Pure40

theorem on_parts10 {ts : List Call} {d n : Int} (h1 : (onC ts d).2 = 0) (h2 : n ∈ (onC ts d).1) : ∃ os, onC ts d = (os, 0) ∧ os.length ≤ 20 ∧ hasJ os n = true := by
  have ho := onC_small ts d
  obtain ⟨os, c, e⟩ : ∃ os c, onC ts d = (os, c) := ⟨_, _, rfl⟩
  rw [e] at h1 h2 ho
  simp only at h1 h2 ho
  subst h1
  exact ⟨os, e, ho, decide_eq_true h2⟩
theorem move_facts {hs : List Int} {ts ys : List Call} {n d k x : Int} {y : Bool} (h : movR hs ts n d = (ys, k)) (h' : mayR hs ts n d = (y, x)) :
    ys.length ≤ 20 ∧ ((k ≠ 0 ∧ x ≠ 0 ∧ y = false) ∨ (k ≠ 0 ∧ x = 0 ∧ y = false) ∨ (k = 0 ∧ x = 0 ∧ y = true ∧ courtR hs d = (true, 0) ∧ areC ys = true ∧ (∃ os, onC ys d = (os, 0) ∧ os.length ≤ 20 ∧ hasJ os n = true) ∧ (∀ (i : Nat) c, ys[i]? = some c → okC c = true) ∧ ∀ (i : Nat) c, ys[i]? = some c → c.num = n → ¬ c.fst + 180 < c.day)) := by
  have hs' := movR_small hs ts n d
  rw [h] at hs'
  refine ⟨hs', ?_⟩
  rcases findC_cases hs ts (isDay d) n with ⟨h0, _, c, hw⟩ | h0 | h0 | h0
  · rw [mayR_ok h0 hw] at h'
    injection h' with e1 e2
    cases hm : mayC hs c d
    · rw [movR_no h0 hw hm] at h
      injection h with _ e3
      exact .inr (.inl ⟨by omega, e2.symm, by rw [← e1, hm]⟩)
    · have hk : k = 0 := by rw [movR_yes h0 hw hm] at h; injection h with _ e3; exact e3.symm
      subst hk
      obtain ⟨h1, h2, h3, h4, h5⟩ := move_then h
      exact .inr (.inr ⟨rfl, e2.symm, by rw [← e1, hm], h1, h2, on_parts10 h3 h4, fun i c hc => areC_at h2 hc, h5⟩)
  · rw [mayR_bad h0 (by omega)] at h'; rw [movR_bad h0 (by omega)] at h
    injection h' with e1 e2; injection h with _ e3
    exact .inl ⟨by omega, by omega, e1.symm⟩
  · rw [mayR_bad h0 (by omega)] at h'; rw [movR_bad h0 (by omega)] at h
    injection h' with e1 e2; injection h with _ e3
    exact .inl ⟨by omega, by omega, e1.symm⟩
  · rw [mayR_bad h0 (by omega)] at h'; rw [movR_bad h0 (by omega)] at h
    injection h' with e1 e2; injection h with _ e3
    exact .inl ⟨by omega, by omega, e1.symm⟩
theorem add_facts10 {hs : List Int} {ts ys : List Call} {n d k : Int} (h : addR10 hs ts n d = (ys, k)) :
    ys.length ≤ 20 ∧ (k ≠ 0 ∨ (k = 0 ∧ ys.length = ts.length + 1 ∧ ∃ os, onC ys d = (os, 0) ∧ os.length ≤ 20 ∧ hasJ os n = true)) := by
  have hs' := addR10_small hs ts n d
  rw [h] at hs'
  refine ⟨hs', ?_⟩
  by_cases hk : k = 0
  · subst hk
    obtain ⟨_, h2, h3, h4⟩ := add_then h
    exact .inr ⟨rfl, h2, on_parts10 h3 h4⟩
  · exact .inl hk
theorem drop_facts10 {ts ys : List Call} {n k : Int} (h : dropR ts n = (ys, k)) : ys.length ≤ 20 ∧ (k ≠ 0 ∨ (k = 0 ∧ ys.length + 1 = ts.length)) := by
  have hs' := dropR_small ts n
  rw [h] at hs'
  refine ⟨hs', ?_⟩
  by_cases hk : k = 0
  · subst hk; exact .inr ⟨rfl, drop_then h⟩
  · exact .inl hk
theorem room_facts10 {hs : List Int} {ts : List Call} {n r f k : Int} (h : rooR hs ts n r = (f, k)) : k ≠ 0 ∨ (k = 0 ∧ mayR hs ts n f = (true, 0) ∧ ∃ os, onC ts f = (os, 0) ∧ os.length ≤ 20 ∧ (os.length : Int) < r) := by
  by_cases hk : k = 0
  · subst hk
    obtain ⟨h1, h2, h3⟩ := room_then h
    have ho := onC_small ts f
    obtain ⟨os, c, e⟩ : ∃ os c, onC ts f = (os, c) := ⟨_, _, rfl⟩
    rw [e] at h2 h3 ho
    simp only at h2 h3 ho
    subst h2
    exact .inr ⟨rfl, h1, os, e, ho, h3⟩
  · exact .inl hk
theorem crow_facts10 {ts : List Call} {r k : Int} {ds : List Int} (h : crowR ts r = (ds, k)) : ds.length ≤ 20 ∧ (k ≠ 0 ∨ (k = 0 ∧ ∀ (i : Nat) x, ds[i]? = some x → ∃ os, onC ts x = (os, 0) ∧ os.length ≤ 20 ∧ r < (os.length : Int))) := by
  have hs' := crowR_small ts r
  rw [h] at hs'
  refine ⟨hs', ?_⟩
  by_cases hk : k = 0
  · subst hk
    obtain ⟨_, h2⟩ := crow_then h
    refine .inr ⟨rfl, fun i x hx => ?_⟩
    obtain ⟨h3, h4⟩ := h2 i x hx
    have ho := onC_small ts x
    obtain ⟨os, c, e⟩ : ∃ os c, onC ts x = (os, c) := ⟨_, _, rfl⟩
    rw [e] at h3 h4 ho
    simp only at h3 h4 ho
    subst h3
    exact ⟨os, e, ho, h4⟩
  · exact .inl hk
end Go.Proofs.Ytekhdggaelppkaa
