/- Plain facts that FnSummonses asks for. -/
import Derived.Test.YtchffaohmeaccaaGreatDoorBase0
import Derived.Test.YtchffaohmeaccaaGreatDoorHelp9
namespace Go.Proofs.YtchffaohmeaccaaGreatDoor
open Pure2 Pure20 Pure21 Pure40

theorem send_facts {hs : List Int} {ts ys : List Summons} {n d q k : Int} (h : sendR hs ts n d q = (ys, k)) :
    ys.length ≤ 20 ∧ (k ≠ 0 ∨ (k = 0 ∧ areM ys = true ∧ ys.length = ts.length + 1 ∧ ∃ os, onR openM ys d = (os, 0) ∧ os.length ≤ 20 ∧ hasJ os n = true)) := by
  have hs' := sendR_small hs ts n d q
  rw [h] at hs'
  refine ⟨hs', ?_⟩
  by_cases hk : k = 0
  · subst hk
    obtain ⟨h1, h2, h3, h4⟩ := send_then h
    obtain ⟨os, c, e⟩ : ∃ os c, onR openM ys d = (os, c) := ⟨_, _, rfl⟩
    have ho := onR_small openM ys d
    rw [e] at h3 h4 ho
    simp only at h3 h4 ho
    subst h3
    exact .inr ⟨rfl, h1, h2, os, e, ho, decide_eq_true h4⟩
  · exact .inl hk
theorem ans_facts {ts ys : List Summons} {n a d k : Int} (h : ansR9 ts n a d = (ys, k)) :
    ys.length ≤ 20 ∧ (k ≠ 0 ∨ (k = 0 ∧ ∃ os, onR openM ys d = (os, 0) ∧ os.length ≤ 20 ∧ hasJ os n = false)) := by
  have hs' := ansR9_small ts n a d
  rw [h] at hs'
  refine ⟨hs', ?_⟩
  by_cases hk : k = 0
  · subst hk
    obtain ⟨h1, h3, h4⟩ := ans_then h
    obtain ⟨os, c, e⟩ : ∃ os c, onR openM ys d = (os, c) := ⟨_, _, rfl⟩
    have ho := onR_small openM ys d
    rw [e] at h3 h4 ho
    simp only at h3 h4 ho
    subst h3
    exact .inr ⟨rfl, os, e, ho, decide_eq_false h4⟩
  · exact .inl hk
theorem over_facts9 {ts : List Summons} {d : Int} {vs ps : List Int} {k k' : Int} (h : onR overM ts d = (vs, k)) (h' : onR openM ts d = (ps, k')) :
    vs.length ≤ 20 ∧ ps.length ≤ 20 ∧ ∀ x, x ∈ vs → hasJ ps x = true := by
  have hv := onR_small overM ts d
  have hp := onR_small openM ts d
  rw [h] at hv
  rw [h'] at hp
  refine ⟨hv, hp, fun x hx => ?_⟩
  rcases codeM_cases ts d with ⟨hc, ha, _⟩ | hc | hc
  · rw [onR_ok hc] at h h'
    injection h with h1 h2
    injection h' with h3 h4
    subst h1 h3
    exact decide_eq_true (numsM_sub (fun s => overM_open) hx)
  · rw [onR_bad hc (by omega)] at h
    injection h with h1 h2
    subst h1; cases hx
  · rw [onR_bad hc (by omega)] at h
    injection h with h1 h2
    subst h1; cases hx
end Go.Proofs.YtchffaohmeaccaaGreatDoor
