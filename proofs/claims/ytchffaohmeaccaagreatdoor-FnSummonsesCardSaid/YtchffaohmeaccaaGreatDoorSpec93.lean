/- Contracts of chapter 9's model: answers counted, the next reminder. (written by impl9.py) -/
import Derived.Test.YtchffaohmeaccaaGreatDoorChecked
import Derived.Test.YtchffaohmeaccaaGreatDoorBase0
import Derived.Test.YtchffaohmeaccaaGreatDoorRowG
import Derived.Test.YtchffaohmeaccaaGreatDoorSpec90
import Derived.Test.YtchffaohmeaccaaGreatDoorSpec91
import Derived.Test.YtchffaohmeaccaaGreatDoorSpec92
import Derived.WalkKit
import Derived.WalkSpells
import Derived.WalkLawsBesides
import Derived.Lib.Hide
import Derived.Lib.QuietBelow
import Derived.IntWalk
import Derived.Deep.QuietTactic
import Derived.BigQuiet
import Derived.BigRegion
import Derived.OwnWalk
import Derived.RegionTactic
import Derived.Outline
namespace Go.Proofs.YtchffaohmeaccaaGreatDoor
open Go.RowKit Go.Sort Pure1 Pure2 Pure20 Pure40

/-- numbers of our own and a code -/
def SaysNew9 (zs : List Int) (n : Int) (w : World) (e : Ending) (w' : World) : Prop :=
  ∃ a cap, e = .returned (.tuple #[.slice a zs.length cap, .int .i64 n]) ∧ OwnI w.heap.size w' a zs.length (fun i => zs.getD i 0) ∧ Below w.heap.size w w'
theorem cntRow_skip {ts : List Summons} {k : Nat} {s : Summons} (hs : ts[k]? = some s) {d : Int} (h : ¬ s.sent ≤ d) : ∀ j : Nat, j < 4 → cntM ts d k j = cntM ts d (k + 1) j := by
  intro j _
  rw [cntM_step hs, if_neg (fun hh => h hh.1)]; omega
theorem cntRow_add {ts : List Summons} {k : Nat} {s : Summons} (hs : ts[k]? = some s) {d : Int} (h : s.sent ≤ d) {z : Nat} (he : byM d s = z) : ∀ j : Nat, j < 4 → (if j = z then cntM ts d k z + 1 else cntM ts d k j) = cntM ts d (k + 1) j := by
  intro j _
  rw [cntM_step hs]
  by_cases e : j = z
  · subst e; rw [if_pos rfl, if_pos ⟨h, he⟩]
  · rw [if_neg e, if_neg (fun hh => e (by have := hh.2; rw [he] at this; omega))]; omega
theorem cntRow_own {ts : List Summons} {d : Int} {k B b : Nat} {w0 w : World} (hk : ts.length ≤ k) (hk' : k ≤ ts.length) (hB : B ≤ b) (h : RowG B b 4 4 w0 w (fun j => cntM ts d k j)) : OwnI B w (some ⟨b, 0, none⟩) (countL ts d ts.length).length (fun i => (countL ts d ts.length).getD i 0) := by
  obtain rfl : k = ts.length := by omega
  refine RowG.own (N := 4) (w0 := w0) (h.congr fun x hx => ?_) (Nat.le_refl _) hB
  have hc : x = 0 ∨ x = 1 ∨ x = 2 ∨ x = 3 := by omega
  rcases hc with rfl | rfl | rfl | rfl <;> rfl
theorem byM_open {d : Int} {s : Summons} (h1 : s.sent ≤ d) (h : openM d s = true) : byM d s = 0 := by
  rw [openM_by, decide_eq_true h1] at h; simpa using h
theorem byM_shut {d : Int} {s : Summons} (h0 : okM s = true) (h1 : s.sent ≤ d) (h : openM d s = false) : byM d s = s.ans ∧ (s.ans = 1 ∨ s.ans = 2 ∨ s.ans = 3) := by
  obtain ⟨_, _, _, h4⟩ := okM_parts h0
  rw [openM_by, decide_eq_true h1] at h
  have h : byM d s ≠ 0 := by simpa using h
  unfold byM at h ⊢
  split at h
  · exact absurd rfl h
  · rename_i hn
    rw [if_neg hn]
    exact ⟨rfl, by omega⟩
theorem ownI_base9 {B C : Nat} {w : World} {a : Option Addr} {len : Nat} {g : Nat → Int} (h : OwnI C w a len g) (hBC : B ≤ C) : OwnI B w a len g := by
  rcases h with h | ⟨b, f, N, e, hB, h2⟩
  · exact .inl h
  · exact .inr ⟨b, f, N, e, by omega, h2⟩

theorem anyRem_yes {ts : List Summons} {n : Int} {i : Nat} {s : Summons} (h1 : ts[i]? = some s) (h2 : s.ans = 0) (h3 : remD n s = true) : anyRem ts n := ⟨i, s, h1, h2, h3⟩
theorem noRem_more {ts : List Summons} {n : Int} {k : Nat} {c : Summons} (h : ∀ (i : Nat) s, i < k → ts[i]? = some s → s.ans = 0 → remD n s = false) (hc : ts[k]? = some c) (h' : c.ans = 0 → remD n c = false) : ∀ (i : Nat) s, i < k + 1 → ts[i]? = some s → s.ans = 0 → remD n s = false := by
  intro i s hi hs
  by_cases e : i = k
  · subst e; rw [hc] at hs; cases hs; exact h'
  · exact h i s (by omega) hs
end Go.Proofs.YtchffaohmeaccaaGreatDoor
