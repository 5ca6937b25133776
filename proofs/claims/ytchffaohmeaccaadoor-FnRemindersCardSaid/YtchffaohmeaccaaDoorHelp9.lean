/- Contracts: the laws' own helpers hasInt and sum; the facts that FnReminders asks for. -/
import Derived.Test.YtchffaohmeaccaaDoorChecked
import Derived.Test.YtchffaohmeaccaaDoorBase
import Derived.Test.YtchffaohmeaccaaDoorPure3
import Derived.Test.YtchffaohmeaccaaDoorPure90
import Derived.Test.YtchffaohmeaccaaDoorPure91
import Derived.Test.YtchffaohmeaccaaDoorHasJ
import Derived.WalkKit
import Derived.WalkSpells
import Derived.WalkLawsBesides
import Derived.Lib.Hide
import Derived.IntWalk
import Derived.Outline
namespace Go.Proofs.YtchffaohmeaccaaDoor
open Go.RowKit Pure1 Pure2 Pure3

def sumJ (zs : List Int) (k : Nat) : Int := (zs.take k).sum
theorem sumJ_step {zs : List Int} {k : Nat} {x : Int} (h : zs[k]? = some x) : sumJ zs (k + 1) = sumJ zs k + x := by
  unfold sumJ; rw [List.take_add_one, h]; simp
/-- the sum of not so many small numbers -/
theorem lawsSum_any (a : Option Addr) (len cap : Nat) (zs : List Int) (w : World) (hl : zs.length = len) (hm : len ≤ 1000) (hz : ∀ (i : Nat) x, zs[i]? = some x → 0 ≤ x ∧ x ≤ 1000) (h : IntsAt w a zs) :
    Calls Tryd.prog 23 #[.slice a len cap] w fun e w' => e = .returned (.int .i64 (sumJ zs len)) ∧ w = w' := by
  have HL := Lib.hid hl; have HI := Lib.hid h; have HZ := Lib.hid hz; clear hl h hz
  go_enter Tryd.func23, Tryd.ntmps23
  go_wp2
  go_loop [3, 4] (fun s i => ∃ j : Nat, j ≤ len ∧ i = .int .i64 j ∧ s = .int .i64 (sumJ zs j) ∧ 0 ≤ sumJ zs j ∧ sumJ zs j ≤ 1000 * j) (fun _ i => len - (intOf i).toNat)
  case atStart => exact ⟨0, Nat.zero_le _, rfl, rfl, by simp [sumJ], by simp [sumJ]⟩
  case round =>
    obtain ⟨j, hj, rfl, rfl, h0, h1⟩ := hrel
    by_cases hlt : j < len
    · obtain ⟨b, off, y, ha, hc, ht, hy⟩ := HI.out.at HL.out hlt
      subst ha
      obtain ⟨y0, y1⟩ := HZ.out j y hy
      have HS := Lib.hid (sumJ_step hy)
      generalize hs : sumJ zs j = s at h0 h1 HS ⊢
      have hq : IntKind.i64.wrap (s + y) = s + y := IntWalk.i64_in _ (by omega)
      clear ht hy hs
      go_wp2
      go_round
      case rel => exact ⟨j + 1, by omega, by go_num, by rw [HS.out], by rw [HS.out]; omega, by rw [HS.out]; omega⟩
      case measure => simp [intOf]; omega
    · have hjl : j = len := by omega
      subst hjl
      go_wp2
      go_ret
      exact ⟨rfl, rfl⟩

/-- reminders, those who are open and the counts of one day -/
theorem rem_facts {ts : List Summons} {d : Int} {rs : List Int} {k : Int} (h : onR remM ts d = (rs, k)) :
    ∃ cs, countR9 ts d = (cs, k) ∧ rs.length ≤ 20 ∧ cs.length ≤ 20 ∧ (k ≠ 0 ∨ (k = 0 ∧ ∃ os, onR openM ts d = (os, 0) ∧ os.length ≤ 20 ∧ (∀ x, x ∈ rs → hasJ os x = true) ∧ cs.length = 4 ∧ cs[0]? = some (os.length : Int) ∧ (∀ (i : Nat) x, cs[i]? = some x → 0 ≤ x ∧ x ≤ 1000) ∧ sumJ cs 4 ≤ ts.length)) := by
  have hs := onR_small remM ts d
  rw [h] at hs
  have hcs := countR9_small ts d
  rcases codeM_cases ts d with ⟨hc, ha, _⟩ | hc | hc
  · rw [onR_ok hc] at h
    injection h with h1 h2
    rw [countR9_ok hc] at hcs ⊢
    have hos := onR_small openM ts d
    rw [onR_ok hc] at hos
    refine ⟨_, by rw [h2], hs, hcs, .inr ⟨h2.symm, _, onR_ok hc, hos, fun x hx => ?_, rfl, ?_, ?_, ?_⟩⟩
    · subst h1; exact decide_eq_true (numsM_sub (fun s => remM_open) hx)
    · show some _ = _; rw [cnt_open]
    · intro i x hx
      have hl := areM_len ha
      have b0 := cntM_bd ts d ts.length 0; have b1 := cntM_bd ts d ts.length 1; have b2 := cntM_bd ts d ts.length 2; have b3 := cntM_bd ts d ts.length 3
      match i, hx with
      | 0, hx => cases hx; omega
      | 1, hx => cases hx; omega
      | 2, hx => cases hx; omega
      | 3, hx => cases hx; omega
      | i + 4, hx => simp [countL] at hx
    · have := cnt_sum ts d ts.length (Nat.le_refl _)
      unfold sumJ countL
      simp
      omega
  · rw [onR_bad hc (by omega)] at h
    injection h with h1 h2
    subst h2
    rw [countR9_bad hc (by omega)] at hcs ⊢
    exact ⟨_, rfl, hs, hcs, .inl (by omega)⟩
  · rw [onR_bad hc (by omega)] at h
    injection h with h1 h2
    subst h2
    rw [countR9_bad hc (by omega)] at hcs ⊢
    exact ⟨_, rfl, hs, hcs, .inl (by omega)⟩
/-- the next reminder: somebody is reminded that day -/
theorem next_facts {ts : List Summons} {d n k : Int} (h : nextR9 ts d = (n, k)) : k ≠ 0 ∨ (k = 0 ∧ d < n ∧ ∃ ds, onR remM ts n = (ds, 0) ∧ ds.length ≤ 20 ∧ ds.length ≠ 0) := by
  by_cases hk : k = 0
  · subst hk
    obtain ⟨h1, h2, h3⟩ := next_then h
    obtain ⟨ds, c, e⟩ : ∃ ds c, onR remM ts n = (ds, c) := ⟨_, _, rfl⟩
    have hs := onR_small remM ts n
    rw [e] at h1 h2 hs
    simp only at h1 h2 hs
    subst h1
    exact .inr ⟨rfl, h3, ds, e, hs, h2⟩
  · exact .inl hk
end Go.Proofs.YtchffaohmeaccaaDoor
