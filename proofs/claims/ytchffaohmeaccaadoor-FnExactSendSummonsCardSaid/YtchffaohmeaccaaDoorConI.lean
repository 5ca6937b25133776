/- Contracts: slices.Index and slices.Contains at int64. -/
import Derived.Test.YtchffaohmeaccaaDoorChecked
import Derived.Test.YtchffaohmeaccaaDoorBase0
import Derived.WalkKit
import Derived.WalkSpells
import Derived.WalkLawsBesides
import Derived.Lib.Hide
import Derived.Outline
namespace Go.Proofs.YtchffaohmeaccaaDoor
open Go.RowKit Pure2

def hasI (zs : List Int) (x : Int) : Bool := decide (x ∈ zs)
theorem hasI_at {zs : List Int} {k : Nat} {x : Int} (h : zs[k]? = some x) : hasI zs x = true := decide_eq_true (List.mem_of_getElem? h)
theorem hasI_end {zs : List Int} {k : Nat} {x : Int} (h : ∀ i, i < k → zs[i]? ≠ some x) (hk : zs.length ≤ k) : hasI zs x = false := decide_eq_false fun hm => by
  obtain ⟨i, hi⟩ := List.mem_iff_getElem?.1 hm
  exact h i (by have := (List.getElem?_eq_some_iff.1 hi).1; omega) hi
theorem hasI_next {zs : List Int} {k : Nat} {x y : Int} (h : ∀ i, i < k → zs[i]? ≠ some x) (hy : zs[k]? = some y) (hn : y ≠ x) : ∀ i, i < k + 1 → zs[i]? ≠ some x := by
  intro i hi e
  by_cases e2 : i = k
  · subst e2; rw [hy] at e; exact hn (Option.some.inj e)
  · exact h i (by omega) e

set_option maxHeartbeats 400000 in
theorem slicesIndexI_any (a : Option Addr) (len cap : Nat) (zs : List Int) (x : Int) (w : World) (hl : zs.length = len) (hm : len ≤ maxLen) (h : IntsAt w a zs) :
    Calls Tryd.prog 85 #[.slice a len cap, .int .i64 x] w fun e w' => (∃ n : Int, e = .returned (.int .i64 n) ∧ decide (0 ≤ n) = hasI zs x) ∧ w = w' := by
  unfold maxLen at hm
  have HL := Lib.hid hl; have HI := Lib.hid h; clear hl h
  go_enter Tryd.func85, Tryd.ntmps85
  go_wp2
  go_loop [5, 8] (fun _ i => ∃ j : Nat, j ≤ len ∧ i = .int .i64 j ∧ ∀ k, k < j → zs[k]? ≠ some x) (fun _ i => len - (intOf i).toNat)
  case atStart => exact ⟨0, Nat.zero_le _, rfl, fun k hk => by omega⟩
  case round =>
    obtain ⟨j, hj, rfl, hno⟩ := hrel
    have HN := Lib.hid hno; clear hno
    by_cases hlt : j < len
    · obtain ⟨b, off, y, ha, hc, ht, hy⟩ := HI.out.at HL.out hlt
      subst ha
      by_cases hyx : y = x
      · subst hyx
        have HT := Lib.hid (hasI_at hy)
        clear ht hy
        go_wp2
        go_ret
        exact ⟨⟨_, rfl, by rw [HT.out]; exact decide_eq_true (by omega)⟩, rfl⟩
      · have hb : (x == y) = false := beq_eq_false_iff_ne.2 (fun e => hyx e.symm)
        have HX := Lib.hid (hasI_next HN.out hy hyx)
        clear ht hy hyx
        go_wp2
        go_round
        case rel => exact ⟨j + 1, by omega, by go_num, HX.out⟩
        case measure => simp [intOf]; omega
    · have HT := Lib.hid (hasI_end HN.out (by rw [HL.out]; omega))
      go_wp2
      go_ret
      exact ⟨⟨_, rfl, by rw [HT.out]; exact decide_eq_false (by omega)⟩, rfl⟩

theorem slicesContainsI_any (a : Option Addr) (len cap : Nat) (zs : List Int) (x : Int) (w : World) (hl : zs.length = len) (hm : len ≤ maxLen) (h : IntsAt w a zs) :
    Calls Tryd.prog 68 #[.slice a len cap, .int .i64 x] w fun e w' => e = .returned (.bool (hasI zs x)) ∧ w' = w := by
  have HC := Lib.hid (slicesIndexI_any a len cap zs x w hl hm h); clear hl hm h
  go_enter Tryd.func68, Tryd.ntmps68
  go_wp2_with fail
  refine HC.out.mono ?_; rintro e w' ⟨⟨n, rfl, hn⟩, rfl⟩
  have HN := Lib.hid hn; clear hn
  go_wp2_with fail
  go_ret
  exact ⟨ret_bool' HN.out, rfl⟩

end Go.Proofs.YtchffaohmeaccaaDoor
