/- Answers of the call's own are kept while another row is marked; sizes of the answers. -/
import Derived.Test.YtdeiillfdjebdaaChecked
import Derived.Test.YtdeiillfdjebdaaBase
import Derived.Test.YtdeiillfdjebdaaMarkP
import Derived.Test.YtdeiillfdjebdaaMarkI
import Derived.Test.YtdeiillfdjebdaaTab
import Derived.Test.YtdeiillfdjebdaaTabB
import Derived.Test.YtdeiillfdjebdaaCode5
import Derived.Test.YtdeiillfdjebdaaPairs5
import Derived.Test.YtdeiillfdjebdaaGrp5
import Derived.WalkKit
import Derived.Lib.Hide
namespace Go.Proofs.Ytdeiillfdjebdaa
open Go.RowKit Pure1 Pure2 Pure40 Pure41 Pure50 Pure51

theorem ownI_kept {C : Nat} {w w' : World} {a : Option Addr} {len : Nat} {g : Nat → Int} {row : Option Nat} (h : OwnI C w a len g) (hg : w.grownBy w' row) (hrow : ∀ k, row = some k → k < C) : OwnI C w' a len g := by
  rcases h with h | ⟨b, f, N, e, hB, hN, hr, hf⟩
  · exact .inl h
  · exact .inr ⟨b, f, N, e, hB, hN, hr.of_block (hg.block b hr.lt (fun e => by have := hrow b e.symm; omega)), hf⟩
theorem ownI_mono {B C : Nat} {w : World} {a : Option Addr} {len : Nat} {g : Nat → Int} (h : OwnI C w a len g) (hBC : B ≤ C) : OwnI B w a len g := by
  rcases h with h | ⟨b, f, N, e, hB, h2⟩
  · exact .inl h
  · exact .inr ⟨b, f, N, e, by omega, h2⟩
theorem ownQ_kept {C : Nat} {w w' : World} {a : Option Addr} {len : Nat} {g : Nat → Pers} {row : Option Nat} (h : OwnQ C w a len g) (hg : w.grownBy w' row) (hrow : ∀ k, row = some k → k < C) : OwnQ C w' a len g := by
  rcases h with h | ⟨b, f, N, e, hB, hN, hr, hf⟩
  · exact .inl h
  · exact .inr ⟨b, f, N, e, hB, hN, hr.of_block (hg.block b hr.lt (fun e => by have := hrow b e.symm; omega)), hf⟩
theorem ownQ_mono {B C : Nat} {w : World} {a : Option Addr} {len : Nat} {g : Nat → Pers} (h : OwnQ C w a len g) (hBC : B ≤ C) : OwnQ B w a len g := by
  rcases h with h | ⟨b, f, N, e, hB, h2⟩
  · exact .inl h
  · exact .inr ⟨b, f, N, e, by omega, h2⟩
theorem ownTab_kept {C : Nat} {w w' : World} {a : Option Addr} {rows : List RowOf} {g : Nat → Nat → Int} {row : Option Nat} (h : OwnTab C w a rows g) (hg : w.grownBy w' row) (hrow : ∀ k, row = some k → k < C) : OwnTab C w' a rows g := by
  rcases h with h | ⟨b1, f, N, e, hB, hN, hr, hv, ho, ha⟩
  · exact .inl h
  · exact .inr ⟨b1, f, N, e, hB, hN, hr.of_block (hg.block b1 hr.lt (fun e => by have := hrow b1 e.symm; omega)), hv, fun i r hi => ownI_kept (ho i r hi) hg hrow, ha⟩
theorem total_le {c : Nat} : ∀ {xss : List (List Int)}, (∀ xs ∈ xss, xs.length ≤ c) → total xss ≤ xss.length * c
  | [], _ => by simp [total]
  | xs :: r, h => by
    have h1 := total_le (xss := r) (fun ys hy => h ys (by simp [hy]))
    have h2 := h xs (by simp)
    have : total (xs :: r) = xs.length + total r := by simp [total]
    rw [this, List.length_cons, Nat.succ_mul]; omega
def SmallX (xss : List (List Int)) : Prop := xss.length ≤ 144 ∧ (∀ xs ∈ xss, xs.length ≤ maxLen) ∧ total xss ≤ 1000000
theorem small_of {xss : List (List Int)} (h1 : xss.length ≤ 144) (h2 : ∀ xs ∈ xss, xs.length ≤ 12) : SmallX xss :=
  ⟨h1, fun xs hx => by have := h2 xs hx; unfold maxLen; omega, by have := total_le h2; omega⟩
theorem pairsR_small (ps : List Pers) (m : Int) : SmallX (pairsR ps m).1 := by
  unfold pairsR
  split
  · rename_i h
    have hp := arePers_len (code5_zero h).1
    refine small_of ?_ (fun xs hx => ?_)
    · have h1 := pairsTo_le (A := adj ps m) ps.length ps.length
      have h2 : ps.length * ps.length ≤ 12 * 12 := Nat.mul_le_mul hp hp
      show (pairsTo _ _ _).length ≤ _
      omega
    · obtain ⟨a, b, e, _⟩ := pairsTo_mem (A := adj ps m) (n := ps.length) (i := ps.length) hx
      rw [e]; simp
  · exact small_of (by simp) (fun xs hx => by simp at hx)
theorem groupsR_small (ps : List Pers) (m : Int) : SmallX (groupsR ps m).1 := by
  unfold groupsR
  split
  · rename_i h
    have hp := arePers_len (code5_zero h).1
    refine small_of ?_ (fun xs hx => ?_)
    · have := groupsL_le (adj ps m) ps.length ps.length
      show (groupsL _ _ _).length ≤ _
      omega
    · obtain ⟨i, _, e⟩ := List.mem_map.1 hx
      rw [← e, toI_length]
      have := sel_le (fun j => decide (0 ≤ dist (adj ps m) i j)) ps.length
      unfold grpL; omega
  · exact small_of (by simp) (fun xs hx => by simp at hx)
end Go.Proofs.Ytdeiillfdjebdaa
