/- Plain facts and small contracts that the laws over drawn pools share. -/
import Derived.Test.YtjnicmlomjppnaaGreatDoorChecked
import Derived.Test.YtjnicmlomjppnaaGreatDoorBase0
import Derived.Test.YtjnicmlomjppnaaGreatDoorBuildI
import Derived.Test.YtjnicmlomjppnaaGreatDoorBuild8
import Derived.Test.YtjnicmlomjppnaaGreatDoorRowV
import Derived.Test.YtjnicmlomjppnaaGreatDoorPoolA
import Derived.Test.YtjnicmlomjppnaaGreatDoorLikeInt
import Derived.Test.YtjnicmlomjppnaaGreatDoorSpec81
import Derived.Test.YtjnicmlomjppnaaGreatDoorSpec83
import Derived.Test.YtjnicmlomjppnaaGreatDoorDraw8b
namespace Go.Proofs.YtjnicmlomjppnaaGreatDoor
open Go.RowKit Pure1 Pure2 Pure30 Pure40 Pure60 Pure80

theorem poolIn_of_build {B : Nat} {w : World} {a0 a1 : Option Addr} {c0 c1 : Nat} {q : PoolV} (h0 : BuildI B w (.slice a0 q.nums.length c0) q.nums) (h1 : BuildI B w (.slice a1 q.drawn.length c1) q.drawn) (hq : SmallQ q) : PoolV.In w a0 q.nums.length a1 q.drawn.length q := by
  obtain ⟨x0, k0, e0, t0⟩ := h0.slice
  obtain ⟨x1, k1, e1, t1⟩ := h1.slice
  cases e0; cases e1
  have := hq.1; have := hq.2
  exact ⟨⟨rfl, by unfold maxLen; omega, t0⟩, ⟨rfl, by unfold maxLen; omega, t1⟩⟩
theorem leftL_small {q : PoolV} (hq : SmallQ q) : (leftL q.nums q.drawn).length ≤ 61 := Nat.le_trans (List.length_filter_le _ _) hq.1
theorem leftR_small {q : PoolV} (hq : SmallQ q) : (leftR q).1.length ≤ 61 := by
  unfold leftR
  split
  · exact leftL_small hq
  · simp
theorem chance_facts {p : PoolV} {k ca cb cc : Int} (hq : SmallQ p) (h : chanceR p k = (ca, cb, cc)) :
    cc ≠ 0 ∨ (cc = 0 ∧ leftR p = (leftL p.nums p.drawn, 0) ∧ ca * (leftL p.nums p.drawn).length = k * cb ∧ ca ≤ cb ∧ 0 ≤ k * cb ∧ k * cb ≤ 3721) := by
  by_cases hc : chanceC p k = 0
  · have hs := chance_split hc
    obtain ⟨h1, h2, h3, h4⟩ := chance_good hc
    rw [h] at hs
    simp only at hs
    have hl := pool_left h1
    have e : cc = 0 ∧ ca = k / Int.gcd k ((p.nums.length : Int) - p.drawn.length) := by
      unfold chanceR at h
      rw [if_pos hc] at h
      injection h with ha hb
      injection hb with hb hc2
      exact ⟨hc2.symm, ha.symm⟩
    have hca : 0 ≤ ca := by rw [e.2]; exact Int.ediv_nonneg h2 (Int.natCast_nonneg _)
    have hca2 : ca ≤ 61 := by
      have h5 : k / (Int.gcd k ((p.nums.length : Int) - p.drawn.length) : Int) ≤ k := Int.ediv_le_self _ h2
      have h6 := hq.1
      rw [e.2]; omega
    have hL : ((leftL p.nums p.drawn).length : Int) ≤ 61 := by have := leftL_small hq; omega
    refine .inr ⟨e.1, by unfold leftR; rw [if_pos h1], hs.1, hs.2, ?_, ?_⟩
    · rw [← hs.1]; exact Int.mul_nonneg hca (Int.natCast_nonneg _)
    · rw [← hs.1]; exact Int.le_trans (Int.mul_le_mul hca2 hL (Int.natCast_nonneg _) (by decide)) (by decide)
  · refine .inl ?_
    unfold chanceR at h
    rw [if_neg hc] at h
    injection h with ha hb
    injection hb with hb hc2
    rw [← hc2]; exact hc
theorem likeSame8 (a a' : Option Addr) (cap cap' : Nat) (zs : List Int) (w : World) (hm : zs.length ≤ 1000) (h : IntsAt w a zs) (h' : IntsAt w a' zs) :
    Calls Tryz.prog 29 #[.slice a zs.length cap, .slice a' zs.length cap'] w fun e w' => e = .returned (.bool true) ∧ Below w.heap.size w w' :=
  (likeInts_any a a' zs.length cap zs.length cap' zs zs w rfl rfl (by unfold maxLen; omega) (by unfold maxLen; omega) h h').mono fun e w' hq => by
    rw [sameL_self] at hq
    obtain ⟨h1, n, rfl⟩ := hq
    exact ⟨h1, Go.below_drewN (Below.refl _ _) n⟩
end Go.Proofs.YtjnicmlomjppnaaGreatDoor
