/- Contracts of chapter 8's model: replays, chances. -/
import Derived.Test.YtjnicmlomjppnaaGreatDoorChecked
import Derived.Test.YtjnicmlomjppnaaGreatDoorBase0
import Derived.Test.YtjnicmlomjppnaaGreatDoorInfo
import Derived.Test.YtjnicmlomjppnaaGreatDoorIntL
import Derived.Test.YtjnicmlomjppnaaGreatDoorBuildI
import Derived.Test.YtjnicmlomjppnaaGreatDoorBuild8
import Derived.Test.YtjnicmlomjppnaaGreatDoorRowV
import Derived.Test.YtjnicmlomjppnaaGreatDoorPoolA
import Derived.Test.YtjnicmlomjppnaaGreatDoorSpec80
import Derived.Test.YtjnicmlomjppnaaGreatDoorSpec81
import Derived.Test.YtjnicmlomjppnaaGreatDoorSpec82
import Derived.Test.YtjnicmlomjppnaaGreatDoorSpec83
import Derived.WalkKit
import Derived.WalkSpells
import Derived.WalkLawsBesides
import Derived.Lib.Hide
import Derived.Lib.QuietBelow
import Derived.IntWalk
import Derived.Deep.QuietTactic
import Derived.Deep.RegionHeld3
import Derived.BigQuiet
import Derived.Outline
namespace Go.Proofs.YtjnicmlomjppnaaGreatDoor
open Go.RowKit Pure1 Pure2 Pure30 Pure40 Pure60 Pure80 Rec

theorem gcd_mod {x y : Int} (hx : 0 ≤ x) (hy : 0 ≤ y) : Int.gcd y (x % y) = Int.gcd x y := by
  obtain ⟨X, rfl⟩ := Int.eq_ofNat_of_zero_le hx
  obtain ⟨Y, rfl⟩ := Int.eq_ofNat_of_zero_le hy
  rw [← Int.natCast_emod, Int.gcd_natCast_natCast, Int.gcd_natCast_natCast, Nat.gcd_comm X Y, Nat.gcd_rec Y X, Nat.gcd_comm]
/-- values are returned; nothing that was there has turned -/
def Says8 (v : Value) (w : World) (e : Ending) (w' : World) : Prop := e = .returned v ∧ Below w.heap.size w w'
theorem chanceC_why {p : PoolV} {k : Int} (hd : isPool p = true → p.drawn.length ≤ p.nums.length) : (isPool p = false ∧ chanceC p k = 1) ∨ (isPool p = true ∧ inR k 0 60 = false ∧ chanceC p k = 2) ∨ (isPool p = true ∧ inR k 0 60 = true ∧ (p.nums.length : Int) - p.drawn.length = 0 ∧ chanceC p k = 4) ∨
    (isPool p = true ∧ inR k 0 60 = true ∧ (p.nums.length : Int) - p.drawn.length ≠ 0 ∧ (p.nums.length : Int) - p.drawn.length < k ∧ chanceC p k = 3) ∨ (isPool p = true ∧ inR k 0 60 = true ∧ (p.nums.length : Int) - p.drawn.length ≠ 0 ∧ ¬ (p.nums.length : Int) - p.drawn.length < k ∧ chanceC p k = 0) := by
  unfold chanceC
  cases hp : isPool p with
  | false => exact .inl ⟨rfl, by simp⟩
  | true =>
    have h0 := hd hp
    cases hk : inR k 0 60 with
    | false => exact .inr (.inl ⟨rfl, rfl, by rw [if_pos rfl, if_neg (inR_no hk)]⟩)
    | true =>
      have hk' := inR_yes hk
      by_cases h1 : (p.nums.length : Int) - p.drawn.length = 0
      · exact .inr (.inr (.inl ⟨rfl, rfl, h1, by rw [if_pos rfl, if_pos hk', if_pos (by omega)]⟩))
      · by_cases h2 : (p.nums.length : Int) - p.drawn.length < k
        · exact .inr (.inr (.inr (.inl ⟨rfl, rfl, h1, h2, by rw [if_pos rfl, if_pos hk', if_neg (by omega), if_pos h2]⟩)))
        · exact .inr (.inr (.inr (.inr ⟨rfl, rfl, h1, h2, by rw [if_pos rfl, if_pos hk', if_neg (by omega), if_neg h2]⟩)))

end Go.Proofs.YtjnicmlomjppnaaGreatDoor
