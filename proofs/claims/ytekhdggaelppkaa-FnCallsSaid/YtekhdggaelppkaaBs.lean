/- Contract: slices.BinarySearch at int64, of a list that increases strictly: whether the number is among the elements. -/
import Derived.Test.YtekhdggaelppkaaChecked
import Derived.Test.YtekhdggaelppkaaBase0
import Derived.WalkKit
import Derived.WalkSpells
import Derived.WalkLawsBesides
import Derived.Lib.Hide
import Derived.Outline
namespace Go.Proofs.Ytekhdggaelppkaa
open Go.RowKit Pure2 Pure20 Pure21

/-- whether x is in zs is told, beside some place -/
def Bs (zs : List Int) (x : Int) (w : World) (e : Ending) (w' : World) : Prop := ∃ i : Int, e = .returned (.tuple #[.int .i64 i, .bool (has zs x)]) ∧ w = w'
def LoS (zs : List Int) (x : Int) (k : Nat) : Prop := ∀ t y, t < k → zs[t]? = some y → y < x
def HiS (zs : List Int) (x : Int) (k : Nat) : Prop := ∀ t y, k ≤ t → zs[t]? = some y → x ≤ y
theorem loS_step {zs : List Int} {x y : Int} {k : Nat} (hp : zs.Pairwise (· < ·)) (hy : zs[k]? = some y) (h : y < x) : LoS zs x (k + 1) := by
  intro t z ht hz
  by_cases e : t = k
  · subst e; rw [hy] at hz; cases hz; exact h
  · obtain ⟨h1, rfl⟩ := List.getElem?_eq_some_iff.1 hy
    obtain ⟨h2, rfl⟩ := List.getElem?_eq_some_iff.1 hz
    have := List.pairwise_iff_getElem.1 hp t k h2 h1 (by omega); omega
theorem hiS_step {zs : List Int} {x y : Int} {k : Nat} (hp : zs.Pairwise (· < ·)) (hy : zs[k]? = some y) (h : ¬ y < x) : HiS zs x k := by
  intro t z ht hz
  by_cases e : t = k
  · subst e; rw [hy] at hz; cases hz; omega
  · obtain ⟨h1, rfl⟩ := List.getElem?_eq_some_iff.1 hy
    obtain ⟨h2, rfl⟩ := List.getElem?_eq_some_iff.1 hz
    have := List.pairwise_iff_getElem.1 hp k t h1 h2 (by omega); omega
theorem bs_no {zs : List Int} {x y : Int} {k : Nat} (hp : zs.Pairwise (· < ·)) (hy : zs[k]? = some y) (h1 : LoS zs x k) (h2 : HiS zs x k) (h : ¬ y = x) : has zs x = false := by
  refine found_no (k := k) h1 fun t z ht hz => ?_
  have := h2 k y (Nat.le_refl _) hy
  by_cases e : t = k
  · subst e; rw [hy] at hz; cases hz; omega
  · obtain ⟨h3, rfl⟩ := List.getElem?_eq_some_iff.1 hy
    obtain ⟨h4, rfl⟩ := List.getElem?_eq_some_iff.1 hz
    have := List.pairwise_iff_getElem.1 hp k t h3 h4 (by omega); omega
theorem bs_end {zs : List Int} {x : Int} {k : Nat} (hk : zs.length ≤ k) (h1 : LoS zs x k) : has zs x = false :=
  found_no (k := k) h1 fun t z ht hz => by have := (List.getElem?_eq_some_iff.1 hz).1; omega
theorem ret_bs {i : Int} {b c : Bool} (h : b = c) : Ending.returned (.tuple #[.int .i64 i, .bool b]) = .returned (.tuple #[.int .i64 i, .bool c]) := by rw [h]

set_option maxHeartbeats 400000 in
theorem cmpIsNaN_any (x : Int) (w : World) : Calls Try.prog 103 #[.int .i64 x] w fun e w' => e = .returned (.bool false) ∧ w = w' := by
  go_enter Try.func103, Try.ntmps103
  go_wp2
  go_ret
  exact ⟨by simp, rfl⟩

set_option maxHeartbeats 400000 in
theorem slicesIsNaN_any (x : Int) (w : World) : Calls Try.prog 105 #[.int .i64 x] w fun e w' => e = .returned (.bool false) ∧ w = w' := by
  go_enter Try.func105, Try.ntmps105
  go_wp2
  go_ret
  exact ⟨by simp, rfl⟩

set_option maxHeartbeats 400000 in
theorem cmpLess_any (x y : Int) (w : World) : Calls Try.prog 104 #[.int .i64 x, .int .i64 y] w fun e w' => e = .returned (.bool (decide (x < y))) ∧ w = w' := by
  go_enter Try.func104, Try.ntmps104
  go_wp2_with (go_at_call 103; refine (cmpIsNaN_any _ _).mono ?_; rintro e w' ⟨rfl, rfl⟩)
  go_ret
  exact ⟨rfl, rfl⟩

set_option maxRecDepth 100000 in
set_option maxHeartbeats 1000000 in
theorem bs_any (a : Option Addr) (len cap : Nat) (zs : List Int) (x : Int) (w : World) (hl : zs.length = len) (hm : len ≤ 40) (h : IntsAt w a zs) (hp : zs.Pairwise (· < ·)) :
    Calls Try.prog 95 #[.slice a len cap, .int .i64 x] w (Bs zs x w) := by
  have HL := Lib.hid hl; have HI := Lib.hid h; have HP := Lib.hid hp; clear hl h hp
  go_enter Try.func95, Try.ntmps95
  go_wp2
  go_loop [7, 8] (fun i j => ∃ lo hi : Nat, i = .int .i64 lo ∧ j = .int .i64 hi ∧ lo ≤ hi ∧ hi ≤ len ∧ LoS zs x lo ∧ HiS zs x hi) (fun i j => (intOf j - intOf i).toNat)
  case atStart => exact ⟨0, len, rfl, rfl, Nat.zero_le _, Nat.le_refl _, fun t y ht => by omega, fun t y ht hy => by have := (List.getElem?_eq_some_iff.1 hy).1; have := HL.out; omega⟩
  case round =>
    obtain ⟨lo, hi, rfl, rfl, h1, h2, h3, h4⟩ := hrel
    have H3 := Lib.hid h3; have H4 := Lib.hid h4; clear h3 h4
    by_cases hlt : lo < hi
    · obtain ⟨b, off, y, ha, hc, ht, hy⟩ := HI.out.at HL.out (show (lo + hi) / 2 < len by omega)
      have HY := Lib.hid hy; clear hy ht
      subst ha
      by_cases hyx : y < x
      · have HN := Lib.hid (loS_step HP.out HY.out hyx)
        go_wp2_with (go_at_call 104; refine (cmpLess_any _ _ _).mono ?_; rintro e w' ⟨rfl, rfl⟩)
        go_round
        case rel => exact ⟨(lo + hi) / 2 + 1, hi, by go_num, rfl, by omega, h2, HN.out, H4.out⟩
        case measure => simp [intOf]; omega
      · have HN := Lib.hid (hiS_step HP.out HY.out hyx)
        go_wp2_with (go_at_call 104; refine (cmpLess_any _ _ _).mono ?_; rintro e w' ⟨rfl, rfl⟩)
        go_round
        case rel => exact ⟨lo, (lo + hi) / 2, rfl, by go_num, by omega, by omega, H3.out, HN.out⟩
        case measure => simp [intOf]; omega
    · obtain rfl : hi = lo := by omega
      by_cases hn : hi < len
      · obtain ⟨b, off, y, ha, hc, ht, hy⟩ := HI.out.at HL.out hn
        have HY := Lib.hid hy; clear hy ht
        subst ha
        by_cases hyx : y = x
        · subst hyx
          have HN := Lib.hid (found_yes HY.out)
          go_wp2_with fail
          go_ret2
          exact ⟨_, ret_bs HN.out.symm, rfl⟩
        · have HN := Lib.hid (bs_no HP.out HY.out H3.out H4.out hyx)
          have hyx' : (y == x) = false := beq_eq_false_iff_ne.2 hyx
          clear hyx
          go_wp2_with (go_at_call 105; refine (slicesIsNaN_any _ _).mono ?_; rintro e w' ⟨rfl, rfl⟩)
          go_ret2
          exact ⟨_, ret_bs HN.out.symm, rfl⟩
      · have HN := Lib.hid (bs_end (by rw [HL.out]; omega) H3.out)
        go_wp2_with fail
        go_ret2
        exact ⟨_, ret_bs HN.out.symm, rfl⟩

end Go.Proofs.Ytekhdggaelppkaa
