/- Contracts of the program's chapter 8: numbers in lists, copies, a number taken out of a list, the greatest common divisor. -/
import Derived.Test.YtjnicmlomjppnaaGreatDoorChecked
import Derived.Test.YtjnicmlomjppnaaGreatDoorBase0
import Derived.Test.YtjnicmlomjppnaaGreatDoorInfo
import Derived.Test.YtjnicmlomjppnaaGreatDoorPure83
import Derived.Test.YtjnicmlomjppnaaGreatDoorIntL
import Derived.Test.YtjnicmlomjppnaaGreatDoorBuildI
import Derived.Test.YtjnicmlomjppnaaGreatDoorBuild8
import Derived.Test.YtjnicmlomjppnaaGreatDoorRowV
import Derived.Test.YtjnicmlomjppnaaGreatDoorPoolA
import Derived.Test.YtjnicmlomjppnaaGreatDoorSpec80
import Derived.Test.YtjnicmlomjppnaaGreatDoorSpec84
import Derived.WalkKit
import Derived.WalkSpells
import Derived.WalkLawsBesides
import Derived.Lib.Hide
import Derived.Lib.QuietBelow
import Derived.Lib.Walk
import Derived.Laws.CopyOwn
import Derived.IntWalk
import Derived.Deep.QuietTactic
import Derived.Deep.RegionLaw
import Derived.Deep.OwnRows
import Derived.BigQuiet
import Derived.Outline
namespace Go.Proofs.YtjnicmlomjppnaaGreatDoor
open Go.RowKit Pure1 Pure2 Pure30 Pure40 Pure60 Pure80 Pure83 Rec

set_option maxHeartbeats 400000 in
theorem implIndex8 (a : Option Addr) (len cap : Nat) (zs : List Int) (x : Int) (w : World) (hI : IntsIn w a len zs) :
    Calls Tryz.prog 71 #[.slice a len cap, .int .i64 x] w fun e w' => (∃ n : Int, e = .returned (.int .i64 n) ∧ FirstOf zs x n) ∧ w' = w := by
  obtain ⟨hl, hm, h⟩ := hI
  unfold maxLen at hm
  have HL := Lib.hid hl; have HI := Lib.hid h; clear hl h
  go_enter Tryz.func71, Tryz.ntmps71
  go_wp2
  go_loop [5, 8] (fun _ i => ∃ j : Nat, j ≤ len ∧ i = .int .i64 j ∧ ∀ k, k < j → zs[k]? ≠ some x) (fun _ i => len - (intOf i).toNat)
  case atStart => exact ⟨0, Nat.zero_le _, rfl, fun k hk => by omega⟩
  case round =>
    obtain ⟨j, hj, rfl, hno⟩ := hrel
    have HN := Lib.hid hno; clear hno
    by_cases hlt : j < len
    · obtain ⟨b, off, y, ha, hc, ht, hy⟩ := HI.out.at HL.out hlt
      subst ha
      by_cases hyx : y = x
      · subst hyx
        have HT := Lib.hid hy
        clear ht hy
        go_wp2
        go_ret
        exact ⟨⟨_, rfl, .inl ⟨j, HT.out, rfl⟩⟩, rfl⟩
      · have hb : (x == y) = false := beq_eq_false_iff_ne.2 (fun e => hyx e.symm)
        have HX := Lib.hid (not_next8 HN.out hy hyx)
        clear ht hy hyx
        go_wp2
        go_round
        case rel => exact ⟨j + 1, by omega, by go_num, HX.out⟩
        case measure => simp [intOf]; omega
    · have HT := Lib.hid (mem_end HN.out (by rw [HL.out]; omega))
      go_wp2
      go_ret
      exact ⟨⟨_, rfl, .inr ⟨(mem_no _ _).1 HT.out, rfl⟩⟩, rfl⟩

theorem implContains8 (a : Option Addr) (len cap : Nat) (zs : List Int) (x : Int) (w : World) (hI : IntsIn w a len zs) :
    Calls Tryz.prog 54 #[.slice a len cap, .int .i64 x] w fun e w' => e = .returned (.bool (mem zs x)) ∧ w' = w := by
  have HC := Lib.hid (implIndex8 a len cap zs x w hI)
  clear hI
  go_enter Tryz.func54, Tryz.ntmps54
  go_wp2_with fail
  refine HC.out.mono ?_; rintro e w1 ⟨⟨n, rfl, hf⟩, rfl⟩
  have HF := Lib.hid (firstOf_test hf); clear hf
  go_wp2_with fail
  go_ret
  exact ⟨ret_bool' HF.out, rfl⟩

set_option maxHeartbeats 400000 in
theorem implAmong8 (a : Option Addr) (len cap : Nat) (zs : List Int) (a' : Option Addr) (len' cap' : Nat) (ns : List Int) (w : World) (hI : IntsIn w a len zs) (hJ : IntsIn w a' len' ns) :
    Calls Tryz.prog 31 #[.slice a len cap, .slice a' len' cap'] w fun e w' => e = .returned (.bool (zs.all (mem ns))) ∧ w' = w := by
  obtain ⟨hl, hm, h⟩ := hI
  unfold maxLen at hm
  have HL := Lib.hid hl; have HI := Lib.hid h; have HJ := Lib.hid hJ; clear hl h hJ
  obtain ⟨r, hr⟩ : ∃ r, zs.all (mem ns) = r := ⟨_, rfl⟩
  have HR := Lib.hid hr
  rw [hr]
  clear hr
  go_enter Tryz.func31, Tryz.ntmps31
  go_wp2
  go_loop [6, 9] (fun _ i => ∃ j : Nat, j ≤ len ∧ i = .int .i64 j ∧ AllTo zs ns j) (fun _ i => len - (intOf i).toNat)
  case atStart => exact ⟨0, Nat.zero_le _, rfl, allTo_zero _ _⟩
  case round =>
    obtain ⟨j, hj, rfl, hto⟩ := hrel
    have HT := Lib.hid hto; clear hto
    by_cases hlt : j < len
    · obtain ⟨b, off, y, ha, hc, ht, hy⟩ := HI.out.at HL.out hlt
      subst ha
      have HC := Lib.hid (implContains8 a' len' cap' ns y w HJ.out)
      cases hv : mem ns y with
      | true =>
        rw [hv] at HC
        have HN := Lib.hid (allTo_step HT.out hy hv)
        clear ht hy hv
        go_wp2_with (go_at_call 54; refine HC.out.mono ?_; rintro e w' ⟨rfl, rfl⟩)
        go_round
        case rel => exact ⟨j + 1, by omega, by go_num, HN.out⟩
        case measure => simp [intOf]; omega
      | false =>
        rw [hv] at HC
        have HN := Lib.hid (show r = false by rw [← HR.out]; exact all_not hy hv)
        clear ht hy hv
        go_wp2_with (go_at_call 54; refine HC.out.mono ?_; rintro e w' ⟨rfl, rfl⟩)
        go_ret
        exact ⟨ret_bool' HN.out.symm, rfl⟩
    · have HN := Lib.hid (show r = true by rw [← HR.out]; exact allTo_end HT.out (by rw [HL.out]; omega))
      go_wp2
      go_ret
      exact ⟨ret_bool' HN.out.symm, rfl⟩

end Go.Proofs.YtjnicmlomjppnaaGreatDoor
