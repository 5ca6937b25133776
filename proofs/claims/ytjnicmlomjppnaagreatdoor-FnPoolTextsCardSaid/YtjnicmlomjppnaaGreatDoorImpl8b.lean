/- Contracts of the program's chapter 8: impl.IsPool; how many are left; equal lists. -/
import Derived.Test.YtjnicmlomjppnaaGreatDoorChecked
import Derived.Test.YtjnicmlomjppnaaGreatDoorBase0
import Derived.Test.YtjnicmlomjppnaaGreatDoorInfo
import Derived.Test.YtjnicmlomjppnaaGreatDoorPure83
import Derived.Test.YtjnicmlomjppnaaGreatDoorIntL
import Derived.Test.YtjnicmlomjppnaaGreatDoorBuildI
import Derived.Test.YtjnicmlomjppnaaGreatDoorBuild8
import Derived.Test.YtjnicmlomjppnaaGreatDoorRowV
import Derived.Test.YtjnicmlomjppnaaGreatDoorPoolA
import Derived.Test.YtjnicmlomjppnaaGreatDoorSpec80
import Derived.Test.YtjnicmlomjppnaaGreatDoorMidC
import Derived.Test.YtjnicmlomjppnaaGreatDoorDiff8
import Derived.Test.YtjnicmlomjppnaaGreatDoorImpl8a
import Derived.WalkKit
import Derived.WalkSpells
import Derived.WalkLawsBesides
import Derived.Lib.Hide
import Derived.Lib.QuietBelow
import Derived.IntWalk
import Derived.Deep.QuietTactic
import Derived.Deep.OwnRows
import Derived.BigQuiet
import Derived.BigRegion
import Derived.Outline
namespace Go.Proofs.YtjnicmlomjppnaaGreatDoor
open Go.RowKit Pure1 Pure2 Pure30 Pure40 Pure60 Pure80 Pure83 Rec

set_option maxRecDepth 100000 in
set_option maxHeartbeats 4000000 in
theorem implIsPool8_any (a0 : Option Addr) (l0 c0 : Nat) (a1 : Option Addr) (l1 c1 : Nat) (p : PoolV) (w : World) (hI : PoolV.In w a0 l0 a1 l1 p) (hc1 : l1 ≤ c1) (hs1 : l1 ≤ 1000000000) :
    Calls Tryz.prog 12 #[.agg #[.slice a0 l0 c0, .slice a1 l1 c1, .int .i64 p.state]] w (SaysP (isPool p) w) := by
  have HW := Lib.hid (boxed w (.cells #[.slice a0 l0 c0, .slice a1 l1 c1, .int .i64 p.state] 26))
  have HX := Lib.hid (PoolV.boxed w a0 l0 c0 a1 l1 c1 p 26)
  have HI := Lib.hid (hI.below HW.out)
  have HS := Lib.hid (isPool_split p)
  clear hI
  have HC1 := Lib.hid (implIncr_any 60 60 1 1000000 rfl a0 l0 c0 p.nums _ HI.out.1.1 HI.out.1.2.1 HI.out.1.2.2)
  have HC2 := Lib.hid (implAmong8 a1 l1 c1 p.drawn a0 l0 c0 p.nums _ HI.out.2 HI.out.1)
  have HC3 := Lib.hid (implDiff8_any a1 l1 c1 p.drawn _ HI.out.2 hs1)
  have HC4 := Lib.hid (fun W => implIsState_any p.state W)
  obtain ⟨r, hr⟩ : ∃ r, isPool p = r := ⟨_, rfl⟩
  rw [hr] at HS ⊢
  clear hr
  cases h1 : rises 60 1 1000000 p.nums with
  | false =>
    rw [h1] at HC1
    have HF := Lib.hid (show r = false by rw [HS.out, h1, Bool.false_and])
    clear h1
    obtain ⟨x0, x1, x2⟩ := HX.out
    go_enter Tryz.func12, Tryz.ntmps12
    go_wp2_with (go_at_call 30; refine HC1.out.mono ?_; rintro e w1 ⟨rfl, rfl⟩)
    go_ret
    exact ⟨ret_bool' HF.out.symm, HW.out⟩
  | true =>
    rw [h1] at HC1
    cases h2 : p.drawn.all (mem p.nums) with
    | false =>
      rw [h2] at HC2
      have HF := Lib.hid (show r = false by rw [HS.out, h1, h2]; rfl)
      clear h1 h2
      obtain ⟨x0, x1, x2⟩ := HX.out
      go_enter Tryz.func12, Tryz.ntmps12
      go_wp2_with (first | (go_at_call 30; refine HC1.out.mono ?_; rintro e w1 ⟨rfl, rfl⟩) | (go_at_call 31; refine HC2.out.mono ?_; rintro e w1 ⟨rfl, rfl⟩))
      go_ret
      exact ⟨ret_bool' HF.out.symm, HW.out⟩
    | true =>
      rw [h2] at HC2
      cases h3 : diff p.drawn with
      | false =>
        rw [h3] at HC3
        have HF := Lib.hid (show r = false by rw [HS.out, h1, h2, h3]; rfl)
        clear h1 h2 h3
        obtain ⟨x0, x1, x2⟩ := HX.out
        go_enter Tryz.func12, Tryz.ntmps12
        go_wp2_with (first | (go_at_call 30; refine HC1.out.mono ?_; rintro e w1 ⟨rfl, rfl⟩) | (go_at_call 31; refine HC2.out.mono ?_; rintro e w1 ⟨rfl, rfl⟩) | (go_at_call 32; refine HC3.out.mono ?_; rintro e w2 ⟨rfl, hB⟩))
        go_ret
        exact ⟨ret_bool' HF.out.symm, HW.out.trans (hB.mono HW.out.size)⟩
      | true =>
        rw [h3] at HC3
        have HF := Lib.hid (show r = isState p.state by rw [HS.out, h1, h2, h3]; rfl)
        clear h1 h2 h3
        obtain ⟨x0, x1, x2⟩ := HX.out
        go_enter Tryz.func12, Tryz.ntmps12
        go_wp2_with (first | (go_at_call 30; refine HC1.out.mono ?_; rintro e w1 ⟨rfl, rfl⟩) | (go_at_call 31; refine HC2.out.mono ?_; rintro e w1 ⟨rfl, rfl⟩) | (go_at_call 32; refine HC3.out.mono ?_; rintro e w2 ⟨rfl, hB⟩; have y2 := cell_later hB x2) | (go_at_call 33; refine (HC4.out _).mono ?_; rintro e w3 ⟨rfl, rfl⟩))
        go_ret
        exact ⟨ret_bool' HF.out.symm, HW.out.trans (hB.mono HW.out.size)⟩

end Go.Proofs.YtjnicmlomjppnaaGreatDoor
