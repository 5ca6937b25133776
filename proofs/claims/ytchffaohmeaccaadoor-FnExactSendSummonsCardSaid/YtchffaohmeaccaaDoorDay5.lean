/- Contracts: DeadlineOf, AddCourtDays, CountCourtDays, LastCourtDay of the program and of its model. -/
import Derived.Test.YtchffaohmeaccaaDoorChecked
import Derived.Test.YtchffaohmeaccaaDoorBase0
import Derived.Test.YtchffaohmeaccaaDoorPure21
import Derived.Test.YtchffaohmeaccaaDoorDay1
import Derived.Test.YtchffaohmeaccaaDoorDay2
import Derived.Test.YtchffaohmeaccaaDoorDay3
import Derived.Test.YtchffaohmeaccaaDoorDay4
import Derived.WalkKit
import Derived.WalkSpells
import Derived.WalkLawsBesides
import Derived.Lib.Hide
import Derived.Outline
namespace Go.Proofs.YtchffaohmeaccaaDoor
open Go.RowKit Pure2 Pure20 Pure21

set_option maxHeartbeats 400000 in
theorem implDeadlineOf_any (a : Option Addr) (len cap : Nat) (zs : List Int) (d k : Int) (w : World) (hl : zs.length = len) (hm : len ≤ maxLen) (h : IntsAt w a zs) :
    Calls Tryd.prog 79 #[.slice a len cap, .int .i64 d, .int .i64 k] w (SaysP (deadR zs d k) w) := by
  have HC := Lib.hid (fun c hc => implDays1 a len cap zs d c w hl hm h hc)
  have HI := Lib.hid (h.below (below_lit w (.cells #[.int .i64 d] 2)))
  rcases code_cases zs [d] with ⟨hc, hh, hd⟩ | hc | hc
  · have HD := Lib.hid (HC.out 0 hc)
    have hd1 := all_one hd
    by_cases h0 : 0 ≤ k
    · by_cases h1 : k ≤ 1000
      · have HN := Lib.hid (deadR_ok hc h0 h1)
        have HK := Lib.hid (implNext_any (d + k) a len cap zs _ (by omega) (by omega) hl HI.out hh)
        have hd2 := hd1.1; have hd3 := hd1.2
        clear hc hh hd hl hm h hd1
        go_enter Tryd.func79, Tryd.ntmps79
        go_wp2_with fail
        refine HD.out.mono ?_; rintro e w' ⟨rfl, rfl⟩
        go_wp2_with fail
        refine HK.out.mono ?_; rintro e w' ⟨rfl, rfl⟩
        go_wp2_with fail
        refine (implResult_any _ _).mono ?_; rintro e w' ⟨rfl, rfl⟩
        go_wp2_with fail
        go_ret2
        exact ⟨ret_same HN.out, below_lit _ _⟩
      · have HN := Lib.hid (deadR_range hc (fun h => h1 h.2))
        clear hc hh hd hl hm h hd1
        go_enter Tryd.func79, Tryd.ntmps79
        go_wp2_with fail
        refine HD.out.mono ?_; rintro e w' ⟨rfl, rfl⟩
        go_wp2_with fail
        go_ret2
        exact ⟨ret_pair HN.out, below_lit _ _⟩
    · have HN := Lib.hid (deadR_range hc (fun h => h0 h.1))
      clear hc hh hd hl hm h hd1
      go_enter Tryd.func79, Tryd.ntmps79
      go_wp2_with fail
      refine HD.out.mono ?_; rintro e w' ⟨rfl, rfl⟩
      go_wp2_with fail
      go_ret2
      exact ⟨ret_pair HN.out, below_lit _ _⟩
  all_goals
    have HN := Lib.hid (deadR_err (k := k) hc (by decide))
    have HD := Lib.hid (HC.out _ hc)
    clear hc hl hm h
    go_enter Tryd.func79, Tryd.ntmps79
    go_wp2_with fail
    refine HD.out.mono ?_; rintro e w' ⟨rfl, rfl⟩
    go_wp2_with fail
    go_ret2
    exact ⟨ret_pair HN.out, below_lit _ _⟩

set_option maxHeartbeats 400000 in
theorem specDeadlineOf_any (a : Option Addr) (len cap : Nat) (zs : List Int) (d k : Int) (w : World) (hl : zs.length = len) (hm : len ≤ maxLen) (h : IntsAt w a zs) :
    Calls Tryd.prog 59 #[.slice a len cap, .int .i64 d, .int .i64 k] w (SaysP (deadR zs d k) w) := by
  have HC := Lib.hid (fun c hc => specCode1 a len cap zs d c w hl hm h hc)
  rcases code_cases zs [d] with ⟨hc, hh, hd⟩ | hc | hc
  · have HD := Lib.hid (HC.out 0 hc)
    have hd1 := all_one hd
    by_cases h0 : 0 ≤ k ∧ k ≤ 1000
    · have HN := Lib.hid (deadR_ok hc h0.1 h0.2)
      have HE := Lib.hid (specIn_any k 0 1000); rw [decide_eq_true h0] at HE
      have h1 := h0.1; have h2 := h0.2; have hd2 := hd1.1; have hd3 := hd1.2
      have HK := Lib.hid (fun n => specNext_day (d + k) a len cap zs (w.drewN n) (by omega) (by omega) hl hm h hh)
      clear hc hh hd hl hm h hd1 h0
      go_enter Tryd.func59, Tryd.ntmps59
      go_wp2_with fail
      refine HD.out.mono ?_; rintro e w1 ⟨rfl, n, rfl⟩
      go_wp2_with fail
      refine (HE.out _).mono ?_; rintro e w' ⟨rfl, rfl⟩
      go_wp2_with fail
      refine (HK.out n).mono ?_; rintro e w' ⟨rfl, rfl⟩
      go_wp2_with fail
      refine (specLimit_any _ _).mono ?_; rintro e w' ⟨rfl, rfl⟩
      go_wp2_with fail
      go_ret2
      exact ⟨ret_same HN.out, below_drew _ _⟩
    · have HN := Lib.hid (deadR_range hc h0)
      have HE := Lib.hid (specIn_any k 0 1000); rw [decide_eq_false h0] at HE
      clear hc hh hd hl hm h hd1 h0
      go_enter Tryd.func59, Tryd.ntmps59
      go_wp2_with fail
      refine HD.out.mono ?_; rintro e w1 ⟨rfl, n, rfl⟩
      go_wp2_with fail
      refine (HE.out _).mono ?_; rintro e w' ⟨rfl, rfl⟩
      go_wp2_with fail
      go_ret2
      exact ⟨ret_pair HN.out, below_drew _ _⟩
  all_goals
    have HN := Lib.hid (deadR_err (k := k) hc (by decide))
    have HD := Lib.hid (HC.out _ hc)
    clear hc hl hm h
    go_enter Tryd.func59, Tryd.ntmps59
    go_wp2_with fail
    refine HD.out.mono ?_; rintro e w1 ⟨rfl, n, rfl⟩
    go_wp2_with fail
    go_ret2
    exact ⟨ret_pair HN.out, below_drew _ _⟩

end Go.Proofs.YtchffaohmeaccaaDoor
