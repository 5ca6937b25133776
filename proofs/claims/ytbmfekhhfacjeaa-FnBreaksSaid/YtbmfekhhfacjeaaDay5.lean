/- Contracts: DeadlineOf, AddCourtDays, CountCourtDays, LastCourtDay of the program and of its model. -/
import Derived.Test.YtbmfekhhfacjeaaChecked
import Derived.Test.YtbmfekhhfacjeaaBase
import Derived.Test.YtbmfekhhfacjeaaPure21
import Derived.Test.YtbmfekhhfacjeaaDay1
import Derived.Test.YtbmfekhhfacjeaaDay2
import Derived.Test.YtbmfekhhfacjeaaDay3
import Derived.Test.YtbmfekhhfacjeaaDay4
import Derived.WalkKit
import Derived.WalkSpells
import Derived.WalkLawsBesides
import Derived.Lib.Hide
import Derived.Outline
namespace Go.Proofs.Ytbmfekhhfacjeaa
open Go.RowKit Pure2 Pure20 Pure21

set_option maxHeartbeats 400000 in
theorem implDeadlineOf_any (a : Option Addr) (len cap : Nat) (zs : List Int) (d k : Int) (w : World) (hl : zs.length = len) (hm : len ≤ maxLen) (h : IntsAt w a zs) :
    Calls Try.prog 26 #[.slice a len cap, .int .i64 d, .int .i64 k] w (SaysP (deadR zs d k) w) := by
  have HC := Lib.hid (fun c hc => implDays1 a len cap zs d c w hl hm h hc)
  have HI := Lib.hid (h.below (below_lit w (.cells #[.int .i64 d] 2)))
  rcases code_cases zs [d] with ⟨hc, hh, hd⟩ | hc | hc
  · have HD := Lib.hid (HC.out 0 hc)
    have hd1 := all_one hd
    by_cases h0 : 0 ≤ k
    · by_cases h1 : k ≤ 1000
      · have HN := Lib.hid (deadR_ok hc h0 h1)
        have HK := Lib.hid (implNext_any (d + k) a len cap zs _ (by omega) (by omega) hl HI.out hh)
        have hd2 := hd1.1; have hd3 := hd1.2
        clear hc hh hd hl hm h hd1
        go_enter Try.func26, Try.ntmps26
        go_wp2_with fail
        refine HD.out.mono ?_; rintro e w' ⟨rfl, rfl⟩
        go_wp2_with fail
        refine HK.out.mono ?_; rintro e w' ⟨rfl, rfl⟩
        go_wp2_with fail
        refine (implResult_any _ _).mono ?_; rintro e w' ⟨rfl, rfl⟩
        go_wp2_with fail
        go_ret2
        exact ⟨ret_same HN.out, below_lit _ _⟩
      · have HN := Lib.hid (deadR_range hc (fun h => h1 h.2))
        clear hc hh hd hl hm h hd1
        go_enter Try.func26, Try.ntmps26
        go_wp2_with fail
        refine HD.out.mono ?_; rintro e w' ⟨rfl, rfl⟩
        go_wp2_with fail
        go_ret2
        exact ⟨ret_pair HN.out, below_lit _ _⟩
    · have HN := Lib.hid (deadR_range hc (fun h => h0 h.1))
      clear hc hh hd hl hm h hd1
      go_enter Try.func26, Try.ntmps26
      go_wp2_with fail
      refine HD.out.mono ?_; rintro e w' ⟨rfl, rfl⟩
      go_wp2_with fail
      go_ret2
      exact ⟨ret_pair HN.out, below_lit _ _⟩
  all_goals
    have HN := Lib.hid (deadR_err (k := k) hc (by decide))
    have HD := Lib.hid (HC.out _ hc)
    clear hc hl hm h
    go_enter Try.func26, Try.ntmps26
    go_wp2_with fail
    refine HD.out.mono ?_; rintro e w' ⟨rfl, rfl⟩
    go_wp2_with fail
    go_ret2
    exact ⟨ret_pair HN.out, below_lit _ _⟩

set_option maxHeartbeats 400000 in
theorem specDeadlineOf_any (a : Option Addr) (len cap : Nat) (zs : List Int) (d k : Int) (w : World) (hl : zs.length = len) (hm : len ≤ maxLen) (h : IntsAt w a zs) :
    Calls Try.prog 27 #[.slice a len cap, .int .i64 d, .int .i64 k] w (SaysP (deadR zs d k) w) := by
  have HC := Lib.hid (fun c hc => specCode1 a len cap zs d c w hl hm h hc)
  rcases code_cases zs [d] with ⟨hc, hh, hd⟩ | hc | hc
  · have HD := Lib.hid (HC.out 0 hc)
    have hd1 := all_one hd
    by_cases h0 : 0 ≤ k ∧ k ≤ 1000
    · have HN := Lib.hid (deadR_ok hc h0.1 h0.2)
      have HE := Lib.hid (specIn_any k 0 1000); rw [decide_eq_true h0] at HE
      have h1 := h0.1; have h2 := h0.2; have hd2 := hd1.1; have hd3 := hd1.2
      have HK := Lib.hid (fun n => specNext_day (d + k) a len cap zs (w.drewN n) (by omega) (by omega) hl hm h hh)
      clear hc hh hd hl hm h hd1 h0
      go_enter Try.func27, Try.ntmps27
      go_wp2_with fail
      refine HD.out.mono ?_; rintro e w1 ⟨rfl, n, rfl⟩
      go_wp2_with fail
      refine (HE.out _).mono ?_; rintro e w' ⟨rfl, rfl⟩
      go_wp2_with fail
      refine (HK.out n).mono ?_; rintro e w' ⟨rfl, rfl⟩
      go_wp2_with fail
      refine (specLimit_any _ _).mono ?_; rintro e w' ⟨rfl, rfl⟩
      go_wp2_with fail
      go_ret2
      exact ⟨ret_same HN.out, below_drew _ _⟩
    · have HN := Lib.hid (deadR_range hc h0)
      have HE := Lib.hid (specIn_any k 0 1000); rw [decide_eq_false h0] at HE
      clear hc hh hd hl hm h hd1 h0
      go_enter Try.func27, Try.ntmps27
      go_wp2_with fail
      refine HD.out.mono ?_; rintro e w1 ⟨rfl, n, rfl⟩
      go_wp2_with fail
      refine (HE.out _).mono ?_; rintro e w' ⟨rfl, rfl⟩
      go_wp2_with fail
      go_ret2
      exact ⟨ret_pair HN.out, below_drew _ _⟩
  all_goals
    have HN := Lib.hid (deadR_err (k := k) hc (by decide))
    have HD := Lib.hid (HC.out _ hc)
    clear hc hl hm h
    go_enter Try.func27, Try.ntmps27
    go_wp2_with fail
    refine HD.out.mono ?_; rintro e w1 ⟨rfl, n, rfl⟩
    go_wp2_with fail
    go_ret2
    exact ⟨ret_pair HN.out, below_drew _ _⟩

set_option maxHeartbeats 400000 in
theorem implAddCourtDays_any (a : Option Addr) (len cap : Nat) (zs : List Int) (d k : Int) (w : World) (hl : zs.length = len) (hm : len ≤ maxLen) (h : IntsAt w a zs) :
    Calls Try.prog 15 #[.slice a len cap, .int .i64 d, .int .i64 k] w (SaysP (addR zs d k) w) := by
  have HC := Lib.hid (fun c hc => implDays1 a len cap zs d c w hl hm h hc)
  have HI := Lib.hid (h.below (below_lit w (.cells #[.int .i64 d] 2)))
  rcases code_cases zs [d] with ⟨hc, hh, hd⟩ | hc | hc
  · have HD := Lib.hid (HC.out 0 hc)
    have hd1 := all_one hd
    by_cases h0 : 0 ≤ k
    · by_cases h1 : k ≤ 400
      · obtain ⟨n, rfl⟩ := Int.eq_ofNat_of_zero_le h0
        have HN := Lib.hid (addR_ok hc h0 h1)
        rw [Int.toNat_natCast] at HN
        have HK := Lib.hid (fun (x : Int) (hx : 0 ≤ x) (hx' : x ≤ 30000) => implNext_any x a len cap zs _ hx hx' hl HI.out hh)
        have HA := Lib.hid (fun m => addOf_is hh hd1.2 m)
        have HS := Lib.hid (fun m => addOf_succ hh hd1.2 m)
        have H0 := Lib.hid (addOf_zero zs d)
        have hd2 := hd1.1; have hd3 := hd1.2
        clear hc hh hd hl hm h hd1
        go_enter Try.func15, Try.ntmps15
        go_wp2_with fail
        refine HD.out.mono ?_; rintro e w' ⟨rfl, rfl⟩
        go_wp2_with fail
        go_loop [9, 25] (fun v i => ∃ m : Nat, m ≤ n ∧ v = .int .i64 (addOf zs d m) ∧ i = .int .i64 m) (fun _ i => n - (intOf i).toNat)
        case atStart => exact ⟨0, Nat.zero_le _, by rw [H0.out], rfl⟩
        case round =>
          obtain ⟨m, hmn, rfl, rfl⟩ := hrel
          have hb := (HA.out m).2
          have hb0 := isAdd_le (HA.out m).1
          by_cases hlt : m < n
          · have HX := Lib.hid (HS.out m)
            generalize addOf zs d m = x at hb hb0 HX
            go_wp2_with (go_at_call 42; refine (HK.out _ (by omega) (by omega)).mono ?_; rintro e w' ⟨rfl, rfl⟩)
            go_round
            case rel => exact ⟨m + 1, by omega, by rw [HX.out], by go_num⟩
            case measure => simp [intOf]; omega
          · obtain rfl : m = n := by omega
            go_wp2_with fail
            refine (implResult_any _ _).mono ?_; rintro e w' ⟨rfl, rfl⟩
            go_wp2_with fail
            go_ret2
            exact ⟨ret_same HN.out, below_lit _ _⟩
      · have HN := Lib.hid (addR_range hc (fun h => h1 h.2))
        clear hc hh hd hl hm h hd1
        go_enter Try.func15, Try.ntmps15
        go_wp2_with fail
        refine HD.out.mono ?_; rintro e w' ⟨rfl, rfl⟩
        go_wp2_with fail
        go_ret2
        exact ⟨ret_pair HN.out, below_lit _ _⟩
    · have HN := Lib.hid (addR_range hc (fun h => h0 h.1))
      clear hc hh hd hl hm h hd1
      go_enter Try.func15, Try.ntmps15
      go_wp2_with fail
      refine HD.out.mono ?_; rintro e w' ⟨rfl, rfl⟩
      go_wp2_with fail
      go_ret2
      exact ⟨ret_pair HN.out, below_lit _ _⟩
  all_goals
    have HN := Lib.hid (addR_err (k := k) hc (by decide))
    have HD := Lib.hid (HC.out _ hc)
    clear hc hl hm h
    go_enter Try.func15, Try.ntmps15
    go_wp2_with fail
    refine HD.out.mono ?_; rintro e w' ⟨rfl, rfl⟩
    go_wp2_with fail
    go_ret2
    exact ⟨ret_pair HN.out, below_lit _ _⟩

set_option maxHeartbeats 400000 in
theorem specAddCourtDays_any (a : Option Addr) (len cap : Nat) (zs : List Int) (d k : Int) (w : World) (hl : zs.length = len) (hm : len ≤ maxLen) (h : IntsAt w a zs) :
    Calls Try.prog 16 #[.slice a len cap, .int .i64 d, .int .i64 k] w (SaysP (addR zs d k) w) := by
  have HC := Lib.hid (fun c hc => specCode1 a len cap zs d c w hl hm h hc)
  rcases code_cases zs [d] with ⟨hc, hh, hd⟩ | hc | hc
  · have HD := Lib.hid (HC.out 0 hc)
    have hd1 := all_one hd
    by_cases h0 : 0 ≤ k ∧ k ≤ 400
    · have HN := Lib.hid (addR_ok hc h0.1 h0.2)
      have HE := Lib.hid (specIn_any k 0 400); rw [decide_eq_true h0] at HE
      have h1 := h0.1; have h2 := h0.2; have hd2 := hd1.1; have hd3 := hd1.2
      have HK := Lib.hid (fun n => specAdd_any d k a len cap zs (w.drewN n) hd2 hd3 h1 h2 hl hm h hh)
      clear hc hh hd hl hm h hd1 h0
      go_enter Try.func16, Try.ntmps16
      go_wp2_with fail
      refine HD.out.mono ?_; rintro e w1 ⟨rfl, n, rfl⟩
      go_wp2_with fail
      refine (HE.out _).mono ?_; rintro e w' ⟨rfl, rfl⟩
      go_wp2_with fail
      refine (HK.out n).mono ?_; rintro e w' ⟨rfl, rfl⟩
      go_wp2_with fail
      refine (specLimit_any _ _).mono ?_; rintro e w' ⟨rfl, rfl⟩
      go_wp2_with fail
      go_ret2
      exact ⟨ret_same HN.out, below_drew _ _⟩
    · have HN := Lib.hid (addR_range hc h0)
      have HE := Lib.hid (specIn_any k 0 400); rw [decide_eq_false h0] at HE
      clear hc hh hd hl hm h hd1 h0
      go_enter Try.func16, Try.ntmps16
      go_wp2_with fail
      refine HD.out.mono ?_; rintro e w1 ⟨rfl, n, rfl⟩
      go_wp2_with fail
      refine (HE.out _).mono ?_; rintro e w' ⟨rfl, rfl⟩
      go_wp2_with fail
      go_ret2
      exact ⟨ret_pair HN.out, below_drew _ _⟩
  all_goals
    have HN := Lib.hid (addR_err (k := k) hc (by decide))
    have HD := Lib.hid (HC.out _ hc)
    clear hc hl hm h
    go_enter Try.func16, Try.ntmps16
    go_wp2_with fail
    refine HD.out.mono ?_; rintro e w1 ⟨rfl, n, rfl⟩
    go_wp2_with fail
    go_ret2
    exact ⟨ret_pair HN.out, below_drew _ _⟩

set_option maxHeartbeats 400000 in
theorem implCountCourtDays_any (a : Option Addr) (len cap : Nat) (zs : List Int) (d b : Int) (w : World) (hl : zs.length = len) (hm : len ≤ maxLen) (h : IntsAt w a zs) :
    Calls Try.prog 18 #[.slice a len cap, .int .i64 d, .int .i64 b] w (SaysP (cntR zs d b) w) := by
  have HC := Lib.hid (fun c hc => implDays2 a len cap zs d b c w hl hm h hc)
  have HI := Lib.hid (h.below (below_lit w (.cells #[.int .i64 d, .int .i64 b] 2)))
  rcases code_cases zs [d, b] with ⟨hc, hh, hd⟩ | hc | hc
  · have HD := Lib.hid (HC.out 0 hc)
    obtain ⟨⟨q1, q2⟩, q3, q4⟩ := all_two hd
    by_cases hbd : b ≤ d
    · have HN := Lib.hid (show cntR zs d b = (0, 0) by rw [cntR_ok hc, count_none hbd])
      clear hc hh hd hl hm h
      go_enter Try.func18, Try.ntmps18
      go_wp2_with fail
      refine HD.out.mono ?_; rintro e w' ⟨rfl, rfl⟩
      go_wp2_with fail
      go_ret2
      exact ⟨ret_pair HN.out, below_lit _ _⟩
    · have HN := Lib.hid (show cntR zs d b = (count zs 0 b - count zs 0 d, 0) by rw [cntR_ok hc, count_diff q1 (by omega)])
      have HK := Lib.hid (implBefore_any b a len cap zs _ q3 (by omega) hl HI.out hh)
      have HJ := Lib.hid (implBefore_any d a len cap zs _ q1 (by omega) hl HI.out hh)
      have r1 := count_bd zs 0 b; have r2 := count_bd zs 0 d
      obtain ⟨s1, s2⟩ : 0 ≤ count zs 0 b ∧ count zs 0 b ≤ 20000 := ⟨r1.1, by have := r1.2 q3; omega⟩
      obtain ⟨s3, s4⟩ : 0 ≤ count zs 0 d ∧ count zs 0 d ≤ 20000 := ⟨r2.1, by have := r2.2 q1; omega⟩
      clear hc hh hd hl hm h r1 r2
      go_enter Try.func18, Try.ntmps18
      go_wp2_with fail
      refine HD.out.mono ?_; rintro e w' ⟨rfl, rfl⟩
      go_wp2_with fail
      refine HK.out.mono ?_; rintro e w' ⟨rfl, rfl⟩
      go_wp2_with fail
      refine HJ.out.mono ?_; rintro e w' ⟨rfl, rfl⟩
      go_wp2_with fail
      go_ret2
      exact ⟨ret_pair HN.out, below_lit _ _⟩
  all_goals
    have HN := Lib.hid (cntR_err hc (by decide))
    have HD := Lib.hid (HC.out _ hc)
    clear hc hl hm h
    go_enter Try.func18, Try.ntmps18
    go_wp2_with fail
    refine HD.out.mono ?_; rintro e w' ⟨rfl, rfl⟩
    go_wp2_with fail
    go_ret2
    exact ⟨ret_pair HN.out, below_lit _ _⟩

set_option maxHeartbeats 400000 in
theorem specCountCourtDays_any (a : Option Addr) (len cap : Nat) (zs : List Int) (d b : Int) (w : World) (hl : zs.length = len) (hm : len ≤ maxLen) (h : IntsAt w a zs) :
    Calls Try.prog 19 #[.slice a len cap, .int .i64 d, .int .i64 b] w (SaysP (cntR zs d b) w) := by
  have HC := Lib.hid (fun c hc => specCode2 a len cap zs d b c w hl hm h hc)
  rcases code_cases zs [d, b] with ⟨hc, hh, hd⟩ | hc | hc
  · have HD := Lib.hid (HC.out 0 hc)
    obtain ⟨⟨q1, q2⟩, q3, q4⟩ := all_two hd
    have HN := Lib.hid (cntR_ok hc)
    have HK := Lib.hid (fun (n : Nat) (x : Int) (c : Bool) (hc : court zs x = c) (hx : 0 ≤ x) => specCourt_is x a len cap zs (w.drewN n) c hc hx hl hm h)
    clear hc hh hd hl hm h
    go_enter Try.func19, Try.ntmps19
    go_wp2_with fail
    refine HD.out.mono ?_; rintro e w1 ⟨rfl, n, rfl⟩
    go_wp2_with fail
    go_loop [9, 10] (fun c i => ∃ x : Int, d ≤ x ∧ x ≤ max d b ∧ i = .int .i64 x ∧ c = .int .i64 (count zs d x)) (fun _ i => (b - intOf i).toNat)
    case atStart => exact ⟨d, Int.le_refl _, by omega, rfl, by rw [count_none (Int.le_refl _)]⟩
    case round =>
      obtain ⟨x, h1, h2, rfl, rfl⟩ := hrel
      have hcb := count_bd zs d x
      have hcb1 := hcb.1; have hcb2 := hcb.2 h1; clear hcb
      by_cases hlt : x < b
      · cases hcx : court zs x with
        | true =>
          have HX := Lib.hid (show count zs d (x + 1) = count zs d x + 1 by rw [count_snoc h1, if_pos hcx])
          have HC2 := Lib.hid (HK.out n x true hcx (by omega)); clear hcx
          go_wp2_with (go_at_call 51; refine HC2.out.mono ?_; rintro e w' ⟨rfl, rfl⟩)
          go_round
          case rel => exact ⟨x + 1, by omega, by omega, rfl, by rw [HX.out]⟩
          case measure => simp [intOf]; omega
        | false =>
          have HX := Lib.hid (show count zs d (x + 1) = count zs d x by rw [count_snoc h1, hcx]; simp)
          have HC2 := Lib.hid (HK.out n x false hcx (by omega)); clear hcx
          go_wp2_with (go_at_call 51; refine HC2.out.mono ?_; rintro e w' ⟨rfl, rfl⟩)
          go_round
          case rel => exact ⟨x + 1, by omega, by omega, rfl, by rw [HX.out]⟩
          case measure => simp [intOf]; omega
      · have HX := Lib.hid (show count zs d x = count zs d b by
          by_cases hdb : d ≤ b
          · rw [show x = b by omega]
          · rw [count_none (show x ≤ d by omega), count_none (show b ≤ d by omega)])
        rw [HX.out]
        go_wp2_with fail
        go_ret2
        exact ⟨ret_pair HN.out, below_drew _ _⟩
  all_goals
    have HN := Lib.hid (cntR_err hc (by decide))
    have HD := Lib.hid (HC.out _ hc)
    clear hc hl hm h
    go_enter Try.func19, Try.ntmps19
    go_wp2_with fail
    refine HD.out.mono ?_; rintro e w1 ⟨rfl, n, rfl⟩
    go_wp2_with fail
    go_ret2
    exact ⟨ret_pair HN.out, below_drew _ _⟩

set_option maxHeartbeats 400000 in
theorem implLastCourtDay_any (a : Option Addr) (len cap : Nat) (zs : List Int) (d : Int) (w : World) (hl : zs.length = len) (hm : len ≤ maxLen) (h : IntsAt w a zs) :
    Calls Try.prog 31 #[.slice a len cap, .int .i64 d] w (SaysP (lastR zs d) w) := by
  have HC := Lib.hid (fun c hc => implDays1 a len cap zs d c w hl hm h hc)
  have HI := Lib.hid (h.below (below_lit w (.cells #[.int .i64 d] 2)))
  rcases code_cases zs [d] with ⟨hc, hh, hd⟩ | hc | hc
  · have HD := Lib.hid (HC.out 0 hc)
    obtain ⟨q1, q2⟩ := all_one hd
    have HK := Lib.hid (fun (x : Int) (c : Bool) (hc : court zs x = c) (hx : 0 ≤ x) => implCourt_is x a len cap zs _ c hc hx hl HI.out hh)
    rcases last_all zs d with ⟨r, hr⟩ | hno
    · have HN := Lib.hid (show lastR zs d = (r, 0) by rw [lastR_ok hc, lastOf_yes hr])
      obtain ⟨r0, r1, r2, r3⟩ := hr
      have HR2 := Lib.hid r2; have HR3 := Lib.hid r3
      clear hc hh hd hl hm h r2 r3
      go_enter Try.func31, Try.ntmps31
      go_wp2_with fail
      refine HD.out.mono ?_; rintro e w' ⟨rfl, rfl⟩
      go_wp2_with fail
      go_loop [7] (fun i => ∃ x : Int, r ≤ x ∧ x ≤ d ∧ i = .int .i64 x) (fun i => (intOf i + 1).toNat)
      case atStart => exact ⟨d, r1, Int.le_refl _, rfl⟩
      case round =>
        obtain ⟨x, h1, h2, rfl⟩ := hrel
        by_cases hx : x = r
        · subst hx
          have HC2 := Lib.hid (HK.out x true HR2.out r0)
          go_wp2_with (go_at_call 52; refine HC2.out.mono ?_; rintro e w' ⟨rfl, rfl⟩)
          go_ret2
          exact ⟨ret_pair HN.out, below_lit _ _⟩
        · have HC2 := Lib.hid (HK.out x false (HR3.out x (by omega) h2) (by omega))
          have hlt : r < x := by omega
          clear hx
          go_wp2_with (go_at_call 52; refine HC2.out.mono ?_; rintro e w' ⟨rfl, rfl⟩)
          go_round
          case rel => exact ⟨x - 1, by omega, by omega, rfl⟩
          case measure => simp [intOf]; omega
    · have HN := Lib.hid (show lastR zs d = (0, 4) by rw [lastR_ok hc, lastOf_no hno])
      have HR := Lib.hid hno
      clear hc hh hd hl hm h hno
      go_enter Try.func31, Try.ntmps31
      go_wp2_with fail
      refine HD.out.mono ?_; rintro e w' ⟨rfl, rfl⟩
      go_wp2_with fail
      go_loop [7] (fun i => ∃ x : Int, -1 ≤ x ∧ x ≤ d ∧ i = .int .i64 x) (fun i => (intOf i + 1).toNat)
      case atStart => exact ⟨d, by omega, Int.le_refl _, rfl⟩
      case round =>
        obtain ⟨x, h1, h2, rfl⟩ := hrel
        by_cases hx : 0 ≤ x
        · have HC2 := Lib.hid (HK.out x false (HR.out x hx h2) hx)
          go_wp2_with (go_at_call 52; refine HC2.out.mono ?_; rintro e w' ⟨rfl, rfl⟩)
          go_round
          case rel => exact ⟨x - 1, by omega, by omega, rfl⟩
          case measure => simp [intOf]; omega
        · go_wp2_with fail
          go_ret2
          exact ⟨ret_pair HN.out, below_lit _ _⟩
  all_goals
    have HN := Lib.hid (lastR_err hc (by decide))
    have HD := Lib.hid (HC.out _ hc)
    clear hc hl hm h
    go_enter Try.func31, Try.ntmps31
    go_wp2_with fail
    refine HD.out.mono ?_; rintro e w' ⟨rfl, rfl⟩
    go_wp2_with fail
    go_ret2
    exact ⟨ret_pair HN.out, below_lit _ _⟩

set_option maxHeartbeats 400000 in
theorem specLastCourtDay_any (a : Option Addr) (len cap : Nat) (zs : List Int) (d : Int) (w : World) (hl : zs.length = len) (hm : len ≤ maxLen) (h : IntsAt w a zs) :
    Calls Try.prog 32 #[.slice a len cap, .int .i64 d] w (SaysP (lastR zs d) w) := by
  have HC := Lib.hid (fun c hc => specCode1 a len cap zs d c w hl hm h hc)
  rcases code_cases zs [d] with ⟨hc, hh, hd⟩ | hc | hc
  · have HD := Lib.hid (HC.out 0 hc)
    obtain ⟨q1, q2⟩ := all_one hd
    have HK := Lib.hid (fun (n : Nat) (x : Int) (c : Bool) (hc : court zs x = c) (hx : 0 ≤ x) => specCourt_is x a len cap zs (w.drewN n) c hc hx hl hm h)
    rcases last_all zs d with ⟨r, hr⟩ | hno
    · have HN := Lib.hid (show lastR zs d = (r, 0) by rw [lastR_ok hc, lastOf_yes hr])
      obtain ⟨r0, r1, r2, r3⟩ := hr
      have HR2 := Lib.hid r2; have HR3 := Lib.hid r3
      clear hc hh hd hl hm h r2 r3
      go_enter Try.func32, Try.ntmps32
      go_wp2_with fail
      refine HD.out.mono ?_; rintro e w1 ⟨rfl, n, rfl⟩
      go_wp2_with fail
      go_loop [1] (fun i => ∃ x : Int, r ≤ x ∧ x ≤ d ∧ i = .int .i64 x) (fun i => (intOf i + 1).toNat)
      case atStart => exact ⟨d, r1, Int.le_refl _, rfl⟩
      case round =>
        obtain ⟨x, h1, h2, rfl⟩ := hrel
        by_cases hx : x = r
        · subst hx
          have HC2 := Lib.hid (HK.out n x true HR2.out r0)
          go_wp2_with (go_at_call 51; refine HC2.out.mono ?_; rintro e w' ⟨rfl, rfl⟩)
          go_ret2
          exact ⟨ret_pair HN.out, below_drew _ _⟩
        · have HC2 := Lib.hid (HK.out n x false (HR3.out x (by omega) h2) (by omega))
          have hlt : r < x := by omega
          clear hx
          go_wp2_with (go_at_call 51; refine HC2.out.mono ?_; rintro e w' ⟨rfl, rfl⟩)
          go_round
          case rel => exact ⟨x - 1, by omega, by omega, rfl⟩
          case measure => simp [intOf]; omega
    · have HN := Lib.hid (show lastR zs d = (0, 4) by rw [lastR_ok hc, lastOf_no hno])
      have HR := Lib.hid hno
      clear hc hh hd hl hm h hno
      go_enter Try.func32, Try.ntmps32
      go_wp2_with fail
      refine HD.out.mono ?_; rintro e w1 ⟨rfl, n, rfl⟩
      go_wp2_with fail
      go_loop [1] (fun i => ∃ x : Int, -1 ≤ x ∧ x ≤ d ∧ i = .int .i64 x) (fun i => (intOf i + 1).toNat)
      case atStart => exact ⟨d, by omega, Int.le_refl _, rfl⟩
      case round =>
        obtain ⟨x, h1, h2, rfl⟩ := hrel
        by_cases hx : 0 ≤ x
        · have HC2 := Lib.hid (HK.out n x false (HR.out x hx h2) hx)
          go_wp2_with (go_at_call 51; refine HC2.out.mono ?_; rintro e w' ⟨rfl, rfl⟩)
          go_round
          case rel => exact ⟨x - 1, by omega, by omega, rfl⟩
          case measure => simp [intOf]; omega
        · go_wp2_with fail
          go_ret2
          exact ⟨ret_pair HN.out, below_drew _ _⟩
  all_goals
    have HN := Lib.hid (lastR_err hc (by decide))
    have HD := Lib.hid (HC.out _ hc)
    clear hc hl hm h
    go_enter Try.func32, Try.ntmps32
    go_wp2_with fail
    refine HD.out.mono ?_; rintro e w1 ⟨rfl, n, rfl⟩
    go_wp2_with fail
    go_ret2
    exact ⟨ret_pair HN.out, below_drew _ _⟩

end Go.Proofs.Ytbmfekhhfacjeaa
