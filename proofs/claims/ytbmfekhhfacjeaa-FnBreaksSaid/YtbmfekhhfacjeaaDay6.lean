/- Contracts: LongestBreak of the program and of its model. -/
import Derived.Test.YtbmfekhhfacjeaaChecked
import Derived.Test.YtbmfekhhfacjeaaBase
import Derived.Test.YtbmfekhhfacjeaaPure21
import Derived.Test.YtbmfekhhfacjeaaDay1
import Derived.Test.YtbmfekhhfacjeaaDay2
import Derived.Test.YtbmfekhhfacjeaaDay3
import Derived.Test.YtbmfekhhfacjeaaDay4
import Derived.WalkKit
import Derived.WalkSpells
import Derived.WalkLawsBesides
import Derived.OwnWalk
import Derived.Lib.Hide
import Derived.Outline
namespace Go.Proofs.Ytbmfekhhfacjeaa
open Go.RowKit Pure2 Pure20 Pure21

/-- three numbers are returned; nothing that was there has turned -/
def Says3 (p : Int × Int × Int) (w : World) (e : Ending) (w' : World) : Prop := e = .returned (.tuple #[.int .i64 p.1, .int .i64 p.2.1, .int .i64 p.2.2]) ∧ Below w.heap.size w w'
theorem ret_three {a b c : Int} {p : Int × Int × Int} (h : p = (a, b, c)) : Ending.returned (.tuple #[.int .i64 a, .int .i64 b, .int .i64 c]) = .returned (.tuple #[.int .i64 p.1, .int .i64 p.2.1, .int .i64 p.2.2]) := by rw [h]
theorem brkR_ok {zs : List Int} {d b : Int} (h : code zs [d, b] = 0) (h0 : 0 ≤ b - d ∧ b - d ≤ 999) : brkR zs d b = brkOf zs d b := by rw [brkR, if_pos h, if_pos h0]
theorem brkR_range {zs : List Int} {d b : Int} (h : code zs [d, b] = 0) (h0 : ¬ (0 ≤ b - d ∧ b - d ≤ 999)) : brkR zs d b = (0, 0, 2) := by rw [brkR, if_pos h, if_neg h0]
theorem brkR_err {zs : List Int} {d b c : Int} (h : code zs [d, b] = c) (hc : c ≠ 0) : brkR zs d b = (0, 0, c) := by rw [brkR, h, if_neg hc]
theorem brk_some {zs : List Int} {d b x n f l : Int} (h : BrkTo zs d x n f l) (hx : x = b + 1) (hl : ¬ l = 0) : brkOf zs d b = (f, l, 0) := by
  subst hx; exact brkOf_yes (brk_end h (by have := h.2.1.1; omega))
theorem brk_zero {zs : List Int} {d b x n f l : Int} (h : BrkTo zs d x n f l) (hx : x = b + 1) (hl : l = 0) : brkOf zs d b = (0, 0, 4) := by
  subst hx hl; exact brkOf_no (brk_none h)
theorem val_eq {a b : Int} (h : a = b) : Value.int .i64 a = Value.int .i64 b := by rw [h]
/-- where the search for the longest break stands -/
def BrkAt (zs : List Int) (d b : Int) (vf vl vn vx : Value) : Prop :=
  ∃ x f l n : Int, d ≤ x ∧ x ≤ b + 1 ∧ vf = .int .i64 f ∧ vl = .int .i64 l ∧ vn = .int .i64 n ∧ vx = .int .i64 x ∧ BrkTo zs d x n f l

set_option maxRecDepth 100000 in
set_option maxHeartbeats 1000000 in
theorem implLongestBreak_any (a : Option Addr) (len cap : Nat) (zs : List Int) (d b : Int) (w : World) (hl : zs.length = len) (hm : len ≤ maxLen) (h : IntsAt w a zs) :
    Calls Try.prog 34 #[.slice a len cap, .int .i64 d, .int .i64 b] w (Says3 (brkR zs d b) w) := by
  have HC := Lib.hid (fun c hc => implDays2 a len cap zs d b c w hl hm h hc)
  have HI := Lib.hid (h.below (below_lit w (.cells #[.int .i64 d, .int .i64 b] 2)))
  rcases code_cases zs [d, b] with ⟨hc, hh, hd⟩ | hc | hc
  · have HD := Lib.hid (HC.out 0 hc)
    obtain ⟨⟨q1, q2⟩, q3, q4⟩ := all_two hd
    by_cases h0 : 0 ≤ b - d
    · by_cases h1 : b - d ≤ 999
      · have HR := Lib.hid (brkR_ok hc ⟨h0, h1⟩)
        have HK := Lib.hid (fun (x : Int) (c : Bool) (hc : court zs x = c) (hx : 0 ≤ x) => implCourt_is x a len cap zs _ c hc hx hl HI.out hh)
        clear hc hh hd hl hm h
        go_enter Try.func34, Try.ntmps34
        go_wp2_with fail
        refine HD.out.mono ?_; rintro e w' ⟨rfl, rfl⟩
        go_wp2_with fail
        go_loop [10, 11, 12, 13] (fun vf vl vn vx => BrkAt zs d b vf vl vn vx) (fun _ _ _ vx => (b + 1 - intOf vx).toNat)
        case atStart => exact ⟨d, 0, 0, 0, Int.le_refl _, by omega, rfl, rfl, rfl, rfl, brk_start zs d 0⟩
        case round =>
          obtain ⟨x, f, l, n, h2, h3, rfl, rfl, rfl, rfl, hB⟩ := hrel
          have b0 := hB.1.1; have b1 := hB.1.2.1; have b2 := hB.2.1.1
          have HB := Lib.hid hB; clear hB
          by_cases hlt : x ≤ b
          · cases hcx : court zs x with
            | true =>
              have HN := Lib.hid (brk_court HB.out h2 hcx)
              have HC2 := Lib.hid (HK.out x true hcx (by omega)); clear hcx
              go_wp2_with (go_at_call 52; refine HC2.out.mono ?_; rintro e w' ⟨rfl, rfl⟩)
              go_round
              case rel => exact ⟨x + 1, f, l, 0, by omega, by omega, rfl, rfl, rfl, rfl, HN.out⟩
              case measure => simp [intOf]; omega
            | false =>
              by_cases hln : l < n + 1
              · have HN := Lib.hid (brk_more HB.out hcx hln)
                have HC2 := Lib.hid (HK.out x false hcx (by omega)); clear hcx
                go_wp2_with (go_at_call 52; refine HC2.out.mono ?_; rintro e w' ⟨rfl, rfl⟩)
                go_round
                case rel => exact ⟨x + 1, _, n + 1, n + 1, by omega, by omega, val_eq (by omega), rfl, rfl, rfl, HN.out⟩
                case measure => simp [intOf]; omega
              · have HN := Lib.hid (brk_same HB.out hcx (by omega))
                have HC2 := Lib.hid (HK.out x false hcx (by omega)); clear hcx
                go_wp2_with (go_at_call 52; refine HC2.out.mono ?_; rintro e w' ⟨rfl, rfl⟩)
                go_round
                case rel => exact ⟨x + 1, f, l, n + 1, by omega, by omega, rfl, rfl, rfl, rfl, HN.out⟩
                case measure => simp [intOf]; omega
          · by_cases hl0 : l = 0
            · have HN := Lib.hid (HR.out.trans (brk_zero HB.out (by omega) hl0))
              have hl1 : (l == 0) = true := beq_iff_eq.2 hl0
              clear hl0
              go_wp2_with fail
              go_ret3
              exact ⟨ret_three HN.out, below_lit _ _⟩
            · have HN := Lib.hid (HR.out.trans (brk_some HB.out (by omega) hl0))
              have hl1 : (l == 0) = false := beq_eq_false_iff_ne.2 hl0
              clear hl0
              go_wp2_with fail
              go_ret3
              exact ⟨ret_three HN.out, below_lit _ _⟩
      · have HN := Lib.hid (brkR_range hc (fun h => h1 h.2))
        clear hc hh hd hl hm h
        go_enter Try.func34, Try.ntmps34
        go_wp2_with fail
        refine HD.out.mono ?_; rintro e w' ⟨rfl, rfl⟩
        go_wp2_with fail
        go_ret3
        exact ⟨ret_three HN.out, below_lit _ _⟩
    · have HN := Lib.hid (brkR_range hc (fun h => h0 h.1))
      clear hc hh hd hl hm h
      go_enter Try.func34, Try.ntmps34
      go_wp2_with fail
      refine HD.out.mono ?_; rintro e w' ⟨rfl, rfl⟩
      go_wp2_with fail
      go_ret3
      exact ⟨ret_three HN.out, below_lit _ _⟩
  all_goals
    have HN := Lib.hid (brkR_err hc (by decide))
    have HD := Lib.hid (HC.out _ hc)
    clear hc hl hm h
    go_enter Try.func34, Try.ntmps34
    go_wp2_with fail
    refine HD.out.mono ?_; rintro e w' ⟨rfl, rfl⟩
    go_wp2_with fail
    go_ret3
    exact ⟨ret_three HN.out, below_lit _ _⟩

set_option maxRecDepth 100000 in
set_option maxHeartbeats 1000000 in
theorem specLongestBreak_any (a : Option Addr) (len cap : Nat) (zs : List Int) (d b : Int) (w : World) (hl : zs.length = len) (hm : len ≤ maxLen) (h : IntsAt w a zs) :
    Calls Try.prog 35 #[.slice a len cap, .int .i64 d, .int .i64 b] w (Says3 (brkR zs d b) w) := by
  have HC := Lib.hid (fun c hc => specCode2 a len cap zs d b c w hl hm h hc)
  rcases code_cases zs [d, b] with ⟨hc, hh, hd⟩ | hc | hc
  · have HD := Lib.hid (HC.out 0 hc)
    obtain ⟨⟨q1, q2⟩, q3, q4⟩ := all_two hd
    by_cases h0 : 0 ≤ b - d ∧ b - d ≤ 999
    · have HR := Lib.hid (brkR_ok hc h0)
      have HE := Lib.hid (specIn_any (b - d) 0 999); rw [decide_eq_true h0] at HE
      have h1 := h0.1; have h4 := h0.2
      have HK := Lib.hid (fun (n : Nat) (x : Int) (c : Bool) (hc : court zs x = c) (hx : 0 ≤ x) => specCourt_is x a len cap zs (w.drewN n) c hc hx hl hm h)
      clear hc hh hd hl hm h h0
      go_enter Try.func35, Try.ntmps35
      go_wp2_with fail
      refine HD.out.mono ?_; rintro e w1 ⟨rfl, m, rfl⟩
      go_wp2_with fail
      refine (HE.out _).mono ?_; rintro e w' ⟨rfl, rfl⟩
      go_wp2_with fail
      go_loop [10, 11, 12, 13] (fun vf vl vn vx => BrkAt zs d b vf vl vn vx) (fun _ _ _ vx => (b + 1 - intOf vx).toNat)
      case atStart => exact ⟨d, 0, 0, 0, Int.le_refl _, by omega, rfl, rfl, rfl, rfl, brk_start zs d 0⟩
      case round =>
        obtain ⟨x, f, l, n, h2, h3, rfl, rfl, rfl, rfl, hB⟩ := hrel
        have b0 := hB.1.1; have b1 := hB.1.2.1; have b2 := hB.2.1.1
        have HB := Lib.hid hB; clear hB
        by_cases hlt : x ≤ b
        · cases hcx : court zs x with
          | true =>
            have HN := Lib.hid (brk_court HB.out h2 hcx)
            have HC2 := Lib.hid (HK.out m x true hcx (by omega)); clear hcx
            go_wp2_with (go_at_call 51; refine HC2.out.mono ?_; rintro e w' ⟨rfl, rfl⟩)
            go_round
            case rel => exact ⟨x + 1, f, l, 0, by omega, by omega, rfl, rfl, rfl, rfl, HN.out⟩
            case measure => simp [intOf]; omega
          | false =>
            by_cases hln : l < n + 1
            · have HN := Lib.hid (brk_more HB.out hcx hln)
              have HC2 := Lib.hid (HK.out m x false hcx (by omega)); clear hcx
              go_wp2_with (go_at_call 51; refine HC2.out.mono ?_; rintro e w' ⟨rfl, rfl⟩)
              go_round
              case rel => exact ⟨x + 1, _, n + 1, n + 1, by omega, by omega, val_eq (by omega), rfl, rfl, rfl, HN.out⟩
              case measure => simp [intOf]; omega
            · have HN := Lib.hid (brk_same HB.out hcx (by omega))
              have HC2 := Lib.hid (HK.out m x false hcx (by omega)); clear hcx
              go_wp2_with (go_at_call 51; refine HC2.out.mono ?_; rintro e w' ⟨rfl, rfl⟩)
              go_round
              case rel => exact ⟨x + 1, f, l, n + 1, by omega, by omega, rfl, rfl, rfl, rfl, HN.out⟩
              case measure => simp [intOf]; omega
        · by_cases hl0 : l = 0
          · have HN := Lib.hid (HR.out.trans (brk_zero HB.out (by omega) hl0))
            have hl1 : (l == 0) = true := beq_iff_eq.2 hl0
            clear hl0
            go_wp2_with fail
            go_ret3
            exact ⟨ret_three HN.out, below_drew _ _⟩
          · have HN := Lib.hid (HR.out.trans (brk_some HB.out (by omega) hl0))
            have hl1 : (l == 0) = false := beq_eq_false_iff_ne.2 hl0
            clear hl0
            go_wp2_with fail
            go_ret3
            exact ⟨ret_three HN.out, below_drew _ _⟩
    · have HN := Lib.hid (brkR_range hc h0)
      have HE := Lib.hid (specIn_any (b - d) 0 999); rw [decide_eq_false h0] at HE
      clear hc hh hd hl hm h h0
      go_enter Try.func35, Try.ntmps35
      go_wp2_with fail
      refine HD.out.mono ?_; rintro e w1 ⟨rfl, m, rfl⟩
      go_wp2_with fail
      refine (HE.out _).mono ?_; rintro e w' ⟨rfl, rfl⟩
      go_wp2_with fail
      go_ret3
      exact ⟨ret_three HN.out, below_drew _ _⟩
  all_goals
    have HN := Lib.hid (brkR_err hc (by decide))
    have HD := Lib.hid (HC.out _ hc)
    clear hc hl hm h
    go_enter Try.func35, Try.ntmps35
    go_wp2_with fail
    refine HD.out.mono ?_; rintro e w1 ⟨rfl, m, rfl⟩
    go_wp2_with fail
    go_ret3
    exact ⟨ret_three HN.out, below_drew _ _⟩

end Go.Proofs.Ytbmfekhhfacjeaa
