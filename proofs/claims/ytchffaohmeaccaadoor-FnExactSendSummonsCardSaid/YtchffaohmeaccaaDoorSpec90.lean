/- Contracts of chapter 9's model: one summons, summonses, the code, open, reminded. (written by impl9.py) -/
import Derived.Test.YtchffaohmeaccaaDoorChecked
import Derived.Test.YtchffaohmeaccaaDoorBase0
import Derived.Test.YtchffaohmeaccaaDoorInfo
import Derived.Test.YtchffaohmeaccaaDoorSummonsB
import Derived.Test.YtchffaohmeaccaaDoorImpl9a
import Derived.WalkKit
import Derived.WalkSpells
import Derived.WalkLawsBesides
import Derived.Lib.Hide
import Derived.Lib.QuietBelow
import Derived.IntWalk
import Derived.Deep.QuietTactic
import Derived.BigQuiet
import Derived.BigRegion
import Derived.OwnWalk
import Derived.RegionTactic
import Derived.Outline
namespace Go.Proofs.YtchffaohmeaccaaDoor
open Go.RowKit Go.Sort Pure1 Pure2 Pure20 Pure40

theorem specIn9 (n a b : Int) (w : World) :
    Calls Tryd.prog 58 #[.int .i64 n, .int .i64 a, .int .i64 b] w fun e w' => e = .returned (.bool (inR n a b)) ∧ w' = w := by
  by_cases h1 : a ≤ n
  · go_enter Tryd.func58, Tryd.ntmps58
    go_wp2
    go_ret
    exact ⟨ret_bool' (by simp [inR, h1]), rfl⟩
  · have h3 : decide (a ≤ n) = false := decide_eq_false h1
    have h1' : n < a := by omega
    go_enter Tryd.func58, Tryd.ntmps58
    go_wp2
    go_ret
    exact ⟨ret_bool' (by simp only [inR, h3, Bool.false_and]), rfl⟩
theorem specIs9 (n : Int) (w : World) :
    Calls Tryd.prog 63 #[.int .i64 n] w fun e w' => e = .returned (.bool (isDay n)) ∧ w' = w := by
  have HC := Lib.hid (specIn9 n 0 20000 w)
  go_enter Tryd.func63, Tryd.ntmps63
  go_wp2_with fail
  refine HC.out.mono ?_; rintro e w1 ⟨rfl, rfl⟩
  go_wp2_with fail
  go_ret
  exact ⟨rfl, rfl⟩

set_option maxRecDepth 100000 in
set_option maxHeartbeats 2000000 in
theorem specIsM_any (c : Summons) (w : World) :
    Calls Tryd.prog 73 #[.agg #[.int .i64 c.num, .int .i64 c.sent, .int .i64 c.due, .int .i64 c.ans, .int .i64 c.done]] w fun e w' => e = .returned (.bool (okM c)) ∧ Below w.heap.size w w' := by
  have HA := Lib.hid (Summons.boxed w c 53)
  have HW := Lib.hid (Summons.bx w (.cells #[.int .i64 c.num, .int .i64 c.sent, .int .i64 c.due, .int .i64 c.ans, .int .i64 c.done] 53))
  have H1 := Lib.hid (fun W => specIn9 c.num 1 1000000 W)
  have H2 := Lib.hid (fun W => specIs9 c.sent W)
  have H3 := Lib.hid (fun W => specIn9 c.due c.sent 20000 W)
  have H4 := Lib.hid (fun W => specIn9 c.ans 0 3 W)
  have H5 := Lib.hid (fun W => specIn9 c.done c.sent 20000 W)
  have HE := Lib.hid (okM_spec c)
  generalize okM c = v at HE ⊢
  generalize inR c.num 1 1000000 = b1 at H1 HE
  generalize isDay c.sent = b2 at H2 HE
  generalize inR c.due c.sent 20000 = b3 at H3 HE
  generalize inR c.ans 0 3 = b4 at H4 HE
  generalize inR c.done c.sent 20000 = b5 at H5 HE
  go_enter Tryd.func73, Tryd.ntmps73
  obtain ⟨a0, a1, a2, a3, a4⟩ := HA.out
  go_wp2_with fail
  refine (H1.out _).mono ?_; rintro e w1 ⟨rfl, hw⟩
  subst hw
  cases b1
  · go_wp2_with fail
    go_ret
    exact ⟨ret_bool' (by rw [HE.out]; rfl), HW.out⟩
  go_wp2_with fail
  refine (H2.out _).mono ?_; rintro e w1 ⟨rfl, hw⟩
  subst hw
  cases b2
  · go_wp2_with fail
    go_ret
    exact ⟨ret_bool' (by rw [HE.out]; rfl), HW.out⟩
  go_wp2_with fail
  refine (H3.out _).mono ?_; rintro e w1 ⟨rfl, hw⟩
  subst hw
  cases b3
  · go_wp2_with fail
    go_ret
    exact ⟨ret_bool' (by rw [HE.out]; rfl), HW.out⟩
  go_wp2_with fail
  refine (H4.out _).mono ?_; rintro e w1 ⟨rfl, hw⟩
  subst hw
  cases b4
  · go_wp2_with fail
    go_ret
    exact ⟨ret_bool' (by rw [HE.out]; rfl), HW.out⟩
  by_cases h0 : c.ans = 0
  · have h0b : (c.ans == 0) = true := beq_iff_eq.2 h0
    rw [if_pos h0] at HE
    clear h0
    go_wp2_with fail
    go_ret
    exact ⟨ret_bool' (by rw [HE.out]; rfl), HW.out⟩
  · have h0b : (c.ans == 0) = false := beq_eq_false_iff_ne.2 h0
    rw [if_neg h0] at HE
    clear h0
    go_wp2_with fail
    refine (H5.out _).mono ?_; rintro e w1 ⟨rfl, hw⟩
    subst hw
    go_wp2_with fail
    go_ret
    exact ⟨ret_bool' (by rw [HE.out]; rfl), HW.out⟩

set_option maxRecDepth 100000 in
set_option maxHeartbeats 4000000 in
theorem specAreM_any (a : Option Addr) (len cap : Nat) (ts : List Summons) (w : World) (hl : ts.length = len) (hm : len ≤ maxLen) (h : Summons.ListAt w a ts) :
    Calls Tryd.prog 57 #[.slice a len cap] w fun e w' => e = .returned (.bool (areM ts)) ∧ Below w.heap.size w w' := by
  unfold maxLen at hm
  have HL := Lib.hid hl; have HI := Lib.hid h; clear hl h
  go_enter Tryd.func57, Tryd.ntmps57
  go_wp2_with fail
  go_loopw [3] (fun i wr => ∃ k : Nat, k ≤ len ∧ i = .int .i64 k ∧ AreMo ts k ∧ Below w.heap.size w wr) (fun i _ => len - (intOf i).toNat)
  case atStart => exact ⟨0, Nat.zero_le _, rfl, areMo_zero ts, Below.refl _ _⟩
  case round =>
    obtain ⟨k, hk, rfl, hA, hB⟩ := hrel
    have HA := Lib.hid hA; have HB := Lib.hid hB; clear hA hB
    by_cases hlt : k < len
    · obtain ⟨b, off, c, ha, hc, hp⟩ := (HI.out.below HB.out).at HL.out hlt
      have HP := Lib.hid hp; clear hp
      subst ha
      obtain ⟨c0, c1, c2, c3, c4⟩ := hc
      go_wp2_with fail
      have HB2 := Lib.hid HB.out; have HI2 := Lib.hid (HI.out.below HB.out)
      have k0 := cell_regrown c0; have k1 := cell_regrown c1; have k2 := cell_regrown c2; have k3 := cell_regrown c3; have k4 := cell_regrown c4
      clear c0 c1 c2 c3 c4
      have hcall := regr_call9 (w := wr) (fun W _ => show Calls Tryd.prog 73 #[.agg #[.int .i64 c.num, .int .i64 c.sent, .int .i64 c.due, .int .i64 c.ans, .int .i64 c.done]] W _ from specIsM_any c W)
      cases hip : okM c
      · have HN := Lib.hid (areM_bad HP.out hip)
        rw [hip] at hcall
        clear hip
        refine wp_region_quiet_below (by kernel_rfl) (by kernel_rfl) ?_
        iterate 24 (go_big_quiet_step (exact hcall _ _))
        refine wpQuiet_nil ?_
        intro _ hw'
        obtain ⟨⟨dq, osq⟩, hw''⟩ := hw'
        subst hw''
        have HB5 := Lib.hid (HB2.out.trans ((below_regrown wr dq osq).mono HB2.out.size))
        clear hcall k0 k1 k2 k3 k4 
        generalize grow (redrawn wr dq) osq = w5 at HB5 ⊢
        go_wp2_with fail
        go_ret
        exact ⟨ret_bool' HN.out.symm, HB5.out⟩
      · rw [hip] at hcall
        cases k with
        | zero =>
          have HN := Lib.hid (areMo_step HA.out HP.out hip (fun b hb => by omega))
          clear hip
          simp only [Nat.zero_mul, Nat.add_zero] at k0 k1 k2 k3 k4
          refine wp_region_quiet_below (by kernel_rfl) (by kernel_rfl) ?_
          iterate 24 (go_big_quiet_step (exact hcall _ _))
          refine wpQuiet_nil ?_
          intro _ hw'
          obtain ⟨⟨dq, osq⟩, hw''⟩ := hw'
          subst hw''
          have HB5 := Lib.hid (HB2.out.trans ((below_regrown wr dq osq).mono HB2.out.size))
          clear hcall k0 k1 k2 k3 k4 
          generalize grow (redrawn wr dq) osq = w5 at HB5 ⊢
          go_wp2_with fail
          go_roundw
          case rel => exact ⟨1, by omega, by go_num, HN.out, HB5.out⟩
          case measure => simp [intOf]; omega
        | succ j =>
          obtain ⟨b', off', q, e, hc2, hq⟩ := HI2.out.at HL.out (show j < len by omega)
          cases e
          have HQ := Lib.hid hq; clear hq
          have e0 := cell_regrown hc2.1
          have ej : ((j + 1 : Nat) : Int) - 1 = (j : Int) := by omega
          have hj0 : (0 : Int) < ((j + 1 : Nat) : Int) := by omega
          clear hc2
          by_cases hqp : q.num < c.num
          · have HN := Lib.hid (areMo_prev HA.out HQ.out HP.out hip hqp)
            have hd : decide (c.num ≤ q.num) = false := decide_eq_false (by omega)
            clear hip hqp
            refine wp_region_quiet_below (by kernel_rfl) (by kernel_rfl) ?_
            iterate 24 (go_big_quiet_step (exact hcall _ _))
            refine wpQuiet_nil ?_
            intro _ hw'
            obtain ⟨⟨dq, osq⟩, hw''⟩ := hw'
            subst hw''
            have HB5 := Lib.hid (HB2.out.trans ((below_regrown wr dq osq).mono HB2.out.size))
            clear hcall k0 k1 k2 k3 k4 e0
            generalize grow (redrawn wr dq) osq = w5 at HB5 ⊢
            go_wp2_with fail
            go_roundw
            case rel => exact ⟨j + 1 + 1, by omega, by go_num, HN.out, HB5.out⟩
            case measure => simp [intOf]; omega
          · have HN := Lib.hid (areM_turn HP.out HQ.out hqp)
            have hd : decide (c.num ≤ q.num) = true := decide_eq_true (by omega)
            clear hip hqp
            refine wp_region_quiet_below (by kernel_rfl) (by kernel_rfl) ?_
            iterate 24 (go_big_quiet_step (exact hcall _ _))
            refine wpQuiet_nil ?_
            intro _ hw'
            obtain ⟨⟨dq, osq⟩, hw''⟩ := hw'
            subst hw''
            have HB5 := Lib.hid (HB2.out.trans ((below_regrown wr dq osq).mono HB2.out.size))
            clear hcall k0 k1 k2 k3 k4 e0
            generalize grow (redrawn wr dq) osq = w5 at HB5 ⊢
            go_wp2_with fail
            go_ret
            exact ⟨ret_bool' HN.out.symm, HB5.out⟩
    · have HN := Lib.hid (areM_end HA.out (show ts.length ≤ k by rw [HL.out]; omega))
      rw [HL.out] at HN
      go_wp2_with fail
      go_ret
      exact ⟨ret_bool' (by rw [HN.out]; exact decide_eq_decide.2 (by omega)), HB.out⟩

end Go.Proofs.YtchffaohmeaccaaDoor
