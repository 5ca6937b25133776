/- Contracts of chapter 10's model: one call, calls. (written by spec10.py) -/
import Derived.Test.YtekhdggaelppkaaChecked
import Derived.Test.YtekhdggaelppkaaBase0
import Derived.Test.YtekhdggaelppkaaInfo
import Derived.Test.YtekhdggaelppkaaCallB
import Derived.Test.YtekhdggaelppkaaCallC
import Derived.Test.YtekhdggaelppkaaCallD
import Derived.Test.YtekhdggaelppkaaPure100
import Derived.Test.YtekhdggaelppkaaImpl10a
import Derived.WalkKit
import Derived.WalkSpells
import Derived.WalkLawsBesides
import Derived.Lib.Hide
import Derived.Lib.QuietBelow
import Derived.IntWalk
import Derived.Deep.QuietTactic
import Derived.BigQuiet
import Derived.BigRegion
import Derived.OwnWalk
import Derived.RegionTactic
import Derived.Outline
import Derived.Shelf.Abstract
import Derived.WalkMore
namespace Go.Proofs.Ytekhdggaelppkaa
open Go.Shelf Go.RowKit Go.Sort Pure1 Pure2 Pure20 Pure21 Pure40

theorem specIn10 (n a b : Int) (w : World) :
    Calls Try.prog 70 #[.int .i64 n, .int .i64 a, .int .i64 b] w fun e w' => e = .returned (.bool (inR n a b)) ∧ w' = w := by
  by_cases h1 : a ≤ n
  · go_enter Try.func70, Try.ntmps70
    go_wp2
    go_ret
    exact ⟨ret_bool' (by simp [inR, h1]), rfl⟩
  · have h3 : decide (a ≤ n) = false := decide_eq_false h1
    have h1' : n < a := by omega
    go_enter Try.func70, Try.ntmps70
    go_wp2
    go_ret
    exact ⟨ret_bool' (by simp only [inR, h3, Bool.false_and]), rfl⟩
theorem specIs10 (n : Int) (w : World) :
    Calls Try.prog 71 #[.int .i64 n] w fun e w' => e = .returned (.bool (isDay n)) ∧ w' = w := by
  have HC := Lib.hid (specIn10 n 0 20000 w)
  go_enter Try.func71, Try.ntmps71
  go_wp2_with fail
  refine HC.out.mono ?_; rintro e w1 ⟨rfl, rfl⟩
  go_wp2_with fail
  go_ret
  exact ⟨rfl, rfl⟩
theorem okC_spec (c : Call) : okC c = (inR c.num 1 1000000 && (isDay c.day && (inR c.fst 0 c.day && (inR c.moves 0 2 && ((c.moves == 0) == (c.fst == c.day)))))) := by
  have h : (decide (c.day = c.fst) == decide (c.moves = 0)) = ((c.moves == 0) == (c.fst == c.day)) := by
    by_cases h1 : c.day = c.fst <;> by_cases h2 : c.moves = 0
    · simp [h1, h2]
    · simp [h1, h2]
    · have h3 : ¬ c.fst = c.day := fun e => h1 e.symm
      rw [decide_eq_false h1, decide_eq_true h2, beq_iff_eq.2 h2, beq_eq_false_iff_ne.2 h3]; rfl
    · have h3 : ¬ c.fst = c.day := fun e => h1 e.symm
      rw [decide_eq_false h1, decide_eq_false h2, beq_eq_false_iff_ne.2 h2, beq_eq_false_iff_ne.2 h3]
  unfold okC; rw [h]

set_option maxRecDepth 100000 in
set_option maxHeartbeats 16000000 in
theorem specAreC_any (a : Option Addr) (len cap : Nat) (ts : List Call) (w : World) (hl : ts.length = len) (hm : len ≤ maxLen) (h : Call.ListAt w a ts) :
    Calls Try.prog 27 #[.slice a len cap] w fun e w' => e = .returned (.bool (areC ts)) ∧ Below w.heap.size w w' := by
  unfold maxLen at hm
  have HL := Lib.hid hl; have HI := Lib.hid h; clear hl h
  go_enter Try.func27, Try.ntmps27
  go_wp2_with fail
  go_loopw [3, 4] (fun i _ wr => ∃ k : Nat, k ≤ len ∧ i = .int .i64 k ∧ AreCo ts k ∧ Below w.heap.size w wr) (fun i _ _ => len - (intOf i).toNat)
  case atStart => exact ⟨0, Nat.zero_le _, rfl, areCo_zero ts, Below.refl _ _⟩
  case round =>
    obtain ⟨k, hk, rfl, hA, hB⟩ := hrel
    have HA := Lib.hid hA; have HB := Lib.hid hB; clear hA hB
    by_cases hlt : k < len
    · obtain ⟨b, off, c, ha, hc, hp⟩ := (HI.out.below HB.out).at HL.out hlt
      have HP := Lib.hid hp; clear hp
      subst ha
      obtain ⟨c0, c1, c2, c3⟩ := hc
      go_wp2_with fail
      have hcb := Call.boxed wr c 41
      have hBq := HB.out.alloc HB.out.size (.cells #[.int .i64 c.num, .int .i64 c.fst, .int .i64 c.day, .int .i64 c.moves] 41)
      have hIq := HI.out.below hBq
      generalize wr.alloc (.cells #[.int .i64 c.num, .int .i64 c.fst, .int .i64 c.day, .int .i64 c.moves] 41) = wq at hcb hBq hIq ⊢
      generalize wr.heap.size = bq at hcb ⊢
      have HB2 := Lib.hid hBq; have HI2 := Lib.hid hIq
      obtain ⟨d0, d1, d2, d3⟩ := hcb
      have k0 := cell_regrown d0; have k1 := cell_regrown d1; have k2 := cell_regrown d2; have k3 := cell_regrown d3
      clear c0 c1 c2 c3 d0 d1 d2 d3 hBq hIq
      have HE := Lib.hid (okC_spec c)
      have z1 : (k : Int) < (len : Int) := by omega
      have g1 := regr_call10 (w := wq) (fun W _ => show Calls Try.prog 70 #[.int .i64 c.num, .int .i64 1, .int .i64 1000000] W _ from (specIn10 c.num 1 1000000 W).mono (fun e w' h => ⟨h.1, by rw [h.2]; exact Below.refl _ _⟩))
      have g2 := regr_call10 (w := wq) (fun W _ => show Calls Try.prog 71 #[.int .i64 c.day] W _ from (specIs10 c.day W).mono (fun e w' h => ⟨h.1, by rw [h.2]; exact Below.refl _ _⟩))
      have g3 := regr_call10 (w := wq) (fun W _ => show Calls Try.prog 70 #[.int .i64 c.fst, .int .i64 0, .int .i64 c.day] W _ from (specIn10 c.fst 0 c.day W).mono (fun e w' h => ⟨h.1, by rw [h.2]; exact Below.refl _ _⟩))
      have g4 := regr_call10 (w := wq) (fun W _ => show Calls Try.prog 70 #[.int .i64 c.moves, .int .i64 0, .int .i64 2] W _ from (specIn10 c.moves 0 2 W).mono (fun e w' h => ⟨h.1, by rw [h.2]; exact Below.refl _ _⟩))
      generalize inR c.num 1 1000000 = b1 at g1 HE
      generalize isDay c.day = b2 at g2 HE
      generalize inR c.fst 0 c.day = b3 at g3 HE
      generalize inR c.moves 0 2 = b4 at g4 HE
      refine wp_region_quiet_below (by kernel_rfl) (by kernel_rfl) ?_
      iterate 3 (go_big_quiet_step (exact g1 _ _))
      clear g1
      cases b1
      · have HN := Lib.hid (areC_bad HP.out (show okC c = false by rw [HE.out]; rfl))
        iterate 47 (go_big_quiet_step (fail))
        refine wpQuiet_nil ?_
        intro _ hw'
        obtain ⟨⟨dq, osq⟩, hw''⟩ := hw'
        subst hw''
        have HB5 := Lib.hid (HB2.out.trans ((below_regrown wq dq osq).mono HB2.out.size))
        clear k0 k1 k2 k3 g2 g3 g4
        generalize grow (redrawn wq dq) osq = w5 at HB5 ⊢
        go_wp2_with fail
        go_ret
        exact ⟨ret_bool' HN.out.symm, HB5.out⟩
      iterate 5 (go_big_quiet_step (exact g2 _ _))
      clear g2
      cases b2
      · have HN := Lib.hid (areC_bad HP.out (show okC c = false by rw [HE.out]; rfl))
        iterate 42 (go_big_quiet_step (fail))
        refine wpQuiet_nil ?_
        intro _ hw'
        obtain ⟨⟨dq, osq⟩, hw''⟩ := hw'
        subst hw''
        have HB5 := Lib.hid (HB2.out.trans ((below_regrown wq dq osq).mono HB2.out.size))
        clear k0 k1 k2 k3 g3 g4
        generalize grow (redrawn wq dq) osq = w5 at HB5 ⊢
        go_wp2_with fail
        go_ret
        exact ⟨ret_bool' HN.out.symm, HB5.out⟩
      iterate 8 (go_big_quiet_step (exact g3 _ _))
      clear g3
      cases b3
      · have HN := Lib.hid (areC_bad HP.out (show okC c = false by rw [HE.out]; rfl))
        iterate 34 (go_big_quiet_step (fail))
        refine wpQuiet_nil ?_
        intro _ hw'
        obtain ⟨⟨dq, osq⟩, hw''⟩ := hw'
        subst hw''
        have HB5 := Lib.hid (HB2.out.trans ((below_regrown wq dq osq).mono HB2.out.size))
        clear k0 k1 k2 k3 g4
        generalize grow (redrawn wq dq) osq = w5 at HB5 ⊢
        go_wp2_with fail
        go_ret
        exact ⟨ret_bool' HN.out.symm, HB5.out⟩
      iterate 6 (go_big_quiet_step (exact g4 _ _))
      clear g4
      cases b4
      · have HN := Lib.hid (areC_bad HP.out (show okC c = false by rw [HE.out]; rfl))
        iterate 28 (go_big_quiet_step (fail))
        refine wpQuiet_nil ?_
        intro _ hw'
        obtain ⟨⟨dq, osq⟩, hw''⟩ := hw'
        subst hw''
        have HB5 := Lib.hid (HB2.out.trans ((below_regrown wq dq osq).mono HB2.out.size))
        clear k0 k1 k2 k3 
        generalize grow (redrawn wq dq) osq = w5 at HB5 ⊢
        go_wp2_with fail
        go_ret
        exact ⟨ret_bool' HN.out.symm, HB5.out⟩
      generalize h6 : (c.moves == 0) = b6 at HE
      generalize h5 : (c.fst == c.day) = b5 at HE
      iterate 11 (go_big_quiet_step (fail))
      clear h5 h6
      cases b6
      · cases b5
        · have HN0 := Lib.hid (show okC c = true by rw [HE.out]; rfl)
          clear HE
          iterate 4 (go_big_quiet_step (fail))
          cases k with
          | zero =>
            have HN := Lib.hid (areCo_step HA.out HP.out HN0.out (fun b hb => by omega))
            iterate 13 (go_big_quiet_step (fail))
            refine wpQuiet_nil ?_
            intro _ hw'
            obtain ⟨⟨dq, osq⟩, hw''⟩ := hw'
            subst hw''
            have HB5 := Lib.hid (HB2.out.trans ((below_regrown wq dq osq).mono HB2.out.size))
            clear k0 k1 k2 k3 
            generalize grow (redrawn wq dq) osq = w5 at HB5 ⊢
            go_wp2_with fail
            go_roundw
            case rel => exact ⟨1, by omega, by go_num, HN.out, HB5.out⟩
            case measure => simp [intOf]; omega
          | succ j =>
            obtain ⟨b', off', q, e, hc2, hq⟩ := HI2.out.at HL.out (show j < len by omega)
            cases e
            have HQ := Lib.hid hq; clear hq
            have e0 := cell_regrown hc2.1
            have ej : ((j + 1 : Nat) : Int) - 1 = (j : Int) := by omega
            have hj0 : (0 : Int) < ((j + 1 : Nat) : Int) := by omega
            clear hc2
            by_cases hqp : q.num < c.num
            · have HN := Lib.hid (areCo_prev HA.out HQ.out HP.out HN0.out hqp)
              have hd : decide (c.num ≤ q.num) = false := decide_eq_false (by omega)
              clear hqp
              iterate 13 (go_big_quiet_step (fail))
              refine wpQuiet_nil ?_
              intro _ hw'
              obtain ⟨⟨dq, osq⟩, hw''⟩ := hw'
              subst hw''
              have HB5 := Lib.hid (HB2.out.trans ((below_regrown wq dq osq).mono HB2.out.size))
              clear k0 k1 k2 k3 e0
              generalize grow (redrawn wq dq) osq = w5 at HB5 ⊢
              go_wp2_with fail
              go_roundw
              case rel => exact ⟨j + 1 + 1, by omega, by go_num, HN.out, HB5.out⟩
              case measure => simp [intOf]; omega
            · have HN := Lib.hid (areC_turn HP.out HQ.out hqp)
              have hd : decide (c.num ≤ q.num) = true := decide_eq_true (by omega)
              clear hqp
              iterate 13 (go_big_quiet_step (fail))
              refine wpQuiet_nil ?_
              intro _ hw'
              obtain ⟨⟨dq, osq⟩, hw''⟩ := hw'
              subst hw''
              have HB5 := Lib.hid (HB2.out.trans ((below_regrown wq dq osq).mono HB2.out.size))
              clear k0 k1 k2 k3 e0
              generalize grow (redrawn wq dq) osq = w5 at HB5 ⊢
              go_wp2_with fail
              go_ret
              exact ⟨ret_bool' HN.out.symm, HB5.out⟩
        · have HN := Lib.hid (areC_bad HP.out (show okC c = false by rw [HE.out]; rfl))
          clear HE
          iterate 17 (go_big_quiet_step (fail))
          refine wpQuiet_nil ?_
          intro _ hw'
          obtain ⟨⟨dq, osq⟩, hw''⟩ := hw'
          subst hw''
          have HB5 := Lib.hid (HB2.out.trans ((below_regrown wq dq osq).mono HB2.out.size))
          clear k0 k1 k2 k3 
          generalize grow (redrawn wq dq) osq = w5 at HB5 ⊢
          go_wp2_with fail
          go_ret
          exact ⟨ret_bool' HN.out.symm, HB5.out⟩
      · cases b5
        · have HN := Lib.hid (areC_bad HP.out (show okC c = false by rw [HE.out]; rfl))
          clear HE
          iterate 17 (go_big_quiet_step (fail))
          refine wpQuiet_nil ?_
          intro _ hw'
          obtain ⟨⟨dq, osq⟩, hw''⟩ := hw'
          subst hw''
          have HB5 := Lib.hid (HB2.out.trans ((below_regrown wq dq osq).mono HB2.out.size))
          clear k0 k1 k2 k3 
          generalize grow (redrawn wq dq) osq = w5 at HB5 ⊢
          go_wp2_with fail
          go_ret
          exact ⟨ret_bool' HN.out.symm, HB5.out⟩
        · have HN0 := Lib.hid (show okC c = true by rw [HE.out]; rfl)
          clear HE
          iterate 4 (go_big_quiet_step (fail))
          cases k with
          | zero =>
            have HN := Lib.hid (areCo_step HA.out HP.out HN0.out (fun b hb => by omega))
            iterate 13 (go_big_quiet_step (fail))
            refine wpQuiet_nil ?_
            intro _ hw'
            obtain ⟨⟨dq, osq⟩, hw''⟩ := hw'
            subst hw''
            have HB5 := Lib.hid (HB2.out.trans ((below_regrown wq dq osq).mono HB2.out.size))
            clear k0 k1 k2 k3 
            generalize grow (redrawn wq dq) osq = w5 at HB5 ⊢
            go_wp2_with fail
            go_roundw
            case rel => exact ⟨1, by omega, by go_num, HN.out, HB5.out⟩
            case measure => simp [intOf]; omega
          | succ j =>
            obtain ⟨b', off', q, e, hc2, hq⟩ := HI2.out.at HL.out (show j < len by omega)
            cases e
            have HQ := Lib.hid hq; clear hq
            have e0 := cell_regrown hc2.1
            have ej : ((j + 1 : Nat) : Int) - 1 = (j : Int) := by omega
            have hj0 : (0 : Int) < ((j + 1 : Nat) : Int) := by omega
            clear hc2
            by_cases hqp : q.num < c.num
            · have HN := Lib.hid (areCo_prev HA.out HQ.out HP.out HN0.out hqp)
              have hd : decide (c.num ≤ q.num) = false := decide_eq_false (by omega)
              clear hqp
              iterate 13 (go_big_quiet_step (fail))
              refine wpQuiet_nil ?_
              intro _ hw'
              obtain ⟨⟨dq, osq⟩, hw''⟩ := hw'
              subst hw''
              have HB5 := Lib.hid (HB2.out.trans ((below_regrown wq dq osq).mono HB2.out.size))
              clear k0 k1 k2 k3 e0
              generalize grow (redrawn wq dq) osq = w5 at HB5 ⊢
              go_wp2_with fail
              go_roundw
              case rel => exact ⟨j + 1 + 1, by omega, by go_num, HN.out, HB5.out⟩
              case measure => simp [intOf]; omega
            · have HN := Lib.hid (areC_turn HP.out HQ.out hqp)
              have hd : decide (c.num ≤ q.num) = true := decide_eq_true (by omega)
              clear hqp
              iterate 13 (go_big_quiet_step (fail))
              refine wpQuiet_nil ?_
              intro _ hw'
              obtain ⟨⟨dq, osq⟩, hw''⟩ := hw'
              subst hw''
              have HB5 := Lib.hid (HB2.out.trans ((below_regrown wq dq osq).mono HB2.out.size))
              clear k0 k1 k2 k3 e0
              generalize grow (redrawn wq dq) osq = w5 at HB5 ⊢
              go_wp2_with fail
              go_ret
              exact ⟨ret_bool' HN.out.symm, HB5.out⟩
    · have HN := Lib.hid (areC_end HA.out (show ts.length ≤ k by rw [HL.out]; omega))
      rw [HL.out] at HN
      go_wp2_with fail
      go_ret
      exact ⟨ret_bool' (by rw [HN.out]; exact decide_eq_decide.2 (by omega)), HB.out⟩

end Go.Proofs.Ytekhdggaelppkaa
