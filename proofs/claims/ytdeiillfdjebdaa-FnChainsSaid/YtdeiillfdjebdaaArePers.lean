/- Contracts: impl.ArePersons and spec.ArePersons. -/
import Derived.Test.YtdeiillfdjebdaaChecked
import Derived.Test.YtdeiillfdjebdaaBase
import Derived.Test.YtdeiillfdjebdaaPure40
import Derived.Test.YtdeiillfdjebdaaIsPers
import Derived.Test.YtdeiillfdjebdaaPersSlice
import Derived.WalkKit
import Derived.WalkSpells
import Derived.WalkLawsBesides
import Derived.Lib.Hide
import Derived.Lib.QuietBelow
import Derived.IntWalk
import Derived.Deep.QuietTactic
import Derived.BigQuiet
import Derived.Outline
import Derived.Shelf.Abstract
namespace Go.Proofs.Ytdeiillfdjebdaa
open Go.Shelf Go.RowKit Go.Sort Pure1 Pure40

set_option maxHeartbeats 1000000 in
theorem implNumberP_any (p : Pers) (w : World) :
    Calls Try.prog 114 #[.agg #[.int .i64 p.num, .string p.fst, .string p.lst, .int .i64 p.born, .int .i64 p.zone]] w fun e w' => e = .returned (.int .i64 p.num) ∧ Below w.heap.size w w' := by
  have HA := Lib.hid (atB_box w p.num p.fst p.lst p.born p.zone 51)
  have HW := Lib.hid ((Below.refl w.heap.size w).alloc (Nat.le_refl _) (.cells #[.int .i64 p.num, .string p.fst, .string p.lst, .int .i64 p.born, .int .i64 p.zone] 51))
  go_enter Try.func114, Try.ntmps114
  obtain ⟨a0, a1, a2, a3, a4⟩ := HA.out
  go_wp2_with fail
  go_ret
  exact ⟨rfl, HW.out⟩

set_option maxRecDepth 100000 in
set_option maxHeartbeats 8000000 in
theorem implInOrderP_any (a : Option Addr) (len cap : Nat) (ps : List Pers) (w : World) (hl : ps.length = len) (hm : len ≤ maxLen) (hI : PersAt w a ps) (hF : Fits ps) :
    Calls Try.prog 86 #[.slice a len cap, .int .i64 12, .func (.func 73) #[] #[]] w (SaysBB (arePers ps) w) := by
  unfold maxLen at hm
  have HL := Lib.hid hl; have HI := Lib.hid hI; have HF := Lib.hid hF
  clear hl hI hF
  have eg : ∀ args w, (callFunc 73 args).run Try.prog w = .ok (.enter 73 args) w := enters_of Try.func73 (by kernel_rfl) rfl
  have egn : ∀ args w, (callFunc 114 args).run Try.prog w = .ok (.enter 114 args) w := enters_of Try.func114 (by kernel_rfl) rfl
  have hmeth : ∀ (n : Nat) v W, (method (n + 1) 51 v "loop.example/g01027/impl.number").run Try.prog W = .ok (114, v) W := fun n v W => by kernel_rfl
  go_enter Try.func86, Try.ntmps86
  go_wp2
  go_loopw [7, 8, 11] (fun _ _ i wr => ∃ k : Nat, k ≤ len ∧ i = .int .i64 k ∧ (∀ j, j < k → okAt ps j = true) ∧ Below w.heap.size w wr) (fun _ _ i _ => len - (intOf i).toNat)
  case atStart => exact ⟨0, Nat.zero_le _, rfl, fun j hj => by omega, Below.refl _ _⟩
  case round =>
    obtain ⟨k, hk, rfl, hall, hB⟩ := hrel
    have HA := Lib.hid hall; have HB := Lib.hid hB; clear hall hB
    by_cases hlt : k < len
    · obtain ⟨b, off, p, rfl, hc, hp⟩ := (HI.out.below HB.out).at HL.out hlt
      obtain ⟨c0, c1, c2, c3, c4⟩ := id hc
      go_wp2_with fail
      have hcb := atB_box wr p.num p.fst p.lst p.born p.zone 51
      have hBq := HB.out.alloc HB.out.size (.cells #[.int .i64 p.num, .string p.fst, .string p.lst, .int .i64 p.born, .int .i64 p.zone] 51)
      have hIq := HI.out.below hBq
      generalize wr.alloc (.cells #[.int .i64 p.num, .string p.fst, .string p.lst, .int .i64 p.born, .int .i64 p.zone] 51) = wq at hcb hBq hIq ⊢
      generalize wr.heap.size = bq at hcb ⊢
      have HB2 := Lib.hid hBq; have HI2 := Lib.hid hIq
      obtain ⟨d0, d1, d2, d3, d4⟩ := hcb
      have k0 := cell_regrown d0; have k1 := cell_regrown d1; have k2 := cell_regrown d2; have k3 := cell_regrown d3; have k4 := cell_regrown d4
      obtain ⟨hf, hl⟩ := HF.out.at hp
      clear c0 c1 c2 c3 c4 hc d0 d1 d2 d3 d4 hBq hIq
      have hcall := regr_call (w := wq) (fun W _ => show Calls Try.prog 73 #[.agg #[.int .i64 p.num, .string p.fst, .string p.lst, .int .i64 p.born, .int .i64 p.zone]] W _ from implIsPerson_any p.num p.fst p.lst p.born p.zone W hf hl)
      have hnum := regr_call (w := wq) (fun W _ => show Calls Try.prog 114 #[.agg #[.int .i64 p.num, .string p.fst, .string p.lst, .int .i64 p.born, .int .i64 p.zone]] W _ from implNumberP_any p W)
      have heta : isPers ⟨p.num, p.fst, p.lst, p.born, p.zone⟩ = isPers p := rfl
      rw [heta] at hcall
      clear heta
      cases hip : isPers p
      · have HN := Lib.hid (arePers_no (k := k) (by rw [HL.out]; exact hlt) (show okAt ps k = false by cases k with | zero => rw [okAt_zero hp]; exact hip | succ j => simp [okAt, hp, hip]))
        rw [hip] at hcall
        clear hip
        refine wp_region_quiet_below (by kernel_rfl) (by kernel_rfl) ?_
        iterate 21 (go_big_quiet_step (first | exact hcall _ _ | exact hnum _ _ | exact hprev _ _))
        refine wpQuiet_nil ?_
        intro _ hw'
        obtain ⟨⟨dq, osq⟩, hw''⟩ := hw'
        subst hw''
        have HB5 := Lib.hid (HB2.out.trans ((below_regrown wq dq osq).mono HB2.out.size))
        clear hcall hnum k0 k1 k2 k3 k4
        generalize grow (redrawn wq dq) osq = w5 at HB5 ⊢
        go_wp2_with fail
        go_ret
        exact ⟨ret_bool HN.out.symm, HB5.out⟩
      · rw [hip] at hcall
        cases k with
        | zero =>
          have HN := Lib.hid (show okAt ps 0 = true by rw [okAt_zero hp]; exact hip)
          clear hip
          refine wp_region_quiet_below (by kernel_rfl) (by kernel_rfl) ?_
          iterate 21 (go_big_quiet_step (first | exact hcall _ _ | exact hnum _ _ | exact hprev _ _))
          refine wpQuiet_nil ?_
          intro _ hw'
          obtain ⟨⟨dq, osq⟩, hw''⟩ := hw'
          subst hw''
          have HB5 := Lib.hid (HB2.out.trans ((below_regrown wq dq osq).mono HB2.out.size))
          clear hcall hnum k0 k1 k2 k3 k4
          generalize grow (redrawn wq dq) osq = w5 at HB5 ⊢
          go_wp2_with fail
          go_roundw
          case rel => exact ⟨1, by omega, by go_num, fun j hj => (by obtain rfl : j = 0 := (by omega); exact HN.out), HB5.out⟩
          case measure => simp [intOf]; omega
        | succ j =>
          obtain ⟨b', off', q, e, hc2, hq⟩ := HI2.out.at HL.out (show j < len by omega)
          cases e
          have e0 := cell_regrown hc2.1; have e1 := cell_regrown hc2.2.1; have e2 := cell_regrown hc2.2.2.1; have e3 := cell_regrown hc2.2.2.2.1; have e4 := cell_regrown hc2.2.2.2.2
          have hprev := regr_call (w := wq) (fun W _ => show Calls Try.prog 114 #[.agg #[.int .i64 q.num, .string q.fst, .string q.lst, .int .i64 q.born, .int .i64 q.zone]] W _ from implNumberP_any q W)
          have ej : ((j + 1 : Nat) : Int) - 1 = (j : Int) := by omega
          have hj0 : (0 : Int) < ((j + 1 : Nat) : Int) := by omega
          have hok := okAt_succ hp hq
          clear hc2
          rw [hip, Bool.true_and] at hok
          by_cases hqp : q.num < p.num
          · have HN := Lib.hid (hok.trans (decide_eq_true hqp))
            have hd : decide (p.num ≤ q.num) = false := decide_eq_false (by omega)
            clear hok hip hqp
            refine wp_region_quiet_below (by kernel_rfl) (by kernel_rfl) ?_
            iterate 21 (go_big_quiet_step (first | exact hcall _ _ | exact hnum _ _ | exact hprev _ _))
            refine wpQuiet_nil ?_
            intro _ hw'
            obtain ⟨⟨dq, osq⟩, hw''⟩ := hw'
            subst hw''
            have HB5 := Lib.hid (HB2.out.trans ((below_regrown wq dq osq).mono HB2.out.size))
            clear hcall hnum hprev k0 k1 k2 k3 k4 e0 e1 e2 e3 e4
            generalize grow (redrawn wq dq) osq = w5 at HB5 ⊢
            go_wp2_with fail
            go_roundw
            case rel => exact ⟨j + 1 + 1, by omega, by go_num, fun m hm => (by
              by_cases e : m < j + 1
              · exact HA.out m e
              · obtain rfl : m = j + 1 := (by omega)
                exact HN.out), HB5.out⟩
            case measure => simp [intOf]; omega
          · have HN := Lib.hid (arePers_no (k := j + 1) (by rw [HL.out]; exact hlt) (hok.trans (decide_eq_false hqp)))
            have hd : decide (p.num ≤ q.num) = true := decide_eq_true (by omega)
            clear hok hip hqp
            refine wp_region_quiet_below (by kernel_rfl) (by kernel_rfl) ?_
            iterate 21 (go_big_quiet_step (first | exact hcall _ _ | exact hnum _ _ | exact hprev _ _))
            refine wpQuiet_nil ?_
            intro _ hw'
            obtain ⟨⟨dq, osq⟩, hw''⟩ := hw'
            subst hw''
            have HB5 := Lib.hid (HB2.out.trans ((below_regrown wq dq osq).mono HB2.out.size))
            clear hcall hnum hprev k0 k1 k2 k3 k4 e0 e1 e2 e3 e4
            generalize grow (redrawn wq dq) osq = w5 at HB5 ⊢
            go_wp2_with fail
            go_ret
            exact ⟨ret_bool HN.out.symm, HB5.out⟩
    · have HN := Lib.hid (arePers_end (k := k) HA.out (by rw [HL.out]; omega))
      go_wp2
      go_ret
      exact ⟨ret_bool (by rw [HN.out, HL.out]; exact decide_eq_decide.2 (by omega)), HB.out⟩

set_option maxHeartbeats 1000000 in
theorem implArePersons_any (a : Option Addr) (len cap : Nat) (ps : List Pers) (w : World) (hl : ps.length = len) (hm : len ≤ maxLen) (hI : PersAt w a ps) (hF : Fits ps) :
    Calls Try.prog 61 #[.slice a len cap] w (SaysBB (arePers ps) w) := by
  have HC := Lib.hid (implInOrderP_any a len cap ps w hl hm hI hF)
  generalize arePers ps = v at HC ⊢
  clear hl hI hF
  go_enter Try.func61, Try.ntmps61
  go_wp2_with fail
  refine HC.out.mono ?_; rintro e w1 ⟨rfl, hB⟩
  have HB := Lib.hid hB; clear hB
  go_wp2_with fail
  go_ret
  exact ⟨rfl, HB.out⟩

set_option maxRecDepth 100000 in
set_option maxHeartbeats 2000000 in
theorem specArePersons_any (a : Option Addr) (len cap : Nat) (ps : List Pers) (w : World) (hl : ps.length = len) (hm : len ≤ maxLen) (hI : PersAt w a ps) (hF : Fits ps) :
    Calls Try.prog 64 #[.slice a len cap] w (SaysBB (arePers ps) w) := by
  unfold maxLen at hm
  have HL := Lib.hid hl; have HI := Lib.hid hI; have HF := Lib.hid hF
  clear hl hI hF
  go_enter Try.func64, Try.ntmps64
  go_wp2
  go_loopw [3] (fun i wr => ∃ k : Nat, k ≤ len ∧ i = .int .i64 k ∧ (∀ j, j < k → okAt ps j = true) ∧ Below w.heap.size w wr) (fun i _ => len - (intOf i).toNat)
  case atStart => exact ⟨0, Nat.zero_le _, rfl, fun j hj => by omega, Below.refl _ _⟩
  case round =>
    obtain ⟨k, hk, rfl, hall, hB⟩ := hrel
    have HA := Lib.hid hall; have HB := Lib.hid hB; clear hall hB
    by_cases hlt : k < len
    · obtain ⟨b, off, p, rfl, hc, hp⟩ := (HI.out.below HB.out).at HL.out hlt
      have HI2 := Lib.hid (HI.out.below HB.out)
      go_wp2_with fail
      obtain ⟨d0, d1, d2, d3, d4⟩ := hc
      have k0 := cell_regrown d0; have k1 := cell_regrown d1; have k2 := cell_regrown d2; have k3 := cell_regrown d3; have k4 := cell_regrown d4
      obtain ⟨hf, hl⟩ := HF.out.at hp
      clear d0 d1 d2 d3 d4
      have hcall := regr_call (w := wr) (fun W _ => show Calls Try.prog 89 #[.agg #[.int .i64 p.num, .string p.fst, .string p.lst, .int .i64 p.born, .int .i64 p.zone]] W _ from specIsPerson_any p.num p.fst p.lst p.born p.zone W hf hl)
      have heta : isPers ⟨p.num, p.fst, p.lst, p.born, p.zone⟩ = isPers p := rfl
      rw [heta] at hcall
      clear heta
      cases hip : isPers p
      · have HN := Lib.hid (arePers_no (k := k) (by rw [HL.out]; exact hlt) (show okAt ps k = false by cases k with | zero => rw [okAt_zero hp]; exact hip | succ j => simp [okAt, hp, hip]))
        rw [hip] at hcall
        clear hip
        refine wp_region_quiet_below (by kernel_rfl) (by kernel_rfl) ?_
        iterate 24 (go_big_quiet_step (exact hcall _ _))
        refine wpQuiet_nil ?_
        intro _ hw'
        obtain ⟨⟨dq, osq⟩, hw''⟩ := hw'
        subst hw''
        have HB5 := Lib.hid (HB.out.trans ((below_regrown wr dq osq).mono HB.out.size))
        clear hcall k0 k1 k2 k3 k4 
        generalize grow (redrawn wr dq) osq = w5 at HB5 ⊢
        go_wp2_with fail
        go_ret
        exact ⟨ret_bool HN.out.symm, HB5.out⟩
      · rw [hip] at hcall
        cases k with
        | zero =>
          simp only [Nat.zero_mul, Nat.add_zero] at k0 k1 k2 k3 k4
          have HN := Lib.hid (show okAt ps 0 = true by rw [okAt_zero hp]; exact hip)
          clear hip
          refine wp_region_quiet_below (by kernel_rfl) (by kernel_rfl) ?_
          iterate 24 (go_big_quiet_step (exact hcall _ _))
          refine wpQuiet_nil ?_
          intro _ hw'
          obtain ⟨⟨dq, osq⟩, hw''⟩ := hw'
          subst hw''
          have HB5 := Lib.hid (HB.out.trans ((below_regrown wr dq osq).mono HB.out.size))
          clear hcall k0 k1 k2 k3 k4 
          generalize grow (redrawn wr dq) osq = w5 at HB5 ⊢
          go_wp2_with fail
          go_roundw
          case rel => exact ⟨1, by omega, by go_num, fun j hj => (by obtain rfl : j = 0 := (by omega); exact HN.out), HB5.out⟩
          case measure => simp [intOf]; omega
        | succ j =>
          obtain ⟨b', off', q, e, hc2, hq⟩ := HI2.out.at HL.out (show j < len by omega)
          cases e
          have e0 := cell_regrown hc2.1
          have ej : ((j + 1 : Nat) : Int) - 1 = (j : Int) := by omega
          have hj0 : (0 : Int) < ((j + 1 : Nat) : Int) := by omega
          have hok := okAt_succ hp hq
          clear hc2
          rw [hip, Bool.true_and] at hok
          by_cases hqp : q.num < p.num
          · have HN := Lib.hid (hok.trans (decide_eq_true hqp))
            have hd : decide (p.num ≤ q.num) = false := decide_eq_false (by omega)
            clear hok hip hqp
            refine wp_region_quiet_below (by kernel_rfl) (by kernel_rfl) ?_
            iterate 24 (go_big_quiet_step (exact hcall _ _))
            refine wpQuiet_nil ?_
            intro _ hw'
            obtain ⟨⟨dq, osq⟩, hw''⟩ := hw'
            subst hw''
            have HB5 := Lib.hid (HB.out.trans ((below_regrown wr dq osq).mono HB.out.size))
            clear hcall k0 k1 k2 k3 k4 e0
            generalize grow (redrawn wr dq) osq = w5 at HB5 ⊢
            go_wp2_with fail
            go_roundw
            case rel => exact ⟨j + 1 + 1, by omega, by go_num, fun m hm => (by
              by_cases e : m < j + 1
              · exact HA.out m e
              · obtain rfl : m = j + 1 := (by omega)
                exact HN.out), HB5.out⟩
            case measure => simp [intOf]; omega
          · have HN := Lib.hid (arePers_no (k := j + 1) (by rw [HL.out]; exact hlt) (hok.trans (decide_eq_false hqp)))
            have hd : decide (p.num ≤ q.num) = true := decide_eq_true (by omega)
            clear hok hip hqp
            refine wp_region_quiet_below (by kernel_rfl) (by kernel_rfl) ?_
            iterate 24 (go_big_quiet_step (exact hcall _ _))
            refine wpQuiet_nil ?_
            intro _ hw'
            obtain ⟨⟨dq, osq⟩, hw''⟩ := hw'
            subst hw''
            have HB5 := Lib.hid (HB.out.trans ((below_regrown wr dq osq).mono HB.out.size))
            clear hcall k0 k1 k2 k3 k4 e0
            generalize grow (redrawn wr dq) osq = w5 at HB5 ⊢
            go_wp2_with fail
            go_ret
            exact ⟨ret_bool HN.out.symm, HB5.out⟩
    · have HN := Lib.hid (arePers_end (k := k) HA.out (by rw [HL.out]; omega))
      go_wp2
      go_ret
      exact ⟨ret_bool (by rw [HN.out, HL.out]; exact decide_eq_decide.2 (by omega)), HB.out⟩

end Go.Proofs.Ytdeiillfdjebdaa
