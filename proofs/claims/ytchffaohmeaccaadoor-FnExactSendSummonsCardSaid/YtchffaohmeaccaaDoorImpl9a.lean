/- Contracts of the program's chapter 9: one summons, summonses. (written by impl9.py) -/
import Derived.Test.YtchffaohmeaccaaDoorChecked
import Derived.Test.YtchffaohmeaccaaDoorBase0
import Derived.Test.YtchffaohmeaccaaDoorInfo
import Derived.Test.YtchffaohmeaccaaDoorSummonsB
import Derived.Test.YtchffaohmeaccaaDoorAreDays
import Derived.Test.YtchffaohmeaccaaDoorPersNum
import Derived.Test.YtchffaohmeaccaaDoorWithin
import Derived.WalkKit
import Derived.WalkSpells
import Derived.WalkLawsBesides
import Derived.Lib.Hide
import Derived.Lib.QuietBelow
import Derived.IntWalk
import Derived.Deep.QuietTactic
import Derived.BigQuiet
import Derived.BigRegion
import Derived.OwnWalk
import Derived.RegionTactic
import Derived.Outline
import Derived.Shelf.Abstract
namespace Go.Proofs.YtchffaohmeaccaaDoor
open Go.Shelf Go.RowKit Go.Sort Pure1 Pure2 Pure20 Pure40

theorem one_day9 (w : World) (d : Int) : IntsAt (w.alloc (.cells #[.int .i64 d] 2)) (some ⟨w.heap.size, 0, none⟩) [d] := by
  refine .inr ⟨w.heap.size, 0, rfl, fun i x hx => ?_⟩
  have hi : i < 1 := (List.getElem?_eq_some_iff.1 hx).1
  obtain rfl : i = 0 := by omega
  cases hx
  unfold World.cell?; rw [heap_alloc_new]; rfl
theorem all_one9 (d : Int) : [d].all isDay = isDay d := by simp
theorem implIsAnswer_any (n : Int) (w : World) :
    Calls Tryd.prog 83 #[.int .i64 n] w fun e w' => e = .returned (.bool (inR n 1 3)) ∧ w' = w := by
  have HC := Lib.hid (implWithin_any n 1 3 w)
  go_enter Tryd.func83, Tryd.ntmps83
  go_wp2_with fail
  refine HC.out.mono ?_; rintro e w1 ⟨rfl, rfl⟩
  go_wp2_with fail
  go_ret
  exact ⟨rfl, rfl⟩

set_option maxRecDepth 100000 in
set_option maxHeartbeats 1000000 in
theorem implAnsRight_any (c : Summons) (w : World) :
    Calls Tryd.prog 107 #[.agg #[.int .i64 c.num, .int .i64 c.sent, .int .i64 c.due, .int .i64 c.ans, .int .i64 c.done]] w fun e w' => e = .returned (.bool (okAns c)) ∧ Below w.heap.size w w' := by
  have HA := Lib.hid (Summons.boxed w c 53)
  have HW := Lib.hid (Summons.bx w (.cells #[.int .i64 c.num, .int .i64 c.sent, .int .i64 c.due, .int .i64 c.ans, .int .i64 c.done] 53))
  have H1 := Lib.hid (fun W => implIsAnswer_any c.ans W)
  have H2 := Lib.hid (fun W => implWithin_any c.done c.sent 20000 W)
  by_cases h0 : c.ans = 0
  · have h0b : (c.ans == 0) = true := beq_iff_eq.2 h0
    have HE := Lib.hid (show okAns c = decide (c.done = 0) from if_pos h0)
    clear h0
    go_enter Tryd.func107, Tryd.ntmps107
    obtain ⟨a0, a1, a2, a3, a4⟩ := HA.out
    go_wp2_with fail
    go_ret
    exact ⟨ret_bool' (by rw [HE.out]; rfl), HW.out⟩
  · have h0b : (c.ans == 0) = false := beq_eq_false_iff_ne.2 h0
    have HE := Lib.hid (show okAns c = (inR c.ans 1 3 && inR c.done c.sent 20000) from if_neg h0)
    generalize okAns c = v at HE ⊢
    clear h0
    generalize inR c.ans 1 3 = b1 at H1 HE
    generalize inR c.done c.sent 20000 = b2 at H2 HE
    go_enter Tryd.func107, Tryd.ntmps107
    obtain ⟨a0, a1, a2, a3, a4⟩ := HA.out
    go_wp2_with fail
    refine (H1.out _).mono ?_; rintro e w1 ⟨rfl, hw⟩
    subst hw
    cases b1
    · go_wp2_with fail
      go_ret
      exact ⟨ret_bool' (by rw [HE.out]; rfl), HW.out⟩
    · go_wp2_with fail
      refine (H2.out _).mono ?_; rintro e w1 ⟨rfl, hw⟩
      subst hw
      go_wp2_with fail
      go_ret
      exact ⟨ret_bool' (by rw [HE.out]; rfl), HW.out⟩

set_option maxRecDepth 100000 in
set_option maxHeartbeats 2000000 in
theorem implIsM_any (c : Summons) (w : World) :
    Calls Tryd.prog 91 #[.agg #[.int .i64 c.num, .int .i64 c.sent, .int .i64 c.due, .int .i64 c.ans, .int .i64 c.done]] w fun e w' => e = .returned (.bool (okM c)) ∧ Below w.heap.size w w' := by
  have HA := Lib.hid (Summons.boxed w c 53)
  have HW := Lib.hid (Summons.bx w (.cells #[.int .i64 c.num, .int .i64 c.sent, .int .i64 c.due, .int .i64 c.ans, .int .i64 c.done] 53))
  have H1 := Lib.hid (fun W => implPersNum_any c.num W)
  have H2 := Lib.hid (fun W => implAreDays_any (some ⟨W.heap.size, 0, none⟩) 1 1 [c.sent] (W.alloc (.cells #[.int .i64 c.sent] 2)) rfl (by omega) (one_day9 W c.sent))
  rw [all_one9] at H2
  have H3 := Lib.hid (fun W => implWithin_any c.due c.sent 20000 W)
  have H4 := Lib.hid (fun W => implAnsRight_any c W)
  have HE := Lib.hid (show okM c = (inR c.num 1 1000000 && (isDay c.sent && (inR c.due c.sent 20000 && okAns c))) from rfl)
  generalize okM c = v at HE ⊢
  generalize inR c.num 1 1000000 = b1 at H1 HE
  generalize isDay c.sent = b2 at H2 HE
  generalize inR c.due c.sent 20000 = b3 at H3 HE
  generalize okAns c = b4 at H4 HE
  go_enter Tryd.func91, Tryd.ntmps91
  obtain ⟨a0, a1, a2, a3, a4⟩ := HA.out
  go_wp2_with fail
  refine (H1.out _).mono ?_; rintro e w1 ⟨rfl, hw⟩
  have hA1 : Summons.Box w1 w.heap.size c := by rw [hw]; exact HA.out
  have HB1 := Lib.hid (show Below w.heap.size w w1 by rw [hw]; exact HW.out)
  clear a0 a1 a2 a3 a4 hw
  cases b1
  · obtain ⟨a0, a1, a2, a3, a4⟩ := hA1
    go_wp2_with fail
    go_ret
    exact ⟨ret_bool' (by rw [HE.out]; rfl), HB1.out⟩
  · have HA1 := Lib.hid hA1
    obtain ⟨a0, a1, a2, a3, a4⟩ := hA1
    go_wp2_with fail
    refine (H2.out w1).mono ?_; rintro e w2 ⟨rfl, hw⟩
    have hB2 : Below w1.heap.size w1 w2 := by rw [← hw]; exact Summons.bx w1 _
    have hA2 := HA1.out.below hB2
    have HB2 := Lib.hid (HB1.out.trans (hB2.mono HB1.out.size))
    clear a0 a1 a2 a3 a4 hw hB2
    cases b2
    · obtain ⟨a0, a1, a2, a3, a4⟩ := hA2
      go_wp2_with fail
      go_ret
      exact ⟨ret_bool' (by rw [HE.out]; rfl), HB2.out⟩
    · obtain ⟨a0, a1, a2, a3, a4⟩ := hA2
      go_wp2_with fail
      refine (H3.out _).mono ?_; rintro e w3 ⟨rfl, hw⟩
      subst hw
      cases b3
      · go_wp2_with fail
        go_ret
        exact ⟨ret_bool' (by rw [HE.out]; rfl), HB2.out⟩
      · go_wp2_with fail
        refine (H4.out _).mono ?_; rintro e w4 ⟨rfl, hB⟩
        have HB4 := Lib.hid (HB2.out.trans (hB.mono HB2.out.size)); clear hB
        clear a0 a1 a2 a3 a4
        go_wp2_with fail
        go_ret
        exact ⟨ret_bool' (by rw [HE.out]; rfl), HB4.out⟩

theorem regr_call9 {P : Program} {f : FuncId} {args : Array Value} {w : World} {v : Value} (h : ∀ W, Below w.heap.size w W → Calls P f args W fun e w' => e = .returned v ∧ Below W.heap.size W w') (d : Nat) (os : Array Obj) :
    Calls P f args (grow (redrawn w d) os) fun e w'' => e = .returned v ∧ ∃ p : Regrown, w'' = grow (redrawn w p.d) p.os := Calls.regrown_of (h _ (below_regrown w d os))
/-- the first k are summonses, the k-th is looked at -/
theorem areMo_prev {ts : List Summons} {k : Nat} {c p : Summons} (h : AreMo ts (k + 1)) (hp : ts[k]? = some p) (hc : ts[k + 1]? = some c) (h1 : okM c = true) (h2 : p.num < c.num) : AreMo ts (k + 2) :=
  areMo_step h hc h1 (fun b _ hb => by rw [Nat.add_sub_cancel] at hb; rw [hp] at hb; cases hb; exact h2)

set_option maxHeartbeats 1000000 in
theorem implNumber9_any (c : Summons) (w : World) :
    Calls Tryd.prog 134 #[.agg #[.int .i64 c.num, .int .i64 c.sent, .int .i64 c.due, .int .i64 c.ans, .int .i64 c.done]] w fun e w' => e = .returned (.int .i64 c.num) ∧ Below w.heap.size w w' := by
  have HA := Lib.hid (Summons.boxed w c 53)
  have HW := Lib.hid (Summons.bx w (.cells #[.int .i64 c.num, .int .i64 c.sent, .int .i64 c.due, .int .i64 c.ans, .int .i64 c.done] 53))
  go_enter Tryd.func134, Tryd.ntmps134
  obtain ⟨a0, a1, a2, a3, a4⟩ := HA.out
  go_wp2_with fail
  go_ret
  exact ⟨rfl, HW.out⟩

set_option maxRecDepth 100000 in
set_option maxHeartbeats 8000000 in
theorem implInOrder9_any (a : Option Addr) (len cap : Nat) (ts : List Summons) (w : World) (hl : ts.length = len) (hm : len ≤ maxLen) (h : Summons.ListAt w a ts) :
    Calls Tryd.prog 90 #[.slice a len cap, .int .i64 20, .func (.func 91) #[] #[]] w fun e w' => e = .returned (.bool (areM ts)) ∧ Below w.heap.size w w' := by
  unfold maxLen at hm
  have HL := Lib.hid hl; have HI := Lib.hid h; clear hl h
  have eg : ∀ args w, (callFunc 91 args).run Tryd.prog w = .ok (.enter 91 args) w := enters_of Tryd.func91 (by kernel_rfl) rfl
  have egn : ∀ args w, (callFunc 134 args).run Tryd.prog w = .ok (.enter 134 args) w := enters_of Tryd.func134 (by kernel_rfl) rfl
  have hmeth : ∀ (n : Nat) v W, (method (n + 1) 53 v "loop.example/g01027/impl.number").run Tryd.prog W = .ok (134, v) W := fun n v W => by kernel_rfl
  go_enter Tryd.func90, Tryd.ntmps90
  go_wp2_with fail
  go_loopw [7, 8, 11] (fun _ _ i wr => ∃ k : Nat, k ≤ len ∧ i = .int .i64 k ∧ AreMo ts k ∧ Below w.heap.size w wr) (fun _ _ i _ => len - (intOf i).toNat)
  case atStart => exact ⟨0, Nat.zero_le _, rfl, areMo_zero ts, Below.refl _ _⟩
  case round =>
    obtain ⟨k, hk, rfl, hA, hB⟩ := hrel
    have HA := Lib.hid hA; have HB := Lib.hid hB; clear hA hB
    by_cases hlt : k < len
    · obtain ⟨b, off, c, ha, hc, hp⟩ := (HI.out.below HB.out).at HL.out hlt
      have HP := Lib.hid hp; clear hp
      subst ha
      obtain ⟨c0, c1, c2, c3, c4⟩ := hc
      go_wp2_with fail
      have hcb := Summons.boxed wr c 53
      have hBq := HB.out.alloc HB.out.size (.cells #[.int .i64 c.num, .int .i64 c.sent, .int .i64 c.due, .int .i64 c.ans, .int .i64 c.done] 53)
      have hIq := HI.out.below hBq
      generalize wr.alloc (.cells #[.int .i64 c.num, .int .i64 c.sent, .int .i64 c.due, .int .i64 c.ans, .int .i64 c.done] 53) = wq at hcb hBq hIq ⊢
      generalize wr.heap.size = bq at hcb ⊢
      have HB2 := Lib.hid hBq; have HI2 := Lib.hid hIq
      obtain ⟨d0, d1, d2, d3, d4⟩ := hcb
      have k0 := cell_regrown d0; have k1 := cell_regrown d1; have k2 := cell_regrown d2; have k3 := cell_regrown d3; have k4 := cell_regrown d4
      clear c0 c1 c2 c3 c4 d0 d1 d2 d3 d4 hBq hIq
      have hcall := regr_call9 (w := wq) (fun W _ => show Calls Tryd.prog 91 #[.agg #[.int .i64 c.num, .int .i64 c.sent, .int .i64 c.due, .int .i64 c.ans, .int .i64 c.done]] W _ from implIsM_any c W)
      have hnum := regr_call9 (w := wq) (fun W _ => show Calls Tryd.prog 134 #[.agg #[.int .i64 c.num, .int .i64 c.sent, .int .i64 c.due, .int .i64 c.ans, .int .i64 c.done]] W _ from implNumber9_any c W)
      cases hip : okM c
      · have HN := Lib.hid (areM_bad HP.out hip)
        rw [hip] at hcall
        clear hip
        refine wp_region_quiet_below (by kernel_rfl) (by kernel_rfl) ?_
        iterate 21 (go_big_quiet_step (first | exact hcall _ _ | exact hnum _ _ | exact hprev _ _))
        refine wpQuiet_nil ?_
        intro _ hw'
        obtain ⟨⟨dq, osq⟩, hw''⟩ := hw'
        subst hw''
        have HB5 := Lib.hid (HB2.out.trans ((below_regrown wq dq osq).mono HB2.out.size))
        clear hcall hnum k0 k1 k2 k3 k4
        generalize grow (redrawn wq dq) osq = w5 at HB5 ⊢
        go_wp2_with fail
        go_ret
        exact ⟨ret_bool' HN.out.symm, HB5.out⟩
      · rw [hip] at hcall
        cases k with
        | zero =>
          have HN := Lib.hid (areMo_step HA.out HP.out hip (fun b hb => by omega))
          clear hip
          refine wp_region_quiet_below (by kernel_rfl) (by kernel_rfl) ?_
          iterate 21 (go_big_quiet_step (first | exact hcall _ _ | exact hnum _ _ | exact hprev _ _))
          refine wpQuiet_nil ?_
          intro _ hw'
          obtain ⟨⟨dq, osq⟩, hw''⟩ := hw'
          subst hw''
          have HB5 := Lib.hid (HB2.out.trans ((below_regrown wq dq osq).mono HB2.out.size))
          clear hcall hnum k0 k1 k2 k3 k4
          generalize grow (redrawn wq dq) osq = w5 at HB5 ⊢
          go_wp2_with fail
          go_roundw
          case rel => exact ⟨1, by omega, by go_num, HN.out, HB5.out⟩
          case measure => simp [intOf]; omega
        | succ j =>
          obtain ⟨b', off', q, e, hc2, hq⟩ := HI2.out.at HL.out (show j < len by omega)
          cases e
          have HQ := Lib.hid hq; clear hq
          have e0 := cell_regrown hc2.1; have e1 := cell_regrown hc2.2.1; have e2 := cell_regrown hc2.2.2.1; have e3 := cell_regrown hc2.2.2.2.1; have e4 := cell_regrown hc2.2.2.2.2
          have hprev := regr_call9 (w := wq) (fun W _ => show Calls Tryd.prog 134 #[.agg #[.int .i64 q.num, .int .i64 q.sent, .int .i64 q.due, .int .i64 q.ans, .int .i64 q.done]] W _ from implNumber9_any q W)
          have ej : ((j + 1 : Nat) : Int) - 1 = (j : Int) := by omega
          have hj0 : (0 : Int) < ((j + 1 : Nat) : Int) := by omega
          clear hc2
          by_cases hqp : q.num < c.num
          · have HN := Lib.hid (areMo_prev HA.out HQ.out HP.out hip hqp)
            have hd : decide (c.num ≤ q.num) = false := decide_eq_false (by omega)
            clear hip hqp
            refine wp_region_quiet_below (by kernel_rfl) (by kernel_rfl) ?_
            iterate 21 (go_big_quiet_step (first | exact hcall _ _ | exact hnum _ _ | exact hprev _ _))
            refine wpQuiet_nil ?_
            intro _ hw'
            obtain ⟨⟨dq, osq⟩, hw''⟩ := hw'
            subst hw''
            have HB5 := Lib.hid (HB2.out.trans ((below_regrown wq dq osq).mono HB2.out.size))
            clear hcall hnum hprev k0 k1 k2 k3 k4 e0 e1 e2 e3 e4
            generalize grow (redrawn wq dq) osq = w5 at HB5 ⊢
            go_wp2_with fail
            go_roundw
            case rel => exact ⟨j + 1 + 1, by omega, by go_num, HN.out, HB5.out⟩
            case measure => simp [intOf]; omega
          · have HN := Lib.hid (areM_turn HP.out HQ.out hqp)
            have hd : decide (c.num ≤ q.num) = true := decide_eq_true (by omega)
            clear hip hqp
            refine wp_region_quiet_below (by kernel_rfl) (by kernel_rfl) ?_
            iterate 21 (go_big_quiet_step (first | exact hcall _ _ | exact hnum _ _ | exact hprev _ _))
            refine wpQuiet_nil ?_
            intro _ hw'
            obtain ⟨⟨dq, osq⟩, hw''⟩ := hw'
            subst hw''
            have HB5 := Lib.hid (HB2.out.trans ((below_regrown wq dq osq).mono HB2.out.size))
            clear hcall hnum hprev k0 k1 k2 k3 k4 e0 e1 e2 e3 e4
            generalize grow (redrawn wq dq) osq = w5 at HB5 ⊢
            go_wp2_with fail
            go_ret
            exact ⟨ret_bool' HN.out.symm, HB5.out⟩
    · have HN := Lib.hid (areM_end HA.out (show ts.length ≤ k by rw [HL.out]; omega))
      rw [HL.out] at HN
      go_wp2_with fail
      go_ret
      exact ⟨ret_bool' (by rw [HN.out]; exact decide_eq_decide.2 (by omega)), HB.out⟩
set_option maxHeartbeats 1000000 in
theorem implAreM_any (a : Option Addr) (len cap : Nat) (ts : List Summons) (w : World) (hl : ts.length = len) (hm : len ≤ maxLen) (h : Summons.ListAt w a ts) :
    Calls Tryd.prog 71 #[.slice a len cap] w fun e w' => e = .returned (.bool (areM ts)) ∧ Below w.heap.size w w' := by
  have HC := Lib.hid (implInOrder9_any a len cap ts w hl hm h)
  generalize areM ts = v at HC ⊢
  clear h hl
  go_enter Tryd.func71, Tryd.ntmps71
  go_wp2_with fail
  refine HC.out.mono ?_; rintro e w1 ⟨rfl, hB⟩
  have HB := Lib.hid hB; clear hB
  go_wp2_with fail
  go_ret
  exact ⟨rfl, HB.out⟩
end Go.Proofs.YtchffaohmeaccaaDoor
