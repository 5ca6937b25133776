/- Contracts of the program's chapter 10: one call, calls. (written by impl10.py) -/
import Derived.Test.YtekhdggaelppkaaChecked
import Derived.Test.YtekhdggaelppkaaBase0
import Derived.Test.YtekhdggaelppkaaInfo
import Derived.Test.YtekhdggaelppkaaCallB
import Derived.Test.YtekhdggaelppkaaCallC
import Derived.Test.YtekhdggaelppkaaCallD
import Derived.Test.YtekhdggaelppkaaPure100
import Derived.Test.YtekhdggaelppkaaAreDays
import Derived.Test.YtekhdggaelppkaaPersNum
import Derived.Test.YtekhdggaelppkaaWithin
import Derived.WalkKit
import Derived.WalkSpells
import Derived.WalkLawsBesides
import Derived.Lib.Hide
import Derived.Lib.QuietBelow
import Derived.IntWalk
import Derived.Deep.QuietTactic
import Derived.BigQuiet
import Derived.BigRegion
import Derived.OwnWalk
import Derived.RegionTactic
import Derived.Outline
import Derived.Shelf.Abstract
namespace Go.Proofs.Ytekhdggaelppkaa
open Go.Shelf Go.RowKit Go.Sort Pure1 Pure2 Pure20 Pure21 Pure40

theorem one_day10 (w : World) (d : Int) : IntsAt (w.alloc (.cells #[.int .i64 d] 2)) (some ⟨w.heap.size, 0, none⟩) [d] := by
  refine .inr ⟨w.heap.size, 0, rfl, fun i x hx => ?_⟩
  have hi : i < 1 := (List.getElem?_eq_some_iff.1 hx).1
  obtain rfl : i = 0 := by omega
  cases hx
  unfold World.cell?; rw [heap_alloc_new]; rfl
theorem all_one10 (d : Int) : [d].all isDay = isDay d := by simp
set_option maxHeartbeats 1000000 in
theorem implNumber10_any (c : Call) (w : World) :
    Calls Try.prog 139 #[.agg #[.int .i64 c.num, .int .i64 c.fst, .int .i64 c.day, .int .i64 c.moves]] w fun e w' => e = .returned (.int .i64 c.num) ∧ Below w.heap.size w w' := by
  have HA := Lib.hid (Call.boxed w c 41)
  have HW := Lib.hid (Call.bx w (.cells #[.int .i64 c.num, .int .i64 c.fst, .int .i64 c.day, .int .i64 c.moves] 41))
  go_enter Try.func139, Try.ntmps139
  obtain ⟨a0, a1, a2, a3⟩ := HA.out
  go_wp2_with fail
  go_ret
  exact ⟨rfl, HW.out⟩

set_option maxRecDepth 100000 in
set_option maxHeartbeats 4000000 in
theorem implIsCall_any (c : Call) (w : World) :
    Calls Try.prog 75 #[.agg #[.int .i64 c.num, .int .i64 c.fst, .int .i64 c.day, .int .i64 c.moves]] w fun e w' => e = .returned (.bool (okC c)) ∧ Below w.heap.size w w' := by
  have HA := Lib.hid (Call.boxed w c 41)
  have HW := Lib.hid (Call.bx w (.cells #[.int .i64 c.num, .int .i64 c.fst, .int .i64 c.day, .int .i64 c.moves] 41))
  have H1 := Lib.hid (fun W => implPersNum_any c.num W)
  have H2 := Lib.hid (fun W => implAreDays_any (some ⟨W.heap.size, 0, none⟩) 1 1 [c.day] (W.alloc (.cells #[.int .i64 c.day] 2)) rfl (by omega) (one_day10 W c.day))
  rw [all_one10] at H2
  have H3 := Lib.hid (fun W => implWithin_any c.fst 0 c.day W)
  have H4 := Lib.hid (fun W => implWithin_any c.moves 0 2 W)
  have HE := Lib.hid (show okC c = (inR c.num 1 1000000 && (isDay c.day && (inR c.fst 0 c.day && (inR c.moves 0 2 && ((c.day == c.fst) == (c.moves == 0)))))) from rfl)
  generalize okC c = v at HE ⊢
  generalize inR c.num 1 1000000 = b1 at H1 HE
  generalize isDay c.day = b2 at H2 HE
  generalize inR c.fst 0 c.day = b3 at H3 HE
  generalize inR c.moves 0 2 = b4 at H4 HE
  go_enter Try.func75, Try.ntmps75
  obtain ⟨a0, a1, a2, a3⟩ := HA.out
  go_wp2_with fail
  refine (H1.out _).mono ?_; rintro e w1 ⟨rfl, hw⟩
  have hA1 : Call.Box w1 w.heap.size c := by rw [hw]; exact HA.out
  have HB1 := Lib.hid (show Below w.heap.size w w1 by rw [hw]; exact HW.out)
  clear a0 a1 a2 a3 hw
  cases b1
  · obtain ⟨a0, a1, a2, a3⟩ := hA1
    go_wp2_with fail
    go_ret
    exact ⟨ret_bool' (by rw [HE.out]; rfl), HB1.out⟩
  have HA1 := Lib.hid hA1
  obtain ⟨a0, a1, a2, a3⟩ := hA1
  go_wp2_with fail
  refine (H2.out w1).mono ?_; rintro e w2 ⟨rfl, hw⟩
  have hB2 : Below w1.heap.size w1 w2 := by rw [← hw]; exact Call.bx w1 _
  have hA2 := HA1.out.below hB2
  have HB2 := Lib.hid (HB1.out.trans (hB2.mono HB1.out.size))
  clear a0 a1 a2 a3 hw hB2
  obtain ⟨a0, a1, a2, a3⟩ := hA2
  cases b2
  · skip
    go_wp2_with fail
    go_ret
    exact ⟨ret_bool' (by rw [HE.out]; rfl), HB2.out⟩
  go_wp2_with fail
  refine (H3.out _).mono ?_; rintro e w3 ⟨rfl, hw⟩
  subst hw
  cases b3
  · skip
    go_wp2_with fail
    go_ret
    exact ⟨ret_bool' (by rw [HE.out]; rfl), HB2.out⟩
  go_wp2_with fail
  refine (H4.out _).mono ?_; rintro e w3 ⟨rfl, hw⟩
  subst hw
  cases b4
  · skip
    go_wp2_with fail
    go_ret
    exact ⟨ret_bool' (by rw [HE.out]; rfl), HB2.out⟩
  generalize h5 : (c.day == c.fst) = b5 at HE
  generalize h6 : (c.moves == 0) = b6 at HE
  cases b5 <;> cases b6
  all_goals
    go_wp2_with fail
    go_ret
    exact ⟨ret_bool' (by rw [HE.out]; rfl), HB2.out⟩

theorem regr_call10 {P : Program} {f : FuncId} {args : Array Value} {w : World} {v : Value} (h : ∀ W, Below w.heap.size w W → Calls P f args W fun e w' => e = .returned v ∧ Below W.heap.size W w') (d : Nat) (os : Array Obj) :
    Calls P f args (grow (redrawn w d) os) fun e w'' => e = .returned v ∧ ∃ p : Regrown, w'' = grow (redrawn w p.d) p.os := Calls.regrown_of (h _ (below_regrown w d os))
theorem areCo_prev {ts : List Call} {k : Nat} {c p : Call} (h : AreCo ts (k + 1)) (hp : ts[k]? = some p) (hc : ts[k + 1]? = some c) (h1 : okC c = true) (h2 : p.num < c.num) : AreCo ts (k + 2) :=
  areCo_step h hc h1 (fun b _ hb => by rw [Nat.add_sub_cancel] at hb; rw [hp] at hb; cases hb; exact h2)
set_option maxRecDepth 100000 in
set_option maxHeartbeats 8000000 in
theorem implInOrder10_any (a : Option Addr) (len cap : Nat) (ts : List Call) (w : World) (hl : ts.length = len) (hm : len ≤ maxLen) (h : Call.ListAt w a ts) :
    Calls Try.prog 74 #[.slice a len cap, .int .i64 20, .func (.func 75) #[] #[]] w fun e w' => e = .returned (.bool (areC ts)) ∧ Below w.heap.size w w' := by
  unfold maxLen at hm
  have HL := Lib.hid hl; have HI := Lib.hid h; clear hl h
  have eg : ∀ args w, (callFunc 75 args).run Try.prog w = .ok (.enter 75 args) w := enters_of Try.func75 (by kernel_rfl) rfl
  have egn : ∀ args w, (callFunc 139 args).run Try.prog w = .ok (.enter 139 args) w := enters_of Try.func139 (by kernel_rfl) rfl
  have hmeth : ∀ (n : Nat) v W, (method (n + 1) 41 v "loop.example/g01027/impl.number").run Try.prog W = .ok (139, v) W := fun n v W => by kernel_rfl
  go_enter Try.func74, Try.ntmps74
  go_wp2_with fail
  go_loopw [7, 8, 11] (fun _ _ i wr => ∃ k : Nat, k ≤ len ∧ i = .int .i64 k ∧ AreCo ts k ∧ Below w.heap.size w wr) (fun _ _ i _ => len - (intOf i).toNat)
  case atStart => exact ⟨0, Nat.zero_le _, rfl, areCo_zero ts, Below.refl _ _⟩
  case round =>
    obtain ⟨k, hk, rfl, hA, hB⟩ := hrel
    have HA := Lib.hid hA; have HB := Lib.hid hB; clear hA hB
    by_cases hlt : k < len
    · obtain ⟨b, off, c, ha, hc, hp⟩ := (HI.out.below HB.out).at HL.out hlt
      have HP := Lib.hid hp; clear hp
      subst ha
      obtain ⟨c0, c1, c2, c3⟩ := hc
      go_wp2_with fail
      have hcb := Call.boxed wr c 41
      have hBq := HB.out.alloc HB.out.size (.cells #[.int .i64 c.num, .int .i64 c.fst, .int .i64 c.day, .int .i64 c.moves] 41)
      have hIq := HI.out.below hBq
      generalize wr.alloc (.cells #[.int .i64 c.num, .int .i64 c.fst, .int .i64 c.day, .int .i64 c.moves] 41) = wq at hcb hBq hIq ⊢
      generalize wr.heap.size = bq at hcb ⊢
      have HB2 := Lib.hid hBq; have HI2 := Lib.hid hIq
      obtain ⟨d0, d1, d2, d3⟩ := hcb
      have k0 := cell_regrown d0; have k1 := cell_regrown d1; have k2 := cell_regrown d2; have k3 := cell_regrown d3
      clear c0 c1 c2 c3 d0 d1 d2 d3 hBq hIq
      have hcall := regr_call10 (w := wq) (fun W _ => show Calls Try.prog 75 #[.agg #[.int .i64 c.num, .int .i64 c.fst, .int .i64 c.day, .int .i64 c.moves]] W _ from implIsCall_any c W)
      have hnum := regr_call10 (w := wq) (fun W _ => show Calls Try.prog 139 #[.agg #[.int .i64 c.num, .int .i64 c.fst, .int .i64 c.day, .int .i64 c.moves]] W _ from implNumber10_any c W)
      cases hip : okC c
      · have HN := Lib.hid (areC_bad HP.out hip)
        rw [hip] at hcall
        clear hip
        refine wp_region_quiet_below (by kernel_rfl) (by kernel_rfl) ?_
        iterate 21 (go_big_quiet_step (first | exact hcall _ _ | exact hnum _ _ | exact hprev _ _))
        refine wpQuiet_nil ?_
        intro _ hw'
        obtain ⟨⟨dq, osq⟩, hw''⟩ := hw'
        subst hw''
        have HB5 := Lib.hid (HB2.out.trans ((below_regrown wq dq osq).mono HB2.out.size))
        clear hcall hnum k0 k1 k2 k3 
        generalize grow (redrawn wq dq) osq = w5 at HB5 ⊢
        go_wp2_with fail
        go_ret
        exact ⟨ret_bool' HN.out.symm, HB5.out⟩
      · rw [hip] at hcall
        cases k with
        | zero =>
          have HN := Lib.hid (areCo_step HA.out HP.out hip (fun b hb => by omega))
          clear hip
          refine wp_region_quiet_below (by kernel_rfl) (by kernel_rfl) ?_
          iterate 21 (go_big_quiet_step (first | exact hcall _ _ | exact hnum _ _ | exact hprev _ _))
          refine wpQuiet_nil ?_
          intro _ hw'
          obtain ⟨⟨dq, osq⟩, hw''⟩ := hw'
          subst hw''
          have HB5 := Lib.hid (HB2.out.trans ((below_regrown wq dq osq).mono HB2.out.size))
          clear hcall hnum k0 k1 k2 k3 
          generalize grow (redrawn wq dq) osq = w5 at HB5 ⊢
          go_wp2_with fail
          go_roundw
          case rel => exact ⟨1, by omega, by go_num, HN.out, HB5.out⟩
          case measure => simp [intOf]; omega
        | succ j =>
          obtain ⟨b', off', q, e, hc2, hq⟩ := HI2.out.at HL.out (show j < len by omega)
          cases e
          have HQ := Lib.hid hq; clear hq
          have e0 := cell_regrown hc2.1; have e1 := cell_regrown hc2.2.1; have e2 := cell_regrown hc2.2.2.1; have e3 := cell_regrown hc2.2.2.2
          have hprev := regr_call10 (w := wq) (fun W _ => show Calls Try.prog 139 #[.agg #[.int .i64 q.num, .int .i64 q.fst, .int .i64 q.day, .int .i64 q.moves]] W _ from implNumber10_any q W)
          have ej : ((j + 1 : Nat) : Int) - 1 = (j : Int) := by omega
          have hj0 : (0 : Int) < ((j + 1 : Nat) : Int) := by omega
          clear hc2
          by_cases hqp : q.num < c.num
          · have HN := Lib.hid (areCo_prev HA.out HQ.out HP.out hip hqp)
            have hd : decide (c.num ≤ q.num) = false := decide_eq_false (by omega)
            clear hip hqp
            refine wp_region_quiet_below (by kernel_rfl) (by kernel_rfl) ?_
            iterate 21 (go_big_quiet_step (first | exact hcall _ _ | exact hnum _ _ | exact hprev _ _))
            refine wpQuiet_nil ?_
            intro _ hw'
            obtain ⟨⟨dq, osq⟩, hw''⟩ := hw'
            subst hw''
            have HB5 := Lib.hid (HB2.out.trans ((below_regrown wq dq osq).mono HB2.out.size))
            clear hcall hnum k0 k1 k2 k3 hprev e0 e1 e2 e3
            generalize grow (redrawn wq dq) osq = w5 at HB5 ⊢
            go_wp2_with fail
            go_roundw
            case rel => exact ⟨j + 1 + 1, by omega, by go_num, HN.out, HB5.out⟩
            case measure => simp [intOf]; omega
          · have HN := Lib.hid (areC_turn HP.out HQ.out hqp)
            have hd : decide (c.num ≤ q.num) = true := decide_eq_true (by omega)
            clear hip hqp
            refine wp_region_quiet_below (by kernel_rfl) (by kernel_rfl) ?_
            iterate 21 (go_big_quiet_step (first | exact hcall _ _ | exact hnum _ _ | exact hprev _ _))
            refine wpQuiet_nil ?_
            intro _ hw'
            obtain ⟨⟨dq, osq⟩, hw''⟩ := hw'
            subst hw''
            have HB5 := Lib.hid (HB2.out.trans ((below_regrown wq dq osq).mono HB2.out.size))
            clear hcall hnum k0 k1 k2 k3 hprev e0 e1 e2 e3
            generalize grow (redrawn wq dq) osq = w5 at HB5 ⊢
            go_wp2_with fail
            go_ret
            exact ⟨ret_bool' HN.out.symm, HB5.out⟩
    · have HN := Lib.hid (areC_end HA.out (show ts.length ≤ k by rw [HL.out]; omega))
      rw [HL.out] at HN
      go_wp2_with fail
      go_ret
      exact ⟨ret_bool' (by rw [HN.out]; exact decide_eq_decide.2 (by omega)), HB.out⟩
set_option maxHeartbeats 1000000 in
theorem implAreC_any (a : Option Addr) (len cap : Nat) (ts : List Call) (w : World) (hl : ts.length = len) (hm : len ≤ maxLen) (h : Call.ListAt w a ts) :
    Calls Try.prog 26 #[.slice a len cap] w fun e w' => e = .returned (.bool (areC ts)) ∧ Below w.heap.size w w' := by
  have HC := Lib.hid (implInOrder10_any a len cap ts w hl hm h)
  generalize areC ts = v at HC ⊢
  clear h hl
  go_enter Try.func26, Try.ntmps26
  go_wp2_with fail
  refine HC.out.mono ?_; rintro e w1 ⟨rfl, hB⟩
  have HB := Lib.hid hB; clear hB
  go_wp2_with fail
  go_ret
  exact ⟨rfl, HB.out⟩

end Go.Proofs.Ytekhdggaelppkaa
