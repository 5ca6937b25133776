/- Proved: for every list of summonses and all numbers, laws.FnExactAnswerSummons returns true and leaves its arguments as they were: impl.AnswerSummons answers as its model, in memory of its own. The condition: the variable listed is laid. -/
import Derived.Test.YtchffaohmeaccaaDoorRows
import Derived.Test.YtchffaohmeaccaaDoorCards
import Derived.Test.YtchffaohmeaccaaDoorTie
import Derived.WalkKit
import Derived.ProofKit
import Derived.OpenShut
import Derived.ShutString
import Derived.ChangeOld
import Derived.Below
import Derived.SliceStrings
import Derived.Lib.Hide
import Derived.Deep.DeepHandedRow
import Derived.Deep.DeepWitnessRowRef
import Derived.SevenTiedAt
import Derived.Test.YtchffaohmeaccaaDoorBase
import Derived.Test.YtchffaohmeaccaaDoorPure90
import Derived.Test.YtchffaohmeaccaaDoorSummonsA
import Derived.Test.YtchffaohmeaccaaDoorSummonsB
import Derived.Test.YtchffaohmeaccaaDoorSummonsM
import Derived.Test.YtchffaohmeaccaaDoorMarkI
import Derived.Test.YtchffaohmeaccaaDoorSet9
import Derived.Test.YtchffaohmeaccaaDoorSpec94
import Derived.Test.YtchffaohmeaccaaDoorImpl9f
import Derived.Test.YtchffaohmeaccaaDoorLaw9
import Derived.Test.YtchffaohmeaccaaDoorDoorH
namespace Go.Proofs.YtchffaohmeaccaaDoor.fnExactAnswerSummons
open Go.ChangeShapes Go.WideShapes Go.ChangeAt Go.RowKit
open Go.ChangeMaps (open_string shut_string)
open Pure2 Pure20 Pure40
set_option linter.unusedVariables false

theorem own : ownKnob Tryd.prog.godebug = none := by kernel_rfl
theorem laidOut : laidOutB Tryd.prog = true := by kernel_rfl


set_option maxRecDepth 100000 in
set_option maxHeartbeats 4000000 in
theorem walk (w : World) (hL : laidMetH Tryd.prog Rows.fnExactAnswerSummonsRow.laid w) (hsh : w.ShapedOpen Tryd.prog) (a0 : Option Addr) (len0 cap0 : Nat) (ts0 : List Summons) (hl0 : ts0.length = len0) (hm0 : len0 ≤ maxLen) (hI0 : Summons.ListAt w a0 ts0) (a1 : Int) (w1 : (Lit.int .i64 a1).wf = true) (a2 : Int) (w2 : (Lit.int .i64 a2).wf = true) (a3 : Int) (w3 : (Lit.int .i64 a3).wf = true) :
    Calls Tryd.prog 5 #[.slice a0 len0 cap0, .int .i64 a1, .int .i64 a2, .int .i64 a3] w fun e w' => e = .returned (.bool true) ∧ Below w.heap.size w w' := by
  have HG := Lib.hid (type_of_laid hL)
  clear hL hsh
  have HI := Lib.hid hI0; have HL := Lib.hid hl0
  have HSz := Lib.hid (szSummonsS_any a0 len0 cap0 1048576 w hm0 (by omega) (by omega))
  have HM0 := Lib.hid hm0
  clear hI0 hl0
  by_cases hsm0 : 1048576 < len0
  · rw [if_pos (show (1048576 : Int) - (len0 : Int) < 0 by omega)] at HSz
    go_enter Tryd.func5, Tryd.ntmps5
    go_wp2_with fail
    refine HSz.out.mono ?_; rintro e u1 ⟨rfl, rfl⟩
    go_wp2_with fail
    go_ret
    exact ⟨rfl, Below.refl _ _⟩
  have hsm : len0 ≤ 1048576 := by omega
  rw [if_neg (show ¬ (1048576 : Int) - (len0 : Int) < 0 by omega)] at HSz
  have hz0 : decide ((1048576 : Int) - (len0 : Int) < 0) = false := decide_eq_false (by omega)
  have hsmall := ansR9_small ts0 a1 a2 a3
  obtain ⟨xs, c, hr⟩ : ∃ xs c, ansR9 ts0 a1 a2 a3 = (xs, c) := ⟨_, _, rfl⟩
  have HSp := Lib.hid (show ∀ (a : Option Addr) (cap : Nat) (W : World), Summons.ListAt W a ts0 → Calls Tryd.prog 34 #[.slice a len0 cap, .int .i64 a1, .int .i64 a2, .int .i64 a3] W (SaysNewM xs c W) from fun a cap W hI => by
    refine (specAnswerSummons_any a len0 cap ts0 a1 a2 a3 W HL.out HM0.out hI).mono fun e w' this => ?_
    rw [hr] at this; exact this.newM)
  have HIm := Lib.hid (show ∀ (a : Option Addr) (cap : Nat) (W : World), Summons.ListAt W a ts0 → Below w.heap.size w W → Calls Tryd.prog 35 #[.slice a len0 cap, .int .i64 a1, .int .i64 a2, .int .i64 a3] W (SaysNewM xs c W) from fun a cap W hI hBW => by
    refine (implAnswerSummons_any a len0 cap ts0 a1 a2 a3 W HL.out HM0.out hI (HG.out.below hBW)).mono fun e w' this => ?_
    rw [hr] at this; exact this.newM)
  rw [hr] at hsmall
  clear hr
  simp only at hsmall
  have hmm : xs.length ≤ 1048576 := by omega
  go_enter Tryd.func5, Tryd.ntmps5
  go_wp2_with fail
  refine HSz.out.mono ?_; rintro e u1 ⟨rfl, rfl⟩
  generalize (1048576 : Int) - (len0 : Int) = L0 at hz0 ⊢
  have HB1 := Lib.hid (Below.refl u1.heap.size u1)
  go_wp2_with fail
  refine (toSummonsS_any a0 len0 cap0 ts0 u1 HL.out hsm (HI.out.below HB1.out)).mono ?_
  rintro e u2 ⟨b1, rfl, _, _, _, _, hI, hB⟩; have HI2 := Lib.hid hI; have HB2 := Lib.hid (HB1.out.trans (hB.mono HB1.out.size)); clear hI hB
  go_wp2_with fail
  refine (HSp.out _ _ u2 HI2.out).mono ?_; rintro e u3 ⟨aS, capS, rfl, ho, hB⟩
  have HA3 := Lib.hid (Summons.Own.reads ho); have HB3 := Lib.hid (HB2.out.trans (hB.mono HB2.out.size)); clear hB ho
  have HC3 := Lib.hid (Below.refl u3.heap.size u3)
  go_wp2_with fail
  refine (toSummonsS_any a0 len0 cap0 ts0 u3 HL.out hsm (HI.out.below HB3.out)).mono ?_
  rintro e u4 ⟨b3, rfl, hb3, hlt3, _, hQ, hI, hB⟩; have HI4 := Lib.hid hI; have HQ4 := Lib.hid hQ; have HC4 := Lib.hid hB; clear hI hQ hB
  have hsz34 := HC4.out.size
  go_wp2_with fail
  refine (HIm.out _ _ u4 HI4.out (HB3.out.trans (HC4.out.mono HB3.out.size))).mono ?_; rintro e u5 ⟨aI, capI, rfl, ho, hB⟩
  have HG5 := Lib.hid ho; have HI5 := Lib.hid (HI4.out.below hB); have HQ5 := Lib.hid (HQ4.out.below hB); have HC5 := Lib.hid (HC4.out.trans (hB.mono hsz34)); have hsz45 := hB.size; clear hB ho
  go_wp2_with fail
  refine (eqSummonsS_same aI aS xs.length capI capS xs u5 rfl hmm (Summons.Own.reads HG5.out) (HA3.out.below HC5.out)).mono ?_
  rintro e u6 ⟨rfl, hB⟩
  have HC6 := Lib.hid (HC5.out.trans (hB.mono HC5.out.size)); have HG6 := Lib.hid (HG5.out.below hB); have HI6 := Lib.hid (HI5.out.below hB); have HQ6 := Lib.hid (HQ5.out.below hB); clear hB
  have HB6 := Lib.hid (HB3.out.trans (HC6.out.mono HB3.out.size))
  go_wp2_with fail
  refine (toSummonsS_any a0 len0 cap0 ts0 u6 HL.out hsm (HI.out.below HB6.out)).mono ?_
  rintro e u7 ⟨b7, rfl, _, _, _, _, hI, hB⟩; have HI7 := Lib.hid hI; have HJ7 := Lib.hid (HI6.out.below hB); have HG7 := Lib.hid (HG6.out.below hB); have HQ7 := Lib.hid (HQ6.out.below hB); have HC7 := Lib.hid (HC6.out.trans (hB.mono HC6.out.size)); clear hI hB
  go_wp2_with fail
  refine (eqSummonsS_same _ _ _ _ _ ts0 u7 HL.out hsm HJ7.out HI7.out).mono ?_
  rintro e u8 ⟨rfl, hB⟩; have HG8 := Lib.hid (HG7.out.below hB); have HQ8 := Lib.hid (HQ7.out.below hB); have HC8 := Lib.hid (HC7.out.trans (hB.mono HC7.out.size)); clear hB
  go_wp2_with fail
  refine (markSummonsS_any u3.heap.size (some ⟨b3, 0, none⟩) len0 len0 _ 1 u8 (by omega) (by omega) (by omega) HQ8.out).mono ?_
  rintro e u9 ⟨rfl, _, hB, hgr⟩
  have hgr := marked_grown hgr
  have HG9 := Lib.hid (Summons.Own.grown HG8.out hgr (by omega))
  have HC9 := Lib.hid (HC8.out.trans hB); clear hB hgr
  have hk9 : decide ((1 : Int) + 5 * (len0 : Int) < 0) = false := decide_eq_false (by omega)
  go_wp2_with fail
  refine (eqSummonsS_same aI aS xs.length capI capS xs u9 rfl hmm (Summons.Own.reads HG9.out) (HA3.out.below HC9.out)).mono ?_
  rintro e u10 ⟨rfl, hB⟩
  have HC10 := Lib.hid (HC9.out.trans (hB.mono HC9.out.size)); have HG10 := Lib.hid (HG9.out.below hB); clear hB hk9
  go_wp2_with fail
  refine (markSummonsS_any u3.heap.size aI xs.length capI _ 1 u10 (by omega) (by omega) (by omega) (Summons.Own.mono HG10.out hsz34)).mono ?_
  rintro e u11 ⟨rfl, hM, hB, _⟩
  have HM11 := Lib.hid hM; clear hM
  have HC11 := Lib.hid (HC10.out.trans hB); clear hB
  go_wp2_with fail
  refine (heldSummonsS_any u3.heap.size aI xs.length capI 1 u11 (by omega) (by omega) (by omega) HM11.out).mono ?_
  rintro e u12 ⟨rfl, hw⟩
  have HM12 := Lib.hid (hw ▸ HM11.out); have HC12 := Lib.hid (hw ▸ HC11.out); clear hw
  have HB12 := Lib.hid (HB3.out.trans (HC12.out.mono HB3.out.size))
  have hh12 : decide ((1 : Int) + 5 * (xs.length : Int) < 0) = false := decide_eq_false (by omega)
  go_wp2_with fail
  refine (toSummonsS_any a0 len0 cap0 ts0 u12 HL.out hsm (HI.out.below HB12.out)).mono ?_
  rintro e u13 ⟨b13, rfl, _, _, _, _, hI, hB⟩; have HI13 := Lib.hid hI; have HM13 := Lib.hid (HM12.out.below hB); have HC13 := Lib.hid (HC12.out.trans (hB.mono HC12.out.size)); clear hI hB
  go_wp2_with fail
  refine (HIm.out _ _ u13 HI13.out (HB3.out.trans (HC13.out.mono HB3.out.size))).mono ?_; rintro e u14 ⟨aH, capH, rfl, ho, hB⟩
  have HH14 := Lib.hid (Summons.Own.reads ho); have HM14 := Lib.hid (HM13.out.below hB); have HC14 := Lib.hid (HC13.out.trans (hB.mono HC13.out.size)); clear hB ho
  go_wp2_with fail
  refine (eqSummonsS_same aH aS xs.length capH capS xs u14 rfl hmm HH14.out (HA3.out.below HC14.out)).mono ?_
  rintro e u15 ⟨rfl, hB⟩
  have HC15 := Lib.hid (HC14.out.trans (hB.mono HC14.out.size)); have HM15 := Lib.hid (HM14.out.below hB); clear hB
  go_wp2_with fail
  refine (heldSummonsS_any u3.heap.size aI xs.length capI 1 u15 (by omega) (by omega) (by omega) HM15.out).mono ?_
  rintro e u16 ⟨rfl, hw⟩
  have HC16 := Lib.hid (hw ▸ HC15.out); clear hw
  go_wp2_with fail
  go_ret
  exact ⟨rfl, HB3.out.trans (HC16.out.mono HB3.out.size)⟩

/-- A start that fits: the heap that the variables' own initialisers leave (and the pinned table, where the row lists one). -/
theorem laid_met (os : Os) : laidMetH Tryd.prog Rows.fnExactAnswerSummonsRow.laid ((doorWorld os).forCall (fun _ _ => 0) ⟨#[], #[.slice none 0 0, .int .i64 0, .int .i64 0, .int .i64 0], []⟩).memory :=
  laidMetH_of_parts (laidMet_nil _ _) (by kernel_rfl)
theorem reads (os : Os) {H : Type} (enc : TypeId × Value → H) : DataW.whole enc Tryd.prog ((doorWorld os).forCall (fun _ _ => 0) ⟨#[], #[.slice none 0 0, .int .i64 0, .int .i64 0, .int .i64 0], []⟩).memory Tryd.f5.params.toList Rows.fnExactAnswerSummonsSpec.vars false (#[.slice none 0 0, .int .i64 0, .int .i64 0, .int .i64 0] : Array Value).toList 8 = some ([.nil, .lit (.int .i64 0), .lit (.int .i64 0), .lit (.int .i64 0)], [], []) :=
  by kernel_rfl

set_option maxRecDepth 100000 in
theorem lifted (os : Os) (started : os.Started) (H : Type) (enc : TypeId × Value → H) (F : Stop.Interp) :
    ReturnsInHanded {} Tryd.checked os 5 .any ((OpenSpec.ofChange Rows.fnExactAnswerSummonsSpec).preRow enc Tryd.prog Tryd.f5 Rows.fnExactAnswerSummonsRow.domain false Rows.fnExactAnswerSummonsRow.laid) (((OpenSpec.ofChange Rows.fnExactAnswerSummonsSpec).at F).post enc Tryd.prog Tryd.f5 false true false false) := by
  refine returnsInHanded_of_row (C := Tryd.checked) (s := OpenSpec.ofChange Rows.fnExactAnswerSummonsSpec) own started (by kernel_rfl) Tryd.func5
    (witness_row_atRef (enc := enc) (C := Tryd.checked) false (doorWorld os) #[.slice none 0 0, .int .i64 0, .int .i64 0, .int .i64 0] rfl (by kernel_rfl) (by kernel_rfl) (by kernel_rfl)
      (OpenSpec.preRow_of_cond 8 (reads os enc) (by kernel_rfl) (fun k hk => by cases hk) (by kernel_rfl) (laid_met os))) ?_
  intro W base args ds gs before hval0 hW _ _ _ hL hsh _
  have hval : ∀ (j : Nat) t v, Tryd.f5.params[j]? = some t → args[j]? = some v → Value.okWide Tryd.prog W .any base t v := hval0
  have hW' := hW
  obtain ⟨p, q, hA0, hV, rfl, hfz, hnd⟩ := hW
  have hA : DataW.TrodAll enc Tryd.prog W 0 (fun _ => true) true Tryd.f5.params.toList args.toList ds p := hA0
  rw [Tryd.params5] at hA hval
  obtain ⟨v0, vs0, d0, ds0, p0, q0, hargs, rfl, rfl, h0, r0⟩ := trodAll_cons hA
  obtain ⟨v1, vs1, d1, ds1, p1, q1, rfl, rfl, rfl, h1, r1⟩ := trodAll_cons r0
  obtain ⟨v2, vs2, d2, ds2, p2, q2, rfl, rfl, rfl, h2, r2⟩ := trodAll_cons r1
  obtain ⟨v3, vs3, d3, ds3, p3, q3, rfl, rfl, rfl, h3, r3⟩ := trodAll_cons r2
  obtain ⟨rfl, rfl, rfl⟩ := trodAll_nil r3
  obtain rfl : args = #[v0, v1, v2, v3] := by cases args; simp_all
  obtain ⟨rfl, rfl⟩ := trodVars_none hV
  obtain ⟨a0, len0, cap0, rfl⟩ := okWide_slice Tryd.underlying35 (hval 0 35 v0 rfl rfl)
  have k0 := h0
  have lt0 : ∀ x ∈ p0, x.block < W.heap.size := by obtain ⟨m, hm⟩ := k0; exact DataW.trod_lt m _ _ _ hm
  obtain ⟨pp0, hl0, hm0, hI0⟩ : ∃ ps : List Summons, ps.length = len0 ∧ len0 ≤ maxLen ∧ Summons.ListAt W a0 ps := by
    obtain ⟨fuel, hf⟩ := h0
    exact Summons.openS Tryd.tySummons Tryd.underlying35 hf
  obtain ⟨a1, rfl, rfl, rfl, w1⟩ := open_int Tryd.underlying2 (hval 1 2 v1 rfl rfl) h1
  obtain ⟨a2, rfl, rfl, rfl, w2⟩ := open_int Tryd.underlying2 (hval 2 2 v2 rfl rfl) h2
  obtain ⟨a3, rfl, rfl, rfl, w3⟩ := open_int Tryd.underlying2 (hval 3 2 v3 rfl rfl) h3
  clear hA0 hval0
  refine (walk W hL hsh a0 len0 cap0 pp0 hl0 hm0 hI0 a1 w1 a2 w2 a3 w3).mono fun e W' ⟨he, bel⟩ => ?_
  subst he
  exact ⟨_, rfl, _, _, _, [], _, [], hW', trodAll_mk1 (shut_bool Tryd.underlying4 _), (trodAll_cons_mk (Below.trod laidOut (by kernel_rfl) (of_decide_eq_true (by kernel_rfl)) k0 bel lt0) (trodAll_cons_mk (shut_int Tryd.underlying2 w1) (trodAll_cons_mk (shut_int Tryd.underlying2 w2) (trodAll_cons_mk (shut_int Tryd.underlying2 w3) trodAll_mk0)))), rfl, bel.frame _, fun h => by cases h⟩

theorem said : Rows.FnExactAnswerSummonsSaid :=
  OpenClaim.holds_of_cond 5 Tryd.f5 rfl rfl rfl rfl rfl rfl rfl ⟨rfl, rfl, rfl, rfl, rfl⟩ rfl rfl rfl rfl rfl (by kernel_rfl) Tryd.func5 (by kernel_rfl)
    (of_decide_eq_true (by kernel_rfl)) (by unfold Func.isWrapper; first | (rw [if_pos (by decide +kernel)]; kernel_rfl) | (rw [if_neg (by decide +kernel)]; exact ⟨rfl, rfl⟩))
    (fun os started H enc _ F => by rw [OpenClaim.pre_eq_preRow]; exact lifted os started H enc F)

/-- The statement: the tied card. -/
theorem proved : Rows.FnExactAnswerSummonsCardSaid :=
  Claim7.holds_tied_plain_at .later [] _ _ _ _ said (fun _ h => by cases h) (by kernel_rfl) (fun _ h => by cases h) fnExactAnswerSummons_row_tie rfl ⟨rfl, rfl⟩ (by kernel_rfl) rfl
    (fun f fn hf hfn => by
      obtain rfl : f = 5 := Option.some.inj ((show Tryd.prog.funcNamed "loop.example/g01027/laws.FnExactAnswerSummons" = some 5 by kernel_rfl).symm.trans hf) |>.symm
      obtain rfl : fn = Tryd.f5 := (Option.some.inj (Tryd.func5.symm.trans hfn)).symm
      exact ⟨by kernel_rfl, fun j t ht => by
        rw [Tryd.params5] at ht
        have hm : t ∈ [35, 2, 2, 2] := by simpa using Array.mem_of_getElem? ht
        have hall : ([35, 2, 2, 2].all fun u => !Tryd.prog.wantsStandIn u) = true := by kernel_rfl
        exact (show Tryd.prog.wantsStandIn t = false by simpa using List.all_eq_true.1 hall t hm)⟩)
    (by kernel_rfl)
end Go.Proofs.YtchffaohmeaccaaDoor.fnExactAnswerSummons
