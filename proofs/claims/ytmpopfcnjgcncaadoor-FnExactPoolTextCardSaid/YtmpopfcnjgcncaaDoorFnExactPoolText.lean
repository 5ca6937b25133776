/- Proved: for every pool, laws.FnExactPoolText returns true and leaves its argument as it was: impl.PoolText answers as its model and writes nothing. The condition: the variables listed are laid. -/
import Derived.Test.YtmpopfcnjgcncaaDoorRows
import Derived.Test.YtmpopfcnjgcncaaDoorCards
import Derived.Test.YtmpopfcnjgcncaaDoorTie
import Derived.WalkKit
import Derived.ProofKit
import Derived.OpenShut
import Derived.ShutString
import Derived.ChangeOld
import Derived.Below
import Derived.SliceStrings
import Derived.Lib.Hide
import Derived.Deep.DeepHandedRow
import Derived.Deep.DeepWitnessRowRef
import Derived.SevenTiedAt
import Derived.Test.YtmpopfcnjgcncaaDoorBase
import Derived.Test.YtmpopfcnjgcncaaDoorPure2
import Derived.Test.YtmpopfcnjgcncaaDoorPure4
import Derived.Test.YtmpopfcnjgcncaaDoorPure30
import Derived.Test.YtmpopfcnjgcncaaDoorPure40
import Derived.Test.YtmpopfcnjgcncaaDoorPure80
import Derived.Test.YtmpopfcnjgcncaaDoorMarkI
import Derived.Test.YtmpopfcnjgcncaaDoorEqInt
import Derived.Test.YtmpopfcnjgcncaaDoorIntL
import Derived.Test.YtmpopfcnjgcncaaDoorBuildI
import Derived.Test.YtmpopfcnjgcncaaDoorBuild8
import Derived.Test.YtmpopfcnjgcncaaDoorRowV
import Derived.Test.YtmpopfcnjgcncaaDoorPoolA
import Derived.Test.YtmpopfcnjgcncaaDoorPoolB
import Derived.Test.YtmpopfcnjgcncaaDoorSpec80
import Derived.Test.YtmpopfcnjgcncaaDoorImpl8b
import Derived.Test.YtmpopfcnjgcncaaDoorText8
import Derived.Test.YtmpopfcnjgcncaaDoorDoorW
namespace Go.Proofs.YtmpopfcnjgcncaaDoor.fnExactPoolText
open Go.ChangeShapes Go.WideShapes Go.ChangeAt Go.RowKit
open Go.ChangeMaps (open_string shut_string)
open Pure2 Pure4 Pure30 Pure40 Pure80 Rec
set_option linter.unusedVariables false

theorem own : ownKnob Tryd.prog.godebug = none := by kernel_rfl
theorem laidOut : laidOutB Tryd.prog = true := by kernel_rfl


set_option maxRecDepth 100000 in
set_option maxHeartbeats 4000000 in
theorem walk (w : World) (hL : laidMetH Tryd.prog Rows.fnExactPoolTextRow.laid w) (hsh : w.ShapedOpen Tryd.prog) (qa00 : Option Addr) (ql00 qc00 : Nat) (qa01 : Option Addr) (ql01 qc01 : Nat) (pv0 : Pure80.PoolV) (w0 : PoolV.In w qa00 ql00 qa01 ql01 pv0) :
    Calls Tryd.prog 3 #[.agg #[.slice qa00 ql00 qc00, .slice qa01 ql01 qc01, .int .i64 pv0.state]] w fun e w' => e = .returned (.bool true) ∧ Below w.heap.size w w' := by
  have hT0 := tabs_of hL (by simp [Rows.fnExactPoolTextRow])
  clear hL hsh
  have hm0 := w0.1.2.1; have hm1 := w0.2.2.1
  go_enter Tryd.func3, Tryd.ntmps3
  have HB := Lib.hid (boxed w (.cells #[.slice qa00 ql00 qc00, .slice qa01 ql01 qc01, .int .i64 pv0.state] 24))
  have HX := Lib.hid (PoolV.boxed w qa00 ql00 qc00 qa01 ql01 qc01 pv0 24)
  have HR := Lib.hid (w0.below HB.out)
  have HT := Lib.hid (hT0.below Tryd.gPow HB.out)
  clear hT0
  go_wp2_with fail
  refine (szPoolV_any qa00 ql00 qc00 qa01 ql01 qc01 pv0 1048576 _ (by omega) (by omega) hm0 hm1).mono ?_; rintro e u1 ⟨L0, rfl, hL1, hL, hB⟩
  have HB_1 := Lib.hid (HB.out.trans (hB.mono HB.out.size))
  have HX_1 := Lib.hid (HX.out.below hB)
  have HR_1 := Lib.hid (HR.out.below hB)
  have HT_1 := Lib.hid (HT.out.below Tryd.gPow hB)
  clear hB
  by_cases hneg : L0 < 0
  · go_wp2_with fail
    go_ret
    exact ⟨rfl, HB_1.out⟩
  · skip
    obtain ⟨hzs, hjs⟩ := hL (by omega)
    clear hL
    obtain ⟨t, c, hv⟩ : ∃ t c, textOfQ pv0 = (t, c) := ⟨_, _, rfl⟩
    have HSp := Lib.hid (fun bz bj W (h : PoolV.In W (some ⟨bz, 0, none⟩) ql00 (some ⟨bj, 0, none⟩) ql01 pv0) => show Calls Tryd.prog 5 #[.agg #[.slice (some ⟨bz, 0, none⟩) ql00 ql00, .slice (some ⟨bj, 0, none⟩) ql01 ql01, .int .i64 pv0.state]] W (SaysT2 t c W) from by have := specPoolText_any (some ⟨bz, 0, none⟩) ql00 ql00 (some ⟨bj, 0, none⟩) ql01 ql01 pv0 W h (Nat.le_refl _); rw [hv] at this; exact this)
    have HIm := Lib.hid (fun bz bj W (h : PoolV.In W (some ⟨bz, 0, none⟩) ql00 (some ⟨bj, 0, none⟩) ql01 pv0) (hT : Tabs Tryd.prog W) => show Calls Tryd.prog 7 #[.agg #[.slice (some ⟨bz, 0, none⟩) ql00 ql00, .slice (some ⟨bj, 0, none⟩) ql01 ql01, .int .i64 pv0.state]] W (SaysT2 t c W) from by have := implPoolText_any (some ⟨bz, 0, none⟩) ql00 ql00 (some ⟨bj, 0, none⟩) ql01 ql01 pv0 W h (Nat.le_refl _) (by omega) hT; rw [hv] at this; exact this)
    clear hv
    obtain ⟨ax0, ax1, ax2⟩ := HX_1.out
    go_wp2_with fail
    clear ax0 ax1 ax2
    refine (toPoolV_any qa00 ql00 qc00 qa01 ql01 qc01 pv0 u1 HR_1.out hzs hjs).mono ?_; rintro e u2 ⟨bz, bj, rfl, hb1bz, hb2bz, ho1bz, hb3bz, hb4bz, ho2bz, hnebz, hR2, hB⟩
    have HB_2 := Lib.hid (HB_1.out.trans (hB.mono HB_1.out.size))
    have HX_2 := Lib.hid (HX_1.out.below hB)
    have HR_2 := Lib.hid (HR_1.out.below hB)
    have HT_2 := Lib.hid (HT_1.out.below Tryd.gPow hB)
    clear hB
    clear hb1bz hb2bz ho1bz hb3bz hb4bz ho2bz hnebz
    go_wp2_with fail
    refine (HSp.out bz bj u2 hR2).mono ?_; rintro e u3 ⟨rfl, hB⟩
    have HB_3 := Lib.hid (HB_2.out.trans (hB.mono HB_2.out.size))
    have HX_3 := Lib.hid (HX_2.out.below hB)
    have HR_3 := Lib.hid (HR_2.out.below hB)
    have HT_3 := Lib.hid (HT_2.out.below Tryd.gPow hB)
    clear hB
    clear hR2
    obtain ⟨ax0, ax1, ax2⟩ := HX_3.out
    go_wp2_with fail
    clear ax0 ax1 ax2
    refine (toPoolV_any qa00 ql00 qc00 qa01 ql01 qc01 pv0 u3 HR_3.out hzs hjs).mono ?_; rintro e u4 ⟨bz, bj, rfl, hb1bz, hb2bz, ho1bz, hb3bz, hb4bz, ho2bz, hnebz, hR2, hB⟩
    have HB_4 := Lib.hid (HB_3.out.trans (hB.mono HB_3.out.size))
    have HX_4 := Lib.hid (HX_3.out.below hB)
    have HR_4 := Lib.hid (HR_3.out.below hB)
    have HT_4 := Lib.hid (HT_3.out.below Tryd.gPow hB)
    clear hB
    clear hb1bz hb2bz ho1bz hb3bz hb4bz ho2bz hnebz
    have hbx := boxed u4 (.cells #[.slice (some ⟨bz, 0, none⟩) ql00 ql00, .slice (some ⟨bj, 0, none⟩) ql01 ql01, .int .i64 pv0.state] 28)
    have HB_5 := Lib.hid (HB_4.out.trans (hbx.mono HB_4.out.size))
    have HX_5 := Lib.hid (HX_4.out.below hbx)
    have HR_5 := Lib.hid (HR_4.out.below hbx)
    have HT_5 := Lib.hid (HT_4.out.below Tryd.gPow hbx)
    have HY := Lib.hid (PoolV.boxed u4 (some ⟨bz, 0, none⟩) ql00 ql00 (some ⟨bj, 0, none⟩) ql01 ql01 pv0 28)
    have HZ := Lib.hid (hR2.below hbx)
    clear hbx hR2
    go_wp2_with fail
    refine (HIm.out bz bj (u4.alloc (.cells #[.slice (some ⟨bz, 0, none⟩) ql00 ql00, .slice (some ⟨bj, 0, none⟩) ql01 ql01, .int .i64 pv0.state] 28)) HZ.out HT_5.out).mono ?_; rintro e u5 ⟨rfl, hB⟩
    have HB_6 := Lib.hid (HB_5.out.trans (hB.mono HB_5.out.size))
    have HX_6 := Lib.hid (HX_5.out.below hB)
    have HR_6 := Lib.hid (HR_5.out.below hB)
    have HY_6 := Lib.hid (HY.out.below hB)
    have HZ_6 := Lib.hid (HZ.out.below hB)
    have HT_6 := Lib.hid (HT_5.out.below Tryd.gPow hB)
    clear hB
    go_wp2_with fail
    have hdr := Below.drew (Below.refl u5.heap.size u5)
    have HdY := Lib.hid (HY_6.out.below hdr)
    have HdX := Lib.hid (HX_6.out.below hdr)
    have HdR := Lib.hid (HR_6.out.below hdr)
    have HdZ := Lib.hid (HZ_6.out.below hdr)
    go_region_held3 (fun W => (W.cell? ⟨u4.heap.size, 0, none⟩ = some (.slice (some ⟨bz, 0, none⟩) ql00 ql00) ∧ W.cell? ⟨u4.heap.size, 1, none⟩ = some (.slice (some ⟨bj, 0, none⟩) ql01 ql01) ∧ W.cell? ⟨u4.heap.size, 2, none⟩ = some (.int .i64 pv0.state)) ∧ (W.cell? ⟨w.heap.size, 0, none⟩ = some (.slice qa00 ql00 qc00) ∧ W.cell? ⟨w.heap.size, 1, none⟩ = some (.slice qa01 ql01 qc01) ∧ W.cell? ⟨w.heap.size, 2, none⟩ = some (.int .i64 pv0.state))) (first | exact ⟨HdY.out, HdX.out⟩ | exact ⟨HdY.out.below hBq, HdX.out.below hBq⟩ | exact ⟨(HdY.out.below hBq).below hBr, (HdX.out.below hBq).below hBr⟩) (first | (go_at_call 6; refine (toPoolV_any qa00 ql00 qc00 qa01 ql01 qc01 pv0 u5.drew HdR.out hzs hjs).mono ?_; rintro e v1 ⟨bq, br, rfl, hb1bq, hb2bq, ho1bq, hb3bq, hb4bq, ho2bq, hnebq, hRq, hBq⟩) | (go_at_call 8; refine (eqPoolV_same (some ⟨bz, 0, none⟩) ql00 ql00 (some ⟨bj, 0, none⟩) ql01 ql01 (some ⟨bq, 0, none⟩) ql00 (some ⟨br, 0, none⟩) ql01 pv0 v1 (HdZ.out.below hBq) hRq).mono ?_; rintro e v2 ⟨rfl, hBr⟩))
    have hall := (hdr.trans hBq).trans (hBr.mono (hdr.trans hBq).size)
    have HB_7 := Lib.hid (HB_6.out.trans (hall.mono HB_6.out.size))
    have HX_7 := Lib.hid (HX_6.out.below hall)
    have HR_7 := Lib.hid (HR_6.out.below hall)
    have HY_7 := Lib.hid (HY_6.out.below hall)
    have HZ_7 := Lib.hid (HZ_6.out.below hall)
    have HT_7 := Lib.hid (HT_6.out.below Tryd.gPow hall)
    clear hall hdr hBq hBr
    go_wp2_with fail
    go_ret
    exact ⟨rfl, HB_7.out⟩

/-- A start that fits: the heap that the variables' own initialisers leave (and the pinned table, where the row lists one). -/
theorem laid_met (os : Os) : laidMetH Tryd.prog Rows.fnExactPoolTextRow.laid ((doorWorld os).forCall (fun _ _ => 0) ⟨#[], #[.agg #[.slice none 0 0, .slice none 0 0, .int .i64 0]], []⟩).memory :=
  laidMetH_of_parts3 (fuel := 8) (laidMet_of_run' 8 (by kernel_rfl) (by kernel_rfl)) (by kernel_rfl) (by kernel_rfl)
theorem reads (os : Os) {H : Type} (enc : TypeId × Value → H) : DataW.whole enc Tryd.prog ((doorWorld os).forCall (fun _ _ => 0) ⟨#[], #[.agg #[.slice none 0 0, .slice none 0 0, .int .i64 0]], []⟩).memory Tryd.f3.params.toList Rows.fnExactPoolTextSpec.vars false (#[.agg #[.slice none 0 0, .slice none 0 0, .int .i64 0]] : Array Value).toList 8 = some ([.agg [.nil, .nil, .lit (.int .i64 0)]], [], []) :=
  by kernel_rfl

set_option maxRecDepth 100000 in
theorem lifted (os : Os) (started : os.Started) (H : Type) (enc : TypeId × Value → H) (F : Stop.Interp) :
    ReturnsInHanded {} Tryd.checked os 3 .any ((OpenSpec.ofChange Rows.fnExactPoolTextSpec).preRow enc Tryd.prog Tryd.f3 Rows.fnExactPoolTextRow.domain false Rows.fnExactPoolTextRow.laid) (((OpenSpec.ofChange Rows.fnExactPoolTextSpec).at F).post enc Tryd.prog Tryd.f3 false true false false) := by
  refine returnsInHanded_of_row (C := Tryd.checked) (s := OpenSpec.ofChange Rows.fnExactPoolTextSpec) own started (by kernel_rfl) Tryd.func3
    (witness_row_atRef (enc := enc) (C := Tryd.checked) false (doorWorld os) #[.agg #[.slice none 0 0, .slice none 0 0, .int .i64 0]] rfl (by kernel_rfl) (by kernel_rfl) (by kernel_rfl)
      (OpenSpec.preRow_of_cond 8 (reads os enc) (by kernel_rfl) (fun k hk => by cases hk) (by kernel_rfl) (laid_met os))) ?_
  intro W base args ds gs before hval0 hW _ _ _ hL hsh _
  have hval : ∀ (j : Nat) t v, Tryd.f3.params[j]? = some t → args[j]? = some v → Value.okWide Tryd.prog W .any base t v := hval0
  have hW' := hW
  obtain ⟨p, q, hA0, hV, rfl, hfz, hnd⟩ := hW
  have hA : DataW.TrodAll enc Tryd.prog W 0 (fun _ => true) true Tryd.f3.params.toList args.toList ds p := hA0
  rw [Tryd.params3] at hA hval
  obtain ⟨v0, vs0, d0, ds0, p0, q0, hargs, rfl, rfl, h0, r0⟩ := trodAll_cons hA
  obtain ⟨rfl, rfl, rfl⟩ := trodAll_nil r0
  obtain rfl : args = #[v0] := by cases args; simp_all
  obtain ⟨rfl, rfl⟩ := trodVars_none hV
  have k0 := h0
  have lt0 : ∀ x ∈ p0, x.block < W.heap.size := by obtain ⟨m, hm⟩ := k0; exact DataW.trod_lt m _ _ _ hm
  obtain ⟨qa00, ql00, qc00, qa01, ql01, qc01, pv0, rfl, w0⟩ := PoolV.open Tryd.tyPoolV (hval 0 24 v0 rfl rfl) h0
  clear hA0 hval0
  refine (walk W hL hsh qa00 ql00 qc00 qa01 ql01 qc01 pv0 w0).mono fun e W' ⟨he, bel⟩ => ?_
  subst he
  exact ⟨_, rfl, _, _, _, [], _, [], hW', trodAll_mk1 (shut_bool Tryd.underlying4 _), (trodAll_cons_mk (Below.trod laidOut (by kernel_rfl) (of_decide_eq_true (by kernel_rfl)) k0 bel lt0) trodAll_mk0), rfl, bel.frame _, fun h => by cases h⟩

theorem said : Rows.FnExactPoolTextSaid :=
  OpenClaim.holds_of_cond 3 Tryd.f3 rfl rfl rfl rfl rfl rfl rfl ⟨rfl, rfl, rfl, rfl, rfl⟩ rfl rfl rfl rfl rfl (by kernel_rfl) Tryd.func3 (by kernel_rfl)
    (of_decide_eq_true (by kernel_rfl)) (by unfold Func.isWrapper; first | (rw [if_pos (by decide +kernel)]; kernel_rfl) | (rw [if_neg (by decide +kernel)]; exact ⟨rfl, rfl⟩))
    (fun os started H enc _ F => by rw [OpenClaim.pre_eq_preRow]; exact lifted os started H enc F)

/-- The statement: the tied card. -/
theorem proved : Rows.FnExactPoolTextCardSaid :=
  Claim7.holds_tied_plain_at .later [] _ _ _ _ said (fun _ h => by cases h) (by kernel_rfl) (fun _ h => by cases h) fnExactPoolText_row_tie rfl ⟨rfl, rfl⟩ (by kernel_rfl) rfl
    (fun f fn hf hfn => by
      obtain rfl : f = 3 := Option.some.inj ((show Tryd.prog.funcNamed "loop.example/g01027/laws.FnExactPoolText" = some 3 by kernel_rfl).symm.trans hf) |>.symm
      obtain rfl : fn = Tryd.f3 := (Option.some.inj (Tryd.func3.symm.trans hfn)).symm
      exact ⟨by kernel_rfl, fun j t ht => by
        rw [Tryd.params3] at ht
        have hm : t ∈ [24] := by simpa using Array.mem_of_getElem? ht
        have hall : ([24].all fun u => !Tryd.prog.wantsStandIn u) = true := by kernel_rfl
        exact (show Tryd.prog.wantsStandIn t = false by simpa using List.all_eq_true.1 hall t hm)⟩)
    (by kernel_rfl)
end Go.Proofs.YtmpopfcnjgcncaaDoor.fnExactPoolText
