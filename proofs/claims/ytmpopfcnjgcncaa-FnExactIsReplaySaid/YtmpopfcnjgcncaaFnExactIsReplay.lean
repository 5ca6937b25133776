/- Proved: for every pool and number, laws.FnExactIsReplay returns true and leaves its arguments as they were: impl.IsReplay answers as its model and writes nothing. No condition. -/
import Derived.Test.YtmpopfcnjgcncaaRows
import Derived.WalkKit
import Derived.ProofKit
import Derived.OpenShut
import Derived.ShutString
import Derived.ChangeOld
import Derived.Below
import Derived.SliceStrings
import Derived.Lib.Hide
import Derived.Deep.RegionHeld3
import Derived.Deep.QuietTactic
import Derived.BigQuiet
import Derived.Test.YtmpopfcnjgcncaaBase
import Derived.Test.YtmpopfcnjgcncaaPure2
import Derived.Test.YtmpopfcnjgcncaaPure30
import Derived.Test.YtmpopfcnjgcncaaPure40
import Derived.Test.YtmpopfcnjgcncaaPure80
import Derived.Test.YtmpopfcnjgcncaaMarkI
import Derived.Test.YtmpopfcnjgcncaaEqInt
import Derived.Test.YtmpopfcnjgcncaaIntL
import Derived.Test.YtmpopfcnjgcncaaBuildI
import Derived.Test.YtmpopfcnjgcncaaBuild8
import Derived.Test.YtmpopfcnjgcncaaRowV
import Derived.Test.YtmpopfcnjgcncaaPoolA
import Derived.Test.YtmpopfcnjgcncaaPoolB
import Derived.Test.YtmpopfcnjgcncaaSpec80
import Derived.Test.YtmpopfcnjgcncaaSpec81
import Derived.Test.YtmpopfcnjgcncaaSpec82
import Derived.Test.YtmpopfcnjgcncaaSpec83
import Derived.Test.YtmpopfcnjgcncaaSpec84
import Derived.Test.YtmpopfcnjgcncaaSpec85
import Derived.Test.YtmpopfcnjgcncaaSpec86
import Derived.Test.YtmpopfcnjgcncaaImpl8b
import Derived.Test.YtmpopfcnjgcncaaImpl8e
namespace Go.Proofs.Ytmpopfcnjgcncaa.fnExactIsReplay
open Go.ChangeShapes Go.WideShapes Go.ChangeAt Go.RowKit
open Go.ChangeMaps (open_string shut_string)
open Pure2 Pure30 Pure40 Pure80 Rec
set_option linter.unusedVariables false

theorem own : ownKnob Try.prog.godebug = none := by kernel_rfl
theorem laidOut : laidOutB Try.prog = true := by kernel_rfl


set_option maxRecDepth 100000 in
set_option maxHeartbeats 4000000 in
theorem walk (w : World) (qa00 : Option Addr) (ql00 qc00 : Nat) (qa01 : Option Addr) (ql01 qc01 : Nat) (pv0 : Pure80.PoolV) (w0 : PoolV.In w qa00 ql00 qa01 ql01 pv0) (a1 : Int) (w1 : (Lit.int .i64 a1).wf = true) :
    Calls Try.prog 10 #[.agg #[.slice qa00 ql00 qc00, .slice qa01 ql01 qc01, .int .i64 pv0.state], .int .i64 a1] w fun e w' => e = .returned (.bool true) ∧ Below w.heap.size w w' := by
  have hm0 := w0.1.2.1; have hm1 := w0.2.2.1
  go_enter Try.func10, Try.ntmps10
  have HB := Lib.hid (boxed w (.cells #[.slice qa00 ql00 qc00, .slice qa01 ql01 qc01, .int .i64 pv0.state] 47))
  have HX := Lib.hid (PoolV.boxed w qa00 ql00 qc00 qa01 ql01 qc01 pv0 47)
  have HR := Lib.hid (w0.below HB.out)
  go_wp2_with fail
  refine (szPoolV_any qa00 ql00 qc00 qa01 ql01 qc01 pv0 1048576 _ (by omega) (by omega) hm0 hm1).mono ?_; rintro e u1 ⟨L0, rfl, hL1, hL, hB⟩
  have HB_1 := Lib.hid (HB.out.trans (hB.mono HB.out.size))
  have HX_1 := Lib.hid (HX.out.below hB)
  have HR_1 := Lib.hid (HR.out.below hB)
  clear hB
  by_cases hneg : L0 < 0
  · go_wp2_with fail
    go_ret
    exact ⟨rfl, HB_1.out⟩
  · skip
    obtain ⟨hzs, hjs⟩ := hL (by omega)
    clear hL
    obtain ⟨x, c, hv⟩ : ∃ x c, replayR pv0 a1 = (x, c) := ⟨_, _, rfl⟩
    have HSp := Lib.hid (fun bz bj W (h : PoolV.In W (some ⟨bz, 0, none⟩) ql00 (some ⟨bj, 0, none⟩) ql01 pv0) => show Calls Try.prog 18 #[.agg #[.slice (some ⟨bz, 0, none⟩) ql00 ql00, .slice (some ⟨bj, 0, none⟩) ql01 ql01, .int .i64 pv0.state], .int .i64 a1] W (Says8 (.tuple #[.bool x, .int .i64 c]) W) from by have := specReplay8_any (some ⟨bz, 0, none⟩) ql00 ql00 (some ⟨bj, 0, none⟩) ql01 ql01 pv0 a1 W h (Nat.le_refl _) (fun e => by cases e); rw [hv] at this; exact this)
    have HIm := Lib.hid (fun bz bj W (h : PoolV.In W (some ⟨bz, 0, none⟩) ql00 (some ⟨bj, 0, none⟩) ql01 pv0) => show Calls Try.prog 17 #[.agg #[.slice (some ⟨bz, 0, none⟩) ql00 ql00, .slice (some ⟨bj, 0, none⟩) ql01 ql01, .int .i64 pv0.state], .int .i64 a1] W (Says8 (.tuple #[.bool x, .int .i64 c]) W) from by have := implReplay8_any (some ⟨bz, 0, none⟩) ql00 ql00 (some ⟨bj, 0, none⟩) ql01 ql01 pv0 a1 W h (Nat.le_refl _) (fun e => by cases e) (by omega); rw [hv] at this; exact this)
    clear hv
    obtain ⟨ax0, ax1, ax2⟩ := HX_1.out
    go_wp2_with fail
    clear ax0 ax1 ax2
    refine (toPoolV_any qa00 ql00 qc00 qa01 ql01 qc01 pv0 u1 HR_1.out hzs hjs).mono ?_; rintro e u2 ⟨bz, bj, rfl, hb1bz, hb2bz, ho1bz, hb3bz, hb4bz, ho2bz, hnebz, hR2, hB⟩
    have HB_2 := Lib.hid (HB_1.out.trans (hB.mono HB_1.out.size))
    have HX_2 := Lib.hid (HX_1.out.below hB)
    have HR_2 := Lib.hid (HR_1.out.below hB)
    clear hB
    clear hb1bz hb2bz ho1bz hb3bz hb4bz ho2bz hnebz
    go_wp2_with fail
    refine (HSp.out bz bj u2 hR2).mono ?_; rintro e u3 ⟨rfl, hB⟩
    have HB_3 := Lib.hid (HB_2.out.trans (hB.mono HB_2.out.size))
    have HX_3 := Lib.hid (HX_2.out.below hB)
    have HR_3 := Lib.hid (HR_2.out.below hB)
    clear hB
    clear hR2
    obtain ⟨ax0, ax1, ax2⟩ := HX_3.out
    go_wp2_with fail
    clear ax0 ax1 ax2
    refine (toPoolV_any qa00 ql00 qc00 qa01 ql01 qc01 pv0 u3 HR_3.out hzs hjs).mono ?_; rintro e u4 ⟨bz, bj, rfl, hb1bz, hb2bz, ho1bz, hb3bz, hb4bz, ho2bz, hnebz, hR2, hB⟩
    have HB_4 := Lib.hid (HB_3.out.trans (hB.mono HB_3.out.size))
    have HX_4 := Lib.hid (HX_3.out.below hB)
    have HR_4 := Lib.hid (HR_3.out.below hB)
    clear hB
    clear hb1bz hb2bz ho1bz hb3bz hb4bz ho2bz hnebz
    have hbx := boxed u4 (.cells #[.slice (some ⟨bz, 0, none⟩) ql00 ql00, .slice (some ⟨bj, 0, none⟩) ql01 ql01, .int .i64 pv0.state] 26)
    have HB_5 := Lib.hid (HB_4.out.trans (hbx.mono HB_4.out.size))
    have HX_5 := Lib.hid (HX_4.out.below hbx)
    have HR_5 := Lib.hid (HR_4.out.below hbx)
    have HY := Lib.hid (PoolV.boxed u4 (some ⟨bz, 0, none⟩) ql00 ql00 (some ⟨bj, 0, none⟩) ql01 ql01 pv0 26)
    have HZ := Lib.hid (hR2.below hbx)
    clear hbx hR2
    go_wp2_with fail
    refine (HIm.out bz bj (u4.alloc (.cells #[.slice (some ⟨bz, 0, none⟩) ql00 ql00, .slice (some ⟨bj, 0, none⟩) ql01 ql01, .int .i64 pv0.state] 26)) HZ.out).mono ?_; rintro e u5 ⟨rfl, hB⟩
    have HB_6 := Lib.hid (HB_5.out.trans (hB.mono HB_5.out.size))
    have HX_6 := Lib.hid (HX_5.out.below hB)
    have HR_6 := Lib.hid (HR_5.out.below hB)
    have HY_6 := Lib.hid (HY.out.below hB)
    have HZ_6 := Lib.hid (HZ.out.below hB)
    clear hB
    go_wp2_with fail
    have hdr := Below.drew (Below.refl u5.heap.size u5)
    have HdY := Lib.hid (HY_6.out.below hdr)
    have HdX := Lib.hid (HX_6.out.below hdr)
    have HdR := Lib.hid (HR_6.out.below hdr)
    have HdZ := Lib.hid (HZ_6.out.below hdr)
    go_region_held3 (fun W => (W.cell? ⟨u4.heap.size, 0, none⟩ = some (.slice (some ⟨bz, 0, none⟩) ql00 ql00) ∧ W.cell? ⟨u4.heap.size, 1, none⟩ = some (.slice (some ⟨bj, 0, none⟩) ql01 ql01) ∧ W.cell? ⟨u4.heap.size, 2, none⟩ = some (.int .i64 pv0.state)) ∧ (W.cell? ⟨w.heap.size, 0, none⟩ = some (.slice qa00 ql00 qc00) ∧ W.cell? ⟨w.heap.size, 1, none⟩ = some (.slice qa01 ql01 qc01) ∧ W.cell? ⟨w.heap.size, 2, none⟩ = some (.int .i64 pv0.state))) (first | exact ⟨HdY.out, HdX.out⟩ | exact ⟨HdY.out.below hBq, HdX.out.below hBq⟩ | exact ⟨(HdY.out.below hBq).below hBr, (HdX.out.below hBq).below hBr⟩) (first | (go_at_call 37; refine (toPoolV_any qa00 ql00 qc00 qa01 ql01 qc01 pv0 u5.drew HdR.out hzs hjs).mono ?_; rintro e v1 ⟨bq, br, rfl, hb1bq, hb2bq, ho1bq, hb3bq, hb4bq, ho2bq, hnebq, hRq, hBq⟩) | (go_at_call 38; refine (eqPoolV_same (some ⟨bz, 0, none⟩) ql00 ql00 (some ⟨bj, 0, none⟩) ql01 ql01 (some ⟨bq, 0, none⟩) ql00 (some ⟨br, 0, none⟩) ql01 pv0 v1 (HdZ.out.below hBq) hRq).mono ?_; rintro e v2 ⟨rfl, hBr⟩))
    have hall := (hdr.trans hBq).trans (hBr.mono (hdr.trans hBq).size)
    have HB_7 := Lib.hid (HB_6.out.trans (hall.mono HB_6.out.size))
    have HX_7 := Lib.hid (HX_6.out.below hall)
    have HR_7 := Lib.hid (HR_6.out.below hall)
    have HY_7 := Lib.hid (HY_6.out.below hall)
    have HZ_7 := Lib.hid (HZ_6.out.below hall)
    clear hall hdr hBq hBr
    go_wp2_with fail
    go_ret
    exact ⟨rfl, HB_7.out⟩

set_option maxRecDepth 100000 in
theorem lifted (os : Os) (started : os.Started) (H : Type) (enc : TypeId × Value → H) :
    ReturnsInHanded {} Try.checked os 10 .any (Rows.fnExactIsReplaySpec.pre6 enc Try.prog Try.f10 Rows.fnExactIsReplayRow.domain false) (Rows.fnExactIsReplaySpec.post enc Try.prog Try.f10 false true false false) := by
  refine returnsInHanded_of_change (C := Try.checked) own started (by kernel_rfl) Try.func10
    (ChangeSpec.witness6 (enc := enc) (C := Try.checked) false ⟨#[], #[.agg #[.slice none 0 0, .slice none 0 0, .int .i64 0], .int .i64 0], []⟩ 8 (by kernel_rfl) (by kernel_rfl) (by kernel_rfl) (by kernel_rfl)) ?_
  intro W base args ds gs before hval0 hW hcnd _
  have hval : ∀ (j : Nat) t v, Try.f10.params[j]? = some t → args[j]? = some v → Value.okWide Try.prog W .any base t v := hval0
  have hW' := hW
  obtain ⟨p, q, hA0, hV, rfl, hfz, hnd⟩ := hW
  have hA : DataW.TrodAll enc Try.prog W 0 (fun _ => true) true Try.f10.params.toList args.toList ds p := hA0
  rw [Try.params10] at hA hval
  obtain ⟨v0, vs0, d0, ds0, p0, q0, hargs, rfl, rfl, h0, r0⟩ := trodAll_cons hA
  obtain ⟨v1, vs1, d1, ds1, p1, q1, rfl, rfl, rfl, h1, r1⟩ := trodAll_cons r0
  obtain ⟨rfl, rfl, rfl⟩ := trodAll_nil r1
  obtain rfl : args = #[v0, v1] := by cases args; simp_all
  obtain ⟨rfl, rfl⟩ := trodVars_none hV
  have k0 := h0
  have lt0 : ∀ x ∈ p0, x.block < W.heap.size := by obtain ⟨m, hm⟩ := k0; exact DataW.trod_lt m _ _ _ hm
  obtain ⟨qa00, ql00, qc00, qa01, ql01, qc01, pv0, rfl, w0⟩ := PoolV.open Try.tyPoolV (hval 0 47 v0 rfl rfl) h0
  obtain ⟨a1, rfl, rfl, rfl, w1⟩ := open_int Try.underlying2 (hval 1 2 v1 rfl rfl) h1
  clear hA0 hval0
  refine (walk W qa00 ql00 qc00 qa01 ql01 qc01 pv0 w0 a1 w1).mono fun e W' ⟨he, bel⟩ => ?_
  subst he
  exact ⟨_, rfl, _, _, _, [], _, [], hW', trodAll_mk1 (shut_bool Try.underlying4 _), (trodAll_cons_mk (Below.trod laidOut (by kernel_rfl) (of_decide_eq_true (by kernel_rfl)) k0 bel lt0) (trodAll_cons_mk (shut_int Try.underlying2 w1) trodAll_mk0)), rfl, bel.frame _, fun h => by cases h⟩

theorem over : Rows.fnExactIsReplayRow.holds Try.pinned (OpenSpec.ofChange Rows.fnExactIsReplaySpec) :=
  OpenClaim.holds_of_wide 10 Try.f10 rfl rfl rfl rfl rfl rfl rfl ⟨rfl, rfl, rfl, rfl, rfl⟩ rfl rfl rfl rfl rfl (by kernel_rfl) Try.func10 (by kernel_rfl)
    (of_decide_eq_true (by kernel_rfl)) (by unfold Func.isWrapper; first | (rw [if_pos (by decide +kernel)]; kernel_rfl) | (rw [if_neg (by decide +kernel)]; exact ⟨rfl, rfl⟩))
    (fun os started H enc _ => lifted os started H enc)

/-- The statement. -/
theorem proved : Rows.FnExactIsReplaySaid := over
end Go.Proofs.Ytmpopfcnjgcncaa.fnExactIsReplay
