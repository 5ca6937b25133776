/- Proved: for every pool, laws.FnExactLeftOf returns true and leaves its arguments as they were: impl.LeftOf answers as its model, in memory of its own. No condition. -/
import Derived.Test.YtmpopfcnjgcncaaRows
import Derived.WalkKit
import Derived.ProofKit
import Derived.OpenShut
import Derived.ShutString
import Derived.ChangeOld
import Derived.Below
import Derived.SliceStrings
import Derived.Lib.Hide
import Derived.Deep.RegionHeld3
import Derived.Deep.QuietTactic
import Derived.BigQuiet
import Derived.Test.YtmpopfcnjgcncaaBase
import Derived.Test.YtmpopfcnjgcncaaPure2
import Derived.Test.YtmpopfcnjgcncaaPure30
import Derived.Test.YtmpopfcnjgcncaaPure40
import Derived.Test.YtmpopfcnjgcncaaPure80
import Derived.Test.YtmpopfcnjgcncaaMarkI
import Derived.Test.YtmpopfcnjgcncaaEqInt
import Derived.Test.YtmpopfcnjgcncaaIntL
import Derived.Test.YtmpopfcnjgcncaaBuildI
import Derived.Test.YtmpopfcnjgcncaaBuild8
import Derived.Test.YtmpopfcnjgcncaaRowV
import Derived.Test.YtmpopfcnjgcncaaPoolA
import Derived.Test.YtmpopfcnjgcncaaPoolB
import Derived.Test.YtmpopfcnjgcncaaSpec80
import Derived.Test.YtmpopfcnjgcncaaSpec81
import Derived.Test.YtmpopfcnjgcncaaSpec82
import Derived.Test.YtmpopfcnjgcncaaSpec83
import Derived.Test.YtmpopfcnjgcncaaSpec84
import Derived.Test.YtmpopfcnjgcncaaSpec85
import Derived.Test.YtmpopfcnjgcncaaSpec86
import Derived.Test.YtmpopfcnjgcncaaImpl8b
import Derived.Test.YtmpopfcnjgcncaaImpl8e
import Derived.Test.YtmpopfcnjgcncaaLaw8
namespace Go.Proofs.Ytmpopfcnjgcncaa.fnExactLeftOf
open Go.ChangeShapes Go.WideShapes Go.ChangeAt Go.RowKit
open Go.ChangeMaps (open_string shut_string)
open Pure2 Pure30 Pure40 Pure80 Rec
set_option linter.unusedVariables false

theorem own : ownKnob Try.prog.godebug = none := by kernel_rfl
theorem laidOut : laidOutB Try.prog = true := by kernel_rfl


set_option maxRecDepth 100000 in
set_option maxHeartbeats 4000000 in
theorem walk (w : World) (qa00 : Option Addr) (ql00 qc00 : Nat) (qa01 : Option Addr) (ql01 qc01 : Nat) (pv0 : Pure80.PoolV) (w0 : PoolV.In w qa00 ql00 qa01 ql01 pv0) :
    Calls Try.prog 7 #[.agg #[.slice qa00 ql00 qc00, .slice qa01 ql01 qc01, .int .i64 pv0.state]] w fun e w' => e = .returned (.bool true) ∧ Below w.heap.size w w' := by
  have hm0 := w0.1.2.1; have hm1 := w0.2.2.1
  go_enter Try.func7, Try.ntmps7
  have HB := Lib.hid (boxed w (.cells #[.slice qa00 ql00 qc00, .slice qa01 ql01 qc01, .int .i64 pv0.state] 47))
  have HX := Lib.hid (PoolV.boxed w qa00 ql00 qc00 qa01 ql01 qc01 pv0 47)
  have HR := Lib.hid (w0.below HB.out)
  go_wp2_with fail
  refine (szPoolV_any qa00 ql00 qc00 qa01 ql01 qc01 pv0 1048576 _ (by omega) (by omega) hm0 hm1).mono ?_; rintro e u1 ⟨L0, rfl, hL1, hL, hB⟩
  have HB_1 := Lib.hid (HB.out.trans (hB.mono HB.out.size))
  have HX_1 := Lib.hid (HX.out.below hB)
  have HR_1 := Lib.hid (HR.out.below hB)
  clear hB
  by_cases hneg : L0 < 0
  · go_wp2_with fail
    go_ret
    exact ⟨rfl, HB_1.out⟩
  · skip
    obtain ⟨hzs, hjs⟩ := hL (by omega)
    clear hL
    obtain ⟨xs, c, hv⟩ : ∃ xs c, leftR pv0 = (xs, c) := ⟨_, _, rfl⟩
    have HSp := Lib.hid (fun bz bj W (h : PoolV.In W (some ⟨bz, 0, none⟩) ql00 (some ⟨bj, 0, none⟩) ql01 pv0) => show Calls Try.prog 35 #[.agg #[.slice (some ⟨bz, 0, none⟩) ql00 ql00, .slice (some ⟨bj, 0, none⟩) ql01 ql01, .int .i64 pv0.state]] W (SaysNewI xs c W) from by have e := (specLeftOf8_any (some ⟨bz, 0, none⟩) ql00 ql00 (some ⟨bj, 0, none⟩) ql01 ql01 pv0 W h (Nat.le_refl _) hzs).mono fun _ _ hh => hh.newI; rw [hv] at e; exact e)
    have HIm := Lib.hid (fun bz bj W (h : PoolV.In W (some ⟨bz, 0, none⟩) ql00 (some ⟨bj, 0, none⟩) ql01 pv0) => show Calls Try.prog 29 #[.agg #[.slice (some ⟨bz, 0, none⟩) ql00 ql00, .slice (some ⟨bj, 0, none⟩) ql01 ql01, .int .i64 pv0.state]] W (SaysNewI xs c W) from by have e := (implLeftOf8_any (some ⟨bz, 0, none⟩) ql00 ql00 (some ⟨bj, 0, none⟩) ql01 ql01 pv0 W h (Nat.le_refl _) (fun e => by cases e) (by omega)).mono fun _ _ hh => hh.newI; rw [hv] at e; exact e)
    have hsmall := leftR_small pv0
    rw [hv] at hsmall
    simp only at hsmall
    have hmm : xs.length ≤ maxLen := by unfold maxLen; omega
    clear hv
    obtain ⟨ax0, ax1, ax2⟩ := HX_1.out
    go_wp2_with fail
    clear ax0 ax1 ax2
    refine (toPoolV_any qa00 ql00 qc00 qa01 ql01 qc01 pv0 u1 HR_1.out hzs hjs).mono ?_; rintro e u2 ⟨bz, bj, rfl, hb1bz, hb2bz, ho1bz, hb3bz, hb4bz, ho2bz, hnebz, hR2, hB⟩
    have HB_2 := Lib.hid (HB_1.out.trans (hB.mono HB_1.out.size))
    have HX_2 := Lib.hid (HX_1.out.below hB)
    have HR_2 := Lib.hid (HR_1.out.below hB)
    clear hB
    clear hb1bz hb2bz ho1bz hb3bz hb4bz ho2bz hnebz
    go_wp2_with fail
    refine (HSp.out bz bj u2 hR2).mono ?_; rintro e u5 ⟨aS, capS, rfl, hoS, hB⟩
    have HB_3 := Lib.hid (HB_2.out.trans (hB.mono HB_2.out.size))
    have HX_3 := Lib.hid (HX_2.out.below hB)
    have HR_3 := Lib.hid (HR_2.out.below hB)
    clear hB
    have HS5 := Lib.hid (ownI_reads hoS)
    clear hoS hR2
    have HE5 := Lib.hid (Below.refl u5.heap.size u5)
    have hu5 : u5.heap.size ≤ u5.heap.size := Nat.le_refl _
    obtain ⟨ax0, ax1, ax2⟩ := HX_3.out
    go_wp2_with fail
    clear ax0 ax1 ax2
    refine (toPoolV_any qa00 ql00 qc00 qa01 ql01 qc01 pv0 u5 HR_3.out hzs hjs).mono ?_; rintro e u6 ⟨bz2, bj2, rfl, e1, e3, ho1, e2, e4, ho2, hne, hR2, hB⟩
    have HX_4 := Lib.hid (HX_3.out.below hB)
    have HR_4 := Lib.hid (HR_3.out.below hB)
    have HE_4 := Lib.hid (from_step HE5.out hu5 hB)
    clear hB
    have HOZ := Lib.hid ho1; have HOJ := Lib.hid ho2; have HZ6 := Lib.hid hR2
    clear ho1 ho2 hR2
    have hbx := boxed u6 (.cells #[.slice (some ⟨bz2, 0, none⟩) ql00 ql00, .slice (some ⟨bj2, 0, none⟩) ql01 ql01, .int .i64 pv0.state] 26)
    have HX_5 := Lib.hid (HX_4.out.below hbx)
    have HR_5 := Lib.hid (HR_4.out.below hbx)
    have HOZ_5 := Lib.hid (HOZ.out.below hbx)
    have HOJ_5 := Lib.hid (HOJ.out.below hbx)
    have HZ_5 := Lib.hid (HZ6.out.below hbx)
    have HE_5 := Lib.hid (from_step HE_4.out hu5 hbx)
    have HY := Lib.hid (PoolV.boxed u6 (some ⟨bz2, 0, none⟩) ql00 ql00 (some ⟨bj2, 0, none⟩) ql01 ql01 pv0 26)
    have hxs : (u6.alloc (.cells #[.slice (some ⟨bz2, 0, none⟩) ql00 ql00, .slice (some ⟨bj2, 0, none⟩) ql01 ql01, .int .i64 pv0.state] 26)).heap.size = u6.heap.size + 1 := by simp
    clear hbx
    go_wp2_with fail
    generalize hxq : u6.alloc (.cells #[.slice (some ⟨bz2, 0, none⟩) ql00 ql00, .slice (some ⟨bj2, 0, none⟩) ql01 ql01, .int .i64 pv0.state] 26) = uq at hxs HX_5 HR_5 HOZ_5 HOJ_5 HZ_5 HY HE_5 ⊢
    obtain ⟨xb, hxb⟩ : ∃ xb, u6.heap.size = xb := ⟨_, rfl⟩
    rw [hxb] at HY hxs e3 e4 ⊢
    clear hxb hxq
    refine (HIm.out bz2 bj2 uq HZ_5.out).mono ?_; rintro e u8 ⟨aI, capI, rfl, hoI, hB⟩
    have HX_6 := Lib.hid (HX_5.out.below hB)
    have HR_6 := Lib.hid (HR_5.out.below hB)
    have HOZ_6 := Lib.hid (HOZ_5.out.below hB)
    have HOJ_6 := Lib.hid (HOJ_5.out.below hB)
    have HZ_6 := Lib.hid (HZ_5.out.below hB)
    have HY_6 := Lib.hid (HY.out.below hB)
    have HE_6 := Lib.hid (from_step HE_5.out hu5 hB)
    clear hB
    have HG8 := Lib.hid hoI
    clear hoI
    obtain ⟨cc, hcc⟩ : ∃ cc, uq.heap.size = cc := ⟨_, rfl⟩
    rw [hcc] at HG8 hxs
    obtain ⟨s5, hs5⟩ : ∃ s5, u5.heap.size = s5 := ⟨_, rfl⟩
    rw [hs5] at e1 e2
    rw [hs5] at HE_6 HOZ_6 HOJ_6
    have hcs5 : s5 ≤ cc := by omega
    clear hu5
    have hu5 : s5 ≤ u5.heap.size := by omega
    have HS5E := Lib.hid (fun (W : World) (h : Below s5 u5 W) => HS5.out.below (by rw [hs5]; exact h)); have HX5E := Lib.hid (fun (W : World) (h : Below s5 u5 W) => HX_3.out.below (by rw [hs5]; exact h)); have HR5E := Lib.hid (fun (W : World) (h : Below s5 u5 W) => HR_3.out.below (by rw [hs5]; exact h)); have HFIN := Lib.hid (fun (W : World) (h : Below s5 u5 W) => (HB_3.out.trans ((show Below u5.heap.size u5 W by rw [hs5]; exact h).mono HB_3.out.size)))
    clear hcc hs5
    go_wp2_with fail
    refine (sameB (eqInt64S_any aI aS xs.length capI xs.length capS xs xs u8 rfl rfl hmm hmm (ownI_reads HG8.out) (HS5E.out u8 HE_6.out))).mono ?_; rintro e u9 ⟨rfl, hB⟩
    have HX_7 := Lib.hid (HX_6.out.below hB)
    have HR_7 := Lib.hid (HR_6.out.below hB)
    have HOZ_7 := Lib.hid (HOZ_6.out.below hB)
    have HOJ_7 := Lib.hid (HOJ_6.out.below hB)
    have HZ_7 := Lib.hid (HZ_6.out.below hB)
    have HY_7 := Lib.hid (HY_6.out.below hB)
    have HG_7 := Lib.hid (HG8.out.below hB)
    have HE_7 := Lib.hid (from_step HE_6.out hu5 hB)
    clear hB
    go_wp2_with fail
    have hdr := Below.drew (Below.refl u9.heap.size u9)
    have HdY := Lib.hid (HY_7.out.below hdr)
    have HdX := Lib.hid (HX_7.out.below hdr)
    have HdR := Lib.hid (HR_7.out.below hdr)
    have HdZ := Lib.hid (HZ_7.out.below hdr)
    go_region_held3 (fun W => (W.cell? ⟨xb, 0, none⟩ = some (.slice (some ⟨bz2, 0, none⟩) ql00 ql00) ∧ W.cell? ⟨xb, 1, none⟩ = some (.slice (some ⟨bj2, 0, none⟩) ql01 ql01) ∧ W.cell? ⟨xb, 2, none⟩ = some (.int .i64 pv0.state)) ∧ (W.cell? ⟨w.heap.size, 0, none⟩ = some (.slice qa00 ql00 qc00) ∧ W.cell? ⟨w.heap.size, 1, none⟩ = some (.slice qa01 ql01 qc01) ∧ W.cell? ⟨w.heap.size, 2, none⟩ = some (.int .i64 pv0.state))) (first | exact ⟨HdY.out, HdX.out⟩ | exact ⟨HdY.out.below hBq, HdX.out.below hBq⟩ | exact ⟨(HdY.out.below hBq).below hBr, (HdX.out.below hBq).below hBr⟩) (first | (go_at_call 37; refine (toPoolV_any qa00 ql00 qc00 qa01 ql01 qc01 pv0 u9.drew HdR.out hzs hjs).mono ?_; rintro e v1 ⟨bq, br, rfl, hb1bq, hb2bq, ho1bq, hb3bq, hb4bq, ho2bq, hnebq, hRq, hBq⟩) | (go_at_call 38; refine (eqPoolV_same (some ⟨bz2, 0, none⟩) ql00 ql00 (some ⟨bj2, 0, none⟩) ql01 ql01 (some ⟨bq, 0, none⟩) ql00 (some ⟨br, 0, none⟩) ql01 pv0 v1 (HdZ.out.below hBq) hRq).mono ?_; rintro e v2 ⟨rfl, hBr⟩))
    have hall := (hdr.trans hBq).trans (hBr.mono (hdr.trans hBq).size)
    have HX_8 := Lib.hid (HX_7.out.below hall)
    have HR_8 := Lib.hid (HR_7.out.below hall)
    have HOZ_8 := Lib.hid (HOZ_7.out.below hall)
    have HOJ_8 := Lib.hid (HOJ_7.out.below hall)
    have HZ_8 := Lib.hid (HZ_7.out.below hall)
    have HY_8 := Lib.hid (HY_7.out.below hall)
    have HG_8 := Lib.hid (HG_7.out.below hall)
    have HE_8 := Lib.hid (from_step HE_7.out hu5 hall)
    clear hall hdr hBq hBr
    clear hb1bq hb2bq ho1bq hb3bq hb4bq ho2bq hnebq hRq HdY HdX HdR HdZ
    obtain ⟨ax0, ax1, ax2⟩ := HY_8.out
    go_wp2_with fail
    clear ax0 ax1 ax2
    refine (markPoolV_any s5 (some ⟨bz2, 0, none⟩) ql00 ql00 (some ⟨bj2, 0, none⟩) ql01 ql01 pv0 _ _ 1 v2 (by omega) (by omega) hzs hjs HOZ_8.out HOJ_8.out (apart_of hne)).mono ?_; rintro e v5 ⟨rfl, _, _, hT⟩
    have hE := HE_8.out.size
    have HG15 := Lib.hid (ownI_past HG_8.out hT (by intro x hx; simp at hx; rcases hx with rfl | rfl <;> (show _ < cc; simp only; omega))); have HE15 := Lib.hid (HE_8.out.trans (hT.below (by omega)))
    clear hT hE
    go_wp2_with fail
    refine (sameB (eqInt64S_any aI aS xs.length capI xs.length capS xs xs v5 rfl rfl hmm hmm (ownI_reads HG15.out) (HS5E.out v5 HE15.out))).mono ?_; rintro e u17 ⟨rfl, hB⟩
    have HG_17 := Lib.hid (HG15.out.below hB)
    have HE_17 := Lib.hid (from_step HE15.out hu5 hB)
    clear hB
    go_wp2_with fail
    refine (markInt64S_any s5 aI xs.length capI _ 1 u17 (by omega) (by omega) (by omega) (Rec.ownI_mono HG_17.out hcs5)).mono ?_; rintro e v8 ⟨rfl, hM, hB, _⟩
    have HM18 := Lib.hid hM; have HE18 := Lib.hid (HE_17.out.trans hB)
    clear hM hB
    go_wp2_with fail
    refine (heldInt64S_any s5 aI xs.length capI 1 v8 (by omega) (by omega) (by omega) HM18.out).mono ?_; rintro e u19 ⟨rfl, hw⟩
    have HM_19 := Lib.hid (hw ▸ HM18.out); have HE_19 := Lib.hid (hw ▸ HE18.out)
    clear hw
    have HR19 := Lib.hid (HR5E.out _ HE_19.out); have HX19 := Lib.hid (HX5E.out _ HE_19.out)
    obtain ⟨ax0, ax1, ax2⟩ := HX19.out
    go_wp2_with fail
    clear ax0 ax1 ax2
    refine (toPoolV_any qa00 ql00 qc00 qa01 ql01 qc01 pv0 u19 HR19.out hzs hjs).mono ?_; rintro e v10 ⟨bm, bn, rfl, hb1bm, hb2bm, ho1bm, hb3bm, hb4bm, ho2bm, hnebm, hR2, hB⟩
    have HM_20 := Lib.hid (HM_19.out.below hB)
    have HR_20 := Lib.hid (HR19.out.below hB)
    have HX_20 := Lib.hid (HX19.out.below hB)
    have HE_20 := Lib.hid (from_step HE_19.out hu5 hB)
    clear hB
    clear hb1bm hb2bm ho1bm hb3bm hb4bm ho2bm hnebm
    go_wp2_with fail
    refine (HIm.out bm bn v10 hR2).mono ?_; rintro e v12 ⟨aH, capH, rfl, hoH, hB⟩
    have HM_21 := Lib.hid (HM_20.out.below hB)
    have HE_21 := Lib.hid (from_step HE_20.out hu5 hB)
    clear hB
    have HH := Lib.hid (ownI_reads hoH)
    clear hoH hR2
    go_wp2_with fail
    refine (sameB (eqInt64S_any aH aS xs.length capH xs.length capS xs xs v12 rfl rfl hmm hmm HH.out (HS5E.out v12 HE_21.out))).mono ?_; rintro e v13 ⟨rfl, hB⟩
    have HM_22 := Lib.hid (HM_21.out.below hB)
    have HE_22 := Lib.hid (from_step HE_21.out hu5 hB)
    clear hB
    go_wp2_with fail
    refine (heldInt64S_any s5 aI xs.length capI 1 v13 (by omega) (by omega) (by omega) HM_22.out).mono ?_; rintro e u31 ⟨rfl, hw⟩
    have HM_23 := Lib.hid (hw ▸ HM_22.out); have HE_23 := Lib.hid (hw ▸ HE_22.out)
    clear hw
    go_wp2_with fail
    go_ret
    exact ⟨rfl, HFIN.out _ HE_23.out⟩

set_option maxRecDepth 100000 in
theorem lifted (os : Os) (started : os.Started) (H : Type) (enc : TypeId × Value → H) :
    ReturnsInHanded {} Try.checked os 7 .any (Rows.fnExactLeftOfSpec.pre6 enc Try.prog Try.f7 Rows.fnExactLeftOfRow.domain false) (Rows.fnExactLeftOfSpec.post enc Try.prog Try.f7 false true false false) := by
  refine returnsInHanded_of_change (C := Try.checked) own started (by kernel_rfl) Try.func7
    (ChangeSpec.witness6 (enc := enc) (C := Try.checked) false ⟨#[], #[.agg #[.slice none 0 0, .slice none 0 0, .int .i64 0]], []⟩ 8 (by kernel_rfl) (by kernel_rfl) (by kernel_rfl) (by kernel_rfl)) ?_
  intro W base args ds gs before hval0 hW hcnd _
  have hval : ∀ (j : Nat) t v, Try.f7.params[j]? = some t → args[j]? = some v → Value.okWide Try.prog W .any base t v := hval0
  have hW' := hW
  obtain ⟨p, q, hA0, hV, rfl, hfz, hnd⟩ := hW
  have hA : DataW.TrodAll enc Try.prog W 0 (fun _ => true) true Try.f7.params.toList args.toList ds p := hA0
  rw [Try.params7] at hA hval
  obtain ⟨v0, vs0, d0, ds0, p0, q0, hargs, rfl, rfl, h0, r0⟩ := trodAll_cons hA
  obtain ⟨rfl, rfl, rfl⟩ := trodAll_nil r0
  obtain rfl : args = #[v0] := by cases args; simp_all
  obtain ⟨rfl, rfl⟩ := trodVars_none hV
  have k0 := h0
  have lt0 : ∀ x ∈ p0, x.block < W.heap.size := by obtain ⟨m, hm⟩ := k0; exact DataW.trod_lt m _ _ _ hm
  obtain ⟨qa00, ql00, qc00, qa01, ql01, qc01, pv0, rfl, w0⟩ := PoolV.open Try.tyPoolV (hval 0 47 v0 rfl rfl) h0
  clear hA0 hval0
  refine (walk W qa00 ql00 qc00 qa01 ql01 qc01 pv0 w0).mono fun e W' ⟨he, bel⟩ => ?_
  subst he
  exact ⟨_, rfl, _, _, _, [], _, [], hW', trodAll_mk1 (shut_bool Try.underlying4 _), (trodAll_cons_mk (Below.trod laidOut (by kernel_rfl) (of_decide_eq_true (by kernel_rfl)) k0 bel lt0) trodAll_mk0), rfl, bel.frame _, fun h => by cases h⟩

theorem over : Rows.fnExactLeftOfRow.holds Try.pinned (OpenSpec.ofChange Rows.fnExactLeftOfSpec) :=
  OpenClaim.holds_of_wide 7 Try.f7 rfl rfl rfl rfl rfl rfl rfl ⟨rfl, rfl, rfl, rfl, rfl⟩ rfl rfl rfl rfl rfl (by kernel_rfl) Try.func7 (by kernel_rfl)
    (of_decide_eq_true (by kernel_rfl)) (by unfold Func.isWrapper; first | (rw [if_pos (by decide +kernel)]; kernel_rfl) | (rw [if_neg (by decide +kernel)]; exact ⟨rfl, rfl⟩))
    (fun os started H enc _ => lifted os started H enc)

/-- The statement. -/
theorem proved : Rows.FnExactLeftOfSaid := over
end Go.Proofs.Ytmpopfcnjgcncaa.fnExactLeftOf
