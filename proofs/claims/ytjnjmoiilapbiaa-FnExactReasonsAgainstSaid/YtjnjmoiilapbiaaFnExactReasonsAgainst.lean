/- Proved: for every rules and every candidate, laws.FnExactReasonsAgainst returns true and leaves its arguments as they were: impl.ReasonsAgainst answers as its model and writes nothing. No condition. -/
import Derived.Test.YtjnjmoiilapbiaaRows
import Derived.WalkKit
import Derived.ProofKit
import Derived.OpenShut
import Derived.ShutString
import Derived.ChangeOld
import Derived.Below
import Derived.SliceStrings
import Derived.Lib.Hide
import Derived.Deep.RegionHeld3
import Derived.Test.YtjnjmoiilapbiaaBase
import Derived.Test.YtjnjmoiilapbiaaPure40
import Derived.Test.YtjnjmoiilapbiaaPure60
import Derived.Test.YtjnjmoiilapbiaaPure61
import Derived.Test.YtjnjmoiilapbiaaPersOpen
import Derived.Test.YtjnjmoiilapbiaaCandOpen
import Derived.Test.YtjnjmoiilapbiaaPersLaw
import Derived.Test.YtjnjmoiilapbiaaMarkI
import Derived.Test.YtjnjmoiilapbiaaEqInt
import Derived.Test.YtjnjmoiilapbiaaBuild6
import Derived.Test.YtjnjmoiilapbiaaHas6
import Derived.Test.YtjnjmoiilapbiaaTruth6
import Derived.Test.YtjnjmoiilapbiaaRul6
import Derived.Test.YtjnjmoiilapbiaaAns6
import Derived.Test.YtjnjmoiilapbiaaRulLaw6
import Derived.Test.YtjnjmoiilapbiaaMarkT6
import Derived.Test.YtjnjmoiilapbiaaCandLaw6
namespace Go.Proofs.Ytjnjmoiilapbiaa.fnExactReasonsAgainst
open Go.ChangeShapes Go.WideShapes Go.ChangeAt Go.RowKit
open Go.ChangeMaps (open_string shut_string)
open Pure2 Pure40 Pure60 Pure61
set_option linter.unusedVariables false

theorem own : ownKnob Try.prog.godebug = none := by kernel_rfl
theorem laidOut : laidOutB Try.prog = true := by kernel_rfl


set_option maxRecDepth 100000 in
set_option maxHeartbeats 4000000 in
theorem walk (w : World) (ry0 rl0 rm0 : Int) (za0 : Option Addr) (zl0 zc0 : Nat) (ja0 : Option Addr) (jl0 jc0 : Nat) (zz0 jj0 : List Int) (w0 : Pure61.RulesIn w za0 zl0 ja0 jl0 zz0 jj0) (n1 : Int) (f1 l1 : ByteArray) (b1 z1 : Int) (c11 c12 c13 : Bool) (j1 : Int) (w1 : f1.size ≤ maxLen ∧ l1.size ≤ maxLen) :
    Calls Try.prog 5 #[.agg #[.int .i64 ry0, .int .i64 rl0, .int .i64 rm0, .slice za0 zl0 zc0, .slice ja0 jl0 jc0], .agg #[.int .i64 n1, .string f1, .string l1, .int .i64 b1, .int .i64 z1, .bool c11, .bool c12, .bool c13, .int .i64 j1]] w fun e w' => e = .returned (.bool true) ∧ Below w.heap.size w w' := by
  have hz0 := w0.2.1; have hj0 := w0.2.2.2.2.1
  go_enter Try.func5, Try.ntmps5
  have HB := Lib.hid (boxes_below w (.cells #[.int .i64 ry0, .int .i64 rl0, .int .i64 rm0, .slice za0 zl0 zc0, .slice ja0 jl0 jc0] 54) (.cells #[.int .i64 n1, .string f1, .string l1, .int .i64 b1, .int .i64 z1, .bool c11, .bool c12, .bool c13, .int .i64 j1] 50))
  have HX := Lib.hid ((atR_box w ry0 rl0 rm0 za0 zl0 zc0 ja0 jl0 jc0 54).below (boxed _ (.cells #[.int .i64 n1, .string f1, .string l1, .int .i64 b1, .int .i64 z1, .bool c11, .bool c12, .bool c13, .int .i64 j1] 50)))
  have HR := Lib.hid (w0.below HB.out)
  have hcd := atD_box (w.alloc (.cells #[.int .i64 ry0, .int .i64 rl0, .int .i64 rm0, .slice za0 zl0 zc0, .slice ja0 jl0 jc0] 54)) n1 f1 l1 b1 z1 c11 c12 c13 j1 50
  have hx : (w.alloc (.cells #[.int .i64 ry0, .int .i64 rl0, .int .i64 rm0, .slice za0 zl0 zc0, .slice ja0 jl0 jc0] 54)).heap.size = w.heap.size + 1 := by simp
  rw [hx] at hcd
  clear hx
  have HD := Lib.hid (hcd)
  clear hcd
  go_wp2_with fail
  have hf1 := w1.1; have hl1 := w1.2
  refine (szRules_any ry0 rl0 rm0 za0 zl0 zc0 ja0 jl0 jc0 zz0 jj0 1048576 _ (by omega) (by omega) hz0 hj0).mono ?_; rintro e u1 ⟨L0, rfl, hL1, hL, hB⟩
  have HB_1 := Lib.hid (HB.out.trans (hB.mono HB.out.size))
  have HX_1 := Lib.hid (HX.out.below hB)
  have HR_1 := Lib.hid (HR.out.below hB)
  have HD_1 := Lib.hid (HD.out.below hB)
  clear hB
  by_cases hneg1 : L0 < 0
  · go_wp2_with fail
    go_ret
    exact ⟨rfl, HB_1.out⟩
  · skip
    obtain ⟨hzs, hjs⟩ := hL (by omega)
    clear hL
    obtain ⟨ax0, ax1, ax2, ax3, ax4, ax5, ax6, ax7, ax8⟩ := HD_1.out
    go_wp2_with fail
    clear ax0 ax1 ax2 ax3 ax4 ax5 ax6 ax7 ax8
    refine (szCand_any n1 f1 l1 b1 z1 c11 c12 c13 j1 L0 u1 hf1 hl1 (by omega) hL1).mono ?_; rintro e u2 ⟨L2, rfl, hL3, hL4, hB⟩
    have HB_2 := Lib.hid (HB_1.out.trans (hB.mono HB_1.out.size))
    have HX_2 := Lib.hid (HX_1.out.below hB)
    have HR_2 := Lib.hid (HR_1.out.below hB)
    have HD_2 := Lib.hid (HD_1.out.below hB)
    clear hB
    by_cases hneg2 : L2 < 0
    · go_wp2_with fail
      go_ret
      exact ⟨rfl, HB_2.out⟩
    · skip
      obtain ⟨x, c, hv⟩ : ∃ x c, reasonsR ⟨ry0, rl0, rm0, zz0, jj0⟩ ⟨⟨n1, f1, l1, b1, z1⟩, c11, c12, c13, j1⟩ = (x, c) := ⟨_, _, rfl⟩
      have HSp := Lib.hid (fun bz bj W (h : RulesIn W (some ⟨bz, 0, none⟩) zl0 (some ⟨bj, 0, none⟩) jl0 zz0 jj0) => show Calls Try.prog 13 #[.agg #[.int .i64 ry0, .int .i64 rl0, .int .i64 rm0, .slice (some ⟨bz, 0, none⟩) zl0 zl0, .slice (some ⟨bj, 0, none⟩) jl0 jl0], .agg #[.int .i64 n1, .string f1, .string l1, .int .i64 b1, .int .i64 z1, .bool c11, .bool c12, .bool c13, .int .i64 j1]] W (SaysW (.tuple #[.int .i64 x, .int .i64 c]) W) from by have := specReasonsAgainst_any ry0 rl0 rm0 (some ⟨bz, 0, none⟩) zl0 zl0 (some ⟨bj, 0, none⟩) jl0 jl0 zz0 jj0 n1 f1 l1 b1 z1 c11 c12 c13 j1 W h hf1 hl1; rw [hv] at this; exact this)
      have HIm := Lib.hid (fun bz bj W (h : RulesIn W (some ⟨bz, 0, none⟩) zl0 (some ⟨bj, 0, none⟩) jl0 zz0 jj0) => show Calls Try.prog 12 #[.agg #[.int .i64 ry0, .int .i64 rl0, .int .i64 rm0, .slice (some ⟨bz, 0, none⟩) zl0 zl0, .slice (some ⟨bj, 0, none⟩) jl0 jl0], .agg #[.int .i64 n1, .string f1, .string l1, .int .i64 b1, .int .i64 z1, .bool c11, .bool c12, .bool c13, .int .i64 j1]] W (SaysW (.tuple #[.int .i64 x, .int .i64 c]) W) from by have := implReasonsAgainst_any ry0 rl0 rm0 (some ⟨bz, 0, none⟩) zl0 zl0 (some ⟨bj, 0, none⟩) jl0 jl0 zz0 jj0 n1 f1 l1 b1 z1 c11 c12 c13 j1 W h hf1 hl1; rw [hv] at this; exact this)
      clear hv
      go_wp2_with fail
      have hdr := Below.drew (Below.refl u2.heap.size u2)
      have HdX := Lib.hid (HX_2.out.below hdr)
      have HdD := Lib.hid (HD_2.out.below hdr)
      have HdR := Lib.hid (HR_2.out.below hdr)
      go_region_held3 (fun W => (W.cell? ⟨w.heap.size, 0, none⟩ = some (.int .i64 ry0) ∧ W.cell? ⟨w.heap.size, 1, none⟩ = some (.int .i64 rl0) ∧ W.cell? ⟨w.heap.size, 2, none⟩ = some (.int .i64 rm0) ∧ W.cell? ⟨w.heap.size, 3, none⟩ = some (.slice za0 zl0 zc0) ∧ W.cell? ⟨w.heap.size, 4, none⟩ = some (.slice ja0 jl0 jc0)) ∧ (W.cell? ⟨(w.heap.size + 1), 0, none⟩ = some (.int .i64 n1) ∧ W.cell? ⟨(w.heap.size + 1), 1, none⟩ = some (.string f1) ∧ W.cell? ⟨(w.heap.size + 1), 2, none⟩ = some (.string l1) ∧ W.cell? ⟨(w.heap.size + 1), 3, none⟩ = some (.int .i64 b1) ∧ W.cell? ⟨(w.heap.size + 1), 4, none⟩ = some (.int .i64 z1) ∧ W.cell? ⟨(w.heap.size + 1), 5, none⟩ = some (.bool c11) ∧ W.cell? ⟨(w.heap.size + 1), 6, none⟩ = some (.bool c12) ∧ W.cell? ⟨(w.heap.size + 1), 7, none⟩ = some (.bool c13) ∧ W.cell? ⟨(w.heap.size + 1), 8, none⟩ = some (.int .i64 j1))) (first | exact ⟨HdX.out, HdD.out⟩ | exact ⟨(HdX.out.below hBq), (HdD.out.below hBq)⟩ | exact ⟨((HdX.out.below hBq).below hBr), ((HdD.out.below hBq).below hBr)⟩ | exact ⟨(((HdX.out.below hBq).below hBr).below hBs), (((HdD.out.below hBq).below hBr).below hBs)⟩) (first | (go_at_call 35; refine (toRules_any ry0 rl0 rm0 za0 zl0 zc0 ja0 jl0 jc0 zz0 jj0 u2.drew HdR.out hzs hjs).mono ?_; rintro e v1 ⟨bq, br, rfl, hb1bq, hb2bq, hb3bq, hb4bq, ho1bq, ho2bq, hnebq, hRq, hBq⟩) | (go_at_call 33; refine (toCand_any n1 f1 l1 b1 z1 c11 c12 c13 j1 v1).mono ?_; rintro e v2 ⟨rfl, hBr⟩) | (go_at_call 13; refine (HSp.out bq br v2 (hRq.below hBr)).mono ?_; rintro e v3 ⟨rfl, hBs⟩))
      have hall := ((hdr.trans hBq).trans (hBr.mono (hdr.trans hBq).size)).trans (hBs.mono ((hdr.trans hBq).trans (hBr.mono (hdr.trans hBq).size)).size)
      have HB_3 := Lib.hid (HB_2.out.trans (hall.mono HB_2.out.size))
      have HX_3 := Lib.hid (HX_2.out.below hall)
      have HR_3 := Lib.hid (HR_2.out.below hall)
      have HD_3 := Lib.hid (HD_2.out.below hall)
      clear hall hdr hBq hBr hBs
      clear hb1bq hb2bq hb3bq hb4bq ho1bq ho2bq hnebq hRq
      obtain ⟨ax0, ax1, ax2, ax3, ax4⟩ := HX_3.out
      go_wp2_with fail
      clear ax0 ax1 ax2 ax3 ax4
      refine (toRules_any ry0 rl0 rm0 za0 zl0 zc0 ja0 jl0 jc0 zz0 jj0 v3 HR_3.out hzs hjs).mono ?_; rintro e u4 ⟨bz, bj, rfl, hb1bz, hb2bz, hb3bz, hb4bz, ho1bz, ho2bz, hnebz, hR2, hB⟩
      have HB_4 := Lib.hid (HB_3.out.trans (hB.mono HB_3.out.size))
      have HX_4 := Lib.hid (HX_3.out.below hB)
      have HR_4 := Lib.hid (HR_3.out.below hB)
      have HD_4 := Lib.hid (HD_3.out.below hB)
      clear hB
      clear hb1bz hb2bz hb3bz hb4bz ho1bz ho2bz hnebz
      have hbx := boxed u4 (.cells #[.int .i64 ry0, .int .i64 rl0, .int .i64 rm0, .slice (some ⟨bz, 0, none⟩) zl0 zl0, .slice (some ⟨bj, 0, none⟩) jl0 jl0] 26)
      have HB_5 := Lib.hid (HB_4.out.trans (hbx.mono HB_4.out.size))
      have HX_5 := Lib.hid (HX_4.out.below hbx)
      have HR_5 := Lib.hid (HR_4.out.below hbx)
      have HD_5 := Lib.hid (HD_4.out.below hbx)
      have HY := Lib.hid (atR_box u4 ry0 rl0 rm0 (some ⟨bz, 0, none⟩) zl0 zl0 (some ⟨bj, 0, none⟩) jl0 jl0 26)
      have HZ := Lib.hid (hR2.below hbx)
      clear hbx hR2
      go_wp2_with fail
      generalize hxq : u4.alloc (.cells #[.int .i64 ry0, .int .i64 rl0, .int .i64 rm0, .slice (some ⟨bz, 0, none⟩) zl0 zl0, .slice (some ⟨bj, 0, none⟩) jl0 jl0] 26) = uq at HB_5 HX_5 HR_5 HD_5 HY HZ ⊢
      obtain ⟨xb, hxb⟩ : ∃ xb, u4.heap.size = xb := ⟨_, rfl⟩
      rw [hxb] at HY ⊢
      clear hxb hxq
      have hdr := Below.drew (Below.refl uq.heap.size uq)
      have HdY := Lib.hid (HY.out.below hdr)
      have HdD := Lib.hid (HD_5.out.below hdr)
      have HdZ := Lib.hid (HZ.out.below hdr)
      go_region_held3 (fun W => (W.cell? ⟨xb, 0, none⟩ = some (.int .i64 ry0) ∧ W.cell? ⟨xb, 1, none⟩ = some (.int .i64 rl0) ∧ W.cell? ⟨xb, 2, none⟩ = some (.int .i64 rm0) ∧ W.cell? ⟨xb, 3, none⟩ = some (.slice (some ⟨bz, 0, none⟩) zl0 zl0) ∧ W.cell? ⟨xb, 4, none⟩ = some (.slice (some ⟨bj, 0, none⟩) jl0 jl0)) ∧ (W.cell? ⟨(w.heap.size + 1), 0, none⟩ = some (.int .i64 n1) ∧ W.cell? ⟨(w.heap.size + 1), 1, none⟩ = some (.string f1) ∧ W.cell? ⟨(w.heap.size + 1), 2, none⟩ = some (.string l1) ∧ W.cell? ⟨(w.heap.size + 1), 3, none⟩ = some (.int .i64 b1) ∧ W.cell? ⟨(w.heap.size + 1), 4, none⟩ = some (.int .i64 z1) ∧ W.cell? ⟨(w.heap.size + 1), 5, none⟩ = some (.bool c11) ∧ W.cell? ⟨(w.heap.size + 1), 6, none⟩ = some (.bool c12) ∧ W.cell? ⟨(w.heap.size + 1), 7, none⟩ = some (.bool c13) ∧ W.cell? ⟨(w.heap.size + 1), 8, none⟩ = some (.int .i64 j1))) (first | exact ⟨HdY.out, HdD.out⟩ | exact ⟨(HdY.out.below hBq), (HdD.out.below hBq)⟩ | exact ⟨((HdY.out.below hBq).below hBr), ((HdD.out.below hBq).below hBr)⟩) (first | (go_at_call 33; refine (toCand_any n1 f1 l1 b1 z1 c11 c12 c13 j1 uq.drew).mono ?_; rintro e v4 ⟨rfl, hBq⟩) | (go_at_call 12; refine (HIm.out bz bj v4 (HdZ.out.below hBq)).mono ?_; rintro e v5 ⟨rfl, hBr⟩))
      have hall := (hdr.trans hBq).trans (hBr.mono (hdr.trans hBq).size)
      have HB_6 := Lib.hid (HB_5.out.trans (hall.mono HB_5.out.size))
      have HX_6 := Lib.hid (HX_5.out.below hall)
      have HR_6 := Lib.hid (HR_5.out.below hall)
      have HD_6 := Lib.hid (HD_5.out.below hall)
      have HY_6 := Lib.hid (HY.out.below hall)
      have HZ_6 := Lib.hid (HZ.out.below hall)
      clear hall hdr hBq hBr
      go_wp2_with fail
      clear HdY HdD HdZ
      have hdummy : True := trivial
      have hdr := Below.drew (Below.refl v5.heap.size v5)
      have HdY := Lib.hid (HY_6.out.below hdr)
      have HdX := Lib.hid (HX_6.out.below hdr)
      have HdR := Lib.hid (HR_6.out.below hdr)
      have HdZ := Lib.hid (HZ_6.out.below hdr)
      go_region_held3 (fun W => (W.cell? ⟨xb, 0, none⟩ = some (.int .i64 ry0) ∧ W.cell? ⟨xb, 1, none⟩ = some (.int .i64 rl0) ∧ W.cell? ⟨xb, 2, none⟩ = some (.int .i64 rm0) ∧ W.cell? ⟨xb, 3, none⟩ = some (.slice (some ⟨bz, 0, none⟩) zl0 zl0) ∧ W.cell? ⟨xb, 4, none⟩ = some (.slice (some ⟨bj, 0, none⟩) jl0 jl0)) ∧ (W.cell? ⟨w.heap.size, 0, none⟩ = some (.int .i64 ry0) ∧ W.cell? ⟨w.heap.size, 1, none⟩ = some (.int .i64 rl0) ∧ W.cell? ⟨w.heap.size, 2, none⟩ = some (.int .i64 rm0) ∧ W.cell? ⟨w.heap.size, 3, none⟩ = some (.slice za0 zl0 zc0) ∧ W.cell? ⟨w.heap.size, 4, none⟩ = some (.slice ja0 jl0 jc0))) (first | exact ⟨HdY.out, HdX.out⟩ | exact ⟨(HdY.out.below hBm), (HdX.out.below hBm)⟩ | exact ⟨((HdY.out.below hBm).below hBn), ((HdX.out.below hBm).below hBn)⟩) (first | (go_at_call 35; refine (toRules_any ry0 rl0 rm0 za0 zl0 zc0 ja0 jl0 jc0 zz0 jj0 v5.drew HdR.out hzs hjs).mono ?_; rintro e v6 ⟨bm, bn, rfl, hb1bm, hb2bm, hb3bm, hb4bm, ho1bm, ho2bm, hnebm, hRm, hBm⟩) | (go_at_call 36; refine (eqRules_same ry0 rl0 rm0 (some ⟨bz, 0, none⟩) zl0 zl0 (some ⟨bj, 0, none⟩) jl0 jl0 zz0 jj0 (some ⟨bm, 0, none⟩) zl0 (some ⟨bn, 0, none⟩) jl0 v6 (HdZ.out.below hBm) hRm).mono ?_; rintro e v7 ⟨rfl, hBn⟩))
      have hall := (hdr.trans hBm).trans (hBn.mono (hdr.trans hBm).size)
      have HB_7 := Lib.hid (HB_6.out.trans (hall.mono HB_6.out.size))
      have HX_7 := Lib.hid (HX_6.out.below hall)
      have HR_7 := Lib.hid (HR_6.out.below hall)
      have HD_7 := Lib.hid (HD_6.out.below hall)
      have HY_7 := Lib.hid (HY_6.out.below hall)
      have HZ_7 := Lib.hid (HZ_6.out.below hall)
      clear hall hdr hBm hBn
      go_wp2_with fail
      go_ret
      exact ⟨rfl, HB_7.out⟩

set_option maxRecDepth 100000 in
theorem lifted (os : Os) (started : os.Started) (H : Type) (enc : TypeId × Value → H) :
    ReturnsInHanded {} Try.checked os 5 .any (Rows.fnExactReasonsAgainstSpec.pre6 enc Try.prog Try.f5 Rows.fnExactReasonsAgainstRow.domain false) (Rows.fnExactReasonsAgainstSpec.post enc Try.prog Try.f5 false true false false) := by
  refine returnsInHanded_of_change (C := Try.checked) own started (by kernel_rfl) Try.func5
    (ChangeSpec.witness6 (enc := enc) (C := Try.checked) false ⟨#[], #[.agg #[.int .i64 0, .int .i64 0, .int .i64 0, .slice none 0 0, .slice none 0 0], .agg #[.int .i64 0, .string ByteArray.empty, .string ByteArray.empty, .int .i64 0, .int .i64 0, .bool false, .bool false, .bool false, .int .i64 0]], []⟩ 8 (by kernel_rfl) (by kernel_rfl) (by kernel_rfl) (by kernel_rfl)) ?_
  intro W base args ds gs before hval0 hW hcnd _
  have hval : ∀ (j : Nat) t v, Try.f5.params[j]? = some t → args[j]? = some v → Value.okWide Try.prog W .any base t v := hval0
  have hW' := hW
  obtain ⟨p, q, hA0, hV, rfl, hfz, hnd⟩ := hW
  have hA : DataW.TrodAll enc Try.prog W 0 (fun _ => true) true Try.f5.params.toList args.toList ds p := hA0
  rw [Try.params5] at hA hval
  obtain ⟨v0, vs0, d0, ds0, p0, q0, hargs, rfl, rfl, h0, r0⟩ := trodAll_cons hA
  obtain ⟨v1, vs1, d1, ds1, p1, q1, rfl, rfl, rfl, h1, r1⟩ := trodAll_cons r0
  obtain ⟨rfl, rfl, rfl⟩ := trodAll_nil r1
  obtain rfl : args = #[v0, v1] := by cases args; simp_all
  obtain ⟨rfl, rfl⟩ := trodVars_none hV
  have k0 := h0
  have lt0 : ∀ x ∈ p0, x.block < W.heap.size := by obtain ⟨m, hm⟩ := k0; exact DataW.trod_lt m _ _ _ hm
  obtain ⟨ry0, rl0, rm0, za0, zl0, zc0, ja0, jl0, jc0, zz0, jj0, rfl, _, _, _, w0⟩ := open_rul Try.rulLaws (hval 0 54 v0 rfl rfl) h0
  have k1 := h1
  have lt1 : ∀ x ∈ p1, x.block < W.heap.size := by obtain ⟨m, hm⟩ := k1; exact DataW.trod_lt m _ _ _ hm
  obtain ⟨pp1, rfl, w1⟩ := open_cand Try.candLaws (hval 1 50 v1 rfl rfl) h1
  clear hA0 hval0
  refine (walk W ry0 rl0 rm0 za0 zl0 zc0 ja0 jl0 jc0 zz0 jj0 w0 pp1.p.num pp1.p.fst pp1.p.lst pp1.p.born pp1.p.zone pp1.cit pp1.con pp1.flu pp1.job w1).mono fun e W' ⟨he, bel⟩ => ?_
  subst he
  exact ⟨_, rfl, _, _, _, [], _, [], hW', trodAll_mk1 (shut_bool Try.underlying4 _), (trodAll_cons_mk (Below.trod laidOut (by kernel_rfl) (of_decide_eq_true (by kernel_rfl)) k0 bel lt0) (trodAll_cons_mk (Below.trod laidOut (by kernel_rfl) (of_decide_eq_true (by kernel_rfl)) k1 bel lt1) trodAll_mk0)), rfl, bel.frame _, fun h => by cases h⟩

theorem over : Rows.fnExactReasonsAgainstRow.holds Try.pinned (OpenSpec.ofChange Rows.fnExactReasonsAgainstSpec) :=
  OpenClaim.holds_of_wide 5 Try.f5 rfl rfl rfl rfl rfl rfl rfl ⟨rfl, rfl, rfl, rfl, rfl⟩ rfl rfl rfl rfl rfl (by kernel_rfl) Try.func5 (by kernel_rfl)
    (of_decide_eq_true (by kernel_rfl)) (by unfold Func.isWrapper; first | (rw [if_pos (by decide +kernel)]; kernel_rfl) | (rw [if_neg (by decide +kernel)]; exact ⟨rfl, rfl⟩))
    (fun os started H enc _ => lifted os started H enc)

/-- The statement. -/
theorem proved : Rows.FnExactReasonsAgainstSaid := over
end Go.Proofs.Ytjnjmoiilapbiaa.fnExactReasonsAgainst
