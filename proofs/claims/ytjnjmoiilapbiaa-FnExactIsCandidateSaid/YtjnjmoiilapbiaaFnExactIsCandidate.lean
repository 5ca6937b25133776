/- Proved: for every candidate, laws.FnExactIsCandidate returns true and leaves its arguments as they were: impl.IsCandidate answers as its model and writes nothing. No condition. -/
import Derived.Test.YtjnjmoiilapbiaaRows
import Derived.WalkKit
import Derived.ProofKit
import Derived.OpenShut
import Derived.ShutString
import Derived.ChangeOld
import Derived.Below
import Derived.SliceStrings
import Derived.Lib.Hide
import Derived.Test.YtjnjmoiilapbiaaBase
import Derived.Test.YtjnjmoiilapbiaaPure40
import Derived.Test.YtjnjmoiilapbiaaPure60
import Derived.Test.YtjnjmoiilapbiaaPure61
import Derived.Test.YtjnjmoiilapbiaaPersOpen
import Derived.Test.YtjnjmoiilapbiaaCandOpen
import Derived.Test.YtjnjmoiilapbiaaPersLaw
import Derived.Test.YtjnjmoiilapbiaaMarkI
import Derived.Test.YtjnjmoiilapbiaaEqInt
import Derived.Test.YtjnjmoiilapbiaaBuild6
import Derived.Test.YtjnjmoiilapbiaaHas6
import Derived.Test.YtjnjmoiilapbiaaTruth6
import Derived.Test.YtjnjmoiilapbiaaRul6
import Derived.Test.YtjnjmoiilapbiaaAns6
import Derived.Test.YtjnjmoiilapbiaaRulLaw6
import Derived.Test.YtjnjmoiilapbiaaMarkT6
import Derived.Test.YtjnjmoiilapbiaaCandLaw6
namespace Go.Proofs.Ytjnjmoiilapbiaa.fnExactIsCandidate
open Go.ChangeShapes Go.WideShapes Go.ChangeAt Go.RowKit
open Go.ChangeMaps (open_string shut_string)
open Pure2 Pure40 Pure60 Pure61
set_option linter.unusedVariables false

theorem own : ownKnob Try.prog.godebug = none := by kernel_rfl
theorem laidOut : laidOutB Try.prog = true := by kernel_rfl


set_option maxRecDepth 100000 in
set_option maxHeartbeats 4000000 in
theorem walk (w : World) (n0 : Int) (f0 l0 : ByteArray) (b0 z0 : Int) (c01 c02 c03 : Bool) (j0 : Int) (w0 : f0.size ≤ maxLen ∧ l0.size ≤ maxLen) :
    Calls Try.prog 4 #[.agg #[.int .i64 n0, .string f0, .string l0, .int .i64 b0, .int .i64 z0, .bool c01, .bool c02, .bool c03, .int .i64 j0]] w fun e w' => e = .returned (.bool true) ∧ Below w.heap.size w w' := by
  go_enter Try.func4, Try.ntmps4
  have HB := Lib.hid (boxed w (.cells #[.int .i64 n0, .string f0, .string l0, .int .i64 b0, .int .i64 z0, .bool c01, .bool c02, .bool c03, .int .i64 j0] 50))
  have HD := Lib.hid (atD_box w n0 f0 l0 b0 z0 c01 c02 c03 j0 50)
  go_wp2_with fail
  have hf0 := w0.1; have hl0 := w0.2
  refine (szCand_any n0 f0 l0 b0 z0 c01 c02 c03 j0 1048576 _ hf0 hl0 (by omega) (by omega)).mono ?_; rintro e u1 ⟨L, rfl, hL1, hL2, hB⟩
  have HB_1 := Lib.hid (HB.out.trans (hB.mono HB.out.size))
  have HD_1 := Lib.hid (HD.out.below hB)
  clear hB
  by_cases hneg : L < 0
  · go_wp2_with fail
    go_ret
    exact ⟨rfl, HB_1.out⟩
  · skip
    obtain ⟨v, hv⟩ : ∃ v, isCand ⟨⟨n0, f0, l0, b0, z0⟩, c01, c02, c03, j0⟩ = v := ⟨_, rfl⟩
    have HSp := Lib.hid (fun W => show Calls Try.prog 31 #[.agg #[.int .i64 n0, .string f0, .string l0, .int .i64 b0, .int .i64 z0, .bool c01, .bool c02, .bool c03, .int .i64 j0]] W (SaysBB v W) from by have := specIsCand_any n0 f0 l0 b0 z0 c01 c02 c03 j0 W hf0 hl0; rw [hv] at this; exact this)
    have HIm := Lib.hid (fun W => show Calls Try.prog 30 #[.agg #[.int .i64 n0, .string f0, .string l0, .int .i64 b0, .int .i64 z0, .bool c01, .bool c02, .bool c03, .int .i64 j0]] W (SaysBB v W) from by have := implIsCand_any n0 f0 l0 b0 z0 c01 c02 c03 j0 W hf0 hl0; rw [hv] at this; exact this)
    clear hv
    obtain ⟨ax0, ax1, ax2, ax3, ax4, ax5, ax6, ax7, ax8⟩ := HD_1.out
    go_wp2_with fail
    clear ax0 ax1 ax2 ax3 ax4 ax5 ax6 ax7 ax8
    refine (toCand_any n0 f0 l0 b0 z0 c01 c02 c03 j0 u1).mono ?_; rintro e u2 ⟨rfl, hB⟩
    have HB_2 := Lib.hid (HB_1.out.trans (hB.mono HB_1.out.size))
    have HD_2 := Lib.hid (HD_1.out.below hB)
    clear hB
    go_wp2_with fail
    refine (HSp.out u2).mono ?_; rintro e u3 ⟨rfl, hB⟩
    have HB_3 := Lib.hid (HB_2.out.trans (hB.mono HB_2.out.size))
    have HD_3 := Lib.hid (HD_2.out.below hB)
    clear hB
    obtain ⟨ax0, ax1, ax2, ax3, ax4, ax5, ax6, ax7, ax8⟩ := HD_3.out
    go_wp2_with fail
    clear ax0 ax1 ax2 ax3 ax4 ax5 ax6 ax7 ax8
    refine (toCand_any n0 f0 l0 b0 z0 c01 c02 c03 j0 u3).mono ?_; rintro e u4 ⟨rfl, hB⟩
    have HB_4 := Lib.hid (HB_3.out.trans (hB.mono HB_3.out.size))
    have HD_4 := Lib.hid (HD_3.out.below hB)
    clear hB
    go_wp2_with fail
    refine (HIm.out u4).mono ?_; rintro e u5 ⟨rfl, hB⟩
    have HB_5 := Lib.hid (HB_4.out.trans (hB.mono HB_4.out.size))
    have HD_5 := Lib.hid (HD_4.out.below hB)
    clear hB
    go_wp2_with fail
    go_ret
    exact ⟨rfl, HB_5.out⟩

set_option maxRecDepth 100000 in
theorem lifted (os : Os) (started : os.Started) (H : Type) (enc : TypeId × Value → H) :
    ReturnsInHanded {} Try.checked os 4 .any (Rows.fnExactIsCandidateSpec.pre6 enc Try.prog Try.f4 Rows.fnExactIsCandidateRow.domain false) (Rows.fnExactIsCandidateSpec.post enc Try.prog Try.f4 false true false false) := by
  refine returnsInHanded_of_change (C := Try.checked) own started (by kernel_rfl) Try.func4
    (ChangeSpec.witness6 (enc := enc) (C := Try.checked) false ⟨#[], #[.agg #[.int .i64 0, .string ByteArray.empty, .string ByteArray.empty, .int .i64 0, .int .i64 0, .bool false, .bool false, .bool false, .int .i64 0]], []⟩ 8 (by kernel_rfl) (by kernel_rfl) (by kernel_rfl) (by kernel_rfl)) ?_
  intro W base args ds gs before hval0 hW hcnd _
  have hval : ∀ (j : Nat) t v, Try.f4.params[j]? = some t → args[j]? = some v → Value.okWide Try.prog W .any base t v := hval0
  have hW' := hW
  obtain ⟨p, q, hA0, hV, rfl, hfz, hnd⟩ := hW
  have hA : DataW.TrodAll enc Try.prog W 0 (fun _ => true) true Try.f4.params.toList args.toList ds p := hA0
  rw [Try.params4] at hA hval
  obtain ⟨v0, vs0, d0, ds0, p0, q0, hargs, rfl, rfl, h0, r0⟩ := trodAll_cons hA
  obtain ⟨rfl, rfl, rfl⟩ := trodAll_nil r0
  obtain rfl : args = #[v0] := by cases args; simp_all
  obtain ⟨rfl, rfl⟩ := trodVars_none hV
  have k0 := h0
  have lt0 : ∀ x ∈ p0, x.block < W.heap.size := by obtain ⟨m, hm⟩ := k0; exact DataW.trod_lt m _ _ _ hm
  obtain ⟨pp0, rfl, w0⟩ := open_cand Try.candLaws (hval 0 50 v0 rfl rfl) h0
  clear hA0 hval0
  refine (walk W pp0.p.num pp0.p.fst pp0.p.lst pp0.p.born pp0.p.zone pp0.cit pp0.con pp0.flu pp0.job w0).mono fun e W' ⟨he, bel⟩ => ?_
  subst he
  exact ⟨_, rfl, _, _, _, [], _, [], hW', trodAll_mk1 (shut_bool Try.underlying4 _), (trodAll_cons_mk (Below.trod laidOut (by kernel_rfl) (of_decide_eq_true (by kernel_rfl)) k0 bel lt0) trodAll_mk0), rfl, bel.frame _, fun h => by cases h⟩

theorem over : Rows.fnExactIsCandidateRow.holds Try.pinned (OpenSpec.ofChange Rows.fnExactIsCandidateSpec) :=
  OpenClaim.holds_of_wide 4 Try.f4 rfl rfl rfl rfl rfl rfl rfl ⟨rfl, rfl, rfl, rfl, rfl⟩ rfl rfl rfl rfl rfl (by kernel_rfl) Try.func4 (by kernel_rfl)
    (of_decide_eq_true (by kernel_rfl)) (by unfold Func.isWrapper; first | (rw [if_pos (by decide +kernel)]; kernel_rfl) | (rw [if_neg (by decide +kernel)]; exact ⟨rfl, rfl⟩))
    (fun os started H enc _ => lifted os started H enc)

/-- The statement. -/
theorem proved : Rows.FnExactIsCandidateSaid := over
end Go.Proofs.Ytjnjmoiilapbiaa.fnExactIsCandidate
