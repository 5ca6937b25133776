/- Proved: for every person-shaped argument, laws.FnExactIsPerson returns true: impl.IsPerson answers as its model. -/
import Derived.Test.YtacioigfkkoepaaRows
import Derived.WalkKit
import Derived.ProofKit
import Derived.OpenShut
import Derived.ShutString
import Derived.ChangeOld
import Derived.Below
import Derived.SliceStrings
import Derived.Lib.Hide
import Derived.Test.YtacioigfkkoepaaPure40
import Derived.Test.YtacioigfkkoepaaPersOpen
import Derived.Test.YtacioigfkkoepaaPersLaw
import Derived.Test.YtacioigfkkoepaaIsPers
namespace Go.Proofs.Ytacioigfkkoepaa.fnExactIsPerson
open Go.ChangeShapes Go.WideShapes Go.ChangeAt Go.RowKit
open Go.ChangeMaps (open_string shut_string)
open Pure40
set_option linter.unusedVariables false

theorem own : ownKnob Try.prog.godebug = none := by kernel_rfl
theorem laidOut : laidOutB Try.prog = true := by kernel_rfl


set_option maxRecDepth 100000 in
set_option maxHeartbeats 4000000 in
theorem walk (w : World) (n0 : Int) (f0 l0 : ByteArray) (b0 z0 : Int) (w0 : f0.size ≤ maxLen ∧ l0.size ≤ maxLen) :
    Calls Try.prog 4 #[.agg #[.int .i64 n0, .string f0, .string l0, .int .i64 b0, .int .i64 z0]] w fun e w' => e = .returned (.bool true) ∧ Below w.heap.size w w' := by
  obtain ⟨hf0, hl0⟩ := w0
  have h0 : (leftP f0 l0 1048576 < 0) ∨ 0 ≤ leftP f0 l0 1048576 := by omega
  have HSz := Lib.hid (fun W => szPerson_any n0 f0 l0 b0 z0 1048576 W hf0 hl0 (by omega) (by omega))
  generalize leftP f0 l0 1048576 = L at h0 HSz
  have HA0 := Lib.hid (atB_box w n0 f0 l0 b0 z0 43)
  have HW := Lib.hid (show Below w.heap.size w (w.alloc (.cells #[.int .i64 n0, .string f0, .string l0, .int .i64 b0, .int .i64 z0] 43)) from boxed _ _)
  have HB0 := Lib.hid (Below.refl (w.alloc (.cells #[.int .i64 n0, .string f0, .string l0, .int .i64 b0, .int .i64 z0] 43)).heap.size (w.alloc (.cells #[.int .i64 n0, .string f0, .string l0, .int .i64 b0, .int .i64 z0] 43)))
  rcases h0 with h0 | h0
  · go_enter Try.func4, Try.ntmps4
    go_wp2_with fail
    refine (HSz.out (w.alloc (.cells #[.int .i64 n0, .string f0, .string l0, .int .i64 b0, .int .i64 z0] 43))).mono ?_; rintro e w1 ⟨rfl, hB⟩; have HB1 := Lib.hid (HB0.out.trans (hB.mono HB0.out.size)); clear hB
    go_wp2_with fail
    go_ret
    exact ⟨rfl, HW.out.trans (HB1.out.mono HW.out.size)⟩
  · go_enter Try.func4, Try.ntmps4
    go_wp2_with fail
    refine (HSz.out (w.alloc (.cells #[.int .i64 n0, .string f0, .string l0, .int .i64 b0, .int .i64 z0] 43))).mono ?_; rintro e w1 ⟨rfl, hB⟩; have HB1 := Lib.hid (HB0.out.trans (hB.mono HB0.out.size)); clear hB
    obtain ⟨c00, c01, c02, c03, c04⟩ := HA0.out.below HB1.out
    go_wp2_with fail
    clear c00 c01 c02 c03 c04
    refine (toPerson_any n0 f0 l0 b0 z0 w1).mono ?_; rintro e w2 ⟨rfl, hB⟩; have HB2 := Lib.hid (HB1.out.trans (hB.mono HB1.out.size)); clear hB
    go_wp2_with fail
    refine (specIsPerson_any n0 f0 l0 b0 z0 w2 hf0 hl0).mono ?_; rintro e w3 ⟨rfl, hB⟩; have HB3 := Lib.hid (HB2.out.trans (hB.mono HB2.out.size)); clear hB
    obtain ⟨c00, c01, c02, c03, c04⟩ := HA0.out.below HB3.out
    go_wp2_with fail
    clear c00 c01 c02 c03 c04
    refine (toPerson_any n0 f0 l0 b0 z0 w3).mono ?_; rintro e w4 ⟨rfl, hB⟩; have HB4 := Lib.hid (HB3.out.trans (hB.mono HB3.out.size)); clear hB
    go_wp2_with fail
    refine (implIsPerson_any n0 f0 l0 b0 z0 w4 hf0 hl0).mono ?_; rintro e w5 ⟨rfl, hB⟩; have HB5 := Lib.hid (HB4.out.trans (hB.mono HB4.out.size)); clear hB
    go_wp2_with fail
    go_ret
    exact ⟨rfl, HW.out.trans (HB5.out.mono HW.out.size)⟩

set_option maxRecDepth 100000 in
theorem lifted (os : Os) (started : os.Started) (H : Type) (enc : TypeId × Value → H) :
    ReturnsInHanded {} Try.checked os 4 .any (Rows.fnExactIsPersonSpec.pre6 enc Try.prog Try.f4 Rows.fnExactIsPersonRow.domain false) (Rows.fnExactIsPersonSpec.post enc Try.prog Try.f4 false true false false) := by
  refine returnsInHanded_of_change (C := Try.checked) own started (by kernel_rfl) Try.func4
    (ChangeSpec.witness6 (enc := enc) (C := Try.checked) false ⟨#[], #[.agg #[.int .i64 0, .string ByteArray.empty, .string ByteArray.empty, .int .i64 0, .int .i64 0]], []⟩ 8 (by kernel_rfl) (by kernel_rfl) (by kernel_rfl) (by kernel_rfl)) ?_
  intro W base args ds gs before hval0 hW hcnd _
  have hval : ∀ (j : Nat) t v, Try.f4.params[j]? = some t → args[j]? = some v → Value.okWide Try.prog W .any base t v := hval0
  have hW' := hW
  obtain ⟨p, q, hA0, hV, rfl, hfz, hnd⟩ := hW
  have hA : DataW.TrodAll enc Try.prog W 0 (fun _ => true) true Try.f4.params.toList args.toList ds p := hA0
  rw [Try.params4] at hA hval
  obtain ⟨v0, vs0, d0, ds0, p0, q0, hargs, rfl, rfl, h0, r0⟩ := trodAll_cons hA
  obtain ⟨rfl, rfl, rfl⟩ := trodAll_nil r0
  obtain rfl : args = #[v0] := by cases args; simp_all
  obtain ⟨rfl, rfl⟩ := trodVars_none hV
  have k0 := h0
  have lt0 : ∀ x ∈ p0, x.block < W.heap.size := by obtain ⟨m, hm⟩ := k0; exact DataW.trod_lt m _ _ _ hm
  obtain ⟨pp0, rfl, w0⟩ := open_pers Try.persLaws (hval 0 43 v0 rfl rfl) h0
  clear hA0 hval0
  refine (walk W pp0.num pp0.fst pp0.lst pp0.born pp0.zone w0).mono fun e W' ⟨he, bel⟩ => ?_
  subst he
  exact ⟨_, rfl, _, _, _, [], _, [], hW', trodAll_mk1 (shut_bool Try.underlying4 _), (trodAll_cons_mk (Below.trod laidOut (by kernel_rfl) (of_decide_eq_true (by kernel_rfl)) k0 bel lt0) trodAll_mk0), rfl, bel.frame _, fun h => by cases h⟩

theorem over : Rows.fnExactIsPersonRow.holds Try.pinned (OpenSpec.ofChange Rows.fnExactIsPersonSpec) :=
  OpenClaim.holds_of_wide 4 Try.f4 rfl rfl rfl rfl rfl rfl rfl ⟨rfl, rfl, rfl, rfl, rfl⟩ rfl rfl rfl rfl rfl (by kernel_rfl) Try.func4 (by kernel_rfl)
    (of_decide_eq_true (by kernel_rfl)) (by unfold Func.isWrapper; first | (rw [if_pos (by decide +kernel)]; kernel_rfl) | (rw [if_neg (by decide +kernel)]; exact ⟨rfl, rfl⟩))
    (fun os started H enc _ => lifted os started H enc)

/-- The statement. -/
theorem proved : Rows.FnExactIsPersonSaid := over
end Go.Proofs.Ytacioigfkkoepaa.fnExactIsPerson
