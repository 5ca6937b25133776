/- Proved: for every number, laws.FnExactReasonsText returns true and leaves its arguments as they were: impl.ReasonsText answers as its model and writes nothing. No condition. -/
import Derived.Test.YtkjnlnjcghpbgabRows
import Derived.WalkKit
import Derived.ProofKit
import Derived.OpenShut
import Derived.ShutString
import Derived.ChangeOld
import Derived.Below
import Derived.SliceStrings
import Derived.Lib.Hide
import Derived.Test.YtkjnlnjcghpbgabBase
import Derived.Test.YtkjnlnjcghpbgabPure3
import Derived.Test.YtkjnlnjcghpbgabPure40
import Derived.Test.YtkjnlnjcghpbgabPure60
import Derived.Test.YtkjnlnjcghpbgabPure61
import Derived.Test.YtkjnlnjcghpbgabText6
namespace Go.Proofs.Ytkjnlnjcghpbgab.fnExactReasonsText
open Go.ChangeShapes Go.WideShapes Go.ChangeAt Go.RowKit
open Go.ChangeMaps (open_string shut_string)
open Pure2 Pure40 Pure60 Pure61 Pure3
set_option linter.unusedVariables false

theorem own : ownKnob Try.prog.godebug = none := by kernel_rfl
theorem laidOut : laidOutB Try.prog = true := by kernel_rfl


set_option maxRecDepth 100000 in
set_option maxHeartbeats 4000000 in
theorem walk (w : World) (a0 : Int) (w0 : (Lit.int .i64 a0).wf = true) :
    Calls Try.prog 11 #[.int .i64 a0] w fun e w' => e = .returned (.bool true) ∧ Below w.heap.size w w' := by
  obtain ⟨s, c, hr⟩ : ∃ s c, textR a0 = (s, c) := ⟨_, _, rfl⟩
  have HSp := Lib.hid (fun W => show Calls Try.prog 28 #[.int .i64 a0] W (SaysT2 s c W) from by have := specReasonsText_any a0 W; rw [hr] at this; exact this)
  have HIm := Lib.hid (fun W => show Calls Try.prog 27 #[.int .i64 a0] W (SaysT2 s c W) from by have := implReasonsText_any a0 W; rw [hr] at this; exact this)
  clear hr
  go_enter Try.func11, Try.ntmps11
  go_wp2_with fail
  refine (HSp.out w).mono ?_; rintro e u1 ⟨rfl, hB⟩; have HB1 := Lib.hid hB; clear hB
  go_wp2_with fail
  refine (HIm.out u1).mono ?_; rintro e u2 ⟨rfl, hB⟩; have HB2 := Lib.hid (HB1.out.trans (hB.mono HB1.out.size)); clear hB
  go_wp2_with fail
  go_ret
  exact ⟨rfl, HB2.out⟩

set_option maxRecDepth 100000 in
theorem lifted (os : Os) (started : os.Started) (H : Type) (enc : TypeId × Value → H) :
    ReturnsInHanded {} Try.checked os 11 .any (Rows.fnExactReasonsTextSpec.pre6 enc Try.prog Try.f11 Rows.fnExactReasonsTextRow.domain false) (Rows.fnExactReasonsTextSpec.post enc Try.prog Try.f11 false true false false) := by
  refine returnsInHanded_of_change (C := Try.checked) own started (by kernel_rfl) Try.func11
    (ChangeSpec.witness6 (enc := enc) (C := Try.checked) false ⟨#[], #[.int .i64 0], []⟩ 8 (by kernel_rfl) (by kernel_rfl) (by kernel_rfl) (by kernel_rfl)) ?_
  intro W base args ds gs before hval0 hW hcnd _
  have hval : ∀ (j : Nat) t v, Try.f11.params[j]? = some t → args[j]? = some v → Value.okWide Try.prog W .any base t v := hval0
  have hW' := hW
  obtain ⟨p, q, hA0, hV, rfl, hfz, hnd⟩ := hW
  have hA : DataW.TrodAll enc Try.prog W 0 (fun _ => true) true Try.f11.params.toList args.toList ds p := hA0
  rw [Try.params11] at hA hval
  obtain ⟨v0, vs0, d0, ds0, p0, q0, hargs, rfl, rfl, h0, r0⟩ := trodAll_cons hA
  obtain ⟨rfl, rfl, rfl⟩ := trodAll_nil r0
  obtain rfl : args = #[v0] := by cases args; simp_all
  obtain ⟨rfl, rfl⟩ := trodVars_none hV
  obtain ⟨a0, rfl, rfl, rfl, w0⟩ := open_int Try.underlying2 (hval 0 2 v0 rfl rfl) h0
  clear hA0 hval0
  refine (walk W a0 w0).mono fun e W' ⟨he, bel⟩ => ?_
  subst he
  exact ⟨_, rfl, _, _, _, [], _, [], hW', trodAll_mk1 (shut_bool Try.underlying4 _), (trodAll_cons_mk (shut_int Try.underlying2 w0) trodAll_mk0), rfl, bel.frame _, fun h => by cases h⟩

theorem over : Rows.fnExactReasonsTextRow.holds Try.pinned (OpenSpec.ofChange Rows.fnExactReasonsTextSpec) :=
  OpenClaim.holds_of_wide 11 Try.f11 rfl rfl rfl rfl rfl rfl rfl ⟨rfl, rfl, rfl, rfl, rfl⟩ rfl rfl rfl rfl rfl (by kernel_rfl) Try.func11 (by kernel_rfl)
    (of_decide_eq_true (by kernel_rfl)) (by unfold Func.isWrapper; first | (rw [if_pos (by decide +kernel)]; kernel_rfl) | (rw [if_neg (by decide +kernel)]; exact ⟨rfl, rfl⟩))
    (fun os started H enc _ => lifted os started H enc)

/-- The statement. -/
theorem proved : Rows.FnExactReasonsTextSaid := over
end Go.Proofs.Ytkjnlnjcghpbgab.fnExactReasonsText
