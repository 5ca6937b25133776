/- Proved: for all numbers, laws.FnExactStatesAfter returns true and leaves its arguments as they were: impl.StatesAfter answers as its model, in memory of its own. No condition. -/
import Derived.Test.YtfblkggfdmnpmaaRows
import Derived.WalkKit
import Derived.ProofKit
import Derived.OpenShut
import Derived.ShutString
import Derived.ChangeOld
import Derived.Below
import Derived.SliceStrings
import Derived.Lib.Hide
import Derived.Test.YtfblkggfdmnpmaaShuf7
import Derived.Test.YtfblkggfdmnpmaaShuf8
import Derived.Test.YtfblkggfdmnpmaaEqInt
import Derived.Test.YtfblkggfdmnpmaaMarkI
namespace Go.Proofs.Ytfblkggfdmnpmaa.fnExactStatesAfter
open Go.ChangeShapes Go.WideShapes Go.ChangeAt Go.RowKit
open Go.ChangeMaps (open_string shut_string)
open Pure2 Pure6 Pure30 Pure31
set_option linter.unusedVariables false

theorem own : ownKnob Try.prog.godebug = none := by kernel_rfl
theorem laidOut : laidOutB Try.prog = true := by kernel_rfl


set_option maxRecDepth 100000 in
set_option maxHeartbeats 4000000 in
theorem walk (w : World) (a0 : Int) (w0 : (Lit.int .i64 a0).wf = true) (a1 : Int) (w1 : (Lit.int .i64 a1).wf = true) :
    Calls Try.prog 12 #[.int .i64 a0, .int .i64 a1] w fun e w' => e = .returned (.bool true) ∧ Below w.heap.size w w' := by
  have hml := statesR_len a0 a1
  generalize hR : (statesR a0 a1).1 = zs at hml
  generalize hC : (statesR a0 a1).2 = code
  have HSp := Lib.hid (show Calls Try.prog _ _ w (SaysNewI zs code w) by rw [← hR, ← hC]; exact specStatesAfter_any a0 a1 w)
  have HIm := Lib.hid (fun W => show Calls Try.prog _ _ W (SaysNewI zs code W) by rw [← hR, ← hC]; exact implStatesAfter_any a0 a1 W)
  clear hR hC
  have hmm : zs.length ≤ maxLen := by unfold maxLen; omega
  go_enter Try.func12, Try.ntmps12
  go_wp2_with fail
  refine HSp.out.mono ?_; rintro e w1 ⟨a, cap, rfl, hA, hB⟩
  have HA := Lib.hid (ownI_reads hA); have HB := Lib.hid hB; clear hA hB
  go_wp2_with fail
  refine (HIm.out w1).mono ?_; rintro e w2 ⟨b, capb, rfl, hO, hB2⟩
  have HG := Lib.hid hO
  have HC2 := Lib.hid hB2; clear hB2 hO
  go_wp2_with fail
  refine (eqInt64S_any b a zs.length capb zs.length cap zs zs w2 rfl rfl hmm hmm (ownI_reads HG.out) (HA.out.below HC2.out)).mono ?_
  rintro e w' ⟨rfl, n1, rfl⟩
  rw [sameL_self]
  have HG3 := Lib.hid (HG.out.below (Go.below_drewN (Below.refl w2.heap.size w2) n1))
  have HC3 := Lib.hid (Go.below_drewN HC2.out n1)
  obtain ⟨w3, hw3⟩ : ∃ w3, w3 = w2.drewN n1 := ⟨_, rfl⟩
  rw [← hw3] at HG3 HC3 ⊢; clear hw3
  go_wp2_with fail
  refine (markInt64S_any w1.heap.size b zs.length capb _ 1 w3 (by omega) (by omega) (by omega) HG3.out).mono ?_
  rintro e w4 ⟨rfl, hO4, hB4, hsz4⟩
  have HO4 := Lib.hid hO4; have HC4 := Lib.hid (HC3.out.trans hB4); clear hO4 hB4 hsz4
  go_wp2_with fail
  refine (heldInt64S_any w1.heap.size b zs.length capb 1 w4 (by omega) (by omega) (by omega) HO4.out).mono ?_
  rintro e w' ⟨rfl, rfl⟩
  go_wp2_with fail
  refine (HIm.out w4).mono ?_; rintro e w6 ⟨c, capc, rfl, hO6, hB6⟩
  have HH := Lib.hid hO6
  have HO6 := Lib.hid (HO4.out.below hB6)
  have HC6 := Lib.hid (HC4.out.trans (hB6.mono HC4.out.size)); clear hB6 hO6
  go_wp2_with fail
  refine (eqInt64S_any c a zs.length capc zs.length cap zs zs w6 rfl rfl hmm hmm (ownI_reads HH.out) (HA.out.below HC6.out)).mono ?_
  rintro e w' ⟨rfl, n2, rfl⟩
  rw [sameL_self]
  have HO7 := Lib.hid (HO6.out.below (Go.below_drewN (Below.refl w6.heap.size w6) n2))
  have HC7 := Lib.hid (Go.below_drewN HC6.out n2)
  obtain ⟨w7, hw7⟩ : ∃ w7, w7 = w6.drewN n2 := ⟨_, rfl⟩
  rw [← hw7] at HO7 HC7 ⊢; clear hw7
  go_wp2_with fail
  refine (heldInt64S_any w1.heap.size b zs.length capb 1 w7 (by omega) (by omega) (by omega) HO7.out).mono ?_
  rintro e w' ⟨rfl, rfl⟩
  go_wp2_with fail
  go_ret
  exact ⟨rfl, HB.out.trans (HC7.out.mono HB.out.size)⟩

set_option maxRecDepth 100000 in
theorem lifted (os : Os) (started : os.Started) (H : Type) (enc : TypeId × Value → H) :
    ReturnsInHanded {} Try.checked os 12 .any (Rows.fnExactStatesAfterSpec.pre6 enc Try.prog Try.f12 Rows.fnExactStatesAfterRow.domain false) (Rows.fnExactStatesAfterSpec.post enc Try.prog Try.f12 false true false false) := by
  refine returnsInHanded_of_change (C := Try.checked) own started (by kernel_rfl) Try.func12
    (ChangeSpec.witness6 (enc := enc) (C := Try.checked) false ⟨#[], #[.int .i64 0, .int .i64 0], []⟩ 8 (by kernel_rfl) (by kernel_rfl) (by kernel_rfl) (by kernel_rfl)) ?_
  intro W base args ds gs before hval0 hW hcnd _
  have hval : ∀ (j : Nat) t v, Try.f12.params[j]? = some t → args[j]? = some v → Value.okWide Try.prog W .any base t v := hval0
  have hW' := hW
  obtain ⟨p, q, hA0, hV, rfl, hfz, hnd⟩ := hW
  have hA : DataW.TrodAll enc Try.prog W 0 (fun _ => true) true Try.f12.params.toList args.toList ds p := hA0
  rw [Try.params12] at hA hval
  obtain ⟨v0, vs0, d0, ds0, p0, q0, hargs, rfl, rfl, h0, r0⟩ := trodAll_cons hA
  obtain ⟨v1, vs1, d1, ds1, p1, q1, rfl, rfl, rfl, h1, r1⟩ := trodAll_cons r0
  obtain ⟨rfl, rfl, rfl⟩ := trodAll_nil r1
  obtain rfl : args = #[v0, v1] := by cases args; simp_all
  obtain ⟨rfl, rfl⟩ := trodVars_none hV
  obtain ⟨a0, rfl, rfl, rfl, w0⟩ := open_int Try.underlying2 (hval 0 2 v0 rfl rfl) h0
  obtain ⟨a1, rfl, rfl, rfl, w1⟩ := open_int Try.underlying2 (hval 1 2 v1 rfl rfl) h1
  clear hA0 hval0
  refine (walk W a0 w0 a1 w1).mono fun e W' ⟨he, bel⟩ => ?_
  subst he
  exact ⟨_, rfl, _, _, _, [], _, [], hW', trodAll_mk1 (shut_bool Try.underlying4 _), (trodAll_cons_mk (shut_int Try.underlying2 w0) (trodAll_cons_mk (shut_int Try.underlying2 w1) trodAll_mk0)), rfl, bel.frame _, fun h => by cases h⟩

theorem over : Rows.fnExactStatesAfterRow.holds Try.pinned (OpenSpec.ofChange Rows.fnExactStatesAfterSpec) :=
  OpenClaim.holds_of_wide 12 Try.f12 rfl rfl rfl rfl rfl rfl rfl ⟨rfl, rfl, rfl, rfl, rfl⟩ rfl rfl rfl rfl rfl (by kernel_rfl) Try.func12 (by kernel_rfl)
    (of_decide_eq_true (by kernel_rfl)) (by unfold Func.isWrapper; first | (rw [if_pos (by decide +kernel)]; kernel_rfl) | (rw [if_neg (by decide +kernel)]; exact ⟨rfl, rfl⟩))
    (fun os started H enc _ => lifted os started H enc)

/-- The statement. -/
theorem proved : Rows.FnExactStatesAfterSaid := over
end Go.Proofs.Ytfblkggfdmnpmaa.fnExactStatesAfter
