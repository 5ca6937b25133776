/- Proved: for every list of summonses, laws.FnExactAreSummonses returns true and leaves its arguments as they were: impl.AreSummonses answers as its model and writes nothing. No condition. -/
import Derived.Test.YtchffaohmeaccaaRows
import Derived.WalkKit
import Derived.ProofKit
import Derived.OpenShut
import Derived.ShutString
import Derived.ChangeOld
import Derived.Below
import Derived.SliceStrings
import Derived.Lib.Hide
import Derived.Test.YtchffaohmeaccaaBase
import Derived.Test.YtchffaohmeaccaaPure90
import Derived.Test.YtchffaohmeaccaaSummonsA
import Derived.Test.YtchffaohmeaccaaSummonsB
import Derived.Test.YtchffaohmeaccaaSummonsM
import Derived.Test.YtchffaohmeaccaaSpec90
import Derived.Test.YtchffaohmeaccaaImpl9a
namespace Go.Proofs.Ytchffaohmeaccaa.fnExactAreSummonses
open Go.ChangeShapes Go.WideShapes Go.ChangeAt Go.RowKit
open Go.ChangeMaps (open_string shut_string)
open Pure2 Pure20 Pure40
set_option linter.unusedVariables false

theorem own : ownKnob Try.prog.godebug = none := by kernel_rfl
theorem laidOut : laidOutB Try.prog = true := by kernel_rfl


set_option maxRecDepth 100000 in
set_option maxHeartbeats 4000000 in
theorem walk (w : World) (a0 : Option Addr) (len0 cap0 : Nat) (ts0 : List Summons) (hl0 : ts0.length = len0) (hm0 : len0 ≤ maxLen) (hI0 : Summons.ListAt w a0 ts0) :
    Calls Try.prog 3 #[.slice a0 len0 cap0] w fun e w' => e = .returned (.bool true) ∧ Below w.heap.size w w' := by
  have HI := Lib.hid hI0; have HL := Lib.hid hl0
  have HSz := Lib.hid (szSummonsS_any a0 len0 cap0 1048576 w hm0 (by omega) (by omega))
  have HM0 := Lib.hid hm0
  clear hI0 hl0
  by_cases hsm0 : 1048576 < len0
  · rw [if_pos (show (1048576 : Int) - (len0 : Int) < 0 by omega)] at HSz
    go_enter Try.func3, Try.ntmps3
    go_wp2_with fail
    refine HSz.out.mono ?_; rintro e u1 ⟨rfl, rfl⟩
    go_wp2_with fail
    go_ret
    exact ⟨rfl, Below.refl _ _⟩
  have hsm : len0 ≤ 1048576 := by omega
  rw [if_neg (show ¬ (1048576 : Int) - (len0 : Int) < 0 by omega)] at HSz
  have hz0 : decide ((1048576 : Int) - (len0 : Int) < 0) = false := decide_eq_false (by omega)
  obtain ⟨x, hr⟩ : ∃ x, areM ts0 = x := ⟨_, rfl⟩
  have HSp := Lib.hid (show ∀ (a : Option Addr) (cap : Nat) (W : World), Summons.ListAt W a ts0 → Calls Try.prog 5 #[.slice a len0 cap] W (fun e w' => e = .returned (.bool x) ∧ Below W.heap.size W w') from fun a cap W hI => by
    have := specAreM_any a len0 cap ts0 W HL.out HM0.out hI
    rw [hr] at this; exact this)
  have HIm := Lib.hid (show ∀ (a : Option Addr) (cap : Nat) (W : World), Summons.ListAt W a ts0 → Calls Try.prog 7 #[.slice a len0 cap] W (fun e w' => e = .returned (.bool x) ∧ Below W.heap.size W w') from fun a cap W hI => by
    have := implAreM_any a len0 cap ts0 W HL.out HM0.out hI
    rw [hr] at this; exact this)
  clear hr
  go_enter Try.func3, Try.ntmps3
  go_wp2_with fail
  refine HSz.out.mono ?_; rintro e u1 ⟨rfl, rfl⟩
  generalize (1048576 : Int) - (len0 : Int) = L0 at hz0 ⊢
  have HB1 := Lib.hid (Below.refl u1.heap.size u1)
  go_wp2_with fail
  refine (toSummonsS_any a0 len0 cap0 ts0 u1 HL.out hsm (HI.out.below HB1.out)).mono ?_
  rintro e u2 ⟨b1, rfl, _, _, _, _, hI, hB⟩; have HI2 := Lib.hid hI; have HB2 := Lib.hid (HB1.out.trans (hB.mono HB1.out.size)); clear hI hB
  go_wp2_with fail
  refine (HSp.out _ _ u2 HI2.out).mono ?_; rintro e u3 ⟨rfl, hB⟩; have HB3 := Lib.hid (HB2.out.trans (hB.mono HB2.out.size)); clear hB
  go_wp2_with fail
  refine (toSummonsS_any a0 len0 cap0 ts0 u3 HL.out hsm (HI.out.below HB3.out)).mono ?_
  rintro e u4 ⟨b3, rfl, _, _, _, _, hI, hB⟩; have HI4 := Lib.hid hI; have HB4 := Lib.hid (HB3.out.trans (hB.mono HB3.out.size)); clear hI hB
  go_wp2_with fail
  refine (HIm.out _ _ u4 HI4.out).mono ?_; rintro e u5 ⟨rfl, hB⟩; have HI5 := Lib.hid (HI4.out.below hB); have HB5 := Lib.hid (HB4.out.trans (hB.mono HB4.out.size)); clear hB
  go_wp2_with fail
  refine (toSummonsS_any a0 len0 cap0 ts0 u5 HL.out hsm (HI.out.below HB5.out)).mono ?_
  rintro e u6 ⟨b5, rfl, _, _, _, _, hI, hB⟩; have HI6 := Lib.hid hI; have HJ6 := Lib.hid (HI5.out.below hB); have HB6 := Lib.hid (HB5.out.trans (hB.mono HB5.out.size)); clear hI hB
  go_wp2_with fail
  refine (eqSummonsS_same _ _ _ _ _ ts0 u6 HL.out hsm HJ6.out HI6.out).mono ?_
  rintro e u7 ⟨rfl, hB⟩; have HB7 := Lib.hid (HB6.out.trans (hB.mono HB6.out.size)); clear hB
  go_wp2_with fail
  go_ret
  exact ⟨rfl, HB7.out⟩

set_option maxRecDepth 100000 in
theorem lifted (os : Os) (started : os.Started) (H : Type) (enc : TypeId × Value → H) :
    ReturnsInHanded {} Try.checked os 3 .any (Rows.fnExactAreSummonsesSpec.pre6 enc Try.prog Try.f3 Rows.fnExactAreSummonsesRow.domain false) (Rows.fnExactAreSummonsesSpec.post enc Try.prog Try.f3 false true false false) := by
  refine returnsInHanded_of_change (C := Try.checked) own started (by kernel_rfl) Try.func3
    (ChangeSpec.witness6 (enc := enc) (C := Try.checked) false ⟨#[], #[.slice none 0 0], []⟩ 8 (by kernel_rfl) (by kernel_rfl) (by kernel_rfl) (by kernel_rfl)) ?_
  intro W base args ds gs before hval0 hW hcnd _
  have hval : ∀ (j : Nat) t v, Try.f3.params[j]? = some t → args[j]? = some v → Value.okWide Try.prog W .any base t v := hval0
  have hW' := hW
  obtain ⟨p, q, hA0, hV, rfl, hfz, hnd⟩ := hW
  have hA : DataW.TrodAll enc Try.prog W 0 (fun _ => true) true Try.f3.params.toList args.toList ds p := hA0
  rw [Try.params3] at hA hval
  obtain ⟨v0, vs0, d0, ds0, p0, q0, hargs, rfl, rfl, h0, r0⟩ := trodAll_cons hA
  obtain ⟨rfl, rfl, rfl⟩ := trodAll_nil r0
  obtain rfl : args = #[v0] := by cases args; simp_all
  obtain ⟨rfl, rfl⟩ := trodVars_none hV
  obtain ⟨a0, len0, cap0, rfl⟩ := okWide_slice Try.underlying22 (hval 0 22 v0 rfl rfl)
  have k0 := h0
  have lt0 : ∀ x ∈ p0, x.block < W.heap.size := by obtain ⟨m, hm⟩ := k0; exact DataW.trod_lt m _ _ _ hm
  obtain ⟨pp0, hl0, hm0, hI0⟩ : ∃ ps : List Summons, ps.length = len0 ∧ len0 ≤ maxLen ∧ Summons.ListAt W a0 ps := by
    obtain ⟨fuel, hf⟩ := h0
    exact Summons.openS Try.tySummons Try.underlying22 hf
  clear hA0 hval0
  refine (walk W a0 len0 cap0 pp0 hl0 hm0 hI0).mono fun e W' ⟨he, bel⟩ => ?_
  subst he
  exact ⟨_, rfl, _, _, _, [], _, [], hW', trodAll_mk1 (shut_bool Try.underlying4 _), (trodAll_cons_mk (Below.trod laidOut (by kernel_rfl) (of_decide_eq_true (by kernel_rfl)) k0 bel lt0) trodAll_mk0), rfl, bel.frame _, fun h => by cases h⟩

theorem over : Rows.fnExactAreSummonsesRow.holds Try.pinned (OpenSpec.ofChange Rows.fnExactAreSummonsesSpec) :=
  OpenClaim.holds_of_wide 3 Try.f3 rfl rfl rfl rfl rfl rfl rfl ⟨rfl, rfl, rfl, rfl, rfl⟩ rfl rfl rfl rfl rfl (by kernel_rfl) Try.func3 (by kernel_rfl)
    (of_decide_eq_true (by kernel_rfl)) (by unfold Func.isWrapper; first | (rw [if_pos (by decide +kernel)]; kernel_rfl) | (rw [if_neg (by decide +kernel)]; exact ⟨rfl, rfl⟩))
    (fun os started H enc _ => lifted os started H enc)

/-- The statement. -/
theorem proved : Rows.FnExactAreSummonsesSaid := over
end Go.Proofs.Ytchffaohmeaccaa.fnExactAreSummonses
