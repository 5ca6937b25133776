/- Proved: for every list of person-shaped elements, laws.FnExactLeastSafeLimit returns true and leaves its arguments as they were: impl.LeastSafeLimit answers as its model and writes nothing. No condition. -/
import Derived.Test.YtdeiillfdjebdaaRows
import Derived.WalkKit
import Derived.ProofKit
import Derived.OpenShut
import Derived.ShutString
import Derived.ChangeOld
import Derived.Below
import Derived.SliceStrings
import Derived.Lib.Hide
import Derived.Test.YtdeiillfdjebdaaPure40
import Derived.Test.YtdeiillfdjebdaaPure51
import Derived.Test.YtdeiillfdjebdaaPersOpen
import Derived.Test.YtdeiillfdjebdaaPersLaw
import Derived.Test.YtdeiillfdjebdaaIsPers
import Derived.Test.YtdeiillfdjebdaaPersSlice
import Derived.Test.YtdeiillfdjebdaaArePers
import Derived.Test.YtdeiillfdjebdaaCode5
import Derived.Test.YtdeiillfdjebdaaSafe5
namespace Go.Proofs.Ytdeiillfdjebdaa.fnExactLeastSafeLimit
open Go.ChangeShapes Go.WideShapes Go.ChangeAt Go.RowKit
open Go.ChangeMaps (open_string shut_string)
open Pure40 Pure41 Pure50 Pure51
set_option linter.unusedVariables false

theorem own : ownKnob Try.prog.godebug = none := by kernel_rfl
theorem laidOut : laidOutB Try.prog = true := by kernel_rfl


set_option maxRecDepth 100000 in
set_option maxHeartbeats 4000000 in
theorem walk (w : World) (a0 : Option Addr) (len0 cap0 : Nat) (ps0 : List Pure40.Pers) (hl0 : ps0.length = len0) (hm0 : len0 ≤ maxLen) (hI0 : Pure40.PersAt w a0 ps0) (w0 : Pure40.Fits ps0) :
    Calls Try.prog 12 #[.slice a0 len0 cap0] w fun e w' => e = .returned (.bool true) ∧ Below w.heap.size w w' := by
  have HI := Lib.hid hI0; have HL := Lib.hid hl0
  have HSz := Lib.hid (szPersonS_any a0 len0 cap0 ps0 1048576 w (by omega) (by omega) hl0 hm0 hI0 w0)
  have HF := Lib.hid w0
  clear hI0 hl0 w0
  go_enter Try.func12, Try.ntmps12
  go_wp2_with fail
  refine HSz.out.mono ?_; rintro e w1 ⟨L, rfl, hL1, hL, hB⟩; have HB1 := Lib.hid hB; clear hB
  by_cases hneg : L < 0
  · go_wp2_with fail
    go_ret
    exact ⟨rfl, HB1.out⟩
  · have hsm : len0 ≤ 1048576 := hL (by omega)
    have hmx : len0 ≤ maxLen := by unfold maxLen; omega
    clear hL
    obtain ⟨x, c, hr⟩ : ∃ x c, safeR ps0 = (x, c) := ⟨_, _, rfl⟩
    have HSp := Lib.hid (show ∀ (a : Option Addr) (cap : Nat) (W : World), PersAt W a ps0 → Calls Try.prog 25 #[.slice a len0 cap] W (fun e w' => e = .returned (.tuple #[.int .i64 x, .int .i64 c]) ∧ Below W.heap.size W w') from fun a cap W hI => by
      have := specSafe_any a len0 cap ps0 W HL.out hmx hI HF.out
      rw [hr] at this; exact this)
    have HIm := Lib.hid (show ∀ (a : Option Addr) (cap : Nat) (W : World), PersAt W a ps0 → len0 ≤ cap ∧ cap ≤ maxLen → Calls Try.prog 24 #[.slice a len0 cap] W (fun e w' => e = .returned (.tuple #[.int .i64 x, .int .i64 c]) ∧ Below W.heap.size W w') from fun a cap W hI hcp => by
      have := implSafe_any a len0 cap ps0 W HL.out hmx hI HF.out hcp
      rw [hr] at this; exact this)
    clear hr
    go_wp2_with fail
    refine (toPersonS_any a0 len0 cap0 ps0 w1 HL.out hsm (HI.out.below HB1.out)).mono ?_
    rintro e w2 ⟨b1, rfl, _, hI2, hB⟩; have HI2 := Lib.hid hI2; have HB2 := Lib.hid (HB1.out.trans (hB.mono HB1.out.size)); clear hI2 hB
    go_wp2_with fail
    refine (HSp.out _ _ w2 HI2.out).mono ?_; rintro e w3 ⟨rfl, hB⟩; have HB3 := Lib.hid (HB2.out.trans (hB.mono HB2.out.size)); clear hB
    go_wp2_with fail
    refine (toPersonS_any a0 len0 cap0 ps0 w3 HL.out hsm (HI.out.below HB3.out)).mono ?_
    rintro e w4 ⟨b3, rfl, _, hI4, hB⟩; have HI4 := Lib.hid hI4; have HB4 := Lib.hid (HB3.out.trans (hB.mono HB3.out.size)); clear hI4 hB
    go_wp2_with fail
    refine (HIm.out _ _ w4 HI4.out ⟨Nat.le_refl _, hmx⟩).mono ?_; rintro e w5 ⟨rfl, hB⟩; have HI5 := Lib.hid (HI4.out.below hB); have HB5 := Lib.hid (HB4.out.trans (hB.mono HB4.out.size)); clear hB
    go_wp2_with fail
    refine (toPersonS_any a0 len0 cap0 ps0 w5 HL.out hsm (HI.out.below HB5.out)).mono ?_
    rintro e w6 ⟨b5, rfl, _, hI6, hB⟩; have HI6 := Lib.hid hI6; have HJ6 := Lib.hid (HI5.out.below hB); have HB6 := Lib.hid (HB5.out.trans (hB.mono HB5.out.size)); clear hI6 hB
    go_wp2_with fail
    refine (eqPersonS_same _ _ _ _ _ ps0 w6 HL.out hsm HJ6.out HI6.out).mono ?_
    rintro e w7 ⟨rfl, hB⟩; have HB7 := Lib.hid (HB6.out.trans (hB.mono HB6.out.size)); clear hB
    go_wp2_with fail
    go_ret
    exact ⟨rfl, HB7.out⟩

set_option maxRecDepth 100000 in
theorem lifted (os : Os) (started : os.Started) (H : Type) (enc : TypeId × Value → H) :
    ReturnsInHanded {} Try.checked os 12 .any (Rows.fnExactLeastSafeLimitSpec.pre6 enc Try.prog Try.f12 Rows.fnExactLeastSafeLimitRow.domain false) (Rows.fnExactLeastSafeLimitSpec.post enc Try.prog Try.f12 false true false false) := by
  refine returnsInHanded_of_change (C := Try.checked) own started (by kernel_rfl) Try.func12
    (ChangeSpec.witness6 (enc := enc) (C := Try.checked) false ⟨#[], #[.slice none 0 0], []⟩ 8 (by kernel_rfl) (by kernel_rfl) (by kernel_rfl) (by kernel_rfl)) ?_
  intro W base args ds gs before hval0 hW hcnd _
  have hval : ∀ (j : Nat) t v, Try.f12.params[j]? = some t → args[j]? = some v → Value.okWide Try.prog W .any base t v := hval0
  have hW' := hW
  obtain ⟨p, q, hA0, hV, rfl, hfz, hnd⟩ := hW
  have hA : DataW.TrodAll enc Try.prog W 0 (fun _ => true) true Try.f12.params.toList args.toList ds p := hA0
  rw [Try.params12] at hA hval
  obtain ⟨v0, vs0, d0, ds0, p0, q0, hargs, rfl, rfl, h0, r0⟩ := trodAll_cons hA
  obtain ⟨rfl, rfl, rfl⟩ := trodAll_nil r0
  obtain rfl : args = #[v0] := by cases args; simp_all
  obtain ⟨rfl, rfl⟩ := trodVars_none hV
  obtain ⟨a0, len0, cap0, rfl⟩ := okWide_slice Try.underlying52 (hval 0 52 v0 rfl rfl)
  have k0 := h0
  have lt0 : ∀ x ∈ p0, x.block < W.heap.size := by obtain ⟨m, hm⟩ := k0; exact DataW.trod_lt m _ _ _ hm
  obtain ⟨pp0, hl0, hm0, hI0, w0⟩ : ∃ ps : List Pure40.Pers, ps.length = len0 ∧ len0 ≤ maxLen ∧ Pure40.PersAt W a0 ps ∧ Pure40.Fits ps := by
    obtain ⟨fuel, hf⟩ := h0
    exact open_persons Try.persLaws Try.underlying52 hf
  clear hA0 hval0
  refine (walk W a0 len0 cap0 pp0 hl0 hm0 hI0 w0).mono fun e W' ⟨he, bel⟩ => ?_
  subst he
  exact ⟨_, rfl, _, _, _, [], _, [], hW', trodAll_mk1 (shut_bool Try.underlying4 _), (trodAll_cons_mk (Below.trod laidOut (by kernel_rfl) (of_decide_eq_true (by kernel_rfl)) k0 bel lt0) trodAll_mk0), rfl, bel.frame _, fun h => by cases h⟩

theorem over : Rows.fnExactLeastSafeLimitRow.holds Try.pinned (OpenSpec.ofChange Rows.fnExactLeastSafeLimitSpec) :=
  OpenClaim.holds_of_wide 12 Try.f12 rfl rfl rfl rfl rfl rfl rfl ⟨rfl, rfl, rfl, rfl, rfl⟩ rfl rfl rfl rfl rfl (by kernel_rfl) Try.func12 (by kernel_rfl)
    (of_decide_eq_true (by kernel_rfl)) (by unfold Func.isWrapper; first | (rw [if_pos (by decide +kernel)]; kernel_rfl) | (rw [if_neg (by decide +kernel)]; exact ⟨rfl, rfl⟩))
    (fun os started H enc _ => lifted os started H enc)

/-- The statement. -/
theorem proved : Rows.FnExactLeastSafeLimitSaid := over
end Go.Proofs.Ytdeiillfdjebdaa.fnExactLeastSafeLimit
