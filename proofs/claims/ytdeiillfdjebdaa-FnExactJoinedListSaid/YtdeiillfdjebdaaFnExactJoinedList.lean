/- Proved: for every list of person-shaped elements and every number, laws.FnExactJoinedList returns true and leaves its arguments as they were: impl.JoinedList answers as its model, in memory of its own. No condition. -/
import Derived.Test.YtdeiillfdjebdaaRows
import Derived.WalkKit
import Derived.ProofKit
import Derived.OpenShut
import Derived.ShutString
import Derived.ChangeOld
import Derived.Below
import Derived.SliceStrings
import Derived.Lib.Hide
import Derived.Test.YtdeiillfdjebdaaPure40
import Derived.Test.YtdeiillfdjebdaaPure51
import Derived.Test.YtdeiillfdjebdaaPersOpen
import Derived.Test.YtdeiillfdjebdaaPersLaw
import Derived.Test.YtdeiillfdjebdaaIsPers
import Derived.Test.YtdeiillfdjebdaaPersSlice
import Derived.Test.YtdeiillfdjebdaaArePers
import Derived.Test.YtdeiillfdjebdaaCode5
import Derived.Test.YtdeiillfdjebdaaMarkP
import Derived.Test.YtdeiillfdjebdaaJoined5
import Derived.Test.YtdeiillfdjebdaaKept5
namespace Go.Proofs.Ytdeiillfdjebdaa.fnExactJoinedList
open Go.ChangeShapes Go.WideShapes Go.ChangeAt Go.RowKit
open Go.ChangeMaps (open_string shut_string)
open Pure40 Pure41 Pure50 Pure51
set_option linter.unusedVariables false

theorem own : ownKnob Try.prog.godebug = none := by kernel_rfl
theorem laidOut : laidOutB Try.prog = true := by kernel_rfl


set_option maxRecDepth 100000 in
set_option maxHeartbeats 4000000 in
theorem walk (w : World) (a0 : Option Addr) (len0 cap0 : Nat) (ps0 : List Pure40.Pers) (hl0 : ps0.length = len0) (hm0 : len0 ≤ maxLen) (hI0 : Pure40.PersAt w a0 ps0) (w0 : Pure40.Fits ps0) (a1 : Int) (w1 : (Lit.int .i64 a1).wf = true) :
    Calls Try.prog 7 #[.slice a0 len0 cap0, .int .i64 a1] w fun e w' => e = .returned (.bool true) ∧ Below w.heap.size w w' := by
  have HI := Lib.hid hI0; have HL := Lib.hid hl0
  have HSz := Lib.hid (szPersonS_any a0 len0 cap0 ps0 1048576 w (by omega) (by omega) hl0 hm0 hI0 w0)
  have HF := Lib.hid w0
  clear hI0 hl0 w0
  go_enter Try.func7, Try.ntmps7
  go_wp2_with fail
  refine HSz.out.mono ?_; rintro e w1 ⟨L, rfl, hL1, hL, hB⟩; have HB1 := Lib.hid hB; clear hB
  by_cases hneg : L < 0
  · go_wp2_with fail
    go_ret
    exact ⟨rfl, HB1.out⟩
  · have hsm : len0 ≤ 1048576 := hL (by omega)
    have hmx : len0 ≤ maxLen := by unfold maxLen; omega
    clear hL
    have hsmall := joinedR_small ps0 a1
    obtain ⟨xs, c, hr⟩ : ∃ xs c, joinedR ps0 a1 = (xs, c) := ⟨_, _, rfl⟩
    have HSp := Lib.hid (show ∀ (a : Option Addr) (cap : Nat) (W : World), PersAt W a ps0 → Calls Try.prog 20 #[.slice a len0 cap, .int .i64 a1] W (SaysNewP xs c W) from fun a cap W hI => by
      have := specJoined_any a len0 cap ps0 a1 W HL.out hmx hI HF.out
      rw [hr] at this; exact this)
    have HIm := Lib.hid (show ∀ (a : Option Addr) (cap : Nat) (W : World), PersAt W a ps0 → Calls Try.prog 19 #[.slice a len0 cap, .int .i64 a1] W (SaysNewP xs c W) from fun a cap W hI => by
      have := implJoined_any a len0 cap ps0 a1 W HL.out hmx hI HF.out
      rw [hr] at this; exact this)
    rw [hr] at hsmall
    clear hr
    simp only at hsmall
    have hmm : xs.length ≤ 1048576 := by omega
    go_wp2_with fail
    refine (toPersonS_any a0 len0 cap0 ps0 w1 HL.out hsm (HI.out.below HB1.out)).mono ?_
    rintro e w2 ⟨b1, rfl, _, hI2, hB⟩; have HI2 := Lib.hid hI2; have HB2 := Lib.hid (HB1.out.trans (hB.mono HB1.out.size)); clear hI2 hB
    go_wp2_with fail
    refine (HSp.out _ _ w2 HI2.out).mono ?_; rintro e w3 ⟨aS, capS, rfl, hoS, hB⟩
    have HA3 := Lib.hid (ownQ_reads hoS); have HB3 := Lib.hid (HB2.out.trans (hB.mono HB2.out.size)); clear hB hoS
    have HC3 := Lib.hid (Below.refl w3.heap.size w3)
    go_wp2_with fail
    refine (toPersonQ_any a0 len0 cap0 ps0 w3 HL.out hsm (HI.out.below HB3.out)).mono ?_
    rintro e w4 ⟨b3, rfl, hb3, hQ, hI4, hB⟩; have HI4 := Lib.hid hI4; have HQ4 := Lib.hid hQ; have HC4 := Lib.hid hB; clear hI4 hQ hB
    have hsz34 := HC4.out.size
    go_wp2_with fail
    refine (HIm.out _ _ w4 HI4.out).mono ?_; rintro e w5 ⟨aI, capI, rfl, hoI, hB⟩
    have HG5 := Lib.hid hoI; have HI5 := Lib.hid (HI4.out.below hB); have HQ5 := Lib.hid (HQ4.out.below hB); have HC5 := Lib.hid (HC4.out.trans (hB.mono hsz34)); have hsz45 := hB.size; clear hB hoI
    go_wp2_with fail
    refine (eqPersonS_same aI aS xs.length capI capS xs w5 rfl hmm (ownQ_reads HG5.out) (HA3.out.below HC5.out)).mono ?_
    rintro e w6 ⟨rfl, hB⟩
    have HC6 := Lib.hid (HC5.out.trans (hB.mono HC5.out.size)); have HG6 := Lib.hid (HG5.out.below hB); have HI6 := Lib.hid (HI5.out.below hB); have HQ6 := Lib.hid (HQ5.out.below hB); clear hB
    have HB6 := Lib.hid (HB3.out.trans (HC6.out.mono HB3.out.size))
    go_wp2_with fail
    refine (toPersonS_any a0 len0 cap0 ps0 w6 HL.out hsm (HI.out.below HB6.out)).mono ?_
    rintro e w7 ⟨b7, rfl, _, hI7, hB⟩; have HI7 := Lib.hid hI7; have HJ7 := Lib.hid (HI6.out.below hB); have HG7 := Lib.hid (HG6.out.below hB); have HQ7 := Lib.hid (HQ6.out.below hB); have HC7 := Lib.hid (HC6.out.trans (hB.mono HC6.out.size)); clear hI7 hB
    go_wp2_with fail
    refine (eqPersonS_same _ _ _ _ _ ps0 w7 HL.out hsm HJ7.out HI7.out).mono ?_
    rintro e w8 ⟨rfl, hB⟩; have HG8 := Lib.hid (HG7.out.below hB); have HQ8 := Lib.hid (HQ7.out.below hB); have HC8 := Lib.hid (HC7.out.trans (hB.mono HC7.out.size)); clear hB
    go_wp2_with fail
    refine (markPersonS_any w3.heap.size (some ⟨b3, 0, none⟩) len0 len0 _ 1 w8 HC8.out.size (by omega) (by omega) (by omega) HQ8.out).mono ?_
    rintro e w9 ⟨rfl, _, hB, row, hgr, hrow⟩
    have HG9 := Lib.hid ((ownQ_kept HG8.out hgr (fun k hk => by have := hrow k hk _ rfl; simp only at this; omega) : OwnQ w4.heap.size w9 aI xs.length (persAt xs)))
    have HC9 := Lib.hid (HC8.out.trans hB); clear hB hgr hrow
    go_wp2_with fail
    refine (eqPersonS_same aI aS xs.length capI capS xs w9 rfl hmm (ownQ_reads HG9.out) (HA3.out.below HC9.out)).mono ?_
    rintro e w10 ⟨rfl, hB⟩
    have HC10 := Lib.hid (HC9.out.trans (hB.mono HC9.out.size)); have HG10 := Lib.hid (HG9.out.below hB); clear hB
    go_wp2_with fail
    refine (markPersonS_any w3.heap.size aI xs.length capI _ 1 w10 HC10.out.size (by omega) (by omega) (by omega) (ownQ_mono HG10.out hsz34)).mono ?_
    rintro e w11 ⟨rfl, hM, hB, _⟩
    have HM11 := Lib.hid hM; clear hM
    have HC11 := Lib.hid (HC10.out.trans hB); clear hB
    go_wp2_with fail
    refine (heldPersonS_any w3.heap.size aI xs.length capI 1 w11 (by omega) (by omega) (by omega) HM11.out).mono ?_
    rintro e w12 ⟨rfl, hB⟩
    have HM12 := Lib.hid (HM11.out.below hB); have HC12 := Lib.hid (HC11.out.trans (hB.mono HC11.out.size)); clear hB
    have HB12 := Lib.hid (HB3.out.trans (HC12.out.mono HB3.out.size))
    go_wp2_with fail
    refine (toPersonS_any a0 len0 cap0 ps0 w12 HL.out hsm (HI.out.below HB12.out)).mono ?_
    rintro e w13 ⟨b13, rfl, _, hI13, hB⟩; have HI13 := Lib.hid hI13; have HM13 := Lib.hid (HM12.out.below hB); have HC13 := Lib.hid (HC12.out.trans (hB.mono HC12.out.size)); clear hI13 hB
    go_wp2_with fail
    refine (HIm.out _ _ w13 HI13.out).mono ?_; rintro e w14 ⟨aH, capH, rfl, hoH, hB⟩
    have HH14 := Lib.hid (ownQ_reads hoH); have HM14 := Lib.hid (HM13.out.below hB); have HC14 := Lib.hid (HC13.out.trans (hB.mono HC13.out.size)); clear hB hoH
    go_wp2_with fail
    refine (eqPersonS_same aH aS xs.length capH capS xs w14 rfl hmm (HH14.out) (HA3.out.below HC14.out)).mono ?_
    rintro e w15 ⟨rfl, hB⟩
    have HC15 := Lib.hid (HC14.out.trans (hB.mono HC14.out.size)); have HM15 := Lib.hid (HM14.out.below hB); clear hB
    go_wp2_with fail
    refine (heldPersonS_any w3.heap.size aI xs.length capI 1 w15 (by omega) (by omega) (by omega) HM15.out).mono ?_
    rintro e w16 ⟨rfl, hB⟩
    have HM16 := Lib.hid (HM15.out.below hB); have HC16 := Lib.hid (HC15.out.trans (hB.mono HC15.out.size)); clear hB
    go_wp2_with fail
    go_ret
    exact ⟨rfl, HB3.out.trans (HC16.out.mono HB3.out.size)⟩

set_option maxRecDepth 100000 in
theorem lifted (os : Os) (started : os.Started) (H : Type) (enc : TypeId × Value → H) :
    ReturnsInHanded {} Try.checked os 7 .any (Rows.fnExactJoinedListSpec.pre6 enc Try.prog Try.f7 Rows.fnExactJoinedListRow.domain false) (Rows.fnExactJoinedListSpec.post enc Try.prog Try.f7 false true false false) := by
  refine returnsInHanded_of_change (C := Try.checked) own started (by kernel_rfl) Try.func7
    (ChangeSpec.witness6 (enc := enc) (C := Try.checked) false ⟨#[], #[.slice none 0 0, .int .i64 0], []⟩ 8 (by kernel_rfl) (by kernel_rfl) (by kernel_rfl) (by kernel_rfl)) ?_
  intro W base args ds gs before hval0 hW hcnd _
  have hval : ∀ (j : Nat) t v, Try.f7.params[j]? = some t → args[j]? = some v → Value.okWide Try.prog W .any base t v := hval0
  have hW' := hW
  obtain ⟨p, q, hA0, hV, rfl, hfz, hnd⟩ := hW
  have hA : DataW.TrodAll enc Try.prog W 0 (fun _ => true) true Try.f7.params.toList args.toList ds p := hA0
  rw [Try.params7] at hA hval
  obtain ⟨v0, vs0, d0, ds0, p0, q0, hargs, rfl, rfl, h0, r0⟩ := trodAll_cons hA
  obtain ⟨v1, vs1, d1, ds1, p1, q1, rfl, rfl, rfl, h1, r1⟩ := trodAll_cons r0
  obtain ⟨rfl, rfl, rfl⟩ := trodAll_nil r1
  obtain rfl : args = #[v0, v1] := by cases args; simp_all
  obtain ⟨rfl, rfl⟩ := trodVars_none hV
  obtain ⟨a0, len0, cap0, rfl⟩ := okWide_slice Try.underlying52 (hval 0 52 v0 rfl rfl)
  have k0 := h0
  have lt0 : ∀ x ∈ p0, x.block < W.heap.size := by obtain ⟨m, hm⟩ := k0; exact DataW.trod_lt m _ _ _ hm
  obtain ⟨pp0, hl0, hm0, hI0, w0⟩ : ∃ ps : List Pure40.Pers, ps.length = len0 ∧ len0 ≤ maxLen ∧ Pure40.PersAt W a0 ps ∧ Pure40.Fits ps := by
    obtain ⟨fuel, hf⟩ := h0
    exact open_persons Try.persLaws Try.underlying52 hf
  obtain ⟨a1, rfl, rfl, rfl, w1⟩ := open_int Try.underlying2 (hval 1 2 v1 rfl rfl) h1
  clear hA0 hval0
  refine (walk W a0 len0 cap0 pp0 hl0 hm0 hI0 w0 a1 w1).mono fun e W' ⟨he, bel⟩ => ?_
  subst he
  exact ⟨_, rfl, _, _, _, [], _, [], hW', trodAll_mk1 (shut_bool Try.underlying4 _), (trodAll_cons_mk (Below.trod laidOut (by kernel_rfl) (of_decide_eq_true (by kernel_rfl)) k0 bel lt0) (trodAll_cons_mk (shut_int Try.underlying2 w1) trodAll_mk0)), rfl, bel.frame _, fun h => by cases h⟩

theorem over : Rows.fnExactJoinedListRow.holds Try.pinned (OpenSpec.ofChange Rows.fnExactJoinedListSpec) :=
  OpenClaim.holds_of_wide 7 Try.f7 rfl rfl rfl rfl rfl rfl rfl ⟨rfl, rfl, rfl, rfl, rfl⟩ rfl rfl rfl rfl rfl (by kernel_rfl) Try.func7 (by kernel_rfl)
    (of_decide_eq_true (by kernel_rfl)) (by unfold Func.isWrapper; first | (rw [if_pos (by decide +kernel)]; kernel_rfl) | (rw [if_neg (by decide +kernel)]; exact ⟨rfl, rfl⟩))
    (fun os started H enc _ => lifted os started H enc)

/-- The statement. -/
theorem proved : Rows.FnExactJoinedListSaid := over
end Go.Proofs.Ytdeiillfdjebdaa.fnExactJoinedList
