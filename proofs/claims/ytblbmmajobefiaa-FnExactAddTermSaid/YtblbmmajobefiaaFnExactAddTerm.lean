/- Proved: for every list of terms and every term, laws.FnExactAddTerm returns true and leaves its arguments as they were: impl.AddTerm answers as its model, in memory of its own. No condition. -/
import Derived.Test.YtblbmmajobefiaaRows
import Derived.WalkKit
import Derived.ProofKit
import Derived.OpenShut
import Derived.ShutString
import Derived.ChangeOld
import Derived.Below
import Derived.SliceStrings
import Derived.Lib.Hide
import Derived.Deep.RegionHeld3
import Derived.Test.YtblbmmajobefiaaBase
import Derived.Test.YtblbmmajobefiaaPure70
import Derived.Test.YtblbmmajobefiaaPure71
import Derived.Test.YtblbmmajobefiaaTermA
import Derived.Test.YtblbmmajobefiaaTermB
import Derived.Test.YtblbmmajobefiaaTermM
import Derived.Test.YtblbmmajobefiaaSpec7
import Derived.Test.YtblbmmajobefiaaLaw7
import Derived.Test.YtblbmmajobefiaaImpl7a
import Derived.Test.YtblbmmajobefiaaAdd7
import Derived.Test.YtblbmmajobefiaaImpl7d
namespace Go.Proofs.Ytblbmmajobefiaa.fnExactAddTerm
open Go.ChangeShapes Go.WideShapes Go.ChangeAt Go.RowKit
open Go.ChangeMaps (open_string shut_string)
open Pure2 Pure20 Pure40
set_option linter.unusedVariables false

theorem own : ownKnob Try.prog.godebug = none := by kernel_rfl
theorem laidOut : laidOutB Try.prog = true := by kernel_rfl


set_option maxRecDepth 100000 in
set_option maxHeartbeats 4000000 in
theorem walk (w : World) (a0 : Option Addr) (len0 cap0 : Nat) (ts0 : List Term) (hl0 : ts0.length = len0) (hm0 : len0 ≤ maxLen) (hI0 : Term.ListAt w a0 ts0) (c1 : Term) :
    Calls Try.prog 6 #[.slice a0 len0 cap0, .agg #[.int .i64 c1.num, .int .i64 c1.frm, .int .i64 c1.to]] w fun e w' => e = .returned (.bool true) ∧ Below w.heap.size w w' := by
  have hbx0 := Term.bx w (.cells #[.int .i64 c1.num, .int .i64 c1.frm, .int .i64 c1.to] 53)
  have HX0 := Lib.hid (Term.boxed w c1 53)
  have HBX := Lib.hid hbx0
  have hI00 := hI0.below hbx0
  clear hbx0
  have hI0 := hI00
  have HI := Lib.hid hI0; have HL := Lib.hid hl0
  have HSz := Lib.hid (szTermS_any a0 len0 cap0 1048576 (w.alloc (.cells #[.int .i64 c1.num, .int .i64 c1.frm, .int .i64 c1.to] 53)) hm0 (by omega) (by omega))
  have HM0 := Lib.hid hm0
  clear hI0 hl0
  by_cases hsm0 : 1048576 < len0
  · rw [if_pos (show (1048576 : Int) - (len0 : Int) < 0 by omega)] at HSz
    go_enter Try.func6, Try.ntmps6
    go_wp2_with fail
    refine HSz.out.mono ?_; rintro e u1 ⟨rfl, rfl⟩
    go_wp2_with fail
    go_ret
    exact ⟨rfl, HBX.out⟩
  have hsm : len0 ≤ 1048576 := by omega
  rw [if_neg (show ¬ (1048576 : Int) - (len0 : Int) < 0 by omega)] at HSz
  have hz0 : decide ((1048576 : Int) - (len0 : Int) < 0) = false := decide_eq_false (by omega)
  have hsmall := addR7_small ts0 c1
  obtain ⟨xs, c, hr⟩ : ∃ xs c, addR7 ts0 c1 = (xs, c) := ⟨_, _, rfl⟩
  have HSp := Lib.hid (show ∀ (b cap : Nat) (W : World), Term.ListAt W (some ⟨b, 0, none⟩) ts0 → Calls Try.prog 22 #[.slice (some ⟨b, 0, none⟩) len0 cap, .agg #[.int .i64 c1.num, .int .i64 c1.frm, .int .i64 c1.to]] W (SaysNewT xs c W) from fun b cap W hI => by
    refine (specAddTerm_all b cap len0 ts0 c1 W HL.out HM0.out hI).mono fun e w' this => ?_
    rw [hr] at this; exact this.newT)
  have HIm := Lib.hid (show ∀ (a : Option Addr) (cap : Nat) (W : World), Term.ListAt W a ts0 → Calls Try.prog 21 #[.slice a len0 cap, .agg #[.int .i64 c1.num, .int .i64 c1.frm, .int .i64 c1.to]] W (SaysNewT xs c W) from fun a cap W hI => by
    refine (implAddTerm_any a len0 cap ts0 c1 W HL.out HM0.out hI).mono fun e w' this => ?_
    rw [hr] at this; exact this.newT)
  rw [hr] at hsmall
  clear hr
  simp only at hsmall
  have hmm : xs.length ≤ 1048576 := by omega
  go_enter Try.func6, Try.ntmps6
  go_wp2_with fail
  refine HSz.out.mono ?_; rintro e u1 ⟨rfl, hw1⟩
  generalize (1048576 : Int) - (len0 : Int) = L0 at hz0 ⊢
  have HX1 := Lib.hid (show Term.Box u1 w.heap.size c1 by rw [hw1]; exact HX0.out)
  have HB1 := Lib.hid (show Below w.heap.size w u1 by rw [hw1]; exact HBX.out)
  have HI1 := Lib.hid (show Term.ListAt u1 a0 ts0 by rw [hw1]; exact HI.out)
  clear hw1
  obtain ⟨bx, hbx⟩ : ∃ bx, w.heap.size = bx := ⟨_, rfl⟩
  have HBXE := Lib.hid hbx
  rw [hbx] at HX1 HB1
  (try rw [hbx])
  clear hbx
  go_wp2_with fail
  have hdr := Below.drew (Below.refl u1.heap.size u1)
  have HdX := Lib.hid (HX1.out.below hdr)
  have HdI := Lib.hid (HI1.out.below hdr)
  go_region_held3 (fun W => W.cell? ⟨bx, 0, none⟩ = some (.int .i64 c1.num) ∧ W.cell? ⟨bx, 1, none⟩ = some (.int .i64 c1.frm) ∧ W.cell? ⟨bx, 2, none⟩ = some (.int .i64 c1.to)) (first | exact ⟨HdX.out.1, HdX.out.2.1, HdX.out.2.2⟩ | exact ⟨(HdX.out.below hBq).1, (HdX.out.below hBq).2.1, (HdX.out.below hBq).2.2⟩ | exact ⟨((HdX.out.below hBq).below hBr).1, ((HdX.out.below hBq).below hBr).2.1, ((HdX.out.below hBq).below hBr).2.2⟩ | exact ⟨(((HdX.out.below hBq).below hBr).below hBs).1, (((HdX.out.below hBq).below hBr).below hBs).2.1, (((HdX.out.below hBq).below hBr).below hBs).2.2⟩) (first | (go_at_call 39; refine (toTermS_any a0 len0 cap0 ts0 u1.drew HL.out hsm HdI.out).mono ?_; rintro e v1 ⟨bq, rfl, hbq, hbq2, hbq3, hbq4, hIq, hBq⟩) | (go_at_call 41; refine (toTerm_any c1 v1).mono ?_; rintro e v2 ⟨rfl, hBr⟩) | (go_at_call 22; refine (HSp.out bq len0 v2 (hIq.below hBr)).mono ?_; rintro e u3 ⟨aQ, capQ, rfl, ho, hBs⟩))
  have hall := (hdr.trans hBq).trans (hBr.mono (hdr.trans hBq).size)
  have hall := hall.trans (hBs.mono hall.size)
  have HA3 := Lib.hid (Term.Own.reads ho); have HB3 := Lib.hid (HB1.out.trans (hall.mono (show bx ≤ u1.heap.size by rw [← HBXE.out]; exact HB1.out.size))); have HX3 := Lib.hid (HX1.out.below hall); have HI3 := Lib.hid (HI1.out.below hall)
  clear hall hBq hBr hBs ho hIq hbq hbq2 hbq3 hbq4 hdr HdX HdI
  have HC3 := Lib.hid (Below.refl u3.heap.size u3)
  go_wp2_with fail
  refine (toTermS_any a0 len0 cap0 ts0 u3 HL.out hsm HI3.out).mono ?_
  rintro e u4 ⟨b3, rfl, hb3, hlt3, _, hQ, hI, hB⟩; have HI4 := Lib.hid hI; have HQ4 := Lib.hid hQ; have HC4 := Lib.hid hB; clear hI hQ hB
  have hsz34 := HC4.out.size
  obtain ⟨x0, x1, x2⟩ := HX3.out.below HC4.out
  go_wp2_with fail
  clear x0 x1 x2
  refine (toTerm_any c1 u4).mono ?_; rintro e u4b ⟨rfl, hB⟩
  have HI4b := Lib.hid (HI4.out.below hB); have HQ4b := Lib.hid (HQ4.out.below hB); have HC4b := Lib.hid (HC4.out.trans (hB.mono hsz34)); have hsz44 := hB.size; clear hB
  go_wp2_with fail
  refine (HIm.out _ _ u4b HI4b.out).mono ?_; rintro e u5 ⟨aI, capI, rfl, ho, hB⟩
  have HG5 := Lib.hid (Term.Own.mono ho hsz44); have HI5 := Lib.hid (HI4b.out.below hB); have HQ5 := Lib.hid (HQ4b.out.below hB); have HC5 := Lib.hid (HC4b.out.trans (hB.mono (Nat.le_trans hsz34 hsz44))); clear hB ho
  go_wp2_with fail
  refine (eqTermS_same aI aQ xs.length capI capQ xs u5 rfl hmm (Term.Own.reads HG5.out) (HA3.out.below HC5.out)).mono ?_
  rintro e u6 ⟨rfl, hB⟩
  have HC6 := Lib.hid (HC5.out.trans (hB.mono HC5.out.size)); have HG6 := Lib.hid (HG5.out.below hB); have HI6 := Lib.hid (HI5.out.below hB); have HQ6 := Lib.hid (HQ5.out.below hB); clear hB
  skip
  go_wp2_with fail
  refine (toTermS_any a0 len0 cap0 ts0 u6 HL.out hsm (HI3.out.below HC6.out)).mono ?_
  rintro e u7 ⟨b7, rfl, _, _, _, _, hI, hB⟩; have HI7 := Lib.hid hI; have HJ7 := Lib.hid (HI6.out.below hB); have HG7 := Lib.hid (HG6.out.below hB); have HQ7 := Lib.hid (HQ6.out.below hB); have HC7 := Lib.hid (HC6.out.trans (hB.mono HC6.out.size)); clear hI hB
  go_wp2_with fail
  refine (eqTermS_same _ _ _ _ _ ts0 u7 HL.out hsm HJ7.out HI7.out).mono ?_
  rintro e u8 ⟨rfl, hB⟩; have HG8 := Lib.hid (HG7.out.below hB); have HQ8 := Lib.hid (HQ7.out.below hB); have HC8 := Lib.hid (HC7.out.trans (hB.mono HC7.out.size)); clear hB
  go_wp2_with fail
  refine (markTermS_any u3.heap.size (some ⟨b3, 0, none⟩) len0 len0 _ 1 u8 (by omega) (by omega) (by omega) HQ8.out).mono ?_
  rintro e u9 ⟨rfl, _, hB, hgr⟩
  have hgr := marked_grown hgr
  have HG9 := Lib.hid (Term.Own.grown HG8.out hgr (by omega))
  have HC9 := Lib.hid (HC8.out.trans hB); clear hB hgr
  have hk9 : decide ((1 : Int) + 3 * (len0 : Int) < 0) = false := decide_eq_false (by omega)
  go_wp2_with fail
  refine (eqTermS_same aI aQ xs.length capI capQ xs u9 rfl hmm (Term.Own.reads HG9.out) (HA3.out.below HC9.out)).mono ?_
  rintro e u10 ⟨rfl, hB⟩
  have HC10 := Lib.hid (HC9.out.trans (hB.mono HC9.out.size)); have HG10 := Lib.hid (HG9.out.below hB); clear hB hk9
  go_wp2_with fail
  refine (markTermS_any u3.heap.size aI xs.length capI _ 1 u10 (by omega) (by omega) (by omega) (Term.Own.mono HG10.out hsz34)).mono ?_
  rintro e u11 ⟨rfl, hM, hB, _⟩
  have HM11 := Lib.hid hM; clear hM
  have HC11 := Lib.hid (HC10.out.trans hB); clear hB
  go_wp2_with fail
  refine (heldTermS_any u3.heap.size aI xs.length capI 1 u11 (by omega) (by omega) (by omega) HM11.out).mono ?_
  rintro e u12 ⟨rfl, hw⟩
  have HM12 := Lib.hid (hw ▸ HM11.out); have HC12 := Lib.hid (hw ▸ HC11.out); clear hw
  have hh12 : decide ((1 : Int) + 3 * (xs.length : Int) < 0) = false := decide_eq_false (by omega)
  go_wp2_with fail
  have hdr := Below.drew (Below.refl u12.heap.size u12)
  have HdX := Lib.hid ((HX3.out.below HC12.out).below hdr)
  have HdI := Lib.hid ((HI3.out.below HC12.out).below hdr)
  go_region_held3 (fun W => W.cell? ⟨bx, 0, none⟩ = some (.int .i64 c1.num) ∧ W.cell? ⟨bx, 1, none⟩ = some (.int .i64 c1.frm) ∧ W.cell? ⟨bx, 2, none⟩ = some (.int .i64 c1.to)) (first | exact ⟨HdX.out.1, HdX.out.2.1, HdX.out.2.2⟩ | exact ⟨(HdX.out.below hBq).1, (HdX.out.below hBq).2.1, (HdX.out.below hBq).2.2⟩ | exact ⟨((HdX.out.below hBq).below hBr).1, ((HdX.out.below hBq).below hBr).2.1, ((HdX.out.below hBq).below hBr).2.2⟩ | exact ⟨(((HdX.out.below hBq).below hBr).below hBs).1, (((HdX.out.below hBq).below hBr).below hBs).2.1, (((HdX.out.below hBq).below hBr).below hBs).2.2⟩) (first | (go_at_call 39; refine (toTermS_any a0 len0 cap0 ts0 u12.drew HL.out hsm HdI.out).mono ?_; rintro e v1 ⟨bq, rfl, hbq, hbq2, hbq3, hbq4, hIq, hBq⟩) | (go_at_call 41; refine (toTerm_any c1 v1).mono ?_; rintro e v2 ⟨rfl, hBr⟩) | (go_at_call 21; refine (HIm.out _ len0 v2 (hIq.below hBr)).mono ?_; rintro e u14 ⟨aH, capH, rfl, ho, hBs⟩))
  have hall := (hdr.trans hBq).trans (hBr.mono (hdr.trans hBq).size)
  have hall := hall.trans (hBs.mono hall.size)
  have HH14 := Lib.hid (Term.Own.reads ho); have HM14 := Lib.hid (HM12.out.below hall); have HC14 := Lib.hid (HC12.out.trans (hall.mono HC12.out.size))
  clear hall hBq hBr hBs ho hIq hbq hbq2 hbq3 hbq4 hdr HdX HdI
  go_wp2_with fail
  refine (eqTermS_same aH aQ xs.length capH capQ xs u14 rfl hmm HH14.out (HA3.out.below HC14.out)).mono ?_
  rintro e u15 ⟨rfl, hB⟩
  have HC15 := Lib.hid (HC14.out.trans (hB.mono HC14.out.size)); have HM15 := Lib.hid (HM14.out.below hB); clear hB
  go_wp2_with fail
  refine (heldTermS_any u3.heap.size aI xs.length capI 1 u15 (by omega) (by omega) (by omega) HM15.out).mono ?_
  rintro e u16 ⟨rfl, hw⟩
  have HC16 := Lib.hid (hw ▸ HC15.out); clear hw
  go_wp2_with fail
  go_ret
  rw [HBXE.out]
  exact ⟨rfl, HB3.out.trans (HC16.out.mono (show bx ≤ u3.heap.size by rw [← HBXE.out]; exact HB3.out.size))⟩

set_option maxRecDepth 100000 in
theorem lifted (os : Os) (started : os.Started) (H : Type) (enc : TypeId × Value → H) :
    ReturnsInHanded {} Try.checked os 6 .any (Rows.fnExactAddTermSpec.pre6 enc Try.prog Try.f6 Rows.fnExactAddTermRow.domain false) (Rows.fnExactAddTermSpec.post enc Try.prog Try.f6 false true false false) := by
  refine returnsInHanded_of_change (C := Try.checked) own started (by kernel_rfl) Try.func6
    (ChangeSpec.witness6 (enc := enc) (C := Try.checked) false ⟨#[], #[.slice none 0 0, .agg #[.int .i64 0, .int .i64 0, .int .i64 0]], []⟩ 8 (by kernel_rfl) (by kernel_rfl) (by kernel_rfl) (by kernel_rfl)) ?_
  intro W base args ds gs before hval0 hW hcnd _
  have hval : ∀ (j : Nat) t v, Try.f6.params[j]? = some t → args[j]? = some v → Value.okWide Try.prog W .any base t v := hval0
  have hW' := hW
  obtain ⟨p, q, hA0, hV, rfl, hfz, hnd⟩ := hW
  have hA : DataW.TrodAll enc Try.prog W 0 (fun _ => true) true Try.f6.params.toList args.toList ds p := hA0
  rw [Try.params6] at hA hval
  obtain ⟨v0, vs0, d0, ds0, p0, q0, hargs, rfl, rfl, h0, r0⟩ := trodAll_cons hA
  obtain ⟨v1, vs1, d1, ds1, p1, q1, rfl, rfl, rfl, h1, r1⟩ := trodAll_cons r0
  obtain ⟨rfl, rfl, rfl⟩ := trodAll_nil r1
  obtain rfl : args = #[v0, v1] := by cases args; simp_all
  obtain ⟨rfl, rfl⟩ := trodVars_none hV
  obtain ⟨a0, len0, cap0, rfl⟩ := okWide_slice Try.underlying49 (hval 0 49 v0 rfl rfl)
  have k0 := h0
  have lt0 : ∀ x ∈ p0, x.block < W.heap.size := by obtain ⟨m, hm⟩ := k0; exact DataW.trod_lt m _ _ _ hm
  obtain ⟨pp0, hl0, hm0, hI0⟩ : ∃ ps : List Term, ps.length = len0 ∧ len0 ≤ maxLen ∧ Term.ListAt W a0 ps := by
    obtain ⟨fuel, hf⟩ := h0
    exact Term.openS Try.tyTerm Try.underlying49 hf
  have k1 := h1
  have lt1 : ∀ x ∈ p1, x.block < W.heap.size := by obtain ⟨m, hm⟩ := k1; exact DataW.trod_lt m _ _ _ hm
  obtain ⟨pp1, rfl⟩ := Term.open Try.tyTerm (hval 1 53 v1 rfl rfl) h1
  clear hA0 hval0
  refine (walk W a0 len0 cap0 pp0 hl0 hm0 hI0 pp1).mono fun e W' ⟨he, bel⟩ => ?_
  subst he
  exact ⟨_, rfl, _, _, _, [], _, [], hW', trodAll_mk1 (shut_bool Try.underlying4 _), (trodAll_cons_mk (Below.trod laidOut (by kernel_rfl) (of_decide_eq_true (by kernel_rfl)) k0 bel lt0) (trodAll_cons_mk (Below.trod laidOut (by kernel_rfl) (of_decide_eq_true (by kernel_rfl)) k1 bel lt1) trodAll_mk0)), rfl, bel.frame _, fun h => by cases h⟩

theorem over : Rows.fnExactAddTermRow.holds Try.pinned (OpenSpec.ofChange Rows.fnExactAddTermSpec) :=
  OpenClaim.holds_of_wide 6 Try.f6 rfl rfl rfl rfl rfl rfl rfl ⟨rfl, rfl, rfl, rfl, rfl⟩ rfl rfl rfl rfl rfl (by kernel_rfl) Try.func6 (by kernel_rfl)
    (of_decide_eq_true (by kernel_rfl)) (by unfold Func.isWrapper; first | (rw [if_pos (by decide +kernel)]; kernel_rfl) | (rw [if_neg (by decide +kernel)]; exact ⟨rfl, rfl⟩))
    (fun os started H enc _ => lifted os started H enc)

/-- The statement. -/
theorem proved : Rows.FnExactAddTermSaid := over
end Go.Proofs.Ytblbmmajobefiaa.fnExactAddTerm
