/- Proved: for every two person-shaped arguments, laws.FnExactLikenessOf returns true: impl.LikenessOf answers as its model. -/
import Derived.Test.YtacioigfkkoepaaRows
import Derived.WalkKit
import Derived.ProofKit
import Derived.OpenShut
import Derived.ShutString
import Derived.ChangeOld
import Derived.Below
import Derived.SliceStrings
import Derived.Lib.Hide
import Derived.Test.YtacioigfkkoepaaPure40
import Derived.Test.YtacioigfkkoepaaPersOpen
import Derived.Test.YtacioigfkkoepaaPersLaw
import Derived.Test.YtacioigfkkoepaaIsPers
import Derived.Test.YtacioigfkkoepaaPersSlice
import Derived.Test.YtacioigfkkoepaaLike
import Derived.Test.YtacioigfkkoepaaAns4
namespace Go.Proofs.Ytacioigfkkoepaa.fnExactLikenessOf
open Go.ChangeShapes Go.WideShapes Go.ChangeAt Go.RowKit
open Go.ChangeMaps (open_string shut_string)
open Pure40 Go.Sort Pure41
set_option linter.unusedVariables false

theorem own : ownKnob Try.prog.godebug = none := by kernel_rfl
theorem laidOut : laidOutB Try.prog = true := by kernel_rfl


set_option maxRecDepth 100000 in
set_option maxHeartbeats 4000000 in
theorem walk (w : World) (n0 : Int) (f0 l0 : ByteArray) (b0 z0 : Int) (w0 : f0.size ≤ maxLen ∧ l0.size ≤ maxLen) (n1 : Int) (f1 l1 : ByteArray) (b1 z1 : Int) (w1 : f1.size ≤ maxLen ∧ l1.size ≤ maxLen) :
    Calls Try.prog 6 #[.agg #[.int .i64 n0, .string f0, .string l0, .int .i64 b0, .int .i64 z0], .agg #[.int .i64 n1, .string f1, .string l1, .int .i64 b1, .int .i64 z1]] w fun e w' => e = .returned (.bool true) ∧ Below w.heap.size w w' := by
  obtain ⟨hf0, hl0⟩ := w0
  obtain ⟨hf1, hl1⟩ := w1
  have h0 := leftP_le (f := f0) (l := l0) (show (0 : Int) ≤ 1048576 by omega)
  have HSz := Lib.hid (fun W => szPerson_any n0 f0 l0 b0 z0 1048576 W hf0 hl0 (by omega) (by omega))
  generalize leftP f0 l0 1048576 = L at h0 HSz
  obtain ⟨x, c, hr⟩ : ∃ x c, likeOfP ⟨n0, f0, l0, b0, z0⟩ ⟨n1, f1, l1, b1, z1⟩ = (x, c) := ⟨_, _, rfl⟩
  have HSp := Lib.hid (fun W => specLikenessOf_any n0 f0 l0 b0 z0 n1 f1 l1 b1 z1 W hf0 hl0 hf1 hl1)
  have HIm := Lib.hid (fun W => implLikenessOf_any n0 f0 l0 b0 z0 n1 f1 l1 b1 z1 W hf0 hl0 hf1 hl1)
  rw [hr] at HSp HIm
  clear hr
  have HA0 := Lib.hid ((atB_box w n0 f0 l0 b0 z0 43).below (boxed _ (.cells #[.int .i64 n1, .string f1, .string l1, .int .i64 b1, .int .i64 z1] 43)))
  have HA1 := Lib.hid (atB_box (w.alloc (.cells #[.int .i64 n0, .string f0, .string l0, .int .i64 b0, .int .i64 z0] 43)) n1 f1 l1 b1 z1 43)
  have hx : (w.alloc (.cells #[.int .i64 n0, .string f0, .string l0, .int .i64 b0, .int .i64 z0] 43)).heap.size = w.heap.size + 1 := by simp
  rw [hx] at HA1
  clear hx
  have HW := Lib.hid (show Below w.heap.size w ((w.alloc (.cells #[.int .i64 n0, .string f0, .string l0, .int .i64 b0, .int .i64 z0] 43)).alloc (.cells #[.int .i64 n1, .string f1, .string l1, .int .i64 b1, .int .i64 z1] 43)) from (boxed _ _).alloc (by simp) _)
  have HB0 := Lib.hid (Below.refl ((w.alloc (.cells #[.int .i64 n0, .string f0, .string l0, .int .i64 b0, .int .i64 z0] 43)).alloc (.cells #[.int .i64 n1, .string f1, .string l1, .int .i64 b1, .int .i64 z1] 43)).heap.size ((w.alloc (.cells #[.int .i64 n0, .string f0, .string l0, .int .i64 b0, .int .i64 z0] 43)).alloc (.cells #[.int .i64 n1, .string f1, .string l1, .int .i64 b1, .int .i64 z1] 43)))
  rcases h0 with rfl | ⟨h0, h0m⟩
  · go_enter Try.func6, Try.ntmps6
    go_wp2_with fail
    refine (HSz.out ((w.alloc (.cells #[.int .i64 n0, .string f0, .string l0, .int .i64 b0, .int .i64 z0] 43)).alloc (.cells #[.int .i64 n1, .string f1, .string l1, .int .i64 b1, .int .i64 z1] 43))).mono ?_; rintro e w1 ⟨rfl, hB⟩; have HB1 := Lib.hid (HB0.out.trans (hB.mono HB0.out.size)); clear hB
    go_wp2_with fail
    go_ret
    exact ⟨rfl, HW.out.trans (HB1.out.mono HW.out.size)⟩
  · have h1 := leftP_le (f := f1) (l := l1) h0
    have HSz1 := Lib.hid (fun W => szPerson_any n1 f1 l1 b1 z1 L W hf1 hl1 h0 h0m)
    generalize leftP f1 l1 L = L1 at h1 HSz1
    rcases h1 with rfl | ⟨h1, h1m⟩
    · go_enter Try.func6, Try.ntmps6
      go_wp2_with fail
      refine (HSz.out ((w.alloc (.cells #[.int .i64 n0, .string f0, .string l0, .int .i64 b0, .int .i64 z0] 43)).alloc (.cells #[.int .i64 n1, .string f1, .string l1, .int .i64 b1, .int .i64 z1] 43))).mono ?_; rintro e w1 ⟨rfl, hB⟩; have HB1 := Lib.hid (HB0.out.trans (hB.mono HB0.out.size)); clear hB
      obtain ⟨c10, c11, c12, c13, c14⟩ := HA1.out.below HB1.out
      go_wp2_with fail
      clear c10 c11 c12 c13 c14
      refine (HSz1.out w1).mono ?_; rintro e w2 ⟨rfl, hB⟩; have HB2 := Lib.hid (HB1.out.trans (hB.mono HB1.out.size)); clear hB
      go_wp2_with fail
      go_ret
      exact ⟨rfl, HW.out.trans (HB2.out.mono HW.out.size)⟩
    · go_enter Try.func6, Try.ntmps6
      go_wp2_with fail
      refine (HSz.out ((w.alloc (.cells #[.int .i64 n0, .string f0, .string l0, .int .i64 b0, .int .i64 z0] 43)).alloc (.cells #[.int .i64 n1, .string f1, .string l1, .int .i64 b1, .int .i64 z1] 43))).mono ?_; rintro e w1 ⟨rfl, hB⟩; have HB1 := Lib.hid (HB0.out.trans (hB.mono HB0.out.size)); clear hB
      obtain ⟨c10, c11, c12, c13, c14⟩ := HA1.out.below HB1.out
      go_wp2_with fail
      clear c10 c11 c12 c13 c14
      refine (HSz1.out w1).mono ?_; rintro e w2 ⟨rfl, hB⟩; have HB2 := Lib.hid (HB1.out.trans (hB.mono HB1.out.size)); clear hB
      go_wp2_with fail
      obtain ⟨c00, c01, c02, c03, c04⟩ := HA0.out.below HB2.out
      have r00 := cell_regrown c00
      have r01 := cell_regrown c01
      have r02 := cell_regrown c02
      have r03 := cell_regrown c03
      have r04 := cell_regrown c04
      obtain ⟨c10, c11, c12, c13, c14⟩ := HA1.out.below HB2.out
      have r10 := cell_regrown c10
      have r11 := cell_regrown c11
      have r12 := cell_regrown c12
      have r13 := cell_regrown c13
      have r14 := cell_regrown c14
      have hcall0 := regr_call (w := w2) (fun W _ => show Calls Try.prog 28 #[.agg #[.int .i64 n0, .string f0, .string l0, .int .i64 b0, .int .i64 z0]] W _ from toPerson_any n0 f0 l0 b0 z0 W)
      have hcall1 := regr_call (w := w2) (fun W _ => show Calls Try.prog 28 #[.agg #[.int .i64 n1, .string f1, .string l1, .int .i64 b1, .int .i64 z1]] W _ from toPerson_any n1 f1 l1 b1 z1 W)
      have hcall2 := regr_call (w := w2) (fun W _ => show Calls Try.prog 13 #[.agg #[.int .i64 n0, .string f0, .string l0, .int .i64 b0, .int .i64 z0], .agg #[.int .i64 n1, .string f1, .string l1, .int .i64 b1, .int .i64 z1]] W (fun e w' => e = .returned (.tuple #[.int .i64 x, .int .i64 c]) ∧ Below W.heap.size W w') from HSp.out W)
      clear c00 c01 c02 c03 c04
      clear c10 c11 c12 c13 c14
      refine wp_region_quiet_below (by kernel_rfl) (by kernel_rfl) ?_
      iterate 2 (go_big_quiet_step (exact hcall0 _ _))
      iterate 2 (go_big_quiet_step (exact hcall1 _ _))
      iterate 6 (go_big_quiet_step (exact hcall2 _ _))
      refine wpQuiet_nil ?_
      intro _ hw'
      obtain ⟨⟨dq, osq⟩, hw''⟩ := hw'
      subst hw''
      have HB3 := Lib.hid (HB2.out.trans ((below_regrown w2 dq osq).mono HB2.out.size))
      clear hcall0 hcall1 hcall2 r00 r01 r02 r03 r04 r10 r11 r12 r13 r14
      generalize grow (redrawn w2 dq) osq = w3 at HB3 ⊢
      go_wp2_with fail
      obtain ⟨c00, c01, c02, c03, c04⟩ := HA0.out.below HB3.out
      have r00 := cell_regrown c00
      have r01 := cell_regrown c01
      have r02 := cell_regrown c02
      have r03 := cell_regrown c03
      have r04 := cell_regrown c04
      obtain ⟨c10, c11, c12, c13, c14⟩ := HA1.out.below HB3.out
      have r10 := cell_regrown c10
      have r11 := cell_regrown c11
      have r12 := cell_regrown c12
      have r13 := cell_regrown c13
      have r14 := cell_regrown c14
      have hcall0 := regr_call (w := w3) (fun W _ => show Calls Try.prog 28 #[.agg #[.int .i64 n0, .string f0, .string l0, .int .i64 b0, .int .i64 z0]] W _ from toPerson_any n0 f0 l0 b0 z0 W)
      have hcall1 := regr_call (w := w3) (fun W _ => show Calls Try.prog 28 #[.agg #[.int .i64 n1, .string f1, .string l1, .int .i64 b1, .int .i64 z1]] W _ from toPerson_any n1 f1 l1 b1 z1 W)
      have hcall2 := regr_call (w := w3) (fun W _ => show Calls Try.prog 12 #[.agg #[.int .i64 n0, .string f0, .string l0, .int .i64 b0, .int .i64 z0], .agg #[.int .i64 n1, .string f1, .string l1, .int .i64 b1, .int .i64 z1]] W (fun e w' => e = .returned (.tuple #[.int .i64 x, .int .i64 c]) ∧ Below W.heap.size W w') from HIm.out W)
      clear c00 c01 c02 c03 c04
      clear c10 c11 c12 c13 c14
      refine wp_region_quiet_below (by kernel_rfl) (by kernel_rfl) ?_
      iterate 2 (go_big_quiet_step (exact hcall0 _ _))
      iterate 2 (go_big_quiet_step (exact hcall1 _ _))
      iterate 6 (go_big_quiet_step (exact hcall2 _ _))
      refine wpQuiet_nil ?_
      intro _ hw'
      obtain ⟨⟨dq, osq⟩, hw''⟩ := hw'
      subst hw''
      have HB4 := Lib.hid (HB3.out.trans ((below_regrown w3 dq osq).mono HB3.out.size))
      clear hcall0 hcall1 hcall2 r00 r01 r02 r03 r04 r10 r11 r12 r13 r14
      generalize grow (redrawn w3 dq) osq = w4 at HB4 ⊢
      go_wp2_with fail
      go_ret
      exact ⟨rfl, HW.out.trans (HB4.out.mono HW.out.size)⟩

set_option maxRecDepth 100000 in
theorem lifted (os : Os) (started : os.Started) (H : Type) (enc : TypeId × Value → H) :
    ReturnsInHanded {} Try.checked os 6 .any (Rows.fnExactLikenessOfSpec.pre6 enc Try.prog Try.f6 Rows.fnExactLikenessOfRow.domain false) (Rows.fnExactLikenessOfSpec.post enc Try.prog Try.f6 false true false false) := by
  refine returnsInHanded_of_change (C := Try.checked) own started (by kernel_rfl) Try.func6
    (ChangeSpec.witness6 (enc := enc) (C := Try.checked) false ⟨#[], #[.agg #[.int .i64 0, .string ByteArray.empty, .string ByteArray.empty, .int .i64 0, .int .i64 0], .agg #[.int .i64 0, .string ByteArray.empty, .string ByteArray.empty, .int .i64 0, .int .i64 0]], []⟩ 8 (by kernel_rfl) (by kernel_rfl) (by kernel_rfl) (by kernel_rfl)) ?_
  intro W base args ds gs before hval0 hW hcnd _
  have hval : ∀ (j : Nat) t v, Try.f6.params[j]? = some t → args[j]? = some v → Value.okWide Try.prog W .any base t v := hval0
  have hW' := hW
  obtain ⟨p, q, hA0, hV, rfl, hfz, hnd⟩ := hW
  have hA : DataW.TrodAll enc Try.prog W 0 (fun _ => true) true Try.f6.params.toList args.toList ds p := hA0
  rw [Try.params6] at hA hval
  obtain ⟨v0, vs0, d0, ds0, p0, q0, hargs, rfl, rfl, h0, r0⟩ := trodAll_cons hA
  obtain ⟨v1, vs1, d1, ds1, p1, q1, rfl, rfl, rfl, h1, r1⟩ := trodAll_cons r0
  obtain ⟨rfl, rfl, rfl⟩ := trodAll_nil r1
  obtain rfl : args = #[v0, v1] := by cases args; simp_all
  obtain ⟨rfl, rfl⟩ := trodVars_none hV
  have k0 := h0
  have lt0 : ∀ x ∈ p0, x.block < W.heap.size := by obtain ⟨m, hm⟩ := k0; exact DataW.trod_lt m _ _ _ hm
  obtain ⟨pp0, rfl, w0⟩ := open_pers Try.persLaws (hval 0 43 v0 rfl rfl) h0
  have k1 := h1
  have lt1 : ∀ x ∈ p1, x.block < W.heap.size := by obtain ⟨m, hm⟩ := k1; exact DataW.trod_lt m _ _ _ hm
  obtain ⟨pp1, rfl, w1⟩ := open_pers Try.persLaws (hval 1 43 v1 rfl rfl) h1
  clear hA0 hval0
  refine (walk W pp0.num pp0.fst pp0.lst pp0.born pp0.zone w0 pp1.num pp1.fst pp1.lst pp1.born pp1.zone w1).mono fun e W' ⟨he, bel⟩ => ?_
  subst he
  exact ⟨_, rfl, _, _, _, [], _, [], hW', trodAll_mk1 (shut_bool Try.underlying4 _), (trodAll_cons_mk (Below.trod laidOut (by kernel_rfl) (of_decide_eq_true (by kernel_rfl)) k0 bel lt0) (trodAll_cons_mk (Below.trod laidOut (by kernel_rfl) (of_decide_eq_true (by kernel_rfl)) k1 bel lt1) trodAll_mk0)), rfl, bel.frame _, fun h => by cases h⟩

theorem over : Rows.fnExactLikenessOfRow.holds Try.pinned (OpenSpec.ofChange Rows.fnExactLikenessOfSpec) :=
  OpenClaim.holds_of_wide 6 Try.f6 rfl rfl rfl rfl rfl rfl rfl ⟨rfl, rfl, rfl, rfl, rfl⟩ rfl rfl rfl rfl rfl (by kernel_rfl) Try.func6 (by kernel_rfl)
    (of_decide_eq_true (by kernel_rfl)) (by unfold Func.isWrapper; first | (rw [if_pos (by decide +kernel)]; kernel_rfl) | (rw [if_neg (by decide +kernel)]; exact ⟨rfl, rfl⟩))
    (fun os started H enc _ => lifted os started H enc)

/-- The statement. -/
theorem proved : Rows.FnExactLikenessOfSaid := over
end Go.Proofs.Ytacioigfkkoepaa.fnExactLikenessOf
