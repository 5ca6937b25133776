/- Proved: for every list of person-shaped elements and every person-shaped argument, laws.FnExactMostAlike returns true and leaves its arguments as they were: impl.MostAlike answers as its model and writes nothing. -/
import Derived.Test.YtlaeceglcmnhbaaRows
import Derived.WalkKit
import Derived.ProofKit
import Derived.OpenShut
import Derived.ShutString
import Derived.ChangeOld
import Derived.Below
import Derived.SliceStrings
import Derived.Lib.Hide
import Derived.Deep.RegionWith
import Derived.Test.YtlaeceglcmnhbaaPure40
import Derived.Test.YtlaeceglcmnhbaaPersOpen
import Derived.Test.YtlaeceglcmnhbaaPersLaw
import Derived.Test.YtlaeceglcmnhbaaIsPers
import Derived.Test.YtlaeceglcmnhbaaPersSlice
import Derived.Test.YtlaeceglcmnhbaaArePers
import Derived.Test.YtlaeceglcmnhbaaAns4
import Derived.Test.YtlaeceglcmnhbaaMostA
namespace Go.Proofs.Ytlaeceglcmnhbaa.fnExactMostAlike
open Go.ChangeShapes Go.WideShapes Go.ChangeAt Go.RowKit
open Go.ChangeMaps (open_string shut_string)
open Pure40 Pure41
set_option linter.unusedVariables false

theorem own : ownKnob Try.prog.godebug = none := by kernel_rfl
theorem laidOut : laidOutB Try.prog = true := by kernel_rfl


set_option maxRecDepth 100000 in
set_option maxHeartbeats 4000000 in
theorem walk (w : World) (a0 : Option Addr) (len0 cap0 : Nat) (ps0 : List Pure40.Pers) (hl0 : ps0.length = len0) (hm0 : len0 ≤ maxLen) (hI0 : Pure40.PersAt w a0 ps0) (w0 : Pure40.Fits ps0) (n1 : Int) (f1 l1 : ByteArray) (b1 z1 : Int) (w1 : f1.size ≤ maxLen ∧ l1.size ≤ maxLen) :
    Calls Try.prog 5 #[.slice a0 len0 cap0, .agg #[.int .i64 n1, .string f1, .string l1, .int .i64 b1, .int .i64 z1]] w fun e w' => e = .returned (.bool true) ∧ Below w.heap.size w w' := by
  have HI := Lib.hid hI0; have HL := Lib.hid hl0
  obtain ⟨hf1, hl1⟩ := w1
  have HWx := Lib.hid (boxed w (.cells #[.int .i64 n1, .string f1, .string l1, .int .i64 b1, .int .i64 z1] 48))
  have HA := Lib.hid (atB_box w n1 f1 l1 b1 z1 48)
  have HSz := Lib.hid (szPersonS_any a0 len0 cap0 ps0 1048576 (w.alloc (.cells #[.int .i64 n1, .string f1, .string l1, .int .i64 b1, .int .i64 z1] 48)) (by omega) (by omega) hl0 hm0 (hI0.below HWx.out) w0)
  have HI0 := Lib.hid (hI0.below HWx.out)
  have HF := Lib.hid w0
  clear hI0 hl0 w0 HI
  have HSz1 := Lib.hid (fun (L : Int) (h0 : 0 ≤ L) (h1 : L ≤ 1048576) W => szPerson_any n1 f1 l1 b1 z1 L W hf1 hl1 h0 h1)
  obtain ⟨x, c, hr⟩ : ∃ x c, mostP ps0 ⟨n1, f1, l1, b1, z1⟩ = (x, c) := ⟨_, _, rfl⟩
  go_enter Try.func5, Try.ntmps5
  go_wp2_with fail
  refine HSz.out.mono ?_; rintro e w1 ⟨L, rfl, hL1, hL, hB⟩; have HB1 := Lib.hid hB; clear hB
  by_cases hneg : L < 0
  · go_wp2_with fail
    go_ret
    exact ⟨rfl, HWx.out.trans (HB1.out.mono HWx.out.size)⟩
  · have hsm : len0 ≤ 1048576 := hL (by omega)
    have hmx : len0 ≤ maxLen := by unfold maxLen; omega
    clear hL
    have hLL := leftP_le (f := f1) (l := l1) (show 0 ≤ L by omega)
    have HSL := Lib.hid (HSz1.out L (by omega) hL1)
    generalize leftP f1 l1 L = M at hLL HSL
    obtain ⟨c0, c1, c2, c3, c4⟩ := HA.out.below HB1.out
    go_wp2_with fail
    clear c0 c1 c2 c3 c4
    refine (HSL.out w1).mono ?_; rintro e w2 ⟨rfl, hB⟩; have HB2 := Lib.hid (HB1.out.trans (hB.mono HB1.out.size)); clear hB
    rcases hLL with rfl | ⟨hM0, hM1⟩
    · go_wp2_with fail
      go_ret
      exact ⟨rfl, HWx.out.trans (HB2.out.mono HWx.out.size)⟩
    · have HSp := Lib.hid (show ∀ (a : Option Addr) (cap : Nat) (W : World), PersAt W a ps0 → Calls Try.prog 16 #[.slice a len0 cap, .agg #[.int .i64 n1, .string f1, .string l1, .int .i64 b1, .int .i64 z1]] W (fun e w' => e = .returned (.tuple #[.int .i64 x, .int .i64 c]) ∧ Below W.heap.size W w') from fun a cap W hI => by
          have := specMostAlike_any a len0 cap ps0 n1 f1 l1 b1 z1 W HL.out hmx hI HF.out hf1 hl1
          rw [hr] at this; exact this)
      have HIm := Lib.hid (show ∀ (a : Option Addr) (cap : Nat) (W : World), PersAt W a ps0 → Calls Try.prog 15 #[.slice a len0 cap, .agg #[.int .i64 n1, .string f1, .string l1, .int .i64 b1, .int .i64 z1]] W (fun e w' => e = .returned (.tuple #[.int .i64 x, .int .i64 c]) ∧ Below W.heap.size W w') from fun a cap W hI => by
          have := implMostAlike_any a len0 cap ps0 n1 f1 l1 b1 z1 W HL.out hmx hI HF.out hf1 hl1
          rw [hr] at this; exact this)
      have HTS := Lib.hid (toPersonS_any a0 len0 cap0 ps0 w2.drew HL.out hsm (HI0.out.below HB2.out.drew))
      clear hr
      obtain ⟨c0, c1, c2, c3, c4⟩ := HA.out.below HB2.out
      go_wp2_with fail
      go_region_with (first | (go_at_call 25; refine HTS.out.mono ?_; rintro e w3 ⟨q3, rfl, _, hI3, hB⟩; have HI3 := Lib.hid hI3; have HB3 := Lib.hid (HB2.out.drew.trans (hB.mono HB2.out.size)); clear hI3 hB; obtain ⟨c0, c1, c2, c3, c4⟩ := HA.out.below HB3.out) | (go_at_call 28; refine (toPerson_any n1 f1 l1 b1 z1 w3).mono ?_; rintro e w4 ⟨rfl, hB⟩; have HI4 := Lib.hid (HI3.out.below hB); have HB4 := Lib.hid (HB3.out.trans (hB.mono HB3.out.size)); clear hB c0 c1 c2 c3 c4) | (go_at_call 16; refine (HSp.out _ _ w4 HI4.out).mono ?_; rintro e w5 ⟨rfl, hB⟩; have HB5 := Lib.hid (HB4.out.trans (hB.mono HB4.out.size)); clear hB))
      all_goals
        go_wp2_with fail
        refine (toPersonS_any a0 len0 cap0 ps0 w5 HL.out hsm (HI0.out.below HB5.out)).mono ?_
        rintro e w6 ⟨q6, rfl, _, hI6, hB⟩; have HI6 := Lib.hid hI6; have HB6 := Lib.hid (HB5.out.trans (hB.mono HB5.out.size)); clear hI6 hB
        obtain ⟨d0, d1, d2, d3, d4⟩ := HA.out.below HB6.out
        go_wp2_with fail
        clear d0 d1 d2 d3 d4
        refine (toPerson_any n1 f1 l1 b1 z1 w6).mono ?_; rintro e w7 ⟨rfl, hB⟩; have HI7 := Lib.hid (HI6.out.below hB); have HB7 := Lib.hid (HB6.out.trans (hB.mono HB6.out.size)); clear hB
        go_wp2_with fail
        refine (HIm.out _ _ w7 HI7.out).mono ?_; rintro e w8 ⟨rfl, hB⟩; have HI8 := Lib.hid (HI7.out.below hB); have HB8 := Lib.hid (HB7.out.trans (hB.mono HB7.out.size)); clear hB
        go_wp2_with fail
        refine (toPersonS_any a0 len0 cap0 ps0 w8 HL.out hsm (HI0.out.below HB8.out)).mono ?_
        rintro e w9 ⟨q9, rfl, _, hI9, hB⟩; have HI9 := Lib.hid hI9; have HJ9 := Lib.hid (HI8.out.below hB); have HB9 := Lib.hid (HB8.out.trans (hB.mono HB8.out.size)); clear hI9 hB
        go_wp2_with fail
        refine (eqPersonS_same _ _ _ _ _ ps0 w9 HL.out hsm HJ9.out HI9.out).mono ?_
        rintro e w10 ⟨rfl, hB⟩; have HB10 := Lib.hid (HB9.out.trans (hB.mono HB9.out.size)); clear hB
        go_wp2_with fail
        go_ret
        exact ⟨rfl, HWx.out.trans (HB10.out.mono HWx.out.size)⟩

set_option maxRecDepth 100000 in
theorem lifted (os : Os) (started : os.Started) (H : Type) (enc : TypeId × Value → H) :
    ReturnsInHanded {} Try.checked os 5 .any (Rows.fnExactMostAlikeSpec.pre6 enc Try.prog Try.f5 Rows.fnExactMostAlikeRow.domain false) (Rows.fnExactMostAlikeSpec.post enc Try.prog Try.f5 false true false false) := by
  refine returnsInHanded_of_change (C := Try.checked) own started (by kernel_rfl) Try.func5
    (ChangeSpec.witness6 (enc := enc) (C := Try.checked) false ⟨#[], #[.slice none 0 0, .agg #[.int .i64 0, .string ByteArray.empty, .string ByteArray.empty, .int .i64 0, .int .i64 0]], []⟩ 8 (by kernel_rfl) (by kernel_rfl) (by kernel_rfl) (by kernel_rfl)) ?_
  intro W base args ds gs before hval0 hW hcnd _
  have hval : ∀ (j : Nat) t v, Try.f5.params[j]? = some t → args[j]? = some v → Value.okWide Try.prog W .any base t v := hval0
  have hW' := hW
  obtain ⟨p, q, hA0, hV, rfl, hfz, hnd⟩ := hW
  have hA : DataW.TrodAll enc Try.prog W 0 (fun _ => true) true Try.f5.params.toList args.toList ds p := hA0
  rw [Try.params5] at hA hval
  obtain ⟨v0, vs0, d0, ds0, p0, q0, hargs, rfl, rfl, h0, r0⟩ := trodAll_cons hA
  obtain ⟨v1, vs1, d1, ds1, p1, q1, rfl, rfl, rfl, h1, r1⟩ := trodAll_cons r0
  obtain ⟨rfl, rfl, rfl⟩ := trodAll_nil r1
  obtain rfl : args = #[v0, v1] := by cases args; simp_all
  obtain ⟨rfl, rfl⟩ := trodVars_none hV
  obtain ⟨a0, len0, cap0, rfl⟩ := okWide_slice Try.underlying43 (hval 0 43 v0 rfl rfl)
  have k0 := h0
  have lt0 : ∀ x ∈ p0, x.block < W.heap.size := by obtain ⟨m, hm⟩ := k0; exact DataW.trod_lt m _ _ _ hm
  obtain ⟨pp0, hl0, hm0, hI0, w0⟩ : ∃ ps : List Pure40.Pers, ps.length = len0 ∧ len0 ≤ maxLen ∧ Pure40.PersAt W a0 ps ∧ Pure40.Fits ps := by
    obtain ⟨fuel, hf⟩ := h0
    exact open_persons Try.persLaws Try.underlying43 hf
  have k1 := h1
  have lt1 : ∀ x ∈ p1, x.block < W.heap.size := by obtain ⟨m, hm⟩ := k1; exact DataW.trod_lt m _ _ _ hm
  obtain ⟨pp1, rfl, w1⟩ := open_pers Try.persLaws (hval 1 48 v1 rfl rfl) h1
  clear hA0 hval0
  refine (walk W a0 len0 cap0 pp0 hl0 hm0 hI0 w0 pp1.num pp1.fst pp1.lst pp1.born pp1.zone w1).mono fun e W' ⟨he, bel⟩ => ?_
  subst he
  exact ⟨_, rfl, _, _, _, [], _, [], hW', trodAll_mk1 (shut_bool Try.underlying4 _), (trodAll_cons_mk (Below.trod laidOut (by kernel_rfl) (of_decide_eq_true (by kernel_rfl)) k0 bel lt0) (trodAll_cons_mk (Below.trod laidOut (by kernel_rfl) (of_decide_eq_true (by kernel_rfl)) k1 bel lt1) trodAll_mk0)), rfl, bel.frame _, fun h => by cases h⟩

theorem over : Rows.fnExactMostAlikeRow.holds Try.pinned (OpenSpec.ofChange Rows.fnExactMostAlikeSpec) :=
  OpenClaim.holds_of_wide 5 Try.f5 rfl rfl rfl rfl rfl rfl rfl ⟨rfl, rfl, rfl, rfl, rfl⟩ rfl rfl rfl rfl rfl (by kernel_rfl) Try.func5 (by kernel_rfl)
    (of_decide_eq_true (by kernel_rfl)) (by unfold Func.isWrapper; first | (rw [if_pos (by decide +kernel)]; kernel_rfl) | (rw [if_neg (by decide +kernel)]; exact ⟨rfl, rfl⟩))
    (fun os started H enc _ => lifted os started H enc)

/-- The statement. -/
theorem proved : Rows.FnExactMostAlikeSaid := over
end Go.Proofs.Ytlaeceglcmnhbaa.fnExactMostAlike
