/- Proved: for all numbers as holidays, every list of calls and all numbers, laws.FnExactMayMove returns true and leaves its arguments as they were: impl.MayMove answers as its model and writes nothing. No condition. -/
import Derived.Test.YtekhdggaelppkaaRows
import Derived.WalkKit
import Derived.ProofKit
import Derived.OpenShut
import Derived.ShutString
import Derived.ChangeOld
import Derived.Below
import Derived.SliceStrings
import Derived.Lib.Hide
import Derived.Test.YtekhdggaelppkaaBase
import Derived.Test.YtekhdggaelppkaaPure21
import Derived.Test.YtekhdggaelppkaaPure100
import Derived.Test.YtekhdggaelppkaaCallA
import Derived.Test.YtekhdggaelppkaaCallB
import Derived.Test.YtekhdggaelppkaaCallM
import Derived.Test.YtekhdggaelppkaaMarkI
import Derived.Test.YtekhdggaelppkaaToInt
import Derived.Test.YtekhdggaelppkaaEqInt
import Derived.Test.YtekhdggaelppkaaSet10
import Derived.Test.YtekhdggaelppkaaLaw10
import Derived.Test.YtekhdggaelppkaaSpec102
import Derived.Test.YtekhdggaelppkaaImpl10c
namespace Go.Proofs.Ytekhdggaelppkaa.fnExactMayMove
open Go.ChangeShapes Go.WideShapes Go.ChangeAt Go.RowKit
open Go.ChangeMaps (open_string shut_string)
open Pure2 Pure20 Pure21 Pure40
set_option linter.unusedVariables false

theorem own : ownKnob Try.prog.godebug = none := by kernel_rfl
theorem laidOut : laidOutB Try.prog = true := by kernel_rfl

/-- What the walk is told of a slice of integers that came in: it is nil, or it leads to a row of cap cells, the numbers zs. -/
def IsRow (k : IntKind) (w : World) (a : Option Addr) (len cap : Nat) (zs : List Int) : Prop :=
  (a = none ∧ len = 0 ∧ cap = 0 ∧ zs = []) ∨
  ∃ x, a = some x ∧ len ≤ cap ∧ cap ≤ maxLen ∧ zs.length = cap ∧ (∀ i, i < zs.length → w.cell? (x.add i) = some (.int k (zs.getD i 0))) ∧ ∀ n ∈ zs, (Lit.int k n).wf = true

set_option maxRecDepth 100000 in
set_option maxHeartbeats 4000000 in
theorem walk (w : World) (a0 : Option Addr) (len0 cap0 : Nat) (z0 : List Int) (w0 : IsRow .i64 w a0 len0 cap0 z0) (a1 : Option Addr) (len1 cap1 : Nat) (ts1 : List Call) (hl1 : ts1.length = len1) (hm1 : len1 ≤ maxLen) (hI1 : Call.ListAt w a1 ts1) (a2 : Int) (w2 : (Lit.int .i64 a2).wf = true) (a3 : Int) (w3 : (Lit.int .i64 a3).wf = true) :
    Calls Try.prog 7 #[.slice a0 len0 cap0, .slice a1 len1 cap1, .int .i64 a2, .int .i64 a3] w fun e w' => e = .returned (.bool true) ∧ Below w.heap.size w w' := by
  obtain ⟨hzl, hzm, hzI⟩ := ints_of_row w0
  generalize z0.take len0 = hs at hzl hzI
  have HZL := Lib.hid hzl; have HZM := Lib.hid hzm; have HZI := Lib.hid hzI
  unfold maxLen at hzm
  have HI := Lib.hid hI1; have HL := Lib.hid hl1
  have HSz := Lib.hid (szCallS_any a1 len1 cap1 1048576 w hm1 (by omega) (by omega))
  have HM1 := Lib.hid hm1
  clear hzI hzl hI1 hl1 w0
  by_cases hbz : 1048576 < (len0 : Int)
  · go_enter Try.func7, Try.ntmps7
    go_wp2
    go_ret
    exact ⟨rfl, Below.refl _ _⟩
  have hbz' : len0 ≤ 1048576 := by omega
  have hbzb : decide ((len0 : Int) > 1048576) = false := decide_eq_false hbz
  by_cases hsm1 : 1048576 < len1
  · rw [if_pos (show (1048576 : Int) - (len1 : Int) < 0 by omega)] at HSz
    go_enter Try.func7, Try.ntmps7
    go_wp2_with fail
    refine HSz.out.mono ?_; rintro e u1 ⟨rfl, rfl⟩
    go_wp2_with fail
    go_ret
    exact ⟨rfl, Below.refl _ _⟩
  have hsm : len1 ≤ 1048576 := by omega
  rw [if_neg (show ¬ (1048576 : Int) - (len1 : Int) < 0 by omega)] at HSz
  have hz0 : decide ((1048576 : Int) - (len1 : Int) < 0) = false := decide_eq_false (by omega)
  obtain ⟨x, c, hr⟩ : ∃ x c, mayR hs ts1 a2 a3 = (x, c) := ⟨_, _, rfl⟩
  have HSp := Lib.hid (show ∀ (ha : Option Addr) (hc b cap : Nat) (W : World), IntsAt W ha hs → Call.ListAt W (some ⟨b, 0, none⟩) ts1 → len1 ≤ cap → Calls Try.prog 18 #[.slice ha len0 hc, .slice (some ⟨b, 0, none⟩) len1 cap, .int .i64 a2, .int .i64 a3] W (fun e w' => e = .returned (.tuple #[.bool x, .int .i64 c]) ∧ Below W.heap.size W w') from fun ha hc b cap W hh hI hcap => by
    have this := specMayMove_any ha len0 hc hs b len1 cap ts1 a2 a3 W HZL.out HZM.out hh HL.out HM1.out hI hcap
    rw [hr] at this; exact this)
  have HIm := Lib.hid (show ∀ (ha : Option Addr) (hc : Nat) (la : Option Addr) (cap : Nat) (W : World), IntsAt W ha hs → Call.ListAt W la ts1 → Calls Try.prog 17 #[.slice ha len0 hc, .slice la len1 cap, .int .i64 a2, .int .i64 a3] W (fun e w' => e = .returned (.tuple #[.bool x, .int .i64 c]) ∧ Below W.heap.size W w') from fun ha hc la cap W hh hI => by
    have this := implMayMove_any ha len0 hc hs la len1 cap ts1 a2 a3 W HZL.out HZM.out hh HL.out HM1.out hI
    rw [hr] at this; exact this)
  clear hr
  go_enter Try.func7, Try.ntmps7
  go_wp2_with fail
  refine HSz.out.mono ?_; rintro e u1 ⟨rfl, rfl⟩
  generalize (1048576 : Int) - (len1 : Int) = L0 at hz0 ⊢
  have HB1 := Lib.hid (Below.refl u1.heap.size u1)
  go_wp2_with fail
  refine (toInt64S_any a0 len0 cap0 hs u1 HZL.out hbz' (HZI.out.below HB1.out)).mono ?_
  rintro e u2 ⟨b0, rfl, _, hI, hB⟩; have HJ2 := Lib.hid hI; have HB2 := Lib.hid (HB1.out.trans (hB.mono HB1.out.size)); clear hI hB
  go_wp2_with fail
  refine (toCallS_any a1 len1 cap1 ts1 u2 HL.out hsm (HI.out.below HB2.out)).mono ?_
  rintro e u3 ⟨b1, rfl, _, _, _, _, hI, hB⟩; have HI3 := Lib.hid hI; have HJ3 := Lib.hid (HJ2.out.below hB); have HB3 := Lib.hid (HB2.out.trans (hB.mono HB2.out.size)); clear hI hB
  go_wp2_with fail
  refine (HSp.out _ _ _ _ u3 HJ3.out HI3.out (Nat.le_refl _)).mono ?_; rintro e u4 ⟨rfl, hB⟩; have HB4 := Lib.hid (HB3.out.trans (hB.mono HB3.out.size)); clear hB
  go_wp2_with fail
  refine (toInt64S_any a0 len0 cap0 hs u4 HZL.out hbz' (HZI.out.below HB4.out)).mono ?_
  rintro e u5 ⟨b5, rfl, _, hI, hB⟩; have HJ5 := Lib.hid hI; have HB5 := Lib.hid (HB4.out.trans (hB.mono HB4.out.size)); clear hI hB
  go_wp2_with fail
  refine (toCallS_any a1 len1 cap1 ts1 u5 HL.out hsm (HI.out.below HB5.out)).mono ?_
  rintro e u6 ⟨b6, rfl, _, _, _, _, hI, hB⟩; have HI6 := Lib.hid hI; have HJ6 := Lib.hid (HJ5.out.below hB); have HB6 := Lib.hid (HB5.out.trans (hB.mono HB5.out.size)); clear hI hB
  go_wp2_with fail
  refine (HIm.out _ _ _ _ u6 HJ6.out HI6.out).mono ?_; rintro e u7 ⟨rfl, hB⟩; have HI7 := Lib.hid (HI6.out.below hB); have HJ7 := Lib.hid (HJ6.out.below hB); have HB7 := Lib.hid (HB6.out.trans (hB.mono HB6.out.size)); clear hB
  go_wp2_with fail
  refine (toInt64S_any a0 len0 cap0 hs u7 HZL.out hbz' (HZI.out.below HB7.out)).mono ?_
  rintro e u8 ⟨b8, rfl, _, hI, hB⟩; have HK8 := Lib.hid hI; have HI8 := Lib.hid (HI7.out.below hB); have HJ8 := Lib.hid (HJ7.out.below hB); have HB8 := Lib.hid (HB7.out.trans (hB.mono HB7.out.size)); clear hI hB
  go_wp2_with fail
  refine (eqInt64S_any _ _ _ _ _ _ hs hs u8 HZL.out HZL.out HZM.out HZM.out HJ8.out HK8.out).mono ?_
  intro e u9 hq; obtain ⟨rfl, hB⟩ := sameI hq; clear hq
  have HI9 := Lib.hid (HI8.out.below hB); have HB9 := Lib.hid (HB8.out.trans (hB.mono HB8.out.size)); clear hB
  go_wp2_with fail
  refine (toCallS_any a1 len1 cap1 ts1 u9 HL.out hsm (HI.out.below HB9.out)).mono ?_
  rintro e u10 ⟨b10, rfl, _, _, _, _, hI, hB⟩; have HK10 := Lib.hid hI; have HI10 := Lib.hid (HI9.out.below hB); have HB10 := Lib.hid (HB9.out.trans (hB.mono HB9.out.size)); clear hI hB
  go_wp2_with fail
  refine (eqCallS_same _ _ _ _ _ ts1 u10 HL.out hsm HI10.out HK10.out).mono ?_
  rintro e u11 ⟨rfl, hB⟩; have HB11 := Lib.hid (HB10.out.trans (hB.mono HB10.out.size)); clear hB
  go_wp2_with fail
  go_ret
  exact ⟨rfl, HB11.out⟩

set_option maxRecDepth 100000 in
theorem lifted (os : Os) (started : os.Started) (H : Type) (enc : TypeId × Value → H) :
    ReturnsInHanded {} Try.checked os 7 .any (Rows.fnExactMayMoveSpec.pre6 enc Try.prog Try.f7 Rows.fnExactMayMoveRow.domain false) (Rows.fnExactMayMoveSpec.post enc Try.prog Try.f7 false true false false) := by
  refine returnsInHanded_of_change (C := Try.checked) own started (by kernel_rfl) Try.func7
    (ChangeSpec.witness6 (enc := enc) (C := Try.checked) false ⟨#[], #[.slice none 0 0, .slice none 0 0, .int .i64 0, .int .i64 0], []⟩ 8 (by kernel_rfl) (by kernel_rfl) (by kernel_rfl) (by kernel_rfl)) ?_
  intro W base args ds gs before hval0 hW hcnd _
  have hval : ∀ (j : Nat) t v, Try.f7.params[j]? = some t → args[j]? = some v → Value.okWide Try.prog W .any base t v := hval0
  have hW' := hW
  obtain ⟨p, q, hA0, hV, rfl, hfz, hnd⟩ := hW
  have hA : DataW.TrodAll enc Try.prog W 0 (fun _ => true) true Try.f7.params.toList args.toList ds p := hA0
  rw [Try.params7] at hA hval
  obtain ⟨v0, vs0, d0, ds0, p0, q0, hargs, rfl, rfl, h0, r0⟩ := trodAll_cons hA
  obtain ⟨v1, vs1, d1, ds1, p1, q1, rfl, rfl, rfl, h1, r1⟩ := trodAll_cons r0
  obtain ⟨v2, vs2, d2, ds2, p2, q2, rfl, rfl, rfl, h2, r2⟩ := trodAll_cons r1
  obtain ⟨v3, vs3, d3, ds3, p3, q3, rfl, rfl, rfl, h3, r3⟩ := trodAll_cons r2
  obtain ⟨rfl, rfl, rfl⟩ := trodAll_nil r3
  obtain rfl : args = #[v0, v1, v2, v3] := by cases args; simp_all
  obtain ⟨rfl, rfl⟩ := trodVars_none hV
  obtain ⟨a0, len0, cap0, rfl⟩ := okWide_slice Try.underlying24 (hval 0 24 v0 rfl rfl)
  have k0 := h0
  have lt0 : ∀ x ∈ p0, x.block < W.heap.size := by obtain ⟨m, hm⟩ := k0; exact DataW.trod_lt m _ _ _ hm
  obtain ⟨z0, w0⟩ : ∃ zs, IsRow .i64 W a0 len0 cap0 zs := by
    obtain ⟨fuel, hf⟩ := h0
    rcases open_ints Try.underlying24 Try.underlying2 (by kernel_rfl) hf with ⟨hcs, _⟩ | ⟨x, l, c, zs, hcs, _, hl, hm, hz, _, hcell, hwz⟩
    · simp [Value.cells] at hcs
      obtain ⟨rfl, rfl, rfl⟩ := hcs
      exact ⟨[], .inl ⟨rfl, rfl, rfl, rfl⟩⟩
    · simp [Value.cells] at hcs
      obtain ⟨rfl, rfl, rfl⟩ := hcs
      exact ⟨zs, .inr ⟨_, rfl, hl, hm, by simpa using hz, hcell, hwz⟩⟩
  obtain ⟨a1, len1, cap1, rfl⟩ := okWide_slice Try.underlying45 (hval 1 45 v1 rfl rfl)
  have k1 := h1
  have lt1 : ∀ x ∈ p1, x.block < W.heap.size := by obtain ⟨m, hm⟩ := k1; exact DataW.trod_lt m _ _ _ hm
  obtain ⟨pp1, hl1, hm1, hI1⟩ : ∃ ps : List Call, ps.length = len1 ∧ len1 ≤ maxLen ∧ Call.ListAt W a1 ps := by
    obtain ⟨fuel, hf⟩ := h1
    exact Call.openS Try.tyCall Try.underlying45 hf
  obtain ⟨a2, rfl, rfl, rfl, w2⟩ := open_int Try.underlying2 (hval 2 2 v2 rfl rfl) h2
  obtain ⟨a3, rfl, rfl, rfl, w3⟩ := open_int Try.underlying2 (hval 3 2 v3 rfl rfl) h3
  clear hA0 hval0
  refine (walk W a0 len0 cap0 z0 w0 a1 len1 cap1 pp1 hl1 hm1 hI1 a2 w2 a3 w3).mono fun e W' ⟨he, bel⟩ => ?_
  subst he
  exact ⟨_, rfl, _, _, _, [], _, [], hW', trodAll_mk1 (shut_bool Try.underlying4 _), (trodAll_cons_mk (Below.trod laidOut (by kernel_rfl) (of_decide_eq_true (by kernel_rfl)) k0 bel lt0) (trodAll_cons_mk (Below.trod laidOut (by kernel_rfl) (of_decide_eq_true (by kernel_rfl)) k1 bel lt1) (trodAll_cons_mk (shut_int Try.underlying2 w2) (trodAll_cons_mk (shut_int Try.underlying2 w3) trodAll_mk0)))), rfl, bel.frame _, fun h => by cases h⟩

theorem over : Rows.fnExactMayMoveRow.holds Try.pinned (OpenSpec.ofChange Rows.fnExactMayMoveSpec) :=
  OpenClaim.holds_of_wide 7 Try.f7 rfl rfl rfl rfl rfl rfl rfl ⟨rfl, rfl, rfl, rfl, rfl⟩ rfl rfl rfl rfl rfl (by kernel_rfl) Try.func7 (by kernel_rfl)
    (of_decide_eq_true (by kernel_rfl)) (by unfold Func.isWrapper; first | (rw [if_pos (by decide +kernel)]; kernel_rfl) | (rw [if_neg (by decide +kernel)]; exact ⟨rfl, rfl⟩))
    (fun os started H enc _ => lifted os started H enc)

/-- The statement. -/
theorem proved : Rows.FnExactMayMoveSaid := over
end Go.Proofs.Ytekhdggaelppkaa.fnExactMayMove
