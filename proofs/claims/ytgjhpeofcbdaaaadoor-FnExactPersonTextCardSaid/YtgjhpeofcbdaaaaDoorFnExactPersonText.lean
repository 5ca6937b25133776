/- Proved: for every person-shaped argument, laws.FnExactPersonText returns true: impl.PersonText answers as its model (the card's own condition: the listed tables of Go's library hold what the program's text lays). -/
import Derived.Test.YtgjhpeofcbdaaaaDoorRows
import Derived.Test.YtgjhpeofcbdaaaaDoorCards
import Derived.Test.YtgjhpeofcbdaaaaDoorTie
import Derived.WalkKit
import Derived.ProofKit
import Derived.OpenShut
import Derived.ShutString
import Derived.ChangeOld
import Derived.Below
import Derived.SliceStrings
import Derived.Lib.Hide
import Derived.Deep.DeepHandedRow
import Derived.Deep.DeepWitnessRowRef
import Derived.SevenTiedAt
import Derived.Test.YtgjhpeofcbdaaaaDoorPure40
import Derived.Test.YtgjhpeofcbdaaaaDoorPersOpen
import Derived.Test.YtgjhpeofcbdaaaaDoorPersLaw
import Derived.Test.YtgjhpeofcbdaaaaDoorIsPers
import Derived.Test.YtgjhpeofcbdaaaaDoorText4
import Derived.Test.YtgjhpeofcbdaaaaDoorDoorW
namespace Go.Proofs.YtgjhpeofcbdaaaaDoor.fnExactPersonText
open Go.ChangeShapes Go.WideShapes Go.ChangeAt Go.RowKit
open Go.ChangeMaps (open_string shut_string)
open Pure40 Pure4 Pure42
set_option linter.unusedVariables false

theorem own : ownKnob Tryd.prog.godebug = none := by kernel_rfl
theorem laidOut : laidOutB Tryd.prog = true := by kernel_rfl


set_option maxRecDepth 100000 in
set_option maxHeartbeats 4000000 in
theorem walk (w : World) (hL : laidMetH Tryd.prog Rows.fnExactPersonTextRow.laid w) (hsh : w.ShapedOpen Tryd.prog) (n0 : Int) (f0 l0 : ByteArray) (b0 z0 : Int) (w0 : f0.size ≤ maxLen ∧ l0.size ≤ maxLen) :
    Calls Tryd.prog 4 #[.agg #[.int .i64 n0, .string f0, .string l0, .int .i64 b0, .int .i64 z0]] w fun e w' => e = .returned (.bool true) ∧ Below w.heap.size w w' := by
  have HT := Lib.hid (tabs_of hL (by simp [Rows.fnExactPersonTextRow])); clear hL hsh
  obtain ⟨hf, hl⟩ := w0
  have h0 : (leftP f0 l0 1048576 < 0) ∨ 0 ≤ leftP f0 l0 1048576 := by omega
  have HSz := Lib.hid (fun W => szPerson_any n0 f0 l0 b0 z0 1048576 W hf hl (by omega) (by omega))
  generalize leftP f0 l0 1048576 = L at h0 HSz
  obtain ⟨t, c, hr⟩ : ∃ t c, textOfP ⟨n0, f0, l0, b0, z0⟩ = (t, c) := ⟨_, _, rfl⟩
  have HSp := Lib.hid (show ∀ W, Calls Tryd.prog 9 #[.agg #[.int .i64 n0, .string f0, .string l0, .int .i64 b0, .int .i64 z0]] W (SaysT2 t c W) from fun W => by have := specPersonText_any n0 f0 l0 b0 z0 W hf hl; rw [hr] at this; exact this)
  have HIm := Lib.hid (show ∀ W, Tabs Tryd.prog W → Calls Tryd.prog 8 #[.agg #[.int .i64 n0, .string f0, .string l0, .int .i64 b0, .int .i64 z0]] W (SaysT2 t c W) from fun W hW => by have := implPersonText_any n0 f0 l0 b0 z0 W hf hl hW; rw [hr] at this; exact this)
  clear hr
  have HA := Lib.hid (atB_box w n0 f0 l0 b0 z0 33)
  have HW := Lib.hid (boxed w (.cells #[.int .i64 n0, .string f0, .string l0, .int .i64 b0, .int .i64 z0] 33))
  have HB0 := Lib.hid (Below.refl (w.alloc (.cells #[.int .i64 n0, .string f0, .string l0, .int .i64 b0, .int .i64 z0] 33)).heap.size (w.alloc (.cells #[.int .i64 n0, .string f0, .string l0, .int .i64 b0, .int .i64 z0] 33)))
  go_enter Tryd.func4, Tryd.ntmps4
  go_wp2_with fail
  refine (HSz.out (w.alloc (.cells #[.int .i64 n0, .string f0, .string l0, .int .i64 b0, .int .i64 z0] 33))).mono ?_; rintro e w1 ⟨rfl, hB⟩; have HB1 := Lib.hid (HB0.out.trans (hB.mono HB0.out.size)); clear hB
  rcases h0 with h0 | h0
  · go_wp2_with fail
    go_ret
    exact ⟨rfl, HW.out.trans (HB1.out.mono HW.out.size)⟩
  · obtain ⟨c0, c1, c2, c3, c4⟩ := HA.out.below HB1.out
    go_wp2_with fail
    clear c0 c1 c2 c3 c4
    refine (toPerson_any n0 f0 l0 b0 z0 w1).mono ?_; rintro e w2 ⟨rfl, hB⟩; have HB2 := Lib.hid (HB1.out.trans (hB.mono HB1.out.size)); clear hB
    go_wp2_with fail
    refine (HSp.out w2).mono ?_; rintro e w3 ⟨rfl, hB⟩; have HB3 := Lib.hid (HB2.out.trans (hB.mono HB2.out.size)); clear hB
    obtain ⟨c0, c1, c2, c3, c4⟩ := HA.out.below HB3.out
    go_wp2_with fail
    clear c0 c1 c2 c3 c4
    refine (toPerson_any n0 f0 l0 b0 z0 w3).mono ?_; rintro e w4 ⟨rfl, hB⟩; have HB4 := Lib.hid (HB3.out.trans (hB.mono HB3.out.size)); clear hB
    go_wp2_with fail
    refine (HIm.out w4 (HT.out.below Tryd.gPow (HW.out.trans (HB4.out.mono HW.out.size)))).mono ?_; rintro e w5 ⟨rfl, hB⟩; have HB5 := Lib.hid (HB4.out.trans (hB.mono HB4.out.size)); clear hB
    go_wp2_with fail
    go_ret
    exact ⟨rfl, HW.out.trans (HB5.out.mono HW.out.size)⟩

/-- A start that fits: the heap that the variables' own initialisers leave (and the pinned table, where the row lists one). -/
theorem laid_met (os : Os) : laidMetH Tryd.prog Rows.fnExactPersonTextRow.laid ((doorWorld os).forCall (fun _ _ => 0) ⟨#[], #[.agg #[.int .i64 0, .string ByteArray.empty, .string ByteArray.empty, .int .i64 0, .int .i64 0]], []⟩).memory :=
  laidMetH_of_parts3 (fuel := 8) (laidMet_of_run' 8 (by kernel_rfl) (by kernel_rfl)) (by kernel_rfl) (by kernel_rfl)
theorem reads (os : Os) {H : Type} (enc : TypeId × Value → H) : DataW.whole enc Tryd.prog ((doorWorld os).forCall (fun _ _ => 0) ⟨#[], #[.agg #[.int .i64 0, .string ByteArray.empty, .string ByteArray.empty, .int .i64 0, .int .i64 0]], []⟩).memory Tryd.f4.params.toList Rows.fnExactPersonTextSpec.vars false (#[.agg #[.int .i64 0, .string ByteArray.empty, .string ByteArray.empty, .int .i64 0, .int .i64 0]] : Array Value).toList 8 = some ([.agg [.lit (.int .i64 0), .lit (.string []), .lit (.string []), .lit (.int .i64 0), .lit (.int .i64 0)]], [], []) :=
  by kernel_rfl

set_option maxRecDepth 100000 in
theorem lifted (os : Os) (started : os.Started) (H : Type) (enc : TypeId × Value → H) (F : Stop.Interp) :
    ReturnsInHanded {} Tryd.checked os 4 .any ((OpenSpec.ofChange Rows.fnExactPersonTextSpec).preRow enc Tryd.prog Tryd.f4 Rows.fnExactPersonTextRow.domain false Rows.fnExactPersonTextRow.laid) (((OpenSpec.ofChange Rows.fnExactPersonTextSpec).at F).post enc Tryd.prog Tryd.f4 false true false false) := by
  refine returnsInHanded_of_row (C := Tryd.checked) (s := OpenSpec.ofChange Rows.fnExactPersonTextSpec) own started (by kernel_rfl) Tryd.func4
    (witness_row_atRef (enc := enc) (C := Tryd.checked) false (doorWorld os) #[.agg #[.int .i64 0, .string ByteArray.empty, .string ByteArray.empty, .int .i64 0, .int .i64 0]] rfl (by kernel_rfl) (by kernel_rfl) (by kernel_rfl)
      (OpenSpec.preRow_of_cond 8 (reads os enc) (by kernel_rfl) (fun k hk => by cases hk) (by kernel_rfl) (laid_met os))) ?_
  intro W base args ds gs before hval0 hW _ _ _ hL hsh _
  have hval : ∀ (j : Nat) t v, Tryd.f4.params[j]? = some t → args[j]? = some v → Value.okWide Tryd.prog W .any base t v := hval0
  have hW' := hW
  obtain ⟨p, q, hA0, hV, rfl, hfz, hnd⟩ := hW
  have hA : DataW.TrodAll enc Tryd.prog W 0 (fun _ => true) true Tryd.f4.params.toList args.toList ds p := hA0
  rw [Tryd.params4] at hA hval
  obtain ⟨v0, vs0, d0, ds0, p0, q0, hargs, rfl, rfl, h0, r0⟩ := trodAll_cons hA
  obtain ⟨rfl, rfl, rfl⟩ := trodAll_nil r0
  obtain rfl : args = #[v0] := by cases args; simp_all
  obtain ⟨rfl, rfl⟩ := trodVars_none hV
  have k0 := h0
  have lt0 : ∀ x ∈ p0, x.block < W.heap.size := by obtain ⟨m, hm⟩ := k0; exact DataW.trod_lt m _ _ _ hm
  obtain ⟨pp0, rfl, w0⟩ := open_pers Tryd.persLaws (hval 0 33 v0 rfl rfl) h0
  clear hA0 hval0
  refine (walk W hL hsh pp0.num pp0.fst pp0.lst pp0.born pp0.zone w0).mono fun e W' ⟨he, bel⟩ => ?_
  subst he
  exact ⟨_, rfl, _, _, _, [], _, [], hW', trodAll_mk1 (shut_bool Tryd.underlying4 _), (trodAll_cons_mk (Below.trod laidOut (by kernel_rfl) (of_decide_eq_true (by kernel_rfl)) k0 bel lt0) trodAll_mk0), rfl, bel.frame _, fun h => by cases h⟩

theorem said : Rows.FnExactPersonTextSaid :=
  OpenClaim.holds_of_cond 4 Tryd.f4 rfl rfl rfl rfl rfl rfl rfl ⟨rfl, rfl, rfl, rfl, rfl⟩ rfl rfl rfl rfl rfl (by kernel_rfl) Tryd.func4 (by kernel_rfl)
    (of_decide_eq_true (by kernel_rfl)) (by unfold Func.isWrapper; first | (rw [if_pos (by decide +kernel)]; kernel_rfl) | (rw [if_neg (by decide +kernel)]; exact ⟨rfl, rfl⟩))
    (fun os started H enc _ F => by rw [OpenClaim.pre_eq_preRow]; exact lifted os started H enc F)

/-- The statement: the tied card. -/
theorem proved : Rows.FnExactPersonTextCardSaid :=
  Claim7.holds_tied_plain_at .later [] _ _ _ _ said (fun _ h => by cases h) (by kernel_rfl) (fun _ h => by cases h) fnExactPersonText_row_tie rfl ⟨rfl, rfl⟩ (by kernel_rfl) rfl
    (fun f fn hf hfn => by
      obtain rfl : f = 4 := Option.some.inj ((show Tryd.prog.funcNamed "loop.example/g01027/laws.FnExactPersonText" = some 4 by kernel_rfl).symm.trans hf) |>.symm
      obtain rfl : fn = Tryd.f4 := (Option.some.inj (Tryd.func4.symm.trans hfn)).symm
      exact ⟨by kernel_rfl, fun j t ht => by
        rw [Tryd.params4] at ht
        have hm : t ∈ [33] := by simpa using Array.mem_of_getElem? ht
        have hall : ([33].all fun u => !Tryd.prog.wantsStandIn u) = true := by kernel_rfl
        exact (show Tryd.prog.wantsStandIn t = false by simpa using List.all_eq_true.1 hall t hm)⟩)
    (by kernel_rfl)
end Go.Proofs.YtgjhpeofcbdaaaaDoor.fnExactPersonText
