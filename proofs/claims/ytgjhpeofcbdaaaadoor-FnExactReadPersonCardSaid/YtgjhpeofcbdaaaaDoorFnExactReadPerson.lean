/- Proved: for every text, laws.FnExactReadPerson returns true and leaves its argument as it was: impl.ReadPerson answers as its model (the card's own condition: the listed variables of Go's library hold what the program's text lays). -/
import Derived.Test.YtgjhpeofcbdaaaaDoorRows
import Derived.Test.YtgjhpeofcbdaaaaDoorCards
import Derived.Test.YtgjhpeofcbdaaaaDoorTie
import Derived.WalkKit
import Derived.ProofKit
import Derived.OpenShut
import Derived.ShutString
import Derived.ChangeOld
import Derived.Below
import Derived.SliceStrings
import Derived.Lib.Hide
import Derived.Deep.DeepHandedRow
import Derived.Deep.DeepWitnessRowRef
import Derived.SevenTiedAt
import Derived.Test.YtgjhpeofcbdaaaaDoorPure40
import Derived.Test.YtgjhpeofcbdaaaaDoorPersLaw
import Derived.Test.YtgjhpeofcbdaaaaDoorRead4
import Derived.Test.YtgjhpeofcbdaaaaDoorRead5
import Derived.Test.YtgjhpeofcbdaaaaDoorDoorW
import Derived.Test.YtgjhpeofcbdaaaaDoorDoorE4
namespace Go.Proofs.YtgjhpeofcbdaaaaDoor.fnExactReadPerson
open Go.ChangeShapes Go.WideShapes Go.ChangeAt Go.RowKit
open Go.ChangeMaps (open_string shut_string)
open Pure40 Pure4 Pure42
set_option linter.unusedVariables false

theorem own : ownKnob Tryd.prog.godebug = none := by kernel_rfl
theorem laidOut : laidOutB Tryd.prog = true := by kernel_rfl


set_option maxRecDepth 100000 in
set_option maxHeartbeats 4000000 in
theorem walk (w : World) (hL : laidMetH Tryd.prog Rows.fnExactReadPersonRow.laid w) (hsh : w.ShapedOpen Tryd.prog) (a0 : ByteArray) (w0 : a0.size ≤ maxLen) :
    Calls Tryd.prog 5 #[.string a0] w fun e w' => e = .returned (.bool true) ∧ Below w.heap.size w w' := by
  have hM := maxAt_of hsh
  have HT := Lib.hid (tabs_of hL (by simp [Rows.fnExactReadPersonRow]))
  have HE := Lib.hid (errs_of hL (by simp [Rows.fnExactReadPersonRow]) (by simp [Rows.fnExactReadPersonRow]))
  clear hL hsh
  have hs0 : (a0.size : Int) ≤ 9223372036854775807 := by unfold maxLen at w0; omega
  by_cases hb : 1048576 < (a0.size : Int)
  · go_enter Tryd.func5, Tryd.ntmps5
    go_wp2
    go_ret
    exact ⟨rfl, Below.refl _ _⟩
  · have hs : a0.size ≤ 1048576 := by omega
    have HM := Lib.hid hM
    clear hM
    obtain ⟨p, c, hr⟩ : ∃ p c, readR a0 = (p, c) := ⟨_, _, rfl⟩
    obtain ⟨n, f, l, b, z⟩ := p
    have HSp := Lib.hid (show Calls Tryd.prog 12 #[.string a0] w (fun e w' => e = .returned (.tuple #[.agg #[.int .i64 n, .string f, .string l, .int .i64 b, .int .i64 z], .int .i64 c]) ∧ Below w.heap.size w w') from by have := specReadPerson_any a0 w hs; rw [hr] at this; exact this)
    have HIm := Lib.hid (show ∀ W, MaxAt W → ErrsAt W → Tabs Tryd.prog W → Calls Tryd.prog 11 #[.string a0] W (fun e w' => e = .returned (.tuple #[.agg #[.int .i64 n, .string f, .string l, .int .i64 b, .int .i64 z], .int .i64 c]) ∧ Below W.heap.size W w') from fun W h1 h2 h3 => by have := implReadPerson_any a0 W hs h1 h2 h3; rw [hr] at this; exact this)
    clear hr
    go_enter Tryd.func5, Tryd.ntmps5
    go_wp2_with fail
    refine HSp.out.mono ?_; rintro e w1 ⟨rfl, hB⟩
    have HB1 := Lib.hid (hB.alloc hB.size (.cells #[.int .i64 n, .string f, .string l, .int .i64 b, .int .i64 z] 25)); have HA1 := Lib.hid (atB_box w1 n f l b z 25); clear hB
    go_wp2_with fail
    refine (HIm.out _ (HM.out.below HB1.out) (HE.out.below HB1.out) (HT.out.below Tryd.gPow HB1.out)).mono ?_; rintro e w2 ⟨rfl, hB⟩
    have HB2 := Lib.hid ((HB1.out.trans (hB.mono HB1.out.size)).alloc (Nat.le_trans HB1.out.size hB.size) (.cells #[.int .i64 n, .string f, .string l, .int .i64 b, .int .i64 z] 25))
    have hA2 := (HA1.out.below hB).below (boxed w2 (.cells #[.int .i64 n, .string f, .string l, .int .i64 b, .int .i64 z] 25))
    obtain ⟨c0, c1, c2, c3, c4⟩ := hA2
    simp only at c0 c1 c2 c3 c4
    clear hB
    go_wp2_with fail
    clear c0 c1 c2 c3 c4
    refine (eqPerson_any n f l b z n f l b z _).mono ?_; rintro e w3 ⟨rfl, hB⟩
    have HB3 := Lib.hid (HB2.out.trans (hB.mono HB2.out.size)); clear hB
    simp only [decide_true, Bool.and_self]
    go_wp2_with fail
    go_ret
    exact ⟨rfl, HB3.out⟩

/-- A start that fits: the heap that the variables' own initialisers leave (and the pinned table, where the row lists one). -/
theorem laid_met (os : Os) : laidMetH Tryd.prog Rows.fnExactReadPersonRow.laid ((doorWorldP os).forCall (fun _ _ => 0) ⟨#[], #[.string ByteArray.empty], []⟩).memory :=
  laidMetH_of_parts3 (fuel := 8) (laidMet_of_run' 8 (by kernel_rfl) (by kernel_rfl)) (by kernel_rfl) (by kernel_rfl)
theorem reads (os : Os) {H : Type} (enc : TypeId × Value → H) : DataW.whole enc Tryd.prog ((doorWorldP os).forCall (fun _ _ => 0) ⟨#[], #[.string ByteArray.empty], []⟩).memory Tryd.f5.params.toList Rows.fnExactReadPersonSpec.vars false (#[.string ByteArray.empty] : Array Value).toList 8 = some ([.lit (.string [])], [], []) :=
  by kernel_rfl

set_option maxRecDepth 100000 in
theorem lifted (os : Os) (started : os.Started) (H : Type) (enc : TypeId × Value → H) (F : Stop.Interp) :
    ReturnsInHanded {} Tryd.checked os 5 .any ((OpenSpec.ofChange Rows.fnExactReadPersonSpec).preRow enc Tryd.prog Tryd.f5 Rows.fnExactReadPersonRow.domain false Rows.fnExactReadPersonRow.laid) (((OpenSpec.ofChange Rows.fnExactReadPersonSpec).at F).post enc Tryd.prog Tryd.f5 false true false false) := by
  refine returnsInHanded_of_row (C := Tryd.checked) (s := OpenSpec.ofChange Rows.fnExactReadPersonSpec) own started (by kernel_rfl) Tryd.func5
    (witness_row_atRef (enc := enc) (C := Tryd.checked) false (doorWorldP os) #[.string ByteArray.empty] rfl (by kernel_rfl) (by kernel_rfl) (by kernel_rfl)
      (OpenSpec.preRow_of_cond 8 (reads os enc) (by kernel_rfl) (fun k hk => by cases hk) (by kernel_rfl) (laid_met os))) ?_
  intro W base args ds gs before hval0 hW _ _ _ hL hsh _
  have hval : ∀ (j : Nat) t v, Tryd.f5.params[j]? = some t → args[j]? = some v → Value.okWide Tryd.prog W .any base t v := hval0
  have hW' := hW
  obtain ⟨p, q, hA0, hV, rfl, hfz, hnd⟩ := hW
  have hA : DataW.TrodAll enc Tryd.prog W 0 (fun _ => true) true Tryd.f5.params.toList args.toList ds p := hA0
  rw [Tryd.params5] at hA hval
  obtain ⟨v0, vs0, d0, ds0, p0, q0, hargs, rfl, rfl, h0, r0⟩ := trodAll_cons hA
  obtain ⟨rfl, rfl, rfl⟩ := trodAll_nil r0
  obtain rfl : args = #[v0] := by cases args; simp_all
  obtain ⟨rfl, rfl⟩ := trodVars_none hV
  obtain ⟨a0, rfl, rfl, rfl, w0⟩ := open_string Tryd.underlying9 (hval 0 9 v0 rfl rfl) h0
  clear hA0 hval0
  refine (walk W hL hsh a0 w0).mono fun e W' ⟨he, bel⟩ => ?_
  subst he
  exact ⟨_, rfl, _, _, _, [], _, [], hW', trodAll_mk1 (shut_bool Tryd.underlying4 _), (trodAll_cons_mk (shut_string Tryd.underlying9 w0) trodAll_mk0), rfl, bel.frame _, fun h => by cases h⟩

theorem said : Rows.FnExactReadPersonSaid :=
  OpenClaim.holds_of_cond 5 Tryd.f5 rfl rfl rfl rfl rfl rfl rfl ⟨rfl, rfl, rfl, rfl, rfl⟩ rfl rfl rfl rfl rfl (by kernel_rfl) Tryd.func5 (by kernel_rfl)
    (of_decide_eq_true (by kernel_rfl)) (by unfold Func.isWrapper; first | (rw [if_pos (by decide +kernel)]; kernel_rfl) | (rw [if_neg (by decide +kernel)]; exact ⟨rfl, rfl⟩))
    (fun os started H enc _ F => by rw [OpenClaim.pre_eq_preRow]; exact lifted os started H enc F)

/-- The statement: the tied card. -/
theorem proved : Rows.FnExactReadPersonCardSaid :=
  Claim7.holds_tied_plain_at .later [] _ _ _ _ said (fun _ h => by cases h) (by kernel_rfl) (fun _ h => by cases h) fnExactReadPerson_row_tie rfl ⟨rfl, rfl⟩ (by kernel_rfl) rfl
    (fun f fn hf hfn => by
      obtain rfl : f = 5 := Option.some.inj ((show Tryd.prog.funcNamed "loop.example/g01027/laws.FnExactReadPerson" = some 5 by kernel_rfl).symm.trans hf) |>.symm
      obtain rfl : fn = Tryd.f5 := (Option.some.inj (Tryd.func5.symm.trans hfn)).symm
      exact ⟨by kernel_rfl, fun j t ht => by
        rw [Tryd.params5] at ht
        have hm : t ∈ [9] := by simpa using Array.mem_of_getElem? ht
        have hall : ([9].all fun u => !Tryd.prog.wantsStandIn u) = true := by kernel_rfl
        exact (show Tryd.prog.wantsStandIn t = false by simpa using List.all_eq_true.1 hall t hm)⟩)
    (by kernel_rfl)
end Go.Proofs.YtgjhpeofcbdaaaaDoor.fnExactReadPerson
