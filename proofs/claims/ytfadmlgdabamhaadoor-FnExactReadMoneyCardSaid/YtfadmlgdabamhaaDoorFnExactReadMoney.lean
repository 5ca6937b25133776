/- Proved: for every text, laws.FnExactReadMoney returns true and leaves its argument as it was: impl.ReadMoney answers as its model (the card's own condition: the listed variables of Go's library hold what the program's text lays). -/
import Derived.Test.YtfadmlgdabamhaaDoorRows
import Derived.Test.YtfadmlgdabamhaaDoorCards
import Derived.Test.YtfadmlgdabamhaaDoorTie
import Derived.WalkKit
import Derived.ProofKit
import Derived.OpenShut
import Derived.ShutString
import Derived.ChangeOld
import Derived.Below
import Derived.SliceStrings
import Derived.Lib.Hide
import Derived.Deep.DeepHandedRow
import Derived.Deep.DeepWitnessRowRef
import Derived.SevenTiedAt
import Derived.Test.YtfadmlgdabamhaaDoorReadMS
import Derived.Test.YtfadmlgdabamhaaDoorReadMI
import Derived.Test.YtfadmlgdabamhaaDoorDoorW
import Derived.Test.YtfadmlgdabamhaaDoorDoorE
namespace Go.Proofs.YtfadmlgdabamhaaDoor.fnExactReadMoney
open Go.ChangeShapes Go.WideShapes Go.ChangeAt Go.RowKit
open Go.ChangeMaps (open_string shut_string)
open Pure2 Pure4 Pure9
set_option linter.unusedVariables false

theorem own : ownKnob Tryd.prog.godebug = none := by kernel_rfl
theorem laidOut : laidOutB Tryd.prog = true := by kernel_rfl


set_option maxHeartbeats 400000 in
theorem walk (w : World) (hL : laidMetH Tryd.prog Rows.fnExactReadMoneyRow.laid w) (hsh : w.ShapedOpen Tryd.prog) (a0 : ByteArray) (w0 : a0.size ≤ maxLen) :
    Calls Tryd.prog 10 #[.string a0] w fun e w' => e = .returned (.bool true) ∧ Below w.heap.size w w' := by
  have hM := maxAt_of hsh
  have HT := Lib.hid (tabs_of hL (by simp [Rows.fnExactReadMoneyRow]))
  have HE := Lib.hid (errs_of hL (by simp [Rows.fnExactReadMoneyRow]) (by simp [Rows.fnExactReadMoneyRow]))
  clear hL hsh
  have hs0 : (a0.size : Int) ≤ 9223372036854775807 := by unfold maxLen at w0; omega
  by_cases hb : 1048576 < (a0.size : Int)
  · go_enter Tryd.func10, Tryd.ntmps10
    go_wp2
    go_ret
    exact ⟨rfl, Below.refl _ _⟩
  · have hs : a0.size ≤ 1048576 := by omega
    have HM := Lib.hid hM
    clear hM
    have HSp := Lib.hid (specReadMoney_any a0 w hs)
    have HIm := Lib.hid (fun W (h : MaxAt W) (h2 : ErrsAt W) (h3 : Tabs Tryd.prog W) => implReadMoney_any a0 W hs h h2 h3)
    go_enter Tryd.func10, Tryd.ntmps10
    go_wp2_with fail
    refine HSp.out.mono ?_; rintro e w1 ⟨rfl, hB⟩
    have HB := Lib.hid hB; clear hB
    go_wp2_with fail
    refine (HIm.out w1 (HM.out.below HB.out) (HE.out.below HB.out) (HT.out.below Tryd.gPow HB.out)).mono ?_; rintro e w2 ⟨rfl, hB2⟩
    have HC2 := Lib.hid (HB.out.trans (hB2.mono HB.out.size)); clear hB2
    generalize (readMoney a0).1 = n
    generalize (readMoney a0).2 = code
    go_wp2_with fail
    go_ret
    exact ⟨rfl, HC2.out⟩

/-- A start that fits: the heap that the variables' own initialisers leave (and the pinned table, where the row lists one). -/
theorem laid_met (os : Os) : laidMetH Tryd.prog Rows.fnExactReadMoneyRow.laid ((doorWorld os).forCall (fun _ _ => 0) ⟨#[], #[.string ByteArray.empty], []⟩).memory :=
  laidMetH_of_parts3 (fuel := 8) (laidMet_of_run' 8 (by kernel_rfl) (by kernel_rfl)) (by kernel_rfl) (by kernel_rfl)
theorem reads (os : Os) {H : Type} (enc : TypeId × Value → H) : DataW.whole enc Tryd.prog ((doorWorld os).forCall (fun _ _ => 0) ⟨#[], #[.string ByteArray.empty], []⟩).memory Tryd.f10.params.toList Rows.fnExactReadMoneySpec.vars false (#[.string ByteArray.empty] : Array Value).toList 8 = some ([.lit (.string [])], [], []) :=
  by kernel_rfl

set_option maxRecDepth 100000 in
theorem lifted (os : Os) (started : os.Started) (H : Type) (enc : TypeId × Value → H) (F : Stop.Interp) :
    ReturnsInHanded {} Tryd.checked os 10 .any ((OpenSpec.ofChange Rows.fnExactReadMoneySpec).preRow enc Tryd.prog Tryd.f10 Rows.fnExactReadMoneyRow.domain false Rows.fnExactReadMoneyRow.laid) (((OpenSpec.ofChange Rows.fnExactReadMoneySpec).at F).post enc Tryd.prog Tryd.f10 false true false false) := by
  refine returnsInHanded_of_row (C := Tryd.checked) (s := OpenSpec.ofChange Rows.fnExactReadMoneySpec) own started (by kernel_rfl) Tryd.func10
    (witness_row_atRef (enc := enc) (C := Tryd.checked) false (doorWorld os) #[.string ByteArray.empty] rfl (by kernel_rfl) (by kernel_rfl) (by kernel_rfl)
      (OpenSpec.preRow_of_cond 8 (reads os enc) (by kernel_rfl) (fun k hk => by cases hk) (by kernel_rfl) (laid_met os))) ?_
  intro W base args ds gs before hval0 hW _ _ _ hL hsh _
  have hval : ∀ (j : Nat) t v, Tryd.f10.params[j]? = some t → args[j]? = some v → Value.okWide Tryd.prog W .any base t v := hval0
  have hW' := hW
  obtain ⟨p, q, hA0, hV, rfl, hfz, hnd⟩ := hW
  have hA : DataW.TrodAll enc Tryd.prog W 0 (fun _ => true) true Tryd.f10.params.toList args.toList ds p := hA0
  rw [Tryd.params10] at hA hval
  obtain ⟨v0, vs0, d0, ds0, p0, q0, hargs, rfl, rfl, h0, r0⟩ := trodAll_cons hA
  obtain ⟨rfl, rfl, rfl⟩ := trodAll_nil r0
  obtain rfl : args = #[v0] := by cases args; simp_all
  obtain ⟨rfl, rfl⟩ := trodVars_none hV
  obtain ⟨a0, rfl, rfl, rfl, w0⟩ := open_string Tryd.underlying9 (hval 0 9 v0 rfl rfl) h0
  clear hA0 hval0
  refine (walk W hL hsh a0 w0).mono fun e W' ⟨he, bel⟩ => ?_
  subst he
  exact ⟨_, rfl, _, _, _, [], _, [], hW', trodAll_mk1 (shut_bool Tryd.underlying4 _), (trodAll_cons_mk (shut_string Tryd.underlying9 w0) trodAll_mk0), rfl, bel.frame _, fun h => by cases h⟩

theorem said : Rows.FnExactReadMoneySaid :=
  OpenClaim.holds_of_cond 10 Tryd.f10 rfl rfl rfl rfl rfl rfl rfl ⟨rfl, rfl, rfl, rfl, rfl⟩ rfl rfl rfl rfl rfl (by kernel_rfl) Tryd.func10 (by kernel_rfl)
    (of_decide_eq_true (by kernel_rfl)) (by unfold Func.isWrapper; first | (rw [if_pos (by decide +kernel)]; kernel_rfl) | (rw [if_neg (by decide +kernel)]; exact ⟨rfl, rfl⟩))
    (fun os started H enc _ F => by rw [OpenClaim.pre_eq_preRow]; exact lifted os started H enc F)

/-- The statement: the tied card. -/
theorem proved : Rows.FnExactReadMoneyCardSaid :=
  Claim7.holds_tied_plain_at .later [] _ _ _ _ said (fun _ h => by cases h) (by kernel_rfl) (fun _ h => by cases h) fnExactReadMoney_row_tie rfl ⟨rfl, rfl⟩ (by kernel_rfl) rfl
    (fun f fn hf hfn => by
      obtain rfl : f = 10 := Option.some.inj ((show Tryd.prog.funcNamed "loop.example/g01027/laws.FnExactReadMoney" = some 10 by kernel_rfl).symm.trans hf) |>.symm
      obtain rfl : fn = Tryd.f10 := (Option.some.inj (Tryd.func10.symm.trans hfn)).symm
      exact ⟨by kernel_rfl, fun j t ht => by
        rw [Tryd.params10] at ht
        have hm : t ∈ [9] := by simpa using Array.mem_of_getElem? ht
        have hall : ([9].all fun u => !Tryd.prog.wantsStandIn u) = true := by kernel_rfl
        exact (show Tryd.prog.wantsStandIn t = false by simpa using List.all_eq_true.1 hall t hm)⟩)
    (by kernel_rfl)
end Go.Proofs.YtfadmlgdabamhaaDoor.fnExactReadMoney
