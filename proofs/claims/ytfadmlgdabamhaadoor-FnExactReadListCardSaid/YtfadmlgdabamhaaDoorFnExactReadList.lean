/- Proved: for every text, laws.FnExactReadList returns true and leaves its argument as it was: impl.ReadList answers as its model, in memory of its own (the card's own condition: the listed variables of Go's library hold what the program's text lays). -/
import Derived.Test.YtfadmlgdabamhaaDoorRows
import Derived.Test.YtfadmlgdabamhaaDoorCards
import Derived.Test.YtfadmlgdabamhaaDoorTie
import Derived.WalkKit
import Derived.ProofKit
import Derived.OpenShut
import Derived.ShutString
import Derived.ChangeOld
import Derived.Below
import Derived.SliceStrings
import Derived.Lib.Hide
import Derived.Deep.DeepHandedRow
import Derived.Deep.DeepWitnessRowRef
import Derived.SevenTiedAt
import Derived.Test.YtfadmlgdabamhaaDoorReadL
import Derived.Test.YtfadmlgdabamhaaDoorEqInt
import Derived.Test.YtfadmlgdabamhaaDoorMarkI
import Derived.Test.YtfadmlgdabamhaaDoorDoorW
import Derived.Test.YtfadmlgdabamhaaDoorDoorE
namespace Go.Proofs.YtfadmlgdabamhaaDoor.fnExactReadList
open Go.ChangeShapes Go.WideShapes Go.ChangeAt Go.RowKit
open Go.ChangeMaps (open_string shut_string)
open Pure2 Pure4 Pure5 Pure8
set_option linter.unusedVariables false

theorem own : ownKnob Tryd.prog.godebug = none := by kernel_rfl
theorem laidOut : laidOutB Tryd.prog = true := by kernel_rfl


set_option maxHeartbeats 400000 in
theorem walk (w : World) (hL : laidMetH Tryd.prog Rows.fnExactReadListRow.laid w) (hsh : w.ShapedOpen Tryd.prog) (a0 : ByteArray) (w0 : a0.size ≤ maxLen) :
    Calls Tryd.prog 8 #[.string a0] w fun e w' => e = .returned (.bool true) ∧ Below w.heap.size w w' := by
  have hM := maxAt_of hsh
  have HT := Lib.hid (tabs_of hL (by simp [Rows.fnExactReadListRow]))
  have HE := Lib.hid (errs_of hL (by simp [Rows.fnExactReadListRow]) (by simp [Rows.fnExactReadListRow]))
  clear hL hsh
  have hs0 : (a0.size : Int) ≤ 9223372036854775807 := by unfold maxLen at w0; omega
  by_cases hb : 1048576 < (a0.size : Int)
  · go_enter Tryd.func8, Tryd.ntmps8
    go_wp2
    go_ret
    exact ⟨rfl, Below.refl _ _⟩
  · have hs : a0.size ≤ 1048576 := by omega
    have HM := Lib.hid hM
    have hlen := readList_len a0
    have hml : (readList a0).1.length ≤ maxLen := by unfold maxLen; omega
    clear hM
    generalize hR : (readList a0).1 = zs at hlen hml
    generalize hC : (readList a0).2 = code
    have HSp := Lib.hid (show Calls Tryd.prog _ _ w (SaysReadI zs code w) by rw [← hR, ← hC]; exact specReadList_any a0 w hs)
    have HIm := Lib.hid (fun W (h : MaxAt W) (h2 : ErrsAt W) (h3 : Tabs Tryd.prog W) => show Calls Tryd.prog _ _ W (SaysNewI zs code W) by rw [← hR, ← hC]; exact implReadList_any a0 W hs h h2 h3)
    clear hR hC
    go_enter Tryd.func8, Tryd.ntmps8
    go_wp2_with fail
    refine HSp.out.mono ?_; rintro e w1 ⟨a, cap, rfl, hA, hB⟩
    have HA := Lib.hid hA; have HB := Lib.hid hB; clear hA hB
    go_wp2_with fail
    refine (HIm.out w1 (HM.out.below HB.out) (HE.out.below HB.out) (HT.out.below Tryd.gPow HB.out)).mono ?_; rintro e w2 ⟨b, capb, rfl, hO, hB2⟩
    have HG := Lib.hid hO
    have HC2 := Lib.hid hB2; clear hB2 hO
    go_wp2_with fail
    refine (eqInt64S_any b a zs.length capb zs.length cap zs zs w2 rfl rfl hml hml (ownI_reads HG.out) (HA.out.below HC2.out)).mono ?_
    rintro e w' ⟨rfl, n1, rfl⟩
    rw [sameL_self]
    have HG3 := Lib.hid (HG.out.below (Go.below_drewN (Below.refl w2.heap.size w2) n1))
    have HC3 := Lib.hid (Go.below_drewN HC2.out n1)
    obtain ⟨w3, hw3⟩ : ∃ w3, w3 = w2.drewN n1 := ⟨_, rfl⟩
    rw [← hw3] at HG3 HC3 ⊢; clear hw3
    go_wp2_with fail
    refine (markInt64S_any w1.heap.size b zs.length capb _ 1 w3 (by omega) (by omega) (by omega) HG3.out).mono ?_
    rintro e w4 ⟨rfl, hO4, hB4, hsz4⟩
    have HO4 := Lib.hid hO4; have HC4 := Lib.hid (HC3.out.trans hB4); clear hO4 hB4 hsz4
    go_wp2_with fail
    refine (heldInt64S_any w1.heap.size b zs.length capb 1 w4 (by omega) (by omega) (by omega) HO4.out).mono ?_
    rintro e w' ⟨rfl, rfl⟩
    go_wp2_with fail
    have HD4 := Lib.hid (HB.out.trans (HC4.out.mono HB.out.size))
    refine (HIm.out w4 (HM.out.below HD4.out) (HE.out.below HD4.out) (HT.out.below Tryd.gPow HD4.out)).mono ?_; rintro e w6 ⟨c, capc, rfl, hO6, hB6⟩
    have HH := Lib.hid hO6
    have HO6 := Lib.hid (HO4.out.below hB6)
    have HC6 := Lib.hid (HC4.out.trans (hB6.mono HC4.out.size)); clear hB6 hO6
    go_wp2_with fail
    refine (eqInt64S_any c a zs.length capc zs.length cap zs zs w6 rfl rfl hml hml (ownI_reads HH.out) (HA.out.below HC6.out)).mono ?_
    rintro e w' ⟨rfl, n2, rfl⟩
    rw [sameL_self]
    have HO7 := Lib.hid (HO6.out.below (Go.below_drewN (Below.refl w6.heap.size w6) n2))
    have HC7 := Lib.hid (Go.below_drewN HC6.out n2)
    obtain ⟨w7, hw7⟩ : ∃ w7, w7 = w6.drewN n2 := ⟨_, rfl⟩
    rw [← hw7] at HO7 HC7 ⊢; clear hw7
    go_wp2_with fail
    refine (heldInt64S_any w1.heap.size b zs.length capb 1 w7 (by omega) (by omega) (by omega) HO7.out).mono ?_
    rintro e w' ⟨rfl, rfl⟩
    go_wp2_with fail
    go_ret
    exact ⟨rfl, HB.out.trans (HC7.out.mono HB.out.size)⟩

/-- A start that fits: the heap that the variables' own initialisers leave (and the pinned table, where the row lists one). -/
theorem laid_met (os : Os) : laidMetH Tryd.prog Rows.fnExactReadListRow.laid ((doorWorldP os).forCall (fun _ _ => 0) ⟨#[], #[.string ByteArray.empty], []⟩).memory :=
  laidMetH_of_parts3 (fuel := 8) (laidMet_of_run' 8 (by kernel_rfl) (by kernel_rfl)) (by kernel_rfl) (by kernel_rfl)
theorem reads (os : Os) {H : Type} (enc : TypeId × Value → H) : DataW.whole enc Tryd.prog ((doorWorldP os).forCall (fun _ _ => 0) ⟨#[], #[.string ByteArray.empty], []⟩).memory Tryd.f8.params.toList Rows.fnExactReadListSpec.vars false (#[.string ByteArray.empty] : Array Value).toList 8 = some ([.lit (.string [])], [], []) :=
  by kernel_rfl

set_option maxRecDepth 100000 in
theorem lifted (os : Os) (started : os.Started) (H : Type) (enc : TypeId × Value → H) (F : Stop.Interp) :
    ReturnsInHanded {} Tryd.checked os 8 .any ((OpenSpec.ofChange Rows.fnExactReadListSpec).preRow enc Tryd.prog Tryd.f8 Rows.fnExactReadListRow.domain false Rows.fnExactReadListRow.laid) (((OpenSpec.ofChange Rows.fnExactReadListSpec).at F).post enc Tryd.prog Tryd.f8 false true false false) := by
  refine returnsInHanded_of_row (C := Tryd.checked) (s := OpenSpec.ofChange Rows.fnExactReadListSpec) own started (by kernel_rfl) Tryd.func8
    (witness_row_atRef (enc := enc) (C := Tryd.checked) false (doorWorldP os) #[.string ByteArray.empty] rfl (by kernel_rfl) (by kernel_rfl) (by kernel_rfl)
      (OpenSpec.preRow_of_cond 8 (reads os enc) (by kernel_rfl) (fun k hk => by cases hk) (by kernel_rfl) (laid_met os))) ?_
  intro W base args ds gs before hval0 hW _ _ _ hL hsh _
  have hval : ∀ (j : Nat) t v, Tryd.f8.params[j]? = some t → args[j]? = some v → Value.okWide Tryd.prog W .any base t v := hval0
  have hW' := hW
  obtain ⟨p, q, hA0, hV, rfl, hfz, hnd⟩ := hW
  have hA : DataW.TrodAll enc Tryd.prog W 0 (fun _ => true) true Tryd.f8.params.toList args.toList ds p := hA0
  rw [Tryd.params8] at hA hval
  obtain ⟨v0, vs0, d0, ds0, p0, q0, hargs, rfl, rfl, h0, r0⟩ := trodAll_cons hA
  obtain ⟨rfl, rfl, rfl⟩ := trodAll_nil r0
  obtain rfl : args = #[v0] := by cases args; simp_all
  obtain ⟨rfl, rfl⟩ := trodVars_none hV
  obtain ⟨a0, rfl, rfl, rfl, w0⟩ := open_string Tryd.underlying9 (hval 0 9 v0 rfl rfl) h0
  clear hA0 hval0
  refine (walk W hL hsh a0 w0).mono fun e W' ⟨he, bel⟩ => ?_
  subst he
  exact ⟨_, rfl, _, _, _, [], _, [], hW', trodAll_mk1 (shut_bool Tryd.underlying4 _), (trodAll_cons_mk (shut_string Tryd.underlying9 w0) trodAll_mk0), rfl, bel.frame _, fun h => by cases h⟩

theorem said : Rows.FnExactReadListSaid :=
  OpenClaim.holds_of_cond 8 Tryd.f8 rfl rfl rfl rfl rfl rfl rfl ⟨rfl, rfl, rfl, rfl, rfl⟩ rfl rfl rfl rfl rfl (by kernel_rfl) Tryd.func8 (by kernel_rfl)
    (of_decide_eq_true (by kernel_rfl)) (by unfold Func.isWrapper; first | (rw [if_pos (by decide +kernel)]; kernel_rfl) | (rw [if_neg (by decide +kernel)]; exact ⟨rfl, rfl⟩))
    (fun os started H enc _ F => by rw [OpenClaim.pre_eq_preRow]; exact lifted os started H enc F)

/-- The statement: the tied card. -/
theorem proved : Rows.FnExactReadListCardSaid :=
  Claim7.holds_tied_plain_at .later [] _ _ _ _ said (fun _ h => by cases h) (by kernel_rfl) (fun _ h => by cases h) fnExactReadList_row_tie rfl ⟨rfl, rfl⟩ (by kernel_rfl) rfl
    (fun f fn hf hfn => by
      obtain rfl : f = 8 := Option.some.inj ((show Tryd.prog.funcNamed "loop.example/g01027/laws.FnExactReadList" = some 8 by kernel_rfl).symm.trans hf) |>.symm
      obtain rfl : fn = Tryd.f8 := (Option.some.inj (Tryd.func8.symm.trans hfn)).symm
      exact ⟨by kernel_rfl, fun j t ht => by
        rw [Tryd.params8] at ht
        have hm : t ∈ [9] := by simpa using Array.mem_of_getElem? ht
        have hall : ([9].all fun u => !Tryd.prog.wantsStandIn u) = true := by kernel_rfl
        exact (show Tryd.prog.wantsStandIn t = false by simpa using List.all_eq_true.1 hall t hm)⟩)
    (by kernel_rfl)
end Go.Proofs.YtfadmlgdabamhaaDoor.fnExactReadList
