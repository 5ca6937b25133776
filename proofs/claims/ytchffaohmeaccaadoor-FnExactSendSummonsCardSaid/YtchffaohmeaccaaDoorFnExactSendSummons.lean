/- Proved: for all numbers as holidays, every list of summonses and all numbers, laws.FnExactSendSummons returns true and leaves its arguments as they were: impl.SendSummons answers as its model, in memory of its own. The condition: the variable listed is laid. -/
import Derived.Test.YtchffaohmeaccaaDoorRows
import Derived.Test.YtchffaohmeaccaaDoorCards
import Derived.Test.YtchffaohmeaccaaDoorTie
import Derived.WalkKit
import Derived.ProofKit
import Derived.OpenShut
import Derived.ShutString
import Derived.ChangeOld
import Derived.Below
import Derived.SliceStrings
import Derived.Lib.Hide
import Derived.Deep.DeepHandedRow
import Derived.Deep.DeepWitnessRowRef
import Derived.SevenTiedAt
import Derived.Test.YtchffaohmeaccaaDoorBase0
import Derived.Test.YtchffaohmeaccaaDoorSummonsB
import Derived.Test.YtchffaohmeaccaaDoorSummonsM
import Derived.Test.YtchffaohmeaccaaDoorPure21
import Derived.Test.YtchffaohmeaccaaDoorPure91
import Derived.Test.YtchffaohmeaccaaDoorMarkI
import Derived.Test.YtchffaohmeaccaaDoorToInt
import Derived.Test.YtchffaohmeaccaaDoorHolI
import Derived.Test.YtchffaohmeaccaaDoorEqInt
import Derived.Test.YtchffaohmeaccaaDoorSet9
import Derived.Test.YtchffaohmeaccaaDoorSpec95
import Derived.Test.YtchffaohmeaccaaDoorImpl9g
import Derived.Test.YtchffaohmeaccaaDoorLaw9
import Derived.Test.YtchffaohmeaccaaDoorDoorH
namespace Go.Proofs.YtchffaohmeaccaaDoor.fnExactSendSummons
open Go.ChangeShapes Go.WideShapes Go.ChangeAt Go.RowKit
open Go.ChangeMaps (open_string shut_string)
open Pure2 Pure20 Pure40 Pure21
set_option linter.unusedVariables false

theorem own : ownKnob Tryd.prog.godebug = none := by kernel_rfl
theorem laidOut : laidOutB Tryd.prog = true := by kernel_rfl

/-- What the walk is told of a slice of integers that came in: it is nil, or it leads to a row of cap cells, the numbers zs. -/
def IsRow (k : IntKind) (w : World) (a : Option Addr) (len cap : Nat) (zs : List Int) : Prop :=
  (a = none ∧ len = 0 ∧ cap = 0 ∧ zs = []) ∨
  ∃ x, a = some x ∧ len ≤ cap ∧ cap ≤ maxLen ∧ zs.length = cap ∧ (∀ i, i < zs.length → w.cell? (x.add i) = some (.int k (zs.getD i 0))) ∧ ∀ n ∈ zs, (Lit.int k n).wf = true

set_option maxRecDepth 100000 in
set_option maxHeartbeats 4000000 in
theorem walk (w : World) (hL : laidMetH Tryd.prog Rows.fnExactSendSummonsRow.laid w) (hsh : w.ShapedOpen Tryd.prog) (a0 : Option Addr) (len0 cap0 : Nat) (z0 : List Int) (w0 : IsRow .i64 w a0 len0 cap0 z0) (a1 : Option Addr) (len1 cap1 : Nat) (ts1 : List Summons) (hl1 : ts1.length = len1) (hm1 : len1 ≤ maxLen) (hI1 : Summons.ListAt w a1 ts1) (a2 : Int) (w2 : (Lit.int .i64 a2).wf = true) (a3 : Int) (w3 : (Lit.int .i64 a3).wf = true) (a4 : Int) (w4 : (Lit.int .i64 a4).wf = true) :
    Calls Tryd.prog 4 #[.slice a0 len0 cap0, .slice a1 len1 cap1, .int .i64 a2, .int .i64 a3, .int .i64 a4] w fun e w' => e = .returned (.bool true) ∧ Below w.heap.size w w' := by
  have HG := Lib.hid (type_of_laid hL)
  clear hL hsh
  obtain ⟨hzl, hzm, hzI⟩ := ints_of_row w0
  generalize z0.take len0 = hs at hzl hzI
  have HZL := Lib.hid hzl; have HZM := Lib.hid hzm; have HZI := Lib.hid hzI
  unfold maxLen at hzm
  have HI := Lib.hid hI1; have HL := Lib.hid hl1
  have HSz := Lib.hid (szSummonsS_any a1 len1 cap1 1048576 w hm1 (by omega) (by omega))
  have HM1 := Lib.hid hm1
  clear hzI hzl hI1 hl1 w0
  by_cases hbz : 1048576 < (len0 : Int)
  · go_enter Tryd.func4, Tryd.ntmps4
    go_wp2
    go_ret
    exact ⟨rfl, Below.refl _ _⟩
  have hbz' : len0 ≤ 1048576 := by omega
  have hbzb : decide ((len0 : Int) > 1048576) = false := decide_eq_false hbz
  by_cases hsm1 : 1048576 < len1
  · rw [if_pos (show (1048576 : Int) - (len1 : Int) < 0 by omega)] at HSz
    go_enter Tryd.func4, Tryd.ntmps4
    go_wp2_with fail
    refine HSz.out.mono ?_; rintro e u1 ⟨rfl, rfl⟩
    go_wp2_with fail
    go_ret
    exact ⟨rfl, Below.refl _ _⟩
  have hsm : len1 ≤ 1048576 := by omega
  rw [if_neg (show ¬ (1048576 : Int) - (len1 : Int) < 0 by omega)] at HSz
  have hz0 : decide ((1048576 : Int) - (len1 : Int) < 0) = false := decide_eq_false (by omega)
  have hsmall := sendR_small hs ts1 a2 a3 a4
  obtain ⟨xs, c, hr⟩ : ∃ xs c, sendR hs ts1 a2 a3 a4 = (xs, c) := ⟨_, _, rfl⟩
  have HSp := Lib.hid (show ∀ (ha : Option Addr) (hc b cap : Nat) (W : World), IntsAt W ha hs → Summons.ListAt W (some ⟨b, 0, none⟩) ts1 → len1 ≤ cap → Calls Tryd.prog 25 #[.slice ha len0 hc, .slice (some ⟨b, 0, none⟩) len1 cap, .int .i64 a2, .int .i64 a3, .int .i64 a4] W (SaysNewM xs c W) from fun ha hc b cap W hh hI hcap => by
    have this := specSendSummons_any ha len0 hc hs b len1 cap ts1 a2 a3 a4 W HZL.out HZM.out hh HL.out HM1.out hI hcap
    rw [hr] at this; exact this)
  have HIm := Lib.hid (show ∀ (ha : Option Addr) (hc : Nat) (la : Option Addr) (cap : Nat) (W : World), IntsAt W ha hs → Summons.ListAt W la ts1 → Below w.heap.size w W → Calls Tryd.prog 28 #[.slice ha len0 hc, .slice la len1 cap, .int .i64 a2, .int .i64 a3, .int .i64 a4] W (SaysNewM xs c W) from fun ha hc la cap W hh hI hBW => by
    have this := implSendSummons_any ha len0 hc hs la len1 cap ts1 a2 a3 a4 W HZL.out HZM.out hh HL.out HM1.out hI (HG.out.below hBW)
    rw [hr] at this; exact this)
  rw [hr] at hsmall
  clear hr
  simp only at hsmall
  have hmm : xs.length ≤ 1048576 := by omega
  go_enter Tryd.func4, Tryd.ntmps4
  go_wp2_with fail
  refine HSz.out.mono ?_; rintro e u1 ⟨rfl, rfl⟩
  generalize (1048576 : Int) - (len1 : Int) = L0 at hz0 ⊢
  have HB1 := Lib.hid (Below.refl u1.heap.size u1)
  go_wp2_with fail
  refine (toInt64S_any a0 len0 cap0 hs u1 HZL.out hbz' (HZI.out.below HB1.out)).mono ?_
  rintro e u2 ⟨b0, rfl, _, hI, hB⟩; have HJ2 := Lib.hid hI; have HB2 := Lib.hid (HB1.out.trans (hB.mono HB1.out.size)); clear hI hB
  go_wp2_with fail
  refine (toSummonsS_any a1 len1 cap1 ts1 u2 HL.out hsm (HI.out.below HB2.out)).mono ?_
  rintro e u3 ⟨b1, rfl, _, _, _, _, hI, hB⟩; have HI3 := Lib.hid hI; have HJ3 := Lib.hid (HJ2.out.below hB); have HB3 := Lib.hid (HB2.out.trans (hB.mono HB2.out.size)); clear hI hB
  go_wp2_with fail
  refine (HSp.out _ _ _ _ u3 HJ3.out HI3.out (Nat.le_refl _)).mono ?_; rintro e u4 ⟨aS, capS, rfl, ho, hB⟩
  have HA4 := Lib.hid (Summons.Own.reads ho); have HB4 := Lib.hid (HB3.out.trans (hB.mono HB3.out.size)); clear hB ho
  have HC4 := Lib.hid (Below.refl u4.heap.size u4)
  go_wp2_with fail
  refine (toInt64S_own a0 len0 cap0 hs u4 HZL.out hbz' (HZI.out.below HB4.out)).mono ?_
  rintro e u5 ⟨bx, rfl, hbx, hltx, hO, hB⟩; have HX5 := Lib.hid hO; have HC5 := Lib.hid hB; have hsz45 := hB.size; clear hO hB
  have HB5 := Lib.hid (HB4.out.trans (HC5.out.mono HB4.out.size))
  go_wp2_with fail
  refine (toSummonsS_any a1 len1 cap1 ts1 u5 HL.out hsm (HI.out.below HB5.out)).mono ?_
  rintro e u6 ⟨b3, rfl, hb3, hlt3, _, hQ, hI, hB⟩; have HI6 := Lib.hid hI; have HQ6 := Lib.hid hQ; have HX6 := Lib.hid (HX5.out.below hB); have HC6 := Lib.hid (HC5.out.trans (hB.mono hsz45)); have hsz56 := hB.size; clear hI hQ hB
  have HB6 := Lib.hid (HB4.out.trans (HC6.out.mono HB4.out.size))
  have HJ6 := Lib.hid (show IntsAt u6 (some ⟨bx, 0, none⟩) hs from ownI_reads (B := u4.heap.size) (by rw [HZL.out]; exact HX6.out))
  go_wp2_with fail
  refine (HIm.out _ _ _ _ u6 HJ6.out HI6.out HB6.out).mono ?_; rintro e u7 ⟨aI, capI, rfl, ho, hB⟩
  have HG7 := Lib.hid ho; have HI7 := Lib.hid (HI6.out.below hB); have HJ7 := Lib.hid (HJ6.out.below hB); have HQ7 := Lib.hid (HQ6.out.below hB); have HX7 := Lib.hid (HX6.out.below hB); have HC7 := Lib.hid (HC6.out.trans (hB.mono HC6.out.size)); have hsz67 := hB.size; clear hB ho
  go_wp2_with fail
  refine (eqSummonsS_same aI aS xs.length capI capS xs u7 rfl hmm (Summons.Own.reads HG7.out) (HA4.out.below HC7.out)).mono ?_
  rintro e u8 ⟨rfl, hB⟩
  have HC8 := Lib.hid (HC7.out.trans (hB.mono HC7.out.size)); have HG8 := Lib.hid (HG7.out.below hB); have HI8 := Lib.hid (HI7.out.below hB); have HJ8 := Lib.hid (HJ7.out.below hB); have HQ8 := Lib.hid (HQ7.out.below hB); have HX8 := Lib.hid (HX7.out.below hB); clear hB
  have HB8 := Lib.hid (HB4.out.trans (HC8.out.mono HB4.out.size))
  go_wp2_with fail
  refine (toInt64S_any a0 len0 cap0 hs u8 HZL.out hbz' (HZI.out.below HB8.out)).mono ?_
  rintro e u9 ⟨b9, rfl, _, hI, hB⟩
  have HC9 := Lib.hid (HC8.out.trans (hB.mono HC8.out.size)); have HG9 := Lib.hid (HG8.out.below hB); have HI9 := Lib.hid (HI8.out.below hB); have HJ9 := Lib.hid (HJ8.out.below hB); have HQ9 := Lib.hid (HQ8.out.below hB); have HX9 := Lib.hid (HX8.out.below hB); have HK9 := Lib.hid hI; clear hB hI
  go_wp2_with fail
  refine (eqInt64S_any _ _ _ _ _ _ hs hs u9 HZL.out HZL.out HZM.out HZM.out HJ9.out HK9.out).mono ?_
  intro e u10 hq; obtain ⟨rfl, hB⟩ := sameI hq; clear hq
  have HC10 := Lib.hid (HC9.out.trans (hB.mono HC9.out.size)); have HG10 := Lib.hid (HG9.out.below hB); have HI10 := Lib.hid (HI9.out.below hB); have HQ10 := Lib.hid (HQ9.out.below hB); have HX10 := Lib.hid (HX9.out.below hB); clear hB
  have HB10 := Lib.hid (HB4.out.trans (HC10.out.mono HB4.out.size))
  go_wp2_with fail
  refine (toSummonsS_any a1 len1 cap1 ts1 u10 HL.out hsm (HI.out.below HB10.out)).mono ?_
  rintro e u11 ⟨b11, rfl, _, _, _, _, hI, hB⟩; have HK11 := Lib.hid hI; have HI11 := Lib.hid (HI10.out.below hB); have HG11 := Lib.hid (HG10.out.below hB); have HQ11 := Lib.hid (HQ10.out.below hB); have HX11 := Lib.hid (HX10.out.below hB); have HC11 := Lib.hid (HC10.out.trans (hB.mono HC10.out.size)); clear hI hB
  go_wp2_with fail
  refine (eqSummonsS_same _ _ _ _ _ ts1 u11 HL.out hsm HI11.out HK11.out).mono ?_
  rintro e u12 ⟨rfl, hB⟩; have HG12 := Lib.hid (HG11.out.below hB); have HQ12 := Lib.hid (HQ11.out.below hB); have HX12 := Lib.hid (HX11.out.below hB); have HC12 := Lib.hid (HC11.out.trans (hB.mono HC11.out.size)); clear hB
  go_wp2_with fail
  refine (markInt64S_grown u4.heap.size (some ⟨bx, 0, none⟩) len0 len0 _ 1 u12 (by omega) (by omega) (by omega) HX12.out).mono ?_
  rintro e u13 ⟨rfl, _, hB, hgr⟩
  have hgr := marked_grown hgr
  have HG13 := Lib.hid (Summons.Own.grown HG12.out hgr (by omega)); have HQ13 := Lib.hid (Summons.Own.grown HQ12.out hgr (by omega))
  have HC13 := Lib.hid (HC12.out.trans hB); clear hB hgr
  go_wp2_with fail
  refine (markSummonsS_any u4.heap.size (some ⟨b3, 0, none⟩) len1 len1 _ (1 + (len0 : Int)) u13 (by omega) (by omega) (by omega) (HQ13.out.mono hsz45)).mono ?_
  rintro e u14 ⟨rfl, _, hB, hgr⟩
  have hgr := marked_grown hgr
  have HG14 := Lib.hid (Summons.Own.grown HG13.out hgr (by omega))
  have HC14 := Lib.hid (HC13.out.trans hB); clear hB hgr
  have hk14 : decide ((1 : Int) + (len0 : Int) + 5 * (len1 : Int) < 0) = false := decide_eq_false (by omega)
  go_wp2_with fail
  refine (eqSummonsS_same aI aS xs.length capI capS xs u14 rfl hmm (Summons.Own.reads HG14.out) (HA4.out.below HC14.out)).mono ?_
  rintro e u15 ⟨rfl, hB⟩
  have HC15 := Lib.hid (HC14.out.trans (hB.mono HC14.out.size)); have HG15 := Lib.hid (HG14.out.below hB); clear hB hk14
  go_wp2_with fail
  refine (markSummonsS_any u4.heap.size aI xs.length capI _ 1 u15 (by omega) (by omega) (by omega) (HG15.out.mono (Nat.le_trans hsz45 hsz56))).mono ?_
  rintro e u16 ⟨rfl, hM, hB, _⟩
  have HM16 := Lib.hid hM; have HC16 := Lib.hid (HC15.out.trans hB); clear hM hB
  go_wp2_with fail
  refine (heldSummonsS_any u4.heap.size aI xs.length capI 1 u16 (by omega) (by omega) (by omega) HM16.out).mono ?_
  rintro e u17 ⟨rfl, hw⟩
  have HM17 := Lib.hid (hw ▸ HM16.out); have HC17 := Lib.hid (hw ▸ HC16.out); clear hw
  have HB17 := Lib.hid (HB4.out.trans (HC17.out.mono HB4.out.size))
  have hh17 : decide ((1 : Int) + 5 * (xs.length : Int) < 0) = false := decide_eq_false (by omega)
  go_wp2_with fail
  refine (toInt64S_any a0 len0 cap0 hs u17 HZL.out hbz' (HZI.out.below HB17.out)).mono ?_
  rintro e u18 ⟨b18, rfl, _, hI, hB⟩; have HJ18 := Lib.hid hI; have HM18 := Lib.hid (HM17.out.below hB); have HC18 := Lib.hid (HC17.out.trans (hB.mono HC17.out.size)); clear hI hB
  have HB18 := Lib.hid (HB4.out.trans (HC18.out.mono HB4.out.size))
  go_wp2_with fail
  refine (toSummonsS_any a1 len1 cap1 ts1 u18 HL.out hsm (HI.out.below HB18.out)).mono ?_
  rintro e u19 ⟨b19, rfl, _, _, _, _, hI, hB⟩; have HI19 := Lib.hid hI; have HJ19 := Lib.hid (HJ18.out.below hB); have HM19 := Lib.hid (HM18.out.below hB); have HC19 := Lib.hid (HC18.out.trans (hB.mono HC18.out.size)); clear hI hB
  go_wp2_with fail
  refine (HIm.out _ _ _ _ u19 HJ19.out HI19.out (HB4.out.trans (HC19.out.mono HB4.out.size))).mono ?_; rintro e u20 ⟨aH, capH, rfl, ho, hB⟩
  have HH20 := Lib.hid (Summons.Own.reads ho); have HM20 := Lib.hid (HM19.out.below hB); have HC20 := Lib.hid (HC19.out.trans (hB.mono HC19.out.size)); clear hB ho
  go_wp2_with fail
  refine (eqSummonsS_same aH aS xs.length capH capS xs u20 rfl hmm HH20.out (HA4.out.below HC20.out)).mono ?_
  rintro e u21 ⟨rfl, hB⟩
  have HC21 := Lib.hid (HC20.out.trans (hB.mono HC20.out.size)); have HM21 := Lib.hid (HM20.out.below hB); clear hB
  go_wp2_with fail
  refine (heldSummonsS_any u4.heap.size aI xs.length capI 1 u21 (by omega) (by omega) (by omega) HM21.out).mono ?_
  rintro e u22 ⟨rfl, hw⟩
  have HC22 := Lib.hid (hw ▸ HC21.out); clear hw
  go_wp2_with fail
  go_ret
  exact ⟨rfl, HB4.out.trans (HC22.out.mono HB4.out.size)⟩

/-- A start that fits: the heap that the variables' own initialisers leave (and the pinned table, where the row lists one). -/
theorem laid_met (os : Os) : laidMetH Tryd.prog Rows.fnExactSendSummonsRow.laid ((doorWorld os).forCall (fun _ _ => 0) ⟨#[], #[.slice none 0 0, .slice none 0 0, .int .i64 0, .int .i64 0, .int .i64 0], []⟩).memory :=
  laidMetH_of_parts (laidMet_nil _ _) (by kernel_rfl)
theorem reads (os : Os) {H : Type} (enc : TypeId × Value → H) : DataW.whole enc Tryd.prog ((doorWorld os).forCall (fun _ _ => 0) ⟨#[], #[.slice none 0 0, .slice none 0 0, .int .i64 0, .int .i64 0, .int .i64 0], []⟩).memory Tryd.f4.params.toList Rows.fnExactSendSummonsSpec.vars false (#[.slice none 0 0, .slice none 0 0, .int .i64 0, .int .i64 0, .int .i64 0] : Array Value).toList 8 = some ([.nil, .nil, .lit (.int .i64 0), .lit (.int .i64 0), .lit (.int .i64 0)], [], []) :=
  by kernel_rfl

set_option maxRecDepth 100000 in
theorem lifted (os : Os) (started : os.Started) (H : Type) (enc : TypeId × Value → H) (F : Stop.Interp) :
    ReturnsInHanded {} Tryd.checked os 4 .any ((OpenSpec.ofChange Rows.fnExactSendSummonsSpec).preRow enc Tryd.prog Tryd.f4 Rows.fnExactSendSummonsRow.domain false Rows.fnExactSendSummonsRow.laid) (((OpenSpec.ofChange Rows.fnExactSendSummonsSpec).at F).post enc Tryd.prog Tryd.f4 false true false false) := by
  refine returnsInHanded_of_row (C := Tryd.checked) (s := OpenSpec.ofChange Rows.fnExactSendSummonsSpec) own started (by kernel_rfl) Tryd.func4
    (witness_row_atRef (enc := enc) (C := Tryd.checked) false (doorWorld os) #[.slice none 0 0, .slice none 0 0, .int .i64 0, .int .i64 0, .int .i64 0] rfl (by kernel_rfl) (by kernel_rfl) (by kernel_rfl)
      (OpenSpec.preRow_of_cond 8 (reads os enc) (by kernel_rfl) (fun k hk => by cases hk) (by kernel_rfl) (laid_met os))) ?_
  intro W base args ds gs before hval0 hW _ _ _ hL hsh _
  have hval : ∀ (j : Nat) t v, Tryd.f4.params[j]? = some t → args[j]? = some v → Value.okWide Tryd.prog W .any base t v := hval0
  have hW' := hW
  obtain ⟨p, q, hA0, hV, rfl, hfz, hnd⟩ := hW
  have hA : DataW.TrodAll enc Tryd.prog W 0 (fun _ => true) true Tryd.f4.params.toList args.toList ds p := hA0
  rw [Tryd.params4] at hA hval
  obtain ⟨v0, vs0, d0, ds0, p0, q0, hargs, rfl, rfl, h0, r0⟩ := trodAll_cons hA
  obtain ⟨v1, vs1, d1, ds1, p1, q1, rfl, rfl, rfl, h1, r1⟩ := trodAll_cons r0
  obtain ⟨v2, vs2, d2, ds2, p2, q2, rfl, rfl, rfl, h2, r2⟩ := trodAll_cons r1
  obtain ⟨v3, vs3, d3, ds3, p3, q3, rfl, rfl, rfl, h3, r3⟩ := trodAll_cons r2
  obtain ⟨v4, vs4, d4, ds4, p4, q4, rfl, rfl, rfl, h4, r4⟩ := trodAll_cons r3
  obtain ⟨rfl, rfl, rfl⟩ := trodAll_nil r4
  obtain rfl : args = #[v0, v1, v2, v3, v4] := by cases args; simp_all
  obtain ⟨rfl, rfl⟩ := trodVars_none hV
  obtain ⟨a0, len0, cap0, rfl⟩ := okWide_slice Tryd.underlying27 (hval 0 27 v0 rfl rfl)
  have k0 := h0
  have lt0 : ∀ x ∈ p0, x.block < W.heap.size := by obtain ⟨m, hm⟩ := k0; exact DataW.trod_lt m _ _ _ hm
  obtain ⟨z0, w0⟩ : ∃ zs, IsRow .i64 W a0 len0 cap0 zs := by
    obtain ⟨fuel, hf⟩ := h0
    rcases open_ints Tryd.underlying27 Tryd.underlying2 (by kernel_rfl) hf with ⟨hcs, _⟩ | ⟨x, l, c, zs, hcs, _, hl, hm, hz, _, hcell, hwz⟩
    · simp [Value.cells] at hcs
      obtain ⟨rfl, rfl, rfl⟩ := hcs
      exact ⟨[], .inl ⟨rfl, rfl, rfl, rfl⟩⟩
    · simp [Value.cells] at hcs
      obtain ⟨rfl, rfl, rfl⟩ := hcs
      exact ⟨zs, .inr ⟨_, rfl, hl, hm, by simpa using hz, hcell, hwz⟩⟩
  obtain ⟨a1, len1, cap1, rfl⟩ := okWide_slice Tryd.underlying35 (hval 1 35 v1 rfl rfl)
  have k1 := h1
  have lt1 : ∀ x ∈ p1, x.block < W.heap.size := by obtain ⟨m, hm⟩ := k1; exact DataW.trod_lt m _ _ _ hm
  obtain ⟨pp1, hl1, hm1, hI1⟩ : ∃ ps : List Summons, ps.length = len1 ∧ len1 ≤ maxLen ∧ Summons.ListAt W a1 ps := by
    obtain ⟨fuel, hf⟩ := h1
    exact Summons.openS Tryd.tySummons Tryd.underlying35 hf
  obtain ⟨a2, rfl, rfl, rfl, w2⟩ := open_int Tryd.underlying2 (hval 2 2 v2 rfl rfl) h2
  obtain ⟨a3, rfl, rfl, rfl, w3⟩ := open_int Tryd.underlying2 (hval 3 2 v3 rfl rfl) h3
  obtain ⟨a4, rfl, rfl, rfl, w4⟩ := open_int Tryd.underlying2 (hval 4 2 v4 rfl rfl) h4
  clear hA0 hval0
  refine (walk W hL hsh a0 len0 cap0 z0 w0 a1 len1 cap1 pp1 hl1 hm1 hI1 a2 w2 a3 w3 a4 w4).mono fun e W' ⟨he, bel⟩ => ?_
  subst he
  exact ⟨_, rfl, _, _, _, [], _, [], hW', trodAll_mk1 (shut_bool Tryd.underlying4 _), (trodAll_cons_mk (Below.trod laidOut (by kernel_rfl) (of_decide_eq_true (by kernel_rfl)) k0 bel lt0) (trodAll_cons_mk (Below.trod laidOut (by kernel_rfl) (of_decide_eq_true (by kernel_rfl)) k1 bel lt1) (trodAll_cons_mk (shut_int Tryd.underlying2 w2) (trodAll_cons_mk (shut_int Tryd.underlying2 w3) (trodAll_cons_mk (shut_int Tryd.underlying2 w4) trodAll_mk0))))), rfl, bel.frame _, fun h => by cases h⟩

theorem said : Rows.FnExactSendSummonsSaid :=
  OpenClaim.holds_of_cond 4 Tryd.f4 rfl rfl rfl rfl rfl rfl rfl ⟨rfl, rfl, rfl, rfl, rfl⟩ rfl rfl rfl rfl rfl (by kernel_rfl) Tryd.func4 (by kernel_rfl)
    (of_decide_eq_true (by kernel_rfl)) (by unfold Func.isWrapper; first | (rw [if_pos (by decide +kernel)]; kernel_rfl) | (rw [if_neg (by decide +kernel)]; exact ⟨rfl, rfl⟩))
    (fun os started H enc _ F => by rw [OpenClaim.pre_eq_preRow]; exact lifted os started H enc F)

/-- The statement: the tied card. -/
theorem proved : Rows.FnExactSendSummonsCardSaid :=
  Claim7.holds_tied_plain_at .later [] _ _ _ _ said (fun _ h => by cases h) (by kernel_rfl) (fun _ h => by cases h) fnExactSendSummons_row_tie rfl ⟨rfl, rfl⟩ (by kernel_rfl) rfl
    (fun f fn hf hfn => by
      obtain rfl : f = 4 := Option.some.inj ((show Tryd.prog.funcNamed "loop.example/g01027/laws.FnExactSendSummons" = some 4 by kernel_rfl).symm.trans hf) |>.symm
      obtain rfl : fn = Tryd.f4 := (Option.some.inj (Tryd.func4.symm.trans hfn)).symm
      exact ⟨by kernel_rfl, fun j t ht => by
        rw [Tryd.params4] at ht
        have hm : t ∈ [27, 35, 2, 2, 2] := by simpa using Array.mem_of_getElem? ht
        have hall : ([27, 35, 2, 2, 2].all fun u => !Tryd.prog.wantsStandIn u) = true := by kernel_rfl
        exact (show Tryd.prog.wantsStandIn t = false by simpa using List.all_eq_true.1 hall t hm)⟩)
    (by kernel_rfl)
end Go.Proofs.YtchffaohmeaccaaDoor.fnExactSendSummons
