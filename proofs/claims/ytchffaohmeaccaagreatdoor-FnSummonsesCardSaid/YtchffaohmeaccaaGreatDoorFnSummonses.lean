/- Proved: for every code, laws.FnSummonses returns true and leaves its argument as it was: a sent summons is open until it is answered, an overdue one is open, and the answers of chapter 9 are those of their models. The condition: the variable listed is laid. -/
import Derived.Test.YtchffaohmeaccaaGreatDoorRows
import Derived.Test.YtchffaohmeaccaaGreatDoorCards
import Derived.Test.YtchffaohmeaccaaGreatDoorTie
import Derived.WalkKit
import Derived.ProofKit
import Derived.OpenShut
import Derived.ShutString
import Derived.ChangeOld
import Derived.Below
import Derived.SliceStrings
import Derived.Lib.Hide
import Derived.Deep.DeepHandedRow
import Derived.Deep.DeepWitnessRowRef
import Derived.SevenTiedAt
import Derived.Test.YtchffaohmeaccaaGreatDoorBase0
import Derived.Test.YtchffaohmeaccaaGreatDoorSet9
import Derived.Test.YtchffaohmeaccaaGreatDoorSpec92
import Derived.Test.YtchffaohmeaccaaGreatDoorImpl9c
import Derived.Test.YtchffaohmeaccaaGreatDoorSpec94
import Derived.Test.YtchffaohmeaccaaGreatDoorImpl9f
import Derived.Test.YtchffaohmeaccaaGreatDoorSpec95
import Derived.Test.YtchffaohmeaccaaGreatDoorImpl9g
import Derived.Test.YtchffaohmeaccaaGreatDoorLaw9
import Derived.Test.YtchffaohmeaccaaGreatDoorDraw9a
import Derived.Test.YtchffaohmeaccaaGreatDoorDraw9b
import Derived.Test.YtchffaohmeaccaaGreatDoorDraw9c
import Derived.Test.YtchffaohmeaccaaGreatDoorDraw9d
import Derived.Test.YtchffaohmeaccaaGreatDoorHelp9
import Derived.Test.YtchffaohmeaccaaGreatDoorLikeM9
import Derived.Test.YtchffaohmeaccaaGreatDoorFact9
import Derived.Test.YtchffaohmeaccaaGreatDoorDoorH
namespace Go.Proofs.YtchffaohmeaccaaGreatDoor.fnSummonses
open Go.ChangeShapes Go.WideShapes Go.ChangeAt Go.RowKit
open Go.ChangeMaps (open_string shut_string)
open Pure2 Pure6 Pure20 Pure40
set_option linter.unusedVariables false

theorem own : ownKnob Tryz.prog.godebug = none := by kernel_rfl
theorem laidOut : laidOutB Tryz.prog = true := by kernel_rfl

/-- What the walk is told of a slice of integers that came in: it is nil, or it leads to a row of cap cells, the numbers zs. -/
def IsRow (k : IntKind) (w : World) (a : Option Addr) (len cap : Nat) (zs : List Int) : Prop :=
  (a = none ∧ len = 0 ∧ cap = 0 ∧ zs = []) ∨
  ∃ x, a = some x ∧ len ≤ cap ∧ cap ≤ maxLen ∧ zs.length = cap ∧ (∀ i, i < zs.length → w.cell? (x.add i) = some (.int k (zs.getD i 0))) ∧ ∀ n ∈ zs, (Lit.int k n).wf = true

set_option maxRecDepth 100000 in
set_option maxHeartbeats 4000000 in
theorem walk (w : World) (hL : laidMetH Tryz.prog Rows.fnSummonsesRow.laid w) (hsh : w.ShapedOpen Tryz.prog) (a0 : Option Addr) (len0 cap0 : Nat) (z0 : List Int) (w0 : IsRow .u8 w a0 len0 cap0 z0) :
    Calls Tryz.prog 3 #[.slice a0 len0 cap0] w fun e w' => e = .returned (.bool true) ∧ Below w.heap.size w w' := by
  have HG := Lib.hid (type_of_laid hL)
  clear hL hsh
  obtain ⟨hl, hY⟩ := bytes_of_row w0
  generalize z0.take len0 = bs at hl hY
  have HL := Lib.hid hl; have HY := Lib.hid hY; clear hl hY w0
  have HBig := Lib.hid (lawsBig_any a0 len0 cap0 w)
  by_cases hb : 4096 < len0
  · rw [decide_eq_true hb] at HBig
    go_enter Tryz.func3, Tryz.ntmps3
    go_wp2_with fail
    refine HBig.out.mono ?_; rintro e w' ⟨rfl, rfl⟩
    go_wp2_with fail
    go_ret
    exact ⟨rfl, Below.refl _ _⟩
  · rw [decide_eq_false hb] at HBig
    have hm : len0 ≤ 4096 := by omega
    clear hb
    go_enter Tryz.func3, Tryz.ntmps3
    go_wp2_with fail
    refine HBig.out.mono ?_; rintro e w' ⟨rfl, rfl⟩
    clear HBig
    go_wp2_with fail
    refine (specDrawSend_any a0 len0 cap0 bs w HL.out hm HY.out).mono ?_; rintro e u1 ⟨ah, ch, hs, g1, cap1, ts1, n1, d1, q1, rfl, hhl, hH, hD, hB⟩
    have HG_1 := Lib.hid (HG.out.below hB)
    clear HG
    have HB := Lib.hid (hB)
    have HH := Lib.hid (hH)
    have hcap1 := hD.cap.1
    clear hH
    have hhm : hs.length ≤ maxLen := by unfold maxLen; omega
    have hl1 := hD.len
    have hm1 : ts1.length ≤ maxLen := by unfold maxLen; omega
    have HR1 := Lib.hid (hD.reads)
    clear hD hB
    obtain ⟨ys, k1, h1⟩ : ∃ f k, sendR hs ts1 n1 d1 q1 = (f, k) := ⟨_, _, rfl⟩
    obtain ⟨hys, hF⟩ := send_facts h1
    have HF := Lib.hid hF
    clear hF
    have hmy : ys.length ≤ maxLen := by unfold maxLen; omega
    have C1 := Lib.hid (fun W (hh : IntsAt W ah hs) (hx : Summons.ListAt W (some ⟨g1, 0, none⟩) ts1) (ht : TypeAt W) => show Calls Tryz.prog 6 #[.slice ah hs.length ch, .slice (some ⟨g1, 0, none⟩) ts1.length cap1, .int .i64 n1, .int .i64 d1, .int .i64 q1] W (SaysNewM ys k1 W) from by have e := implSendSummons_any ah hs.length ch hs (some ⟨g1, 0, none⟩) ts1.length cap1 ts1 n1 d1 q1 W rfl hhm hh rfl hm1 hx ht; rw [h1] at e; exact e)
    have C2 := Lib.hid (fun W (hh : IntsAt W ah hs) (hx : Summons.ListAt W (some ⟨g1, 0, none⟩) ts1) => show Calls Tryz.prog 7 #[.slice ah hs.length ch, .slice (some ⟨g1, 0, none⟩) ts1.length cap1, .int .i64 n1, .int .i64 d1, .int .i64 q1] W (SaysNewM ys k1 W) from by have e := specSendSummons_any ah hs.length ch hs g1 ts1.length cap1 ts1 n1 d1 q1 W rfl hhm hh rfl hm1 hx hcap1; rw [h1] at e; exact e)
    clear h1
    go_wp2_with fail
    refine (C1.out _ HH.out HR1.out HG_1.out).mono ?_; rintro e u2 ⟨aI, capI, rfl, ho, hB⟩
    have HB_2 := Lib.hid (HB.out.trans (hB.mono HB.out.size))
    have HG_2 := Lib.hid (HG_1.out.below hB)
    have HH_2 := Lib.hid (HH.out.below hB)
    have HR1_2 := Lib.hid (HR1.out.below hB)
    clear HG_1 HH HR1 HB
    have HI := Lib.hid (Summons.Own.reads ho)
    clear ho hB
    go_wp2_with fail
    refine (C2.out _ HH_2.out HR1_2.out).mono ?_; rintro e u3 ⟨aS, capS, rfl, ho, hB⟩
    have HB_3 := Lib.hid (HB_2.out.trans (hB.mono HB_2.out.size))
    have HG_3 := Lib.hid (HG_2.out.below hB)
    have HH_3 := Lib.hid (HH_2.out.below hB)
    have HR1_3 := Lib.hid (HR1_2.out.below hB)
    have HI_3 := Lib.hid (HI.out.below hB)
    clear HG_2 HH_2 HR1_2 HI HB_2
    have HS := Lib.hid (Summons.Own.reads ho)
    clear ho hB
    clear C1 C2 HH_3 HR1_3
    go_wp2_with fail
    refine (specDrawAns_any a0 len0 cap0 bs u3 HL.out hm (HY.out.later HB_3.out)).mono ?_; rintro e u4 ⟨g2, cap2, ts2, n2, x2, d2, rfl, hD, hB⟩
    have HB_4 := Lib.hid (HB_3.out.trans (hB.mono HB_3.out.size))
    have HG_4 := Lib.hid (HG_3.out.below hB)
    have HI_4 := Lib.hid (HI_3.out.below hB)
    have HS_4 := Lib.hid (HS.out.below hB)
    clear HG_3 HI_3 HS HB_3
    have hl2 := hD.len
    have hm2 : ts2.length ≤ maxLen := by unfold maxLen; omega
    have HR2 := Lib.hid (hD.reads)
    clear hD hB
    obtain ⟨zs, k2, h2⟩ : ∃ f k, ansR9 ts2 n2 x2 d2 = (f, k) := ⟨_, _, rfl⟩
    obtain ⟨hzs, hF⟩ := ans_facts h2
    have HFA := Lib.hid hF
    clear hF
    have hmz : zs.length ≤ maxLen := by unfold maxLen; omega
    have C1 := Lib.hid (fun W (hx : Summons.ListAt W (some ⟨g2, 0, none⟩) ts2) (ht : TypeAt W) => show Calls Tryz.prog 9 #[.slice (some ⟨g2, 0, none⟩) ts2.length cap2, .int .i64 n2, .int .i64 x2, .int .i64 d2] W (SaysNewM zs k2 W) from by have e := implAnswerSummons_any (some ⟨g2, 0, none⟩) ts2.length cap2 ts2 n2 x2 d2 W rfl hm2 hx ht; rw [h2] at e; exact e.mono fun _ _ x => x.newM)
    have C2 := Lib.hid (fun W (hx : Summons.ListAt W (some ⟨g2, 0, none⟩) ts2) => show Calls Tryz.prog 10 #[.slice (some ⟨g2, 0, none⟩) ts2.length cap2, .int .i64 n2, .int .i64 x2, .int .i64 d2] W (SaysNewM zs k2 W) from by have e := specAnswerSummons_any (some ⟨g2, 0, none⟩) ts2.length cap2 ts2 n2 x2 d2 W rfl hm2 hx; rw [h2] at e; exact e.mono fun _ _ x => x.newM)
    clear h2
    go_wp2_with fail
    refine (C1.out _ HR2.out HG_4.out).mono ?_; rintro e u5 ⟨aA, capA, rfl, ho, hB⟩
    have HB_5 := Lib.hid (HB_4.out.trans (hB.mono HB_4.out.size))
    have HG_5 := Lib.hid (HG_4.out.below hB)
    have HI_5 := Lib.hid (HI_4.out.below hB)
    have HS_5 := Lib.hid (HS_4.out.below hB)
    have HR2_5 := Lib.hid (HR2.out.below hB)
    clear HG_4 HI_4 HS_4 HR2 HB_4
    have HA := Lib.hid (Summons.Own.reads ho)
    clear ho hB
    go_wp2_with fail
    refine (C2.out _ HR2_5.out).mono ?_; rintro e u6 ⟨aE, capE, rfl, ho, hB⟩
    have HB_6 := Lib.hid (HB_5.out.trans (hB.mono HB_5.out.size))
    have HG_6 := Lib.hid (HG_5.out.below hB)
    have HI_6 := Lib.hid (HI_5.out.below hB)
    have HS_6 := Lib.hid (HS_5.out.below hB)
    have HR2_6 := Lib.hid (HR2_5.out.below hB)
    have HA_6 := Lib.hid (HA.out.below hB)
    clear HG_5 HI_5 HS_5 HR2_5 HA HB_5
    have HE := Lib.hid (Summons.Own.reads ho)
    clear ho hB
    clear C1 C2 HR2_6
    go_wp2_with fail
    refine (specDrawOver_any a0 len0 cap0 bs u6 HL.out hm (HY.out.later HB_6.out)).mono ?_; rintro e u7 ⟨g3, cap3, ts3, d3, rfl, hD, _, hB⟩
    have HB_7 := Lib.hid (HB_6.out.trans (hB.mono HB_6.out.size))
    have HG_7 := Lib.hid (HG_6.out.below hB)
    have HI_7 := Lib.hid (HI_6.out.below hB)
    have HS_7 := Lib.hid (HS_6.out.below hB)
    have HA_7 := Lib.hid (HA_6.out.below hB)
    have HE_7 := Lib.hid (HE.out.below hB)
    clear HG_6 HI_6 HS_6 HA_6 HE HB_6
    have hl3 := hD.len
    have hm3 : ts3.length ≤ maxLen := by unfold maxLen; omega
    have HR3 := Lib.hid (hD.reads)
    clear hD hB
    obtain ⟨vs, k3, h3⟩ : ∃ f k, onR overM ts3 d3 = (f, k) := ⟨_, _, rfl⟩
    obtain ⟨ps, k4, h4⟩ : ∃ f k, onR openM ts3 d3 = (f, k) := ⟨_, _, rfl⟩
    obtain ⟨hvs, hps, hF⟩ := over_facts9 h3 h4
    have HSUB := Lib.hid hF
    clear hF
    have hmv : vs.length ≤ maxLen := by unfold maxLen; omega
    have hmp : ps.length ≤ maxLen := by unfold maxLen; omega
    obtain ⟨ok, hok⟩ : ∃ r, areM ts3 = r := ⟨_, rfl⟩
    have C1 := Lib.hid (fun W (hx : Summons.ListAt W (some ⟨g3, 0, none⟩) ts3) (ht : TypeAt W) => show Calls Tryz.prog 12 #[.slice (some ⟨g3, 0, none⟩) ts3.length cap3, .int .i64 d3] W (SaysNew9 vs k3 W) from by have e := implOverdueOn_any (some ⟨g3, 0, none⟩) ts3.length cap3 ts3 d3 W rfl hm3 hx ht; rw [h3] at e; exact e.mono fun _ _ x => x.new9)
    have C2 := Lib.hid (fun W (hx : Summons.ListAt W (some ⟨g3, 0, none⟩) ts3) => show Calls Tryz.prog 13 #[.slice (some ⟨g3, 0, none⟩) ts3.length cap3, .int .i64 d3] W (SaysNew9 vs k3 W) from by have e := specOverdueOn_any (some ⟨g3, 0, none⟩) ts3.length cap3 ts3 d3 W rfl hm3 hx; rw [h3] at e; exact e.mono fun _ _ x => x.new9)
    have C3 := Lib.hid (fun W (hx : Summons.ListAt W (some ⟨g3, 0, none⟩) ts3) (ht : TypeAt W) => show Calls Tryz.prog 14 #[.slice (some ⟨g3, 0, none⟩) ts3.length cap3, .int .i64 d3] W (SaysNew9 ps k4 W) from by have e := implOpenOn_any (some ⟨g3, 0, none⟩) ts3.length cap3 ts3 d3 W rfl hm3 hx ht; rw [h4] at e; exact e.mono fun _ _ x => x.new9)
    have C4 := Lib.hid (fun W (hx : Summons.ListAt W (some ⟨g3, 0, none⟩) ts3) => show Calls Tryz.prog 15 #[.slice (some ⟨g3, 0, none⟩) ts3.length cap3, .int .i64 d3] W (SaysNew9 ps k4 W) from by have e := specOpenOn_any (some ⟨g3, 0, none⟩) ts3.length cap3 ts3 d3 W rfl hm3 hx; rw [h4] at e; exact e.mono fun _ _ x => x.new9)
    have C5 := Lib.hid (fun W (hx : Summons.ListAt W (some ⟨g3, 0, none⟩) ts3) => show Calls Tryz.prog 18 #[.slice (some ⟨g3, 0, none⟩) ts3.length cap3] W (fun e w' => e = .returned (.bool ok) ∧ Below W.heap.size W w') from by have e := implAreM_any (some ⟨g3, 0, none⟩) ts3.length cap3 ts3 W rfl hm3 hx; rw [hok] at e; exact e)
    have C6 := Lib.hid (fun W (hx : Summons.ListAt W (some ⟨g3, 0, none⟩) ts3) => show Calls Tryz.prog 19 #[.slice (some ⟨g3, 0, none⟩) ts3.length cap3] W (fun e w' => e = .returned (.bool ok) ∧ Below W.heap.size W w') from by have e := specAreM_any (some ⟨g3, 0, none⟩) ts3.length cap3 ts3 W rfl hm3 hx; rw [hok] at e; exact e)
    clear h3 h4 hok
    go_wp2_with fail
    refine (C1.out _ HR3.out HG_7.out).mono ?_; rintro e u8 ⟨aV, capV, rfl, ho, hB⟩
    have HB_8 := Lib.hid (HB_7.out.trans (hB.mono HB_7.out.size))
    have HG_8 := Lib.hid (HG_7.out.below hB)
    have HI_8 := Lib.hid (HI_7.out.below hB)
    have HS_8 := Lib.hid (HS_7.out.below hB)
    have HA_8 := Lib.hid (HA_7.out.below hB)
    have HE_8 := Lib.hid (HE_7.out.below hB)
    have HR3_8 := Lib.hid (HR3.out.below hB)
    clear HG_7 HI_7 HS_7 HA_7 HE_7 HR3 HB_7
    have HV := Lib.hid (ownI_reads ho)
    clear ho hB
    go_wp2_with fail
    refine (C2.out _ HR3_8.out).mono ?_; rintro e u9 ⟨aW, capW, rfl, ho, hB⟩
    have HB_9 := Lib.hid (HB_8.out.trans (hB.mono HB_8.out.size))
    have HG_9 := Lib.hid (HG_8.out.below hB)
    have HI_9 := Lib.hid (HI_8.out.below hB)
    have HS_9 := Lib.hid (HS_8.out.below hB)
    have HA_9 := Lib.hid (HA_8.out.below hB)
    have HE_9 := Lib.hid (HE_8.out.below hB)
    have HR3_9 := Lib.hid (HR3_8.out.below hB)
    have HV_9 := Lib.hid (HV.out.below hB)
    clear HG_8 HI_8 HS_8 HA_8 HE_8 HR3_8 HV HB_8
    have HW := Lib.hid (ownI_reads ho)
    clear ho hB
    go_wp2_with fail
    refine (C3.out _ HR3_9.out HG_9.out).mono ?_; rintro e u10 ⟨aP, capP, rfl, ho, hB⟩
    have HB_10 := Lib.hid (HB_9.out.trans (hB.mono HB_9.out.size))
    have HG_10 := Lib.hid (HG_9.out.below hB)
    have HI_10 := Lib.hid (HI_9.out.below hB)
    have HS_10 := Lib.hid (HS_9.out.below hB)
    have HA_10 := Lib.hid (HA_9.out.below hB)
    have HE_10 := Lib.hid (HE_9.out.below hB)
    have HR3_10 := Lib.hid (HR3_9.out.below hB)
    have HV_10 := Lib.hid (HV_9.out.below hB)
    have HW_10 := Lib.hid (HW.out.below hB)
    clear HG_9 HI_9 HS_9 HA_9 HE_9 HR3_9 HV_9 HW HB_9
    have HP := Lib.hid (ownI_reads ho)
    clear ho hB
    go_wp2_with fail
    refine (C4.out _ HR3_10.out).mono ?_; rintro e u11 ⟨aQ, capQ, rfl, ho, hB⟩
    have HB_11 := Lib.hid (HB_10.out.trans (hB.mono HB_10.out.size))
    have HG_11 := Lib.hid (HG_10.out.below hB)
    have HI_11 := Lib.hid (HI_10.out.below hB)
    have HS_11 := Lib.hid (HS_10.out.below hB)
    have HA_11 := Lib.hid (HA_10.out.below hB)
    have HE_11 := Lib.hid (HE_10.out.below hB)
    have HR3_11 := Lib.hid (HR3_10.out.below hB)
    have HV_11 := Lib.hid (HV_10.out.below hB)
    have HW_11 := Lib.hid (HW_10.out.below hB)
    have HP_11 := Lib.hid (HP.out.below hB)
    clear HG_10 HI_10 HS_10 HA_10 HE_10 HR3_10 HV_10 HW_10 HP HB_10
    have HQ := Lib.hid (ownI_reads ho)
    clear ho hB
    clear C1 C2 C3 C4
    go_wp2_with fail
    refine (likeSummonses_same aI aS ys.length capI capS ys u11 rfl (by omega) HI_11.out HS_11.out).mono ?_; rintro e u12 ⟨rfl, hB⟩
    have HB_12 := Lib.hid (HB_11.out.trans (hB.mono HB_11.out.size))
    have HG_12 := Lib.hid (HG_11.out.below hB)
    have HI_12 := Lib.hid (HI_11.out.below hB)
    have HS_12 := Lib.hid (HS_11.out.below hB)
    have HA_12 := Lib.hid (HA_11.out.below hB)
    have HE_12 := Lib.hid (HE_11.out.below hB)
    have HR3_12 := Lib.hid (HR3_11.out.below hB)
    have HV_12 := Lib.hid (HV_11.out.below hB)
    have HW_12 := Lib.hid (HW_11.out.below hB)
    have HP_12 := Lib.hid (HP_11.out.below hB)
    have HQ_12 := Lib.hid (HQ.out.below hB)
    clear HG_11 HI_11 HS_11 HA_11 HE_11 HR3_11 HV_11 HW_11 HP_11 HQ HB_11
    clear hB
    clear HS_12
    go_wp2_with fail
    refine (likeSummonses_same aA aE zs.length capA capE zs u12 rfl (by omega) HA_12.out HE_12.out).mono ?_; rintro e u13 ⟨rfl, hB⟩
    have HB_13 := Lib.hid (HB_12.out.trans (hB.mono HB_12.out.size))
    have HG_13 := Lib.hid (HG_12.out.below hB)
    have HI_13 := Lib.hid (HI_12.out.below hB)
    have HA_13 := Lib.hid (HA_12.out.below hB)
    have HE_13 := Lib.hid (HE_12.out.below hB)
    have HR3_13 := Lib.hid (HR3_12.out.below hB)
    have HV_13 := Lib.hid (HV_12.out.below hB)
    have HW_13 := Lib.hid (HW_12.out.below hB)
    have HP_13 := Lib.hid (HP_12.out.below hB)
    have HQ_13 := Lib.hid (HQ_12.out.below hB)
    clear HG_12 HI_12 HA_12 HE_12 HR3_12 HV_12 HW_12 HP_12 HQ_12 HB_12
    clear hB
    clear HE_13
    go_wp2_with fail
    refine (likeInts_any aV aW vs.length capV vs.length capW vs vs u13 rfl rfl hmv hmv HV_13.out HW_13.out).mono ?_
    intro e u14 hq
    obtain ⟨rfl, hB⟩ := sameI hq
    clear hq
    have HB_14 := Lib.hid (HB_13.out.trans (hB.mono HB_13.out.size))
    have HG_14 := Lib.hid (HG_13.out.below hB)
    have HI_14 := Lib.hid (HI_13.out.below hB)
    have HA_14 := Lib.hid (HA_13.out.below hB)
    have HR3_14 := Lib.hid (HR3_13.out.below hB)
    have HV_14 := Lib.hid (HV_13.out.below hB)
    have HW_14 := Lib.hid (HW_13.out.below hB)
    have HP_14 := Lib.hid (HP_13.out.below hB)
    have HQ_14 := Lib.hid (HQ_13.out.below hB)
    clear HG_13 HI_13 HA_13 HR3_13 HV_13 HW_13 HP_13 HQ_13 HB_13
    clear hB
    clear HW_14
    go_wp2_with fail
    refine (likeInts_any aP aQ ps.length capP ps.length capQ ps ps u14 rfl rfl hmp hmp HP_14.out HQ_14.out).mono ?_
    intro e u15 hq
    obtain ⟨rfl, hB⟩ := sameI hq
    clear hq
    have HB_15 := Lib.hid (HB_14.out.trans (hB.mono HB_14.out.size))
    have HG_15 := Lib.hid (HG_14.out.below hB)
    have HI_15 := Lib.hid (HI_14.out.below hB)
    have HA_15 := Lib.hid (HA_14.out.below hB)
    have HR3_15 := Lib.hid (HR3_14.out.below hB)
    have HV_15 := Lib.hid (HV_14.out.below hB)
    have HP_15 := Lib.hid (HP_14.out.below hB)
    have HQ_15 := Lib.hid (HQ_14.out.below hB)
    clear HG_14 HI_14 HA_14 HR3_14 HV_14 HP_14 HQ_14 HB_14
    clear hB
    clear HQ_15
    go_wp2_with fail
    refine (C5.out _ HR3_15.out).mono ?_; rintro e u16 ⟨rfl, hB⟩
    have HB_16 := Lib.hid (HB_15.out.trans (hB.mono HB_15.out.size))
    have HG_16 := Lib.hid (HG_15.out.below hB)
    have HI_16 := Lib.hid (HI_15.out.below hB)
    have HA_16 := Lib.hid (HA_15.out.below hB)
    have HR3_16 := Lib.hid (HR3_15.out.below hB)
    have HV_16 := Lib.hid (HV_15.out.below hB)
    have HP_16 := Lib.hid (HP_15.out.below hB)
    clear HG_15 HI_15 HA_15 HR3_15 HV_15 HP_15 HB_15
    clear hB
    go_wp2_with fail
    refine (C6.out _ HR3_16.out).mono ?_; rintro e u17 ⟨rfl, hB⟩
    have HB_17 := Lib.hid (HB_16.out.trans (hB.mono HB_16.out.size))
    have HG_17 := Lib.hid (HG_16.out.below hB)
    have HI_17 := Lib.hid (HI_16.out.below hB)
    have HA_17 := Lib.hid (HA_16.out.below hB)
    have HR3_17 := Lib.hid (HR3_16.out.below hB)
    have HV_17 := Lib.hid (HV_16.out.below hB)
    have HP_17 := Lib.hid (HP_16.out.below hB)
    clear HG_16 HI_16 HA_16 HR3_16 HV_16 HP_16 HB_16
    clear hB
    clear C5 C6 HR3_17
    go_wp2_with fail
    go_loopw [30] (fun i wr => ∃ k : Nat, k ≤ vs.length ∧ i = .int .i64 k ∧ Below u17.heap.size u17 wr) (fun i _ => vs.length - (intOf i).toNat)
    case atStart => exact ⟨0, Nat.zero_le _, rfl, Below.refl _ _⟩
    case round =>
      obtain ⟨k, hk, rfl, hB⟩ := hrel
      have HB0 := Lib.hid hB; clear hB
      by_cases hlt : k < vs.length
      · obtain ⟨b, off, x, ha, hc, ht, hx⟩ := (HV_17.out.below HB0.out).at rfl hlt
        have HJ := Lib.hid (HSUB.out x (List.mem_of_getElem? hx))
        subst ha
        clear ht hx
        go_wp2_with fail
        refine (lawsHasInt_any aP ps.length capP ps x wr rfl hmp (HP_17.out.below HB0.out)).mono ?_; rintro e x1 ⟨rfl, rfl⟩
        rw [HJ.out]
        clear hc
        go_wp2_with fail
        go_roundw
        case rel => exact ⟨k + 1, by omega, by go_num, HB0.out⟩
        case measure => simp [intOf]; omega
      · have hkl : decide ((k : Int) < (vs.length : Int)) = false := decide_eq_false (by omega)
        clear HV_17 HP_17 HSUB
        have HB_18 := Lib.hid (HB_17.out.trans (HB0.out.mono HB_17.out.size))
        have HG_18 := Lib.hid (HG_17.out.below HB0.out)
        have HI_18 := Lib.hid (HI_17.out.below HB0.out)
        have HA_18 := Lib.hid (HA_17.out.below HB0.out)
        clear HG_17 HI_17 HA_17 HB_17
        clear HB0
        rcases HFA.out with hk2 | ⟨hk2, oa, hoa, hoal, hoaf⟩
        · have ek2 : (k2 == 0) = false := beq_eq_false_iff_ne.2 hk2
          clear hk2
          rcases HF.out with hk1 | ⟨hk1, hay, hyl, os, hos, hol, hosf⟩
          · have ek1 : (k1 != 0) = true := bne_iff_ne.2 hk1
            clear hk1
            go_wp2_with fail
            go_ret
            exact ⟨rfl, HB_18.out⟩
          · subst hk1
            have D2 := Lib.hid (fun W (hx : Summons.ListAt W aI ys) (ht : TypeAt W) => show Calls Tryz.prog 14 #[.slice aI ys.length capI, .int .i64 d1] W (SaysNew9 os 0 W) from by have e := implOpenOn_any aI ys.length capI ys d1 W rfl hmy hx ht; rw [hos] at e; exact e.mono fun _ _ x => x.new9)
            have D3 := Lib.hid (fun W (hx : Summons.ListAt W aI ys) => show Calls Tryz.prog 18 #[.slice aI ys.length capI] W (fun e w' => e = .returned (.bool true) ∧ Below W.heap.size W w') from by have e := implAreM_any aI ys.length capI ys W rfl hmy hx; rw [hay] at e; exact e)
            clear hos hay
            have HOSF := Lib.hid hosf
            clear hosf
            have hmos : os.length ≤ maxLen := by unfold maxLen; omega
            have qy : IntKind.i64.wrap ((ts1.length : Int) + 1) = (ts1.length : Int) + 1 := IntWalk.i64_in _ (by omega)
            have qe : (((ys.length : Nat) : Int) == (ts1.length : Int) + 1) = true := beq_iff_eq.2 (by omega)
            clear hyl
            go_wp2_with fail
            refine (D2.out _ HI_18.out HG_18.out).mono ?_; rintro e u19 ⟨aT, capT, rfl, ho, hB⟩
            have HB_19 := Lib.hid (HB_18.out.trans (hB.mono HB_18.out.size))
            have HG_19 := Lib.hid (HG_18.out.below hB)
            have HI_19 := Lib.hid (HI_18.out.below hB)
            have HA_19 := Lib.hid (HA_18.out.below hB)
            clear HG_18 HI_18 HA_18 HB_18
            have HT := Lib.hid (ownI_reads ho)
            clear ho hB
            clear D2
            go_wp2_with fail
            refine (lawsHasInt_any aT os.length capT os n1 u19 rfl hmos HT.out).mono ?_; rintro e x2 ⟨rfl, rfl⟩
            rw [HOSF.out]
            go_wp2_with fail
            refine (D3.out _ HI_19.out).mono ?_; rintro e u20 ⟨rfl, hB⟩
            have HB_20 := Lib.hid (HB_19.out.trans (hB.mono HB_19.out.size))
            have HG_20 := Lib.hid (HG_19.out.below hB)
            have HI_20 := Lib.hid (HI_19.out.below hB)
            have HA_20 := Lib.hid (HA_19.out.below hB)
            have HT_20 := Lib.hid (HT.out.below hB)
            clear HG_19 HI_19 HA_19 HT HB_19
            clear hB
            go_wp2_with fail
            go_ret
            exact ⟨rfl, HB_20.out⟩
        · subst hk2
          have D1 := Lib.hid (fun W (hx : Summons.ListAt W aA zs) (ht : TypeAt W) => show Calls Tryz.prog 14 #[.slice aA zs.length capA, .int .i64 d2] W (SaysNew9 oa 0 W) from by have e := implOpenOn_any aA zs.length capA zs d2 W rfl hmz hx ht; rw [hoa] at e; exact e.mono fun _ _ x => x.new9)
          clear hoa
          have HOAF := Lib.hid hoaf
          clear hoaf
          have hmo : oa.length ≤ maxLen := by unfold maxLen; omega
          go_wp2_with fail
          refine (D1.out _ HA_18.out HG_18.out).mono ?_; rintro e u18 ⟨aO, capO, rfl, ho, hB⟩
          have HB_19 := Lib.hid (HB_18.out.trans (hB.mono HB_18.out.size))
          have HG_19 := Lib.hid (HG_18.out.below hB)
          have HI_19 := Lib.hid (HI_18.out.below hB)
          have HA_19 := Lib.hid (HA_18.out.below hB)
          clear HG_18 HI_18 HA_18 HB_18
          have HO := Lib.hid (ownI_reads ho)
          clear ho hB
          clear D1
          go_wp2_with fail
          refine (lawsHasInt_any aO oa.length capO oa n2 u18 rfl hmo HO.out).mono ?_; rintro e x1 ⟨rfl, rfl⟩
          rw [HOAF.out]
          rcases HF.out with hk1 | ⟨hk1, hay, hyl, os, hos, hol, hosf⟩
          · have ek1 : (k1 != 0) = true := bne_iff_ne.2 hk1
            clear hk1
            go_wp2_with fail
            go_ret
            exact ⟨rfl, HB_19.out⟩
          · subst hk1
            have D2 := Lib.hid (fun W (hx : Summons.ListAt W aI ys) (ht : TypeAt W) => show Calls Tryz.prog 14 #[.slice aI ys.length capI, .int .i64 d1] W (SaysNew9 os 0 W) from by have e := implOpenOn_any aI ys.length capI ys d1 W rfl hmy hx ht; rw [hos] at e; exact e.mono fun _ _ x => x.new9)
            have D3 := Lib.hid (fun W (hx : Summons.ListAt W aI ys) => show Calls Tryz.prog 18 #[.slice aI ys.length capI] W (fun e w' => e = .returned (.bool true) ∧ Below W.heap.size W w') from by have e := implAreM_any aI ys.length capI ys W rfl hmy hx; rw [hay] at e; exact e)
            clear hos hay
            have HOSF := Lib.hid hosf
            clear hosf
            have hmos : os.length ≤ maxLen := by unfold maxLen; omega
            have qy : IntKind.i64.wrap ((ts1.length : Int) + 1) = (ts1.length : Int) + 1 := IntWalk.i64_in _ (by omega)
            have qe : (((ys.length : Nat) : Int) == (ts1.length : Int) + 1) = true := beq_iff_eq.2 (by omega)
            clear hyl
            go_wp2_with fail
            refine (D2.out _ HI_19.out HG_19.out).mono ?_; rintro e u19 ⟨aT, capT, rfl, ho, hB⟩
            have HB_20 := Lib.hid (HB_19.out.trans (hB.mono HB_19.out.size))
            have HG_20 := Lib.hid (HG_19.out.below hB)
            have HI_20 := Lib.hid (HI_19.out.below hB)
            have HA_20 := Lib.hid (HA_19.out.below hB)
            have HO_20 := Lib.hid (HO.out.below hB)
            clear HG_19 HI_19 HA_19 HO HB_19
            have HT := Lib.hid (ownI_reads ho)
            clear ho hB
            clear D2
            go_wp2_with fail
            refine (lawsHasInt_any aT os.length capT os n1 u19 rfl hmos HT.out).mono ?_; rintro e x2 ⟨rfl, rfl⟩
            rw [HOSF.out]
            go_wp2_with fail
            refine (D3.out _ HI_20.out).mono ?_; rintro e u20 ⟨rfl, hB⟩
            have HB_21 := Lib.hid (HB_20.out.trans (hB.mono HB_20.out.size))
            have HG_21 := Lib.hid (HG_20.out.below hB)
            have HI_21 := Lib.hid (HI_20.out.below hB)
            have HA_21 := Lib.hid (HA_20.out.below hB)
            have HO_21 := Lib.hid (HO_20.out.below hB)
            have HT_21 := Lib.hid (HT.out.below hB)
            clear HG_20 HI_20 HA_20 HO_20 HT HB_20
            clear hB
            go_wp2_with fail
            go_ret
            exact ⟨rfl, HB_21.out⟩

/-- A start that fits: the heap that the variables' own initialisers leave (and the pinned table, where the row lists one). -/
theorem laid_met (os : Os) : laidMetH Tryz.prog Rows.fnSummonsesRow.laid ((doorWorld os).forCall (fun _ _ => 0) ⟨#[], #[.slice none 0 0], []⟩).memory :=
  laidMetH_of_parts (laidMet_nil _ _) (by kernel_rfl)
theorem reads (os : Os) {H : Type} (enc : TypeId × Value → H) : DataW.whole enc Tryz.prog ((doorWorld os).forCall (fun _ _ => 0) ⟨#[], #[.slice none 0 0], []⟩).memory Tryz.f3.params.toList Rows.fnSummonsesSpec.vars false (#[.slice none 0 0] : Array Value).toList 8 = some ([.nil], [], []) :=
  by kernel_rfl

set_option maxRecDepth 100000 in
theorem lifted (os : Os) (started : os.Started) (H : Type) (enc : TypeId × Value → H) (F : Stop.Interp) :
    ReturnsInHanded {} Tryz.checked os 3 .any ((OpenSpec.ofChange Rows.fnSummonsesSpec).preRow enc Tryz.prog Tryz.f3 Rows.fnSummonsesRow.domain false Rows.fnSummonsesRow.laid) (((OpenSpec.ofChange Rows.fnSummonsesSpec).at F).post enc Tryz.prog Tryz.f3 false true false false) := by
  refine returnsInHanded_of_row (C := Tryz.checked) (s := OpenSpec.ofChange Rows.fnSummonsesSpec) own started (by kernel_rfl) Tryz.func3
    (witness_row_atRef (enc := enc) (C := Tryz.checked) false (doorWorld os) #[.slice none 0 0] rfl (by kernel_rfl) (by kernel_rfl) (by kernel_rfl)
      (OpenSpec.preRow_of_cond 8 (reads os enc) (by kernel_rfl) (fun k hk => by cases hk) (by kernel_rfl) (laid_met os))) ?_
  intro W base args ds gs before hval0 hW _ _ _ hL hsh _
  have hval : ∀ (j : Nat) t v, Tryz.f3.params[j]? = some t → args[j]? = some v → Value.okWide Tryz.prog W .any base t v := hval0
  have hW' := hW
  obtain ⟨p, q, hA0, hV, rfl, hfz, hnd⟩ := hW
  have hA : DataW.TrodAll enc Tryz.prog W 0 (fun _ => true) true Tryz.f3.params.toList args.toList ds p := hA0
  rw [Tryz.params3] at hA hval
  obtain ⟨v0, vs0, d0, ds0, p0, q0, hargs, rfl, rfl, h0, r0⟩ := trodAll_cons hA
  obtain ⟨rfl, rfl, rfl⟩ := trodAll_nil r0
  obtain rfl : args = #[v0] := by cases args; simp_all
  obtain ⟨rfl, rfl⟩ := trodVars_none hV
  obtain ⟨a0, len0, cap0, rfl⟩ := okWide_slice Tryz.underlying22 (hval 0 22 v0 rfl rfl)
  have k0 := h0
  have lt0 : ∀ x ∈ p0, x.block < W.heap.size := by obtain ⟨m, hm⟩ := k0; exact DataW.trod_lt m _ _ _ hm
  obtain ⟨z0, w0⟩ : ∃ zs, IsRow .u8 W a0 len0 cap0 zs := by
    obtain ⟨fuel, hf⟩ := h0
    rcases open_ints Tryz.underlying22 Tryz.underlying5 (by kernel_rfl) hf with ⟨hcs, _⟩ | ⟨x, l, c, zs, hcs, _, hl, hm, hz, _, hcell, hwz⟩
    · simp [Value.cells] at hcs
      obtain ⟨rfl, rfl, rfl⟩ := hcs
      exact ⟨[], .inl ⟨rfl, rfl, rfl, rfl⟩⟩
    · simp [Value.cells] at hcs
      obtain ⟨rfl, rfl, rfl⟩ := hcs
      exact ⟨zs, .inr ⟨_, rfl, hl, hm, by simpa using hz, hcell, hwz⟩⟩
  clear hA0 hval0
  refine (walk W hL hsh a0 len0 cap0 z0 w0).mono fun e W' ⟨he, bel⟩ => ?_
  subst he
  exact ⟨_, rfl, _, _, _, [], _, [], hW', trodAll_mk1 (shut_bool Tryz.underlying4 _), (trodAll_cons_mk (Below.trod laidOut (by kernel_rfl) (of_decide_eq_true (by kernel_rfl)) k0 bel lt0) trodAll_mk0), rfl, bel.frame _, fun h => by cases h⟩

theorem said : Rows.FnSummonsesSaid :=
  OpenClaim.holds_of_cond 3 Tryz.f3 rfl rfl rfl rfl rfl rfl rfl ⟨rfl, rfl, rfl, rfl, rfl⟩ rfl rfl rfl rfl rfl (by kernel_rfl) Tryz.func3 (by kernel_rfl)
    (of_decide_eq_true (by kernel_rfl)) (by unfold Func.isWrapper; first | (rw [if_pos (by decide +kernel)]; kernel_rfl) | (rw [if_neg (by decide +kernel)]; exact ⟨rfl, rfl⟩))
    (fun os started H enc _ F => by rw [OpenClaim.pre_eq_preRow]; exact lifted os started H enc F)

/-- The statement: the tied card. -/
theorem proved : Rows.FnSummonsesCardSaid :=
  Claim7.holds_tied_plain_at .later [] _ _ _ _ said (fun _ h => by cases h) (by kernel_rfl) (fun _ h => by cases h) fnSummonses_row_tie rfl ⟨rfl, rfl⟩ (by kernel_rfl) rfl
    (fun f fn hf hfn => by
      obtain rfl : f = 3 := Option.some.inj ((show Tryz.prog.funcNamed "loop.example/g01027/laws.FnSummonses" = some 3 by kernel_rfl).symm.trans hf) |>.symm
      obtain rfl : fn = Tryz.f3 := (Option.some.inj (Tryz.func3.symm.trans hfn)).symm
      exact ⟨by kernel_rfl, fun j t ht => by
        rw [Tryz.params3] at ht
        have hm : t ∈ [22] := by simpa using Array.mem_of_getElem? ht
        have hall : ([22].all fun u => !Tryz.prog.wantsStandIn u) = true := by kernel_rfl
        exact (show Tryz.prog.wantsStandIn t = false by simpa using List.all_eq_true.1 hall t hm)⟩)
    (by kernel_rfl)
end Go.Proofs.YtchffaohmeaccaaGreatDoor.fnSummonses
