/- Proved: for every code, laws.FnReminders returns true and leaves its argument as it was: reminders go to open summonses only, answers are counted once, and the answers of chapter 9 are those of their models. The condition: the variable listed is laid. -/
import Derived.Test.YtchffaohmeaccaaDoorRows
import Derived.Test.YtchffaohmeaccaaDoorCards
import Derived.Test.YtchffaohmeaccaaDoorTie
import Derived.WalkKit
import Derived.ProofKit
import Derived.OpenShut
import Derived.ShutString
import Derived.ChangeOld
import Derived.Below
import Derived.SliceStrings
import Derived.Lib.Hide
import Derived.Deep.DeepHandedRow
import Derived.Deep.DeepWitnessRowRef
import Derived.SevenTiedAt
import Derived.Test.YtchffaohmeaccaaDoorBase
import Derived.Test.YtchffaohmeaccaaDoorPure6
import Derived.Test.YtchffaohmeaccaaDoorPure90
import Derived.Test.YtchffaohmeaccaaDoorPure91
import Derived.Test.YtchffaohmeaccaaDoorSummonsA
import Derived.Test.YtchffaohmeaccaaDoorSummonsB
import Derived.Test.YtchffaohmeaccaaDoorSummonsC
import Derived.Test.YtchffaohmeaccaaDoorBig
import Derived.Test.YtchffaohmeaccaaDoorEqInt
import Derived.Test.YtchffaohmeaccaaDoorLikeInt
import Derived.Test.YtchffaohmeaccaaDoorMarkI
import Derived.Test.YtchffaohmeaccaaDoorIntL
import Derived.Test.YtchffaohmeaccaaDoorBuildI
import Derived.Test.YtchffaohmeaccaaDoorSpec92
import Derived.Test.YtchffaohmeaccaaDoorSpec93
import Derived.Test.YtchffaohmeaccaaDoorImpl9c
import Derived.Test.YtchffaohmeaccaaDoorImpl9d
import Derived.Test.YtchffaohmeaccaaDoorLaw9
import Derived.Test.YtchffaohmeaccaaDoorDraw9a
import Derived.Test.YtchffaohmeaccaaDoorDraw9b
import Derived.Test.YtchffaohmeaccaaDoorDraw9c
import Derived.Test.YtchffaohmeaccaaDoorHelp9
import Derived.Test.YtchffaohmeaccaaDoorDoorH
namespace Go.Proofs.YtchffaohmeaccaaDoor.fnReminders
open Go.ChangeShapes Go.WideShapes Go.ChangeAt Go.RowKit
open Go.ChangeMaps (open_string shut_string)
open Pure2 Pure6 Pure20 Pure40
set_option linter.unusedVariables false

theorem own : ownKnob Tryd.prog.godebug = none := by kernel_rfl
theorem laidOut : laidOutB Tryd.prog = true := by kernel_rfl

/-- What the walk is told of a slice of integers that came in: it is nil, or it leads to a row of cap cells, the numbers zs. -/
def IsRow (k : IntKind) (w : World) (a : Option Addr) (len cap : Nat) (zs : List Int) : Prop :=
  (a = none ∧ len = 0 ∧ cap = 0 ∧ zs = []) ∨
  ∃ x, a = some x ∧ len ≤ cap ∧ cap ≤ maxLen ∧ zs.length = cap ∧ (∀ i, i < zs.length → w.cell? (x.add i) = some (.int k (zs.getD i 0))) ∧ ∀ n ∈ zs, (Lit.int k n).wf = true

set_option maxRecDepth 100000 in
set_option maxHeartbeats 4000000 in
theorem walk (w : World) (hL : laidMetH Tryd.prog Rows.fnRemindersRow.laid w) (hsh : w.ShapedOpen Tryd.prog) (a0 : Option Addr) (len0 cap0 : Nat) (z0 : List Int) (w0 : IsRow .u8 w a0 len0 cap0 z0) :
    Calls Tryd.prog 3 #[.slice a0 len0 cap0] w fun e w' => e = .returned (.bool true) ∧ Below w.heap.size w w' := by
  have HG := Lib.hid (type_of_laid hL)
  clear hL hsh
  obtain ⟨hl, hY⟩ := bytes_of_row w0
  generalize z0.take len0 = bs at hl hY
  have HL := Lib.hid hl; have HY := Lib.hid hY; clear hl hY w0
  have HBig := Lib.hid (lawsBig_any a0 len0 cap0 w)
  by_cases hb : 4096 < len0
  · rw [decide_eq_true hb] at HBig
    go_enter Tryd.func3, Tryd.ntmps3
    go_wp2_with fail
    refine HBig.out.mono ?_; rintro e w' ⟨rfl, rfl⟩
    go_wp2_with fail
    go_ret
    exact ⟨rfl, Below.refl _ _⟩
  · rw [decide_eq_false hb] at HBig
    have hm : len0 ≤ 4096 := by omega
    clear hb
    go_enter Tryd.func3, Tryd.ntmps3
    go_wp2_with fail
    refine HBig.out.mono ?_; rintro e w' ⟨rfl, rfl⟩
    clear HBig
    go_wp2_with fail
    refine (specDrawRem_any a0 len0 cap0 bs w HL.out hm HY.out).mono ?_; rintro e u1 ⟨g1, cap1, ts1, d1, rfl, hD, _, hB⟩
    have HG_1 := Lib.hid (HG.out.below hB)
    clear HG
    have HB := Lib.hid (hB)
    have hl1 := hD.len
    have hm1 : ts1.length ≤ maxLen := by unfold maxLen; omega
    have HR1 := Lib.hid (hD.reads)
    clear hD hB
    obtain ⟨rs, k1, h1⟩ : ∃ f k, onR remM ts1 d1 = (f, k) := ⟨_, _, rfl⟩
    obtain ⟨cs, h2, hrs, hcs, hF⟩ := rem_facts h1
    have HF := Lib.hid hF
    clear hF
    have hmr : rs.length ≤ maxLen := by unfold maxLen; omega
    have hmc : cs.length ≤ maxLen := by unfold maxLen; omega
    have C1 := Lib.hid (fun W (hx : Summons.ListAt W (some ⟨g1, 0, none⟩) ts1) (ht : TypeAt W) => show Calls Tryd.prog 13 #[.slice (some ⟨g1, 0, none⟩) ts1.length cap1, .int .i64 d1] W (SaysNew9 rs k1 W) from by have e := implRemindersOn_any (some ⟨g1, 0, none⟩) ts1.length cap1 ts1 d1 W rfl hm1 hx ht; rw [h1] at e; exact e.mono fun _ _ x => x.new9)
    have C2 := Lib.hid (fun W (hx : Summons.ListAt W (some ⟨g1, 0, none⟩) ts1) => show Calls Tryd.prog 14 #[.slice (some ⟨g1, 0, none⟩) ts1.length cap1, .int .i64 d1] W (SaysNew9 rs k1 W) from by have e := specRemindersOn_any (some ⟨g1, 0, none⟩) ts1.length cap1 ts1 d1 W rfl hm1 hx; rw [h1] at e; exact e.mono fun _ _ x => x.new9)
    have C3 := Lib.hid (fun W (hx : Summons.ListAt W (some ⟨g1, 0, none⟩) ts1) (ht : TypeAt W) => show Calls Tryd.prog 15 #[.slice (some ⟨g1, 0, none⟩) ts1.length cap1, .int .i64 d1] W (SaysNew9 cs k1 W) from by have e := implCountAnswers_any (some ⟨g1, 0, none⟩) ts1.length cap1 ts1 d1 W rfl hm1 hx ht; rw [h2] at e; exact e.mono fun _ _ x => x.new9)
    have C4 := Lib.hid (fun W (hx : Summons.ListAt W (some ⟨g1, 0, none⟩) ts1) => show Calls Tryd.prog 16 #[.slice (some ⟨g1, 0, none⟩) ts1.length cap1, .int .i64 d1] W (SaysNew9 cs k1 W) from by have e := specCountAnswers_any (some ⟨g1, 0, none⟩) ts1.length cap1 ts1 d1 W rfl hm1 hx; rw [h2] at e; exact e.mono fun _ _ x => x.new9)
    clear h1 h2
    go_wp2_with fail
    refine (C1.out _ HR1.out HG_1.out).mono ?_; rintro e u2 ⟨aI, capI, rfl, ho, hB⟩
    have HB_2 := Lib.hid (HB.out.trans (hB.mono HB.out.size))
    have HG_2 := Lib.hid (HG_1.out.below hB)
    have HR1_2 := Lib.hid (HR1.out.below hB)
    clear HG_1 HR1 HB
    have HI := Lib.hid (ownI_reads ho)
    clear ho hB
    go_wp2_with fail
    refine (C2.out _ HR1_2.out).mono ?_; rintro e u3 ⟨aS, capS, rfl, ho, hB⟩
    have HB_3 := Lib.hid (HB_2.out.trans (hB.mono HB_2.out.size))
    have HG_3 := Lib.hid (HG_2.out.below hB)
    have HR1_3 := Lib.hid (HR1_2.out.below hB)
    have HI_3 := Lib.hid (HI.out.below hB)
    clear HG_2 HR1_2 HI HB_2
    have HS := Lib.hid (ownI_reads ho)
    clear ho hB
    go_wp2_with fail
    refine (C3.out _ HR1_3.out HG_3.out).mono ?_; rintro e u4 ⟨aC, capC, rfl, ho, hB⟩
    have HB_4 := Lib.hid (HB_3.out.trans (hB.mono HB_3.out.size))
    have HG_4 := Lib.hid (HG_3.out.below hB)
    have HR1_4 := Lib.hid (HR1_3.out.below hB)
    have HI_4 := Lib.hid (HI_3.out.below hB)
    have HS_4 := Lib.hid (HS.out.below hB)
    clear HG_3 HR1_3 HI_3 HS HB_3
    have HC := Lib.hid (ownI_reads ho)
    clear ho hB
    go_wp2_with fail
    refine (C4.out _ HR1_4.out).mono ?_; rintro e u5 ⟨aE, capE, rfl, ho, hB⟩
    have HB_5 := Lib.hid (HB_4.out.trans (hB.mono HB_4.out.size))
    have HG_5 := Lib.hid (HG_4.out.below hB)
    have HR1_5 := Lib.hid (HR1_4.out.below hB)
    have HI_5 := Lib.hid (HI_4.out.below hB)
    have HS_5 := Lib.hid (HS_4.out.below hB)
    have HC_5 := Lib.hid (HC.out.below hB)
    clear HG_4 HR1_4 HI_4 HS_4 HC HB_4
    have HE := Lib.hid (ownI_reads ho)
    clear ho hB
    clear C1 C2 C3 C4
    go_wp2_with fail
    refine (specDrawNextRem_any a0 len0 cap0 bs u5 HL.out hm (HY.out.later HB_5.out)).mono ?_; rintro e u6 ⟨g2, cap2, ts2, d2, rfl, hD, _, hB⟩
    have HB_6 := Lib.hid (HB_5.out.trans (hB.mono HB_5.out.size))
    have HG_6 := Lib.hid (HG_5.out.below hB)
    have HR1_6 := Lib.hid (HR1_5.out.below hB)
    have HI_6 := Lib.hid (HI_5.out.below hB)
    have HS_6 := Lib.hid (HS_5.out.below hB)
    have HC_6 := Lib.hid (HC_5.out.below hB)
    have HE_6 := Lib.hid (HE.out.below hB)
    clear HG_5 HR1_5 HI_5 HS_5 HC_5 HE HB_5
    have hl2 := hD.len
    have hm2 : ts2.length ≤ maxLen := by unfold maxLen; omega
    have HR2 := Lib.hid (hD.reads)
    clear hD hB
    obtain ⟨n, k3, h3⟩ : ∃ f k, nextR9 ts2 d2 = (f, k) := ⟨_, _, rfl⟩
    have HN := Lib.hid (next_facts h3)
    have C1 := Lib.hid (fun W (hx : Summons.ListAt W (some ⟨g2, 0, none⟩) ts2) (ht : TypeAt W) => show Calls Tryd.prog 18 #[.slice (some ⟨g2, 0, none⟩) ts2.length cap2, .int .i64 d2] W (SaysN9 n k3 W) from by have e := implNextReminder_any (some ⟨g2, 0, none⟩) ts2.length cap2 ts2 d2 W rfl hm2 hx ht; rw [h3] at e; exact e)
    have C2 := Lib.hid (fun W (hx : Summons.ListAt W (some ⟨g2, 0, none⟩) ts2) => show Calls Tryd.prog 19 #[.slice (some ⟨g2, 0, none⟩) ts2.length cap2, .int .i64 d2] W (SaysN9 n k3 W) from by have e := specNextReminder_any (some ⟨g2, 0, none⟩) ts2.length cap2 ts2 d2 W rfl hm2 hx; rw [h3] at e; exact e)
    clear h3
    go_wp2_with fail
    refine (C1.out _ HR2.out HG_6.out).mono ?_; rintro e u7 ⟨rfl, hB⟩
    have HB_7 := Lib.hid (HB_6.out.trans (hB.mono HB_6.out.size))
    have HG_7 := Lib.hid (HG_6.out.below hB)
    have HR1_7 := Lib.hid (HR1_6.out.below hB)
    have HI_7 := Lib.hid (HI_6.out.below hB)
    have HS_7 := Lib.hid (HS_6.out.below hB)
    have HC_7 := Lib.hid (HC_6.out.below hB)
    have HE_7 := Lib.hid (HE_6.out.below hB)
    have HR2_7 := Lib.hid (HR2.out.below hB)
    clear HG_6 HR1_6 HI_6 HS_6 HC_6 HE_6 HR2 HB_6
    clear hB
    go_wp2_with fail
    refine (C2.out _ HR2_7.out).mono ?_; rintro e u8 ⟨rfl, hB⟩
    have HB_8 := Lib.hid (HB_7.out.trans (hB.mono HB_7.out.size))
    have HG_8 := Lib.hid (HG_7.out.below hB)
    have HR1_8 := Lib.hid (HR1_7.out.below hB)
    have HI_8 := Lib.hid (HI_7.out.below hB)
    have HS_8 := Lib.hid (HS_7.out.below hB)
    have HC_8 := Lib.hid (HC_7.out.below hB)
    have HE_8 := Lib.hid (HE_7.out.below hB)
    have HR2_8 := Lib.hid (HR2_7.out.below hB)
    clear HG_7 HR1_7 HI_7 HS_7 HC_7 HE_7 HR2_7 HB_7
    clear hB
    clear C1 C2
    go_wp2_with fail
    refine (likeInts_any aI aS rs.length capI rs.length capS rs rs u8 rfl rfl hmr hmr HI_8.out HS_8.out).mono ?_
    intro e u9 hq
    obtain ⟨rfl, hB⟩ := sameI hq
    clear hq
    have HB_9 := Lib.hid (HB_8.out.trans (hB.mono HB_8.out.size))
    have HG_9 := Lib.hid (HG_8.out.below hB)
    have HR1_9 := Lib.hid (HR1_8.out.below hB)
    have HI_9 := Lib.hid (HI_8.out.below hB)
    have HS_9 := Lib.hid (HS_8.out.below hB)
    have HC_9 := Lib.hid (HC_8.out.below hB)
    have HE_9 := Lib.hid (HE_8.out.below hB)
    have HR2_9 := Lib.hid (HR2_8.out.below hB)
    clear HG_8 HR1_8 HI_8 HS_8 HC_8 HE_8 HR2_8 HB_8
    clear hB
    clear HS_9
    go_wp2_with fail
    refine (likeInts_any aC aE cs.length capC cs.length capE cs cs u9 rfl rfl hmc hmc HC_9.out HE_9.out).mono ?_
    intro e u10 hq
    obtain ⟨rfl, hB⟩ := sameI hq
    clear hq
    have HB_10 := Lib.hid (HB_9.out.trans (hB.mono HB_9.out.size))
    have HG_10 := Lib.hid (HG_9.out.below hB)
    have HR1_10 := Lib.hid (HR1_9.out.below hB)
    have HI_10 := Lib.hid (HI_9.out.below hB)
    have HC_10 := Lib.hid (HC_9.out.below hB)
    have HE_10 := Lib.hid (HE_9.out.below hB)
    have HR2_10 := Lib.hid (HR2_9.out.below hB)
    clear HG_9 HR1_9 HI_9 HC_9 HE_9 HR2_9 HB_9
    clear hB
    clear HE_10
    rcases HN.out with hk3 | ⟨hk3, hnd, ds, hds, hdl, hd0⟩
    · have ek3 : (k3 == 0) = false := beq_eq_false_iff_ne.2 hk3
      clear hk3 HN
      rcases HF.out with hk1 | ⟨hk1, os, hos, hol, hsub, hc4, hc0, hcz, hcs⟩
      · have ek1 : (k1 != 0) = true := bne_iff_ne.2 hk1
        clear hk1
        go_wp2_with fail
        go_ret
        exact ⟨rfl, HB_10.out⟩
      · subst hk1
        have D2 := Lib.hid (fun W (hx : Summons.ListAt W (some ⟨g1, 0, none⟩) ts1) (ht : TypeAt W) => show Calls Tryd.prog 21 #[.slice (some ⟨g1, 0, none⟩) ts1.length cap1, .int .i64 d1] W (SaysNew9 os 0 W) from by have e := implOpenOn_any (some ⟨g1, 0, none⟩) ts1.length cap1 ts1 d1 W rfl hm1 hx ht; rw [hos] at e; exact e.mono fun _ _ x => x.new9)
        clear hos
        have HSUB := Lib.hid hsub; have HC0 := Lib.hid hc0; have HCZ := Lib.hid hcz; have HCS := Lib.hid hcs; have HC4 := Lib.hid hc4
        clear hsub hc0 hcz hcs hc4
        have hmo : os.length ≤ maxLen := by unfold maxLen; omega
        go_wp2_with fail
        refine (D2.out _ HR1_10.out HG_10.out).mono ?_; rintro e u12 ⟨aO, capO, rfl, ho, hB⟩
        have HB_11 := Lib.hid (HB_10.out.trans (hB.mono HB_10.out.size))
        have HG_11 := Lib.hid (HG_10.out.below hB)
        have HR1_11 := Lib.hid (HR1_10.out.below hB)
        have HI_11 := Lib.hid (HI_10.out.below hB)
        have HC_11 := Lib.hid (HC_10.out.below hB)
        have HR2_11 := Lib.hid (HR2_10.out.below hB)
        clear HG_10 HR1_10 HI_10 HC_10 HR2_10 HB_10
        have HO := Lib.hid (ownI_reads ho)
        clear ho hB
        clear D2
        go_wp2_with fail
        go_loopw [23] (fun i wr => ∃ k : Nat, k ≤ rs.length ∧ i = .int .i64 k ∧ Below u12.heap.size u12 wr) (fun i _ => rs.length - (intOf i).toNat)
        case atStart => exact ⟨0, Nat.zero_le _, rfl, Below.refl _ _⟩
        case round =>
          obtain ⟨k, hk, rfl, hB⟩ := hrel
          have HB0 := Lib.hid hB; clear hB
          by_cases hlt : k < rs.length
          · obtain ⟨b, off, x, ha, hc, ht, hx⟩ := (HI_11.out.below HB0.out).at rfl hlt
            have HJ := Lib.hid (HSUB.out x (List.mem_of_getElem? hx))
            subst ha
            clear ht hx
            go_wp2_with fail
            refine (lawsHasInt_any aO os.length capO os x wr rfl hmo (HO.out.below HB0.out)).mono ?_; rintro e x1 ⟨rfl, rfl⟩
            rw [HJ.out]
            clear hc
            go_wp2_with fail
            go_roundw
            case rel => exact ⟨k + 1, by omega, by go_num, HB0.out⟩
            case measure => simp [intOf]; omega
          · have hkl : decide ((k : Int) < (rs.length : Int)) = false := decide_eq_false (by omega)
            have hci := HC_11.out.below HB0.out
            obtain ⟨b, off, x, ha, hc, ht, hx⟩ := hci.at HC4.out (show 0 < 4 by omega)
            have hxe : x = (os.length : Int) := by have e0 := HC0.out; rw [hx] at e0; exact Option.some.inj e0
            subst ha hxe
            rw [Nat.add_zero] at hc
            have hcl := HC4.out
            have hci2 := Lib.hid hci
            rw [hcl]
            have hle : decide (sumJ cs 4 ≤ (ts1.length : Int)) = true := decide_eq_true HCS.out
            clear ht hx hci
            go_wp2_with fail
            refine (lawsSum_any (some ⟨b, off, none⟩) 4 capC cs wr HC4.out (by omega) HCZ.out hci2.out).mono ?_; rintro e x1 ⟨rfl, rfl⟩
            clear hc
            go_wp2_with fail
            go_ret
            exact ⟨rfl, HB_11.out.trans (HB0.out.mono HB_11.out.size)⟩
    · subst hk3
      have enl : decide (n ≤ d2) = false := decide_eq_false (by omega)
      have edl : ((ds.length : Int) == 0) = false := beq_eq_false_iff_ne.2 (by omega)
      have D1 := Lib.hid (fun W (hx : Summons.ListAt W (some ⟨g2, 0, none⟩) ts2) (ht : TypeAt W) => show Calls Tryd.prog 13 #[.slice (some ⟨g2, 0, none⟩) ts2.length cap2, .int .i64 n] W (SaysNew9 ds 0 W) from by have e := implRemindersOn_any (some ⟨g2, 0, none⟩) ts2.length cap2 ts2 n W rfl hm2 hx ht; rw [hds] at e; exact e.mono fun _ _ x => x.new9)
      clear hds HN
      go_wp2_with fail
      refine (D1.out _ HR2_10.out HG_10.out).mono ?_; rintro e u11 ⟨aD, capD, rfl, _, hB⟩
      have HB_11 := Lib.hid (HB_10.out.trans (hB.mono HB_10.out.size))
      have HG_11 := Lib.hid (HG_10.out.below hB)
      have HR1_11 := Lib.hid (HR1_10.out.below hB)
      have HI_11 := Lib.hid (HI_10.out.below hB)
      have HC_11 := Lib.hid (HC_10.out.below hB)
      have HR2_11 := Lib.hid (HR2_10.out.below hB)
      clear HG_10 HR1_10 HI_10 HC_10 HR2_10 HB_10
      clear hB
      clear D1
      rcases HF.out with hk1 | ⟨hk1, os, hos, hol, hsub, hc4, hc0, hcz, hcs⟩
      · have ek1 : (k1 != 0) = true := bne_iff_ne.2 hk1
        clear hk1
        go_wp2_with fail
        go_ret
        exact ⟨rfl, HB_11.out⟩
      · subst hk1
        have D2 := Lib.hid (fun W (hx : Summons.ListAt W (some ⟨g1, 0, none⟩) ts1) (ht : TypeAt W) => show Calls Tryd.prog 21 #[.slice (some ⟨g1, 0, none⟩) ts1.length cap1, .int .i64 d1] W (SaysNew9 os 0 W) from by have e := implOpenOn_any (some ⟨g1, 0, none⟩) ts1.length cap1 ts1 d1 W rfl hm1 hx ht; rw [hos] at e; exact e.mono fun _ _ x => x.new9)
        clear hos
        have HSUB := Lib.hid hsub; have HC0 := Lib.hid hc0; have HCZ := Lib.hid hcz; have HCS := Lib.hid hcs; have HC4 := Lib.hid hc4
        clear hsub hc0 hcz hcs hc4
        have hmo : os.length ≤ maxLen := by unfold maxLen; omega
        go_wp2_with fail
        refine (D2.out _ HR1_11.out HG_11.out).mono ?_; rintro e u12 ⟨aO, capO, rfl, ho, hB⟩
        have HB_12 := Lib.hid (HB_11.out.trans (hB.mono HB_11.out.size))
        have HG_12 := Lib.hid (HG_11.out.below hB)
        have HR1_12 := Lib.hid (HR1_11.out.below hB)
        have HI_12 := Lib.hid (HI_11.out.below hB)
        have HC_12 := Lib.hid (HC_11.out.below hB)
        have HR2_12 := Lib.hid (HR2_11.out.below hB)
        clear HG_11 HR1_11 HI_11 HC_11 HR2_11 HB_11
        have HO := Lib.hid (ownI_reads ho)
        clear ho hB
        clear D2
        go_wp2_with fail
        go_loopw [23] (fun i wr => ∃ k : Nat, k ≤ rs.length ∧ i = .int .i64 k ∧ Below u12.heap.size u12 wr) (fun i _ => rs.length - (intOf i).toNat)
        case atStart => exact ⟨0, Nat.zero_le _, rfl, Below.refl _ _⟩
        case round =>
          obtain ⟨k, hk, rfl, hB⟩ := hrel
          have HB0 := Lib.hid hB; clear hB
          by_cases hlt : k < rs.length
          · obtain ⟨b, off, x, ha, hc, ht, hx⟩ := (HI_12.out.below HB0.out).at rfl hlt
            have HJ := Lib.hid (HSUB.out x (List.mem_of_getElem? hx))
            subst ha
            clear ht hx
            go_wp2_with fail
            refine (lawsHasInt_any aO os.length capO os x wr rfl hmo (HO.out.below HB0.out)).mono ?_; rintro e x1 ⟨rfl, rfl⟩
            rw [HJ.out]
            clear hc
            go_wp2_with fail
            go_roundw
            case rel => exact ⟨k + 1, by omega, by go_num, HB0.out⟩
            case measure => simp [intOf]; omega
          · have hkl : decide ((k : Int) < (rs.length : Int)) = false := decide_eq_false (by omega)
            have hci := HC_12.out.below HB0.out
            obtain ⟨b, off, x, ha, hc, ht, hx⟩ := hci.at HC4.out (show 0 < 4 by omega)
            have hxe : x = (os.length : Int) := by have e0 := HC0.out; rw [hx] at e0; exact Option.some.inj e0
            subst ha hxe
            rw [Nat.add_zero] at hc
            have hcl := HC4.out
            have hci2 := Lib.hid hci
            rw [hcl]
            have hle : decide (sumJ cs 4 ≤ (ts1.length : Int)) = true := decide_eq_true HCS.out
            clear ht hx hci
            go_wp2_with fail
            refine (lawsSum_any (some ⟨b, off, none⟩) 4 capC cs wr HC4.out (by omega) HCZ.out hci2.out).mono ?_; rintro e x1 ⟨rfl, rfl⟩
            clear hc
            go_wp2_with fail
            go_ret
            exact ⟨rfl, HB_12.out.trans (HB0.out.mono HB_12.out.size)⟩

/-- A start that fits: the heap that the variables' own initialisers leave (and the pinned table, where the row lists one). -/
theorem laid_met (os : Os) : laidMetH Tryd.prog Rows.fnRemindersRow.laid ((doorWorld os).forCall (fun _ _ => 0) ⟨#[], #[.slice none 0 0], []⟩).memory :=
  laidMetH_of_parts (laidMet_nil _ _) (by kernel_rfl)
theorem reads (os : Os) {H : Type} (enc : TypeId × Value → H) : DataW.whole enc Tryd.prog ((doorWorld os).forCall (fun _ _ => 0) ⟨#[], #[.slice none 0 0], []⟩).memory Tryd.f3.params.toList Rows.fnRemindersSpec.vars false (#[.slice none 0 0] : Array Value).toList 8 = some ([.nil], [], []) :=
  by kernel_rfl

set_option maxRecDepth 100000 in
theorem lifted (os : Os) (started : os.Started) (H : Type) (enc : TypeId × Value → H) (F : Stop.Interp) :
    ReturnsInHanded {} Tryd.checked os 3 .any ((OpenSpec.ofChange Rows.fnRemindersSpec).preRow enc Tryd.prog Tryd.f3 Rows.fnRemindersRow.domain false Rows.fnRemindersRow.laid) (((OpenSpec.ofChange Rows.fnRemindersSpec).at F).post enc Tryd.prog Tryd.f3 false true false false) := by
  refine returnsInHanded_of_row (C := Tryd.checked) (s := OpenSpec.ofChange Rows.fnRemindersSpec) own started (by kernel_rfl) Tryd.func3
    (witness_row_atRef (enc := enc) (C := Tryd.checked) false (doorWorld os) #[.slice none 0 0] rfl (by kernel_rfl) (by kernel_rfl) (by kernel_rfl)
      (OpenSpec.preRow_of_cond 8 (reads os enc) (by kernel_rfl) (fun k hk => by cases hk) (by kernel_rfl) (laid_met os))) ?_
  intro W base args ds gs before hval0 hW _ _ _ hL hsh _
  have hval : ∀ (j : Nat) t v, Tryd.f3.params[j]? = some t → args[j]? = some v → Value.okWide Tryd.prog W .any base t v := hval0
  have hW' := hW
  obtain ⟨p, q, hA0, hV, rfl, hfz, hnd⟩ := hW
  have hA : DataW.TrodAll enc Tryd.prog W 0 (fun _ => true) true Tryd.f3.params.toList args.toList ds p := hA0
  rw [Tryd.params3] at hA hval
  obtain ⟨v0, vs0, d0, ds0, p0, q0, hargs, rfl, rfl, h0, r0⟩ := trodAll_cons hA
  obtain ⟨rfl, rfl, rfl⟩ := trodAll_nil r0
  obtain rfl : args = #[v0] := by cases args; simp_all
  obtain ⟨rfl, rfl⟩ := trodVars_none hV
  obtain ⟨a0, len0, cap0, rfl⟩ := okWide_slice Tryd.underlying22 (hval 0 22 v0 rfl rfl)
  have k0 := h0
  have lt0 : ∀ x ∈ p0, x.block < W.heap.size := by obtain ⟨m, hm⟩ := k0; exact DataW.trod_lt m _ _ _ hm
  obtain ⟨z0, w0⟩ : ∃ zs, IsRow .u8 W a0 len0 cap0 zs := by
    obtain ⟨fuel, hf⟩ := h0
    rcases open_ints Tryd.underlying22 Tryd.underlying5 (by kernel_rfl) hf with ⟨hcs, _⟩ | ⟨x, l, c, zs, hcs, _, hl, hm, hz, _, hcell, hwz⟩
    · simp [Value.cells] at hcs
      obtain ⟨rfl, rfl, rfl⟩ := hcs
      exact ⟨[], .inl ⟨rfl, rfl, rfl, rfl⟩⟩
    · simp [Value.cells] at hcs
      obtain ⟨rfl, rfl, rfl⟩ := hcs
      exact ⟨zs, .inr ⟨_, rfl, hl, hm, by simpa using hz, hcell, hwz⟩⟩
  clear hA0 hval0
  refine (walk W hL hsh a0 len0 cap0 z0 w0).mono fun e W' ⟨he, bel⟩ => ?_
  subst he
  exact ⟨_, rfl, _, _, _, [], _, [], hW', trodAll_mk1 (shut_bool Tryd.underlying4 _), (trodAll_cons_mk (Below.trod laidOut (by kernel_rfl) (of_decide_eq_true (by kernel_rfl)) k0 bel lt0) trodAll_mk0), rfl, bel.frame _, fun h => by cases h⟩

theorem said : Rows.FnRemindersSaid :=
  OpenClaim.holds_of_cond 3 Tryd.f3 rfl rfl rfl rfl rfl rfl rfl ⟨rfl, rfl, rfl, rfl, rfl⟩ rfl rfl rfl rfl rfl (by kernel_rfl) Tryd.func3 (by kernel_rfl)
    (of_decide_eq_true (by kernel_rfl)) (by unfold Func.isWrapper; first | (rw [if_pos (by decide +kernel)]; kernel_rfl) | (rw [if_neg (by decide +kernel)]; exact ⟨rfl, rfl⟩))
    (fun os started H enc _ F => by rw [OpenClaim.pre_eq_preRow]; exact lifted os started H enc F)

/-- The statement: the tied card. -/
theorem proved : Rows.FnRemindersCardSaid :=
  Claim7.holds_tied_plain_at .later [] _ _ _ _ said (fun _ h => by cases h) (by kernel_rfl) (fun _ h => by cases h) fnReminders_row_tie rfl ⟨rfl, rfl⟩ (by kernel_rfl) rfl
    (fun f fn hf hfn => by
      obtain rfl : f = 3 := Option.some.inj ((show Tryd.prog.funcNamed "loop.example/g01027/laws.FnReminders" = some 3 by kernel_rfl).symm.trans hf) |>.symm
      obtain rfl : fn = Tryd.f3 := (Option.some.inj (Tryd.func3.symm.trans hfn)).symm
      exact ⟨by kernel_rfl, fun j t ht => by
        rw [Tryd.params3] at ht
        have hm : t ∈ [22] := by simpa using Array.mem_of_getElem? ht
        have hall : ([22].all fun u => !Tryd.prog.wantsStandIn u) = true := by kernel_rfl
        exact (show Tryd.prog.wantsStandIn t = false by simpa using List.all_eq_true.1 hall t hm)⟩)
    (by kernel_rfl)
end Go.Proofs.YtchffaohmeaccaaDoor.fnReminders
