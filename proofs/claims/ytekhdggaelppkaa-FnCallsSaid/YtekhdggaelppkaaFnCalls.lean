/- Proved: for every code, laws.FnCalls returns true and leaves its argument as it was: a moved call is for a court day and not more than 180 days behind the first one, and the answers of chapter 10 are those of their models. No condition. -/
import Derived.Test.YtekhdggaelppkaaRows
import Derived.WalkKit
import Derived.ProofKit
import Derived.OpenShut
import Derived.ShutString
import Derived.ChangeOld
import Derived.Below
import Derived.SliceStrings
import Derived.Lib.Hide
import Derived.Test.YtekhdggaelppkaaBase0
import Derived.Test.YtekhdggaelppkaaPure100
import Derived.Test.YtekhdggaelppkaaCallB
import Derived.Test.YtekhdggaelppkaaCallC
import Derived.Test.YtekhdggaelppkaaBig
import Derived.Test.YtekhdggaelppkaaMarkI
import Derived.Test.YtekhdggaelppkaaEqInt
import Derived.Test.YtekhdggaelppkaaIntL
import Derived.Test.YtekhdggaelppkaaBuildI
import Derived.Test.YtekhdggaelppkaaSet10
import Derived.Test.YtekhdggaelppkaaLaw10
import Derived.Test.YtekhdggaelppkaaDraw10a
import Derived.Test.YtekhdggaelppkaaDraw10b
import Derived.Test.YtekhdggaelppkaaDraw10c
import Derived.Test.YtekhdggaelppkaaDraw10d
import Derived.Test.YtekhdggaelppkaaHasJ
import Derived.Test.YtekhdggaelppkaaFact10
import Derived.Test.YtekhdggaelppkaaLikeC10
import Derived.Test.YtekhdggaelppkaaSpec102
import Derived.Test.YtekhdggaelppkaaImpl10c
import Derived.Test.YtekhdggaelppkaaSpec104
import Derived.Test.YtekhdggaelppkaaImpl10e
import Derived.Test.YtekhdggaelppkaaImpl10b
import Derived.Test.YtekhdggaelppkaaHelp10
namespace Go.Proofs.Ytekhdggaelppkaa.fnCalls
open Go.ChangeShapes Go.WideShapes Go.ChangeAt Go.RowKit
open Go.ChangeMaps (open_string shut_string)
open Pure2 Pure6 Pure20 Pure21 Pure40
set_option linter.unusedVariables false

theorem own : ownKnob Try.prog.godebug = none := by kernel_rfl
theorem laidOut : laidOutB Try.prog = true := by kernel_rfl

/-- What the walk is told of a slice of integers that came in: it is nil, or it leads to a row of cap cells, the numbers zs. -/
def IsRow (k : IntKind) (w : World) (a : Option Addr) (len cap : Nat) (zs : List Int) : Prop :=
  (a = none ∧ len = 0 ∧ cap = 0 ∧ zs = []) ∨
  ∃ x, a = some x ∧ len ≤ cap ∧ cap ≤ maxLen ∧ zs.length = cap ∧ (∀ i, i < zs.length → w.cell? (x.add i) = some (.int k (zs.getD i 0))) ∧ ∀ n ∈ zs, (Lit.int k n).wf = true

set_option maxRecDepth 100000 in
set_option maxHeartbeats 40000000 in
theorem walk (w : World) (a0 : Option Addr) (len0 cap0 : Nat) (z0 : List Int) (w0 : IsRow .u8 w a0 len0 cap0 z0) :
    Calls Try.prog 3 #[.slice a0 len0 cap0] w fun e w' => e = .returned (.bool true) ∧ Below w.heap.size w w' := by
  obtain ⟨hl, hY⟩ := bytes_of_row w0
  generalize z0.take len0 = bs at hl hY
  have HL := Lib.hid hl; have HY := Lib.hid hY; clear hl hY w0
  have HBig := Lib.hid (lawsBig_any a0 len0 cap0 w)
  by_cases hb : 4096 < len0
  · rw [decide_eq_true hb] at HBig
    go_enter Try.func3, Try.ntmps3
    go_wp2_with fail
    refine HBig.out.mono ?_; rintro e w' ⟨rfl, rfl⟩
    go_wp2_with fail
    go_ret
    exact ⟨rfl, Below.refl _ _⟩
  · rw [decide_eq_false hb] at HBig
    have hm : len0 ≤ 4096 := by omega
    clear hb
    go_enter Try.func3, Try.ntmps3
    go_wp2_with fail
    refine HBig.out.mono ?_; rintro e w' ⟨rfl, rfl⟩
    clear HBig
    go_wp2_with fail
    refine (specDrawMoveCall_any a0 len0 cap0 bs w HL.out hm HY.out).mono ?_; rintro e u1 ⟨ah1, ch1, hs1, g1, cap1, ts1, n1, d1, rfl, hhl1, hH, _, hD, hB⟩
    have HB := Lib.hid (hB)
    have hhm1 : hs1.length ≤ maxLen := by unfold maxLen; omega
    have HH1 := Lib.hid (hH)
    clear hH
    have hl1 := hD.len
    have hcap1 := hD.cap.1
    have hm1 : ts1.length ≤ maxLen := by unfold maxLen; omega
    have HR1 := Lib.hid (hD.reads)
    clear hD hB
    obtain ⟨ys, k1, h1⟩ : ∃ f k, movR hs1 ts1 n1 d1 = (f, k) := ⟨_, _, rfl⟩
    obtain ⟨yb, k2, h2⟩ : ∃ f k, mayR hs1 ts1 n1 d1 = (f, k) := ⟨_, _, rfl⟩
    obtain ⟨hys, hF⟩ := move_facts h1 h2
    have HF := Lib.hid hF
    clear hF
    have hmy : ys.length ≤ maxLen := by unfold maxLen; omega
    have C1 := Lib.hid (fun W (hh : IntsAt W ah1 hs1) (hx : Call.ListAt W (some ⟨g1, 0, none⟩) ts1) => show Calls Try.prog 15 #[.slice ah1 hs1.length ch1, .slice (some ⟨g1, 0, none⟩) ts1.length cap1, .int .i64 n1, .int .i64 d1] W (SaysNewC ys k1 W) from by have e := implMoveCall_any ah1 hs1.length ch1 hs1 (some ⟨g1, 0, none⟩) ts1.length cap1 ts1 n1 d1 W rfl hhm1 hh rfl hm1 hx; rw [h1] at e; exact e)
    have C2 := Lib.hid (fun W (hh : IntsAt W ah1 hs1) (hx : Call.ListAt W (some ⟨g1, 0, none⟩) ts1) => show Calls Try.prog 16 #[.slice ah1 hs1.length ch1, .slice (some ⟨g1, 0, none⟩) ts1.length cap1, .int .i64 n1, .int .i64 d1] W (SaysNewC ys k1 W) from by have e := specMoveCall_any ah1 hs1.length ch1 hs1 g1 ts1.length cap1 ts1 n1 d1 W rfl hhm1 hh rfl hm1 hx hcap1; rw [h1] at e; exact e)
    have C3 := Lib.hid (fun W (hh : IntsAt W ah1 hs1) (hx : Call.ListAt W (some ⟨g1, 0, none⟩) ts1) => show Calls Try.prog 17 #[.slice ah1 hs1.length ch1, .slice (some ⟨g1, 0, none⟩) ts1.length cap1, .int .i64 n1, .int .i64 d1] W (fun e w' => e = .returned (.tuple #[.bool yb, .int .i64 k2]) ∧ Below W.heap.size W w') from by have e := implMayMove_any ah1 hs1.length ch1 hs1 (some ⟨g1, 0, none⟩) ts1.length cap1 ts1 n1 d1 W rfl hhm1 hh rfl hm1 hx; rw [h2] at e; exact e)
    have C4 := Lib.hid (fun W (hh : IntsAt W ah1 hs1) (hx : Call.ListAt W (some ⟨g1, 0, none⟩) ts1) => show Calls Try.prog 18 #[.slice ah1 hs1.length ch1, .slice (some ⟨g1, 0, none⟩) ts1.length cap1, .int .i64 n1, .int .i64 d1] W (fun e w' => e = .returned (.tuple #[.bool yb, .int .i64 k2]) ∧ Below W.heap.size W w') from by have e := specMayMove_any ah1 hs1.length ch1 hs1 g1 ts1.length cap1 ts1 n1 d1 W rfl hhm1 hh rfl hm1 hx hcap1; rw [h2] at e; exact e)
    clear h1 h2
    go_wp2_with fail
    refine (C1.out _ HH1.out HR1.out).mono ?_; rintro e u2 ⟨aI, capI, rfl, ho, hB⟩
    have HB_2 := Lib.hid (HB.out.trans (hB.mono HB.out.size))
    have HH1_2 := Lib.hid (HH1.out.below hB)
    have HR1_2 := Lib.hid (HR1.out.below hB)
    clear HH1 HR1 HB
    have HI := Lib.hid (Call.Own.reads ho)
    clear ho hB
    go_wp2_with fail
    refine (C2.out _ HH1_2.out HR1_2.out).mono ?_; rintro e u3 ⟨aS, capS, rfl, ho, hB⟩
    have HB_3 := Lib.hid (HB_2.out.trans (hB.mono HB_2.out.size))
    have HH1_3 := Lib.hid (HH1_2.out.below hB)
    have HR1_3 := Lib.hid (HR1_2.out.below hB)
    have HI_3 := Lib.hid (HI.out.below hB)
    clear HH1_2 HR1_2 HI HB_2
    have HS := Lib.hid (Call.Own.reads ho)
    clear ho hB
    go_wp2_with fail
    refine (C3.out _ HH1_3.out HR1_3.out).mono ?_; rintro e u4 ⟨rfl, hB⟩
    have HB_4 := Lib.hid (HB_3.out.trans (hB.mono HB_3.out.size))
    have HH1_4 := Lib.hid (HH1_3.out.below hB)
    have HR1_4 := Lib.hid (HR1_3.out.below hB)
    have HI_4 := Lib.hid (HI_3.out.below hB)
    have HS_4 := Lib.hid (HS.out.below hB)
    clear HH1_3 HR1_3 HI_3 HS HB_3
    clear hB
    go_wp2_with fail
    refine (C4.out _ HH1_4.out HR1_4.out).mono ?_; rintro e u5 ⟨rfl, hB⟩
    have HB_5 := Lib.hid (HB_4.out.trans (hB.mono HB_4.out.size))
    have HH1_5 := Lib.hid (HH1_4.out.below hB)
    have HR1_5 := Lib.hid (HR1_4.out.below hB)
    have HI_5 := Lib.hid (HI_4.out.below hB)
    have HS_5 := Lib.hid (HS_4.out.below hB)
    clear HH1_4 HR1_4 HI_4 HS_4 HB_4
    clear hB
    clear C1 C2 C3 C4
    clear HR1_5
    go_wp2_with fail
    refine (specDrawAddCall_any a0 len0 cap0 bs u5 HL.out hm (HY.out.later HB_5.out)).mono ?_; rintro e u6 ⟨ah2, ch2, hs2, g2, cap2, ts2, n2, d2, rfl, hhl2, hH, _, hD, hB⟩
    have HB_6 := Lib.hid (HB_5.out.trans (hB.mono HB_5.out.size))
    have HH1_6 := Lib.hid (HH1_5.out.below hB)
    have HI_6 := Lib.hid (HI_5.out.below hB)
    have HS_6 := Lib.hid (HS_5.out.below hB)
    clear HH1_5 HI_5 HS_5 HB_5
    have hhm2 : hs2.length ≤ maxLen := by unfold maxLen; omega
    have HH2 := Lib.hid (hH)
    clear hH
    have hl2 := hD.len
    have hcap2 := hD.cap.1
    have hm2 : ts2.length ≤ maxLen := by unfold maxLen; omega
    have HR2 := Lib.hid (hD.reads)
    clear hD hB
    obtain ⟨zs, k3, h3⟩ : ∃ f k, addR10 hs2 ts2 n2 d2 = (f, k) := ⟨_, _, rfl⟩
    obtain ⟨hzs, hF⟩ := add_facts10 h3
    have HFA := Lib.hid hF
    clear hF
    have hmz : zs.length ≤ maxLen := by unfold maxLen; omega
    have C1 := Lib.hid (fun W (hh : IntsAt W ah2 hs2) (hx : Call.ListAt W (some ⟨g2, 0, none⟩) ts2) => show Calls Try.prog 20 #[.slice ah2 hs2.length ch2, .slice (some ⟨g2, 0, none⟩) ts2.length cap2, .int .i64 n2, .int .i64 d2] W (SaysNewC zs k3 W) from by have e := implAddCall_any ah2 hs2.length ch2 hs2 (some ⟨g2, 0, none⟩) ts2.length cap2 ts2 n2 d2 W rfl hhm2 hh rfl hm2 hx; rw [h3] at e; exact e)
    have C2 := Lib.hid (fun W (hh : IntsAt W ah2 hs2) (hx : Call.ListAt W (some ⟨g2, 0, none⟩) ts2) => show Calls Try.prog 21 #[.slice ah2 hs2.length ch2, .slice (some ⟨g2, 0, none⟩) ts2.length cap2, .int .i64 n2, .int .i64 d2] W (SaysNewC zs k3 W) from by have e := specAddCall_any ah2 hs2.length ch2 hs2 g2 ts2.length cap2 ts2 n2 d2 W rfl hhm2 hh rfl hm2 hx hcap2; rw [h3] at e; exact e)
    clear h3
    go_wp2_with fail
    refine (C1.out _ HH2.out HR2.out).mono ?_; rintro e u7 ⟨aA, capA, rfl, ho, hB⟩
    have HB_7 := Lib.hid (HB_6.out.trans (hB.mono HB_6.out.size))
    have HH1_7 := Lib.hid (HH1_6.out.below hB)
    have HI_7 := Lib.hid (HI_6.out.below hB)
    have HS_7 := Lib.hid (HS_6.out.below hB)
    have HH2_7 := Lib.hid (HH2.out.below hB)
    have HR2_7 := Lib.hid (HR2.out.below hB)
    clear HH1_6 HI_6 HS_6 HH2 HR2 HB_6
    have HA := Lib.hid (Call.Own.reads ho)
    clear ho hB
    go_wp2_with fail
    refine (C2.out _ HH2_7.out HR2_7.out).mono ?_; rintro e u8 ⟨aE, capE, rfl, ho, hB⟩
    have HB_8 := Lib.hid (HB_7.out.trans (hB.mono HB_7.out.size))
    have HH1_8 := Lib.hid (HH1_7.out.below hB)
    have HI_8 := Lib.hid (HI_7.out.below hB)
    have HS_8 := Lib.hid (HS_7.out.below hB)
    have HH2_8 := Lib.hid (HH2_7.out.below hB)
    have HR2_8 := Lib.hid (HR2_7.out.below hB)
    have HA_8 := Lib.hid (HA.out.below hB)
    clear HH1_7 HI_7 HS_7 HH2_7 HR2_7 HA HB_7
    have HE := Lib.hid (Call.Own.reads ho)
    clear ho hB
    clear C1 C2
    clear HR2_8 HH2_8
    go_wp2_with fail
    refine (specDrawDropCall_any a0 len0 cap0 bs u8 HL.out hm (HY.out.later HB_8.out)).mono ?_; rintro e u9 ⟨g3, cap3, ts3, n3, rfl, hD, hB⟩
    have HB_9 := Lib.hid (HB_8.out.trans (hB.mono HB_8.out.size))
    have HH1_9 := Lib.hid (HH1_8.out.below hB)
    have HI_9 := Lib.hid (HI_8.out.below hB)
    have HS_9 := Lib.hid (HS_8.out.below hB)
    have HA_9 := Lib.hid (HA_8.out.below hB)
    have HE_9 := Lib.hid (HE.out.below hB)
    clear HH1_8 HI_8 HS_8 HA_8 HE HB_8
    have hl3 := hD.len
    have hcap3 := hD.cap.1
    have hm3 : ts3.length ≤ maxLen := by unfold maxLen; omega
    have HR3 := Lib.hid (hD.reads)
    clear hD hB
    obtain ⟨ps, k4, h4⟩ : ∃ f k, dropR ts3 n3 = (f, k) := ⟨_, _, rfl⟩
    obtain ⟨ok, hok⟩ : ∃ ok, areC ts3 = ok := ⟨_, rfl⟩
    obtain ⟨hps, hF⟩ := drop_facts10 h4
    have HFD := Lib.hid hF
    clear hF
    have hmp : ps.length ≤ maxLen := by unfold maxLen; omega
    have C1 := Lib.hid (fun W (hx : Call.ListAt W (some ⟨g3, 0, none⟩) ts3) => show Calls Try.prog 23 #[.slice (some ⟨g3, 0, none⟩) ts3.length cap3, .int .i64 n3] W (SaysNewC ps k4 W) from by have e := implDropCall_any (some ⟨g3, 0, none⟩) ts3.length cap3 ts3 n3 W rfl hm3 hx; rw [h4] at e; exact e)
    have C2 := Lib.hid (fun W (hx : Call.ListAt W (some ⟨g3, 0, none⟩) ts3) => show Calls Try.prog 24 #[.slice (some ⟨g3, 0, none⟩) ts3.length cap3, .int .i64 n3] W (SaysNewC ps k4 W) from by have e := specDropCall_any g3 ts3.length cap3 ts3 n3 W rfl hm3 hx hcap3; rw [h4] at e; exact e)
    have C3 := Lib.hid (fun W (hx : Call.ListAt W (some ⟨g3, 0, none⟩) ts3) => show Calls Try.prog 26 #[.slice (some ⟨g3, 0, none⟩) ts3.length cap3] W (fun e w' => e = .returned (.bool ok) ∧ Below W.heap.size W w') from by have e := implAreC_any (some ⟨g3, 0, none⟩) ts3.length cap3 ts3 W rfl hm3 hx; rw [hok] at e; exact e)
    have C4 := Lib.hid (fun W (hx : Call.ListAt W (some ⟨g3, 0, none⟩) ts3) => show Calls Try.prog 27 #[.slice (some ⟨g3, 0, none⟩) ts3.length cap3] W (fun e w' => e = .returned (.bool ok) ∧ Below W.heap.size W w') from by have e := specAreC_any (some ⟨g3, 0, none⟩) ts3.length cap3 ts3 W rfl hm3 hx; rw [hok] at e; exact e)
    clear h4 hok
    go_wp2_with fail
    refine (C1.out _ HR3.out).mono ?_; rintro e u10 ⟨aD, capD, rfl, ho, hB⟩
    have HB_10 := Lib.hid (HB_9.out.trans (hB.mono HB_9.out.size))
    have HH1_10 := Lib.hid (HH1_9.out.below hB)
    have HI_10 := Lib.hid (HI_9.out.below hB)
    have HS_10 := Lib.hid (HS_9.out.below hB)
    have HA_10 := Lib.hid (HA_9.out.below hB)
    have HE_10 := Lib.hid (HE_9.out.below hB)
    have HR3_10 := Lib.hid (HR3.out.below hB)
    clear HH1_9 HI_9 HS_9 HA_9 HE_9 HR3 HB_9
    have HD := Lib.hid (Call.Own.reads ho)
    clear ho hB
    go_wp2_with fail
    refine (C2.out _ HR3_10.out).mono ?_; rintro e u11 ⟨aF, capF, rfl, ho, hB⟩
    have HB_11 := Lib.hid (HB_10.out.trans (hB.mono HB_10.out.size))
    have HH1_11 := Lib.hid (HH1_10.out.below hB)
    have HI_11 := Lib.hid (HI_10.out.below hB)
    have HS_11 := Lib.hid (HS_10.out.below hB)
    have HA_11 := Lib.hid (HA_10.out.below hB)
    have HE_11 := Lib.hid (HE_10.out.below hB)
    have HR3_11 := Lib.hid (HR3_10.out.below hB)
    have HD_11 := Lib.hid (HD.out.below hB)
    clear HH1_10 HI_10 HS_10 HA_10 HE_10 HR3_10 HD HB_10
    have HF := Lib.hid (Call.Own.reads ho)
    clear ho hB
    clear C1 C2
    go_wp2_with fail
    refine (likeCalls_same aI aS ys.length capI capS ys u11 rfl (by omega) HI_11.out HS_11.out).mono ?_; rintro e u12 ⟨rfl, hB⟩
    have HB_12 := Lib.hid (HB_11.out.trans (hB.mono HB_11.out.size))
    have HH1_12 := Lib.hid (HH1_11.out.below hB)
    have HI_12 := Lib.hid (HI_11.out.below hB)
    have HS_12 := Lib.hid (HS_11.out.below hB)
    have HA_12 := Lib.hid (HA_11.out.below hB)
    have HE_12 := Lib.hid (HE_11.out.below hB)
    have HR3_12 := Lib.hid (HR3_11.out.below hB)
    have HD_12 := Lib.hid (HD_11.out.below hB)
    have HF_12 := Lib.hid (HF.out.below hB)
    clear HH1_11 HI_11 HS_11 HA_11 HE_11 HR3_11 HD_11 HF HB_11
    clear hB
    clear HS_12
    go_wp2_with fail
    refine (likeCalls_same aA aE zs.length capA capE zs u12 rfl (by omega) HA_12.out HE_12.out).mono ?_; rintro e u13 ⟨rfl, hB⟩
    have HB_13 := Lib.hid (HB_12.out.trans (hB.mono HB_12.out.size))
    have HH1_13 := Lib.hid (HH1_12.out.below hB)
    have HI_13 := Lib.hid (HI_12.out.below hB)
    have HA_13 := Lib.hid (HA_12.out.below hB)
    have HE_13 := Lib.hid (HE_12.out.below hB)
    have HR3_13 := Lib.hid (HR3_12.out.below hB)
    have HD_13 := Lib.hid (HD_12.out.below hB)
    have HF_13 := Lib.hid (HF_12.out.below hB)
    clear HH1_12 HI_12 HA_12 HE_12 HR3_12 HD_12 HF_12 HB_12
    clear hB
    clear HE_13
    go_wp2_with fail
    refine (likeCalls_same aD aF ps.length capD capF ps u13 rfl (by omega) HD_13.out HF_13.out).mono ?_; rintro e u14 ⟨rfl, hB⟩
    have HB_14 := Lib.hid (HB_13.out.trans (hB.mono HB_13.out.size))
    have HH1_14 := Lib.hid (HH1_13.out.below hB)
    have HI_14 := Lib.hid (HI_13.out.below hB)
    have HA_14 := Lib.hid (HA_13.out.below hB)
    have HR3_14 := Lib.hid (HR3_13.out.below hB)
    have HD_14 := Lib.hid (HD_13.out.below hB)
    have HF_14 := Lib.hid (HF_13.out.below hB)
    clear HH1_13 HI_13 HA_13 HR3_13 HD_13 HF_13 HB_13
    clear hB
    clear HF_14
    go_wp2_with fail
    refine (C3.out _ HR3_14.out).mono ?_; rintro e u15 ⟨rfl, hB⟩
    have HB_15 := Lib.hid (HB_14.out.trans (hB.mono HB_14.out.size))
    have HH1_15 := Lib.hid (HH1_14.out.below hB)
    have HI_15 := Lib.hid (HI_14.out.below hB)
    have HA_15 := Lib.hid (HA_14.out.below hB)
    have HR3_15 := Lib.hid (HR3_14.out.below hB)
    have HD_15 := Lib.hid (HD_14.out.below hB)
    clear HH1_14 HI_14 HA_14 HR3_14 HD_14 HB_14
    clear hB
    go_wp2_with fail
    refine (C4.out _ HR3_15.out).mono ?_; rintro e u16 ⟨rfl, hB⟩
    have HB_16 := Lib.hid (HB_15.out.trans (hB.mono HB_15.out.size))
    have HH1_16 := Lib.hid (HH1_15.out.below hB)
    have HI_16 := Lib.hid (HI_15.out.below hB)
    have HA_16 := Lib.hid (HA_15.out.below hB)
    have HR3_16 := Lib.hid (HR3_15.out.below hB)
    have HD_16 := Lib.hid (HD_15.out.below hB)
    clear HH1_15 HI_15 HA_15 HR3_15 HD_15 HB_15
    clear hB
    clear C3 C4
    clear HR3_16
    have qx : IntKind.i64.wrap ((ts2.length : Int) + 1) = (ts2.length : Int) + 1 := IntWalk.i64_in _ (by omega)
    have qp : IntKind.i64.wrap ((ps.length : Int) + 1) = (ps.length : Int) + 1 := IntWalk.i64_in _ (by omega)
    rcases HF.out with ⟨hk1, hk2, rfl⟩ | ⟨hk1, hk2, rfl⟩ | ⟨hk1, hk2, rfl, hct, hay, ⟨os, hos, hol, hosf⟩, hokc, hfar⟩
    · have ek1 : (k1 == 0) = false := beq_eq_false_iff_ne.2 hk1
      have ek1b : (k1 != 0) = true := bne_iff_ne.2 hk1
      have ek2 : (k2 == 0) = false := beq_eq_false_iff_ne.2 hk2
      clear hk2
      clear hk1 HF
      rcases HFA.out with hk3 | ⟨hk3, hzl, oz, hoz, hozl, hozf⟩
      · have ek3 : (k3 == 0) = false := beq_eq_false_iff_ne.2 hk3
        clear hk3 HFA
        rcases HFD.out with hk4 | ⟨hk4, hpl⟩
        · have ek4 : (k4 == 0) = false := beq_eq_false_iff_ne.2 hk4
          clear hk4 HFD
          go_wp2_with fail
          go_ret
          exact ⟨rfl, HB_16.out⟩
        · subst hk4
          have epl : ((ps.length : Int) + 1 != (ts3.length : Int)) = false := by simp; omega
          clear HFD hpl
          go_wp2_with fail
          go_ret
          exact ⟨rfl, HB_16.out⟩
      · subst hk3
        have HOZF := Lib.hid hozf
        have ezl : ((zs.length : Int) != (ts2.length : Int) + 1) = false := by simp; omega
        clear HFA hozf hzl
        have hmoz : oz.length ≤ maxLen := by unfold maxLen; omega
        have D1 := Lib.hid (fun W (hx : Call.ListAt W aA zs) => show Calls Try.prog 28 #[.slice aA zs.length capA, .int .i64 d2] W (SaysNew9 oz 0 W) from by have e := implCalledOn_any aA zs.length capA zs d2 W rfl hmz hx; rw [hoz] at e; exact e.mono (fun _ _ h => h.new9))
        clear hoz
        rcases HFD.out with hk4 | ⟨hk4, hpl⟩
        · have ek4 : (k4 == 0) = false := beq_eq_false_iff_ne.2 hk4
          clear hk4 HFD
          go_wp2_with fail
          refine (D1.out _ HA_16.out).mono ?_; rintro e u17 ⟨aZ, capZ, rfl, ho, hB⟩
          have HB_17 := Lib.hid (HB_16.out.trans (hB.mono HB_16.out.size))
          have HH1_17 := Lib.hid (HH1_16.out.below hB)
          have HI_17 := Lib.hid (HI_16.out.below hB)
          have HA_17 := Lib.hid (HA_16.out.below hB)
          have HD_17 := Lib.hid (HD_16.out.below hB)
          clear HH1_16 HI_16 HA_16 HD_16 HB_16
          have HZ := Lib.hid (ownI_reads ho)
          clear ho hB
          clear D1
          go_wp2_with fail
          refine (lawsHasInt_any aZ oz.length capZ oz n2 u17 rfl hmoz HZ.out).mono ?_; rintro e x1 ⟨rfl, rfl⟩
          rw [HOZF.out]
          go_wp2_with fail
          go_ret
          exact ⟨rfl, HB_17.out⟩
        · subst hk4
          have epl : ((ps.length : Int) + 1 != (ts3.length : Int)) = false := by simp; omega
          clear HFD hpl
          go_wp2_with fail
          refine (D1.out _ HA_16.out).mono ?_; rintro e u17 ⟨aZ, capZ, rfl, ho, hB⟩
          have HB_17 := Lib.hid (HB_16.out.trans (hB.mono HB_16.out.size))
          have HH1_17 := Lib.hid (HH1_16.out.below hB)
          have HI_17 := Lib.hid (HI_16.out.below hB)
          have HA_17 := Lib.hid (HA_16.out.below hB)
          have HD_17 := Lib.hid (HD_16.out.below hB)
          clear HH1_16 HI_16 HA_16 HD_16 HB_16
          have HZ := Lib.hid (ownI_reads ho)
          clear ho hB
          clear D1
          go_wp2_with fail
          refine (lawsHasInt_any aZ oz.length capZ oz n2 u17 rfl hmoz HZ.out).mono ?_; rintro e x1 ⟨rfl, rfl⟩
          rw [HOZF.out]
          go_wp2_with fail
          go_ret
          exact ⟨rfl, HB_17.out⟩
    · have ek1 : (k1 == 0) = false := beq_eq_false_iff_ne.2 hk1
      have ek1b : (k1 != 0) = true := bne_iff_ne.2 hk1
      subst hk2
      clear hk1 HF
      rcases HFA.out with hk3 | ⟨hk3, hzl, oz, hoz, hozl, hozf⟩
      · have ek3 : (k3 == 0) = false := beq_eq_false_iff_ne.2 hk3
        clear hk3 HFA
        rcases HFD.out with hk4 | ⟨hk4, hpl⟩
        · have ek4 : (k4 == 0) = false := beq_eq_false_iff_ne.2 hk4
          clear hk4 HFD
          go_wp2_with fail
          go_ret
          exact ⟨rfl, HB_16.out⟩
        · subst hk4
          have epl : ((ps.length : Int) + 1 != (ts3.length : Int)) = false := by simp; omega
          clear HFD hpl
          go_wp2_with fail
          go_ret
          exact ⟨rfl, HB_16.out⟩
      · subst hk3
        have HOZF := Lib.hid hozf
        have ezl : ((zs.length : Int) != (ts2.length : Int) + 1) = false := by simp; omega
        clear HFA hozf hzl
        have hmoz : oz.length ≤ maxLen := by unfold maxLen; omega
        have D1 := Lib.hid (fun W (hx : Call.ListAt W aA zs) => show Calls Try.prog 28 #[.slice aA zs.length capA, .int .i64 d2] W (SaysNew9 oz 0 W) from by have e := implCalledOn_any aA zs.length capA zs d2 W rfl hmz hx; rw [hoz] at e; exact e.mono (fun _ _ h => h.new9))
        clear hoz
        rcases HFD.out with hk4 | ⟨hk4, hpl⟩
        · have ek4 : (k4 == 0) = false := beq_eq_false_iff_ne.2 hk4
          clear hk4 HFD
          go_wp2_with fail
          refine (D1.out _ HA_16.out).mono ?_; rintro e u17 ⟨aZ, capZ, rfl, ho, hB⟩
          have HB_17 := Lib.hid (HB_16.out.trans (hB.mono HB_16.out.size))
          have HH1_17 := Lib.hid (HH1_16.out.below hB)
          have HI_17 := Lib.hid (HI_16.out.below hB)
          have HA_17 := Lib.hid (HA_16.out.below hB)
          have HD_17 := Lib.hid (HD_16.out.below hB)
          clear HH1_16 HI_16 HA_16 HD_16 HB_16
          have HZ := Lib.hid (ownI_reads ho)
          clear ho hB
          clear D1
          go_wp2_with fail
          refine (lawsHasInt_any aZ oz.length capZ oz n2 u17 rfl hmoz HZ.out).mono ?_; rintro e x1 ⟨rfl, rfl⟩
          rw [HOZF.out]
          go_wp2_with fail
          go_ret
          exact ⟨rfl, HB_17.out⟩
        · subst hk4
          have epl : ((ps.length : Int) + 1 != (ts3.length : Int)) = false := by simp; omega
          clear HFD hpl
          go_wp2_with fail
          refine (D1.out _ HA_16.out).mono ?_; rintro e u17 ⟨aZ, capZ, rfl, ho, hB⟩
          have HB_17 := Lib.hid (HB_16.out.trans (hB.mono HB_16.out.size))
          have HH1_17 := Lib.hid (HH1_16.out.below hB)
          have HI_17 := Lib.hid (HI_16.out.below hB)
          have HA_17 := Lib.hid (HA_16.out.below hB)
          have HD_17 := Lib.hid (HD_16.out.below hB)
          clear HH1_16 HI_16 HA_16 HD_16 HB_16
          have HZ := Lib.hid (ownI_reads ho)
          clear ho hB
          clear D1
          go_wp2_with fail
          refine (lawsHasInt_any aZ oz.length capZ oz n2 u17 rfl hmoz HZ.out).mono ?_; rintro e x1 ⟨rfl, rfl⟩
          rw [HOZF.out]
          go_wp2_with fail
          go_ret
          exact ⟨rfl, HB_17.out⟩
    · subst hk1 hk2
      have HCT := Lib.hid hct; have HAY := Lib.hid hay; have HOS := Lib.hid hos; have HOSF := Lib.hid hosf; have HOK := Lib.hid hokc; have HFR := Lib.hid hfar
      clear hct hay hos hosf hokc hfar HF
      have hmo : os.length ≤ maxLen := by unfold maxLen; omega
      rcases HFA.out with hk3 | ⟨hk3, hzl, oz, hoz, hozl, hozf⟩
      · have ek3 : (k3 == 0) = false := beq_eq_false_iff_ne.2 hk3
        clear hk3 HFA
        rcases HFD.out with hk4 | ⟨hk4, hpl⟩
        · have ek4 : (k4 == 0) = false := beq_eq_false_iff_ne.2 hk4
          clear hk4 HFD
          go_wp2_with fail
          refine (implCourtDay10_at ah1 hs1.length ch1 hs1 d1 true 0 u16 HCT.out rfl hhm1 HH1_16.out).mono ?_; rintro e u18 ⟨rfl, hB⟩
          have HB_17 := Lib.hid (HB_16.out.trans (hB.mono HB_16.out.size))
          have HH1_17 := Lib.hid (HH1_16.out.below hB)
          have HI_17 := Lib.hid (HI_16.out.below hB)
          have HA_17 := Lib.hid (HA_16.out.below hB)
          have HD_17 := Lib.hid (HD_16.out.below hB)
          clear HH1_16 HI_16 HA_16 HD_16 HB_16
          clear hB
          go_wp2_with fail
          have D2 := Lib.hid (fun W (hx : Call.ListAt W aI ys) => show Calls Try.prog 28 #[.slice aI ys.length capI, .int .i64 d1] W (SaysNew9 os 0 W) from by have e := implCalledOn_any aI ys.length capI ys d1 W rfl hmy hx; rw [HOS.out] at e; exact e.mono (fun _ _ h => h.new9))
          refine (D2.out _ HI_17.out).mono ?_; rintro e u19 ⟨aO, capO, rfl, ho, hB⟩
          have HB_18 := Lib.hid (HB_17.out.trans (hB.mono HB_17.out.size))
          have HH1_18 := Lib.hid (HH1_17.out.below hB)
          have HI_18 := Lib.hid (HI_17.out.below hB)
          have HA_18 := Lib.hid (HA_17.out.below hB)
          have HD_18 := Lib.hid (HD_17.out.below hB)
          clear HH1_17 HI_17 HA_17 HD_17 HB_17
          have HO := Lib.hid (ownI_reads ho)
          clear ho hB
          clear D2
          go_wp2_with fail
          go_loopw [35] (fun i wr => ∃ k : Nat, k ≤ ys.length ∧ i = .int .i64 k ∧ Below u19.heap.size u19 wr) (fun i _ => ys.length - (intOf i).toNat)
          case atStart => exact ⟨0, Nat.zero_le _, rfl, Below.refl _ _⟩
          case round =>
            obtain ⟨k, hk, rfl, hB⟩ := hrel
            have HB0 := Lib.hid hB; clear hB
            by_cases hlt : k < ys.length
            · obtain ⟨b, off, c, ha, hc, hp⟩ := (HI_18.out.below HB0.out).at rfl hlt
              obtain ⟨_, o2, o3, _⟩ := okC_parts (HOK.out k c hp)
              have q1 : IntKind.i64.wrap (c.fst + 180) = c.fst + 180 := IntWalk.i64_in _ (by omega)
              have hnf := HFR.out k c hp
              obtain ⟨c0, c1, c2, c3⟩ := hc
              subst ha
              clear hp c3
              by_cases hgt : c.fst + 180 < c.day
              · have hgb : decide (c.day > c.fst + 180) = true := decide_eq_true hgt
                have hnb : (c.num == n1) = false := beq_eq_false_iff_ne.2 (fun e => by have := hnf e; omega)
                clear hnf hgt
                go_wp2_with fail
                go_quiet (fail)
                go_wp2_with fail
                go_roundw
                case rel => exact ⟨k + 1, by omega, by go_num, Go.below_drewN HB0.out _⟩
                case measure => simp [intOf]; omega
              · have hgb : decide (c.day > c.fst + 180) = false := decide_eq_false hgt
                clear hnf hgt
                go_wp2_with fail
                go_quiet (fail)
                go_wp2_with fail
                go_roundw
                case rel => exact ⟨k + 1, by omega, by go_num, Go.below_drewN HB0.out _⟩
                case measure => simp [intOf]; omega
            · have hkl : decide ((k : Int) < (ys.length : Int)) = false := decide_eq_false (by omega)
              go_wp2_with fail
              refine (lawsHasInt_any aO os.length capO os n1 wr rfl hmo (HO.out.below HB0.out)).mono ?_; rintro e x2 ⟨rfl, rfl⟩
              rw [HOSF.out]
              go_wp2_with fail
              refine (implAreC_is aI ys.length capI ys true wr HAY.out rfl hmy (HI_18.out.below HB0.out)).mono ?_; rintro e x3 ⟨rfl, hB⟩
              have HB1 := Lib.hid (HB0.out.trans (hB.mono HB0.out.size)); clear hB
              go_wp2_with fail
              go_ret
              exact ⟨rfl, HB_18.out.trans (HB1.out.mono HB_18.out.size)⟩
        · subst hk4
          have epl : ((ps.length : Int) + 1 != (ts3.length : Int)) = false := by simp; omega
          clear HFD hpl
          go_wp2_with fail
          refine (implCourtDay10_at ah1 hs1.length ch1 hs1 d1 true 0 u16 HCT.out rfl hhm1 HH1_16.out).mono ?_; rintro e u18 ⟨rfl, hB⟩
          have HB_17 := Lib.hid (HB_16.out.trans (hB.mono HB_16.out.size))
          have HH1_17 := Lib.hid (HH1_16.out.below hB)
          have HI_17 := Lib.hid (HI_16.out.below hB)
          have HA_17 := Lib.hid (HA_16.out.below hB)
          have HD_17 := Lib.hid (HD_16.out.below hB)
          clear HH1_16 HI_16 HA_16 HD_16 HB_16
          clear hB
          go_wp2_with fail
          have D2 := Lib.hid (fun W (hx : Call.ListAt W aI ys) => show Calls Try.prog 28 #[.slice aI ys.length capI, .int .i64 d1] W (SaysNew9 os 0 W) from by have e := implCalledOn_any aI ys.length capI ys d1 W rfl hmy hx; rw [HOS.out] at e; exact e.mono (fun _ _ h => h.new9))
          refine (D2.out _ HI_17.out).mono ?_; rintro e u19 ⟨aO, capO, rfl, ho, hB⟩
          have HB_18 := Lib.hid (HB_17.out.trans (hB.mono HB_17.out.size))
          have HH1_18 := Lib.hid (HH1_17.out.below hB)
          have HI_18 := Lib.hid (HI_17.out.below hB)
          have HA_18 := Lib.hid (HA_17.out.below hB)
          have HD_18 := Lib.hid (HD_17.out.below hB)
          clear HH1_17 HI_17 HA_17 HD_17 HB_17
          have HO := Lib.hid (ownI_reads ho)
          clear ho hB
          clear D2
          go_wp2_with fail
          go_loopw [35] (fun i wr => ∃ k : Nat, k ≤ ys.length ∧ i = .int .i64 k ∧ Below u19.heap.size u19 wr) (fun i _ => ys.length - (intOf i).toNat)
          case atStart => exact ⟨0, Nat.zero_le _, rfl, Below.refl _ _⟩
          case round =>
            obtain ⟨k, hk, rfl, hB⟩ := hrel
            have HB0 := Lib.hid hB; clear hB
            by_cases hlt : k < ys.length
            · obtain ⟨b, off, c, ha, hc, hp⟩ := (HI_18.out.below HB0.out).at rfl hlt
              obtain ⟨_, o2, o3, _⟩ := okC_parts (HOK.out k c hp)
              have q1 : IntKind.i64.wrap (c.fst + 180) = c.fst + 180 := IntWalk.i64_in _ (by omega)
              have hnf := HFR.out k c hp
              obtain ⟨c0, c1, c2, c3⟩ := hc
              subst ha
              clear hp c3
              by_cases hgt : c.fst + 180 < c.day
              · have hgb : decide (c.day > c.fst + 180) = true := decide_eq_true hgt
                have hnb : (c.num == n1) = false := beq_eq_false_iff_ne.2 (fun e => by have := hnf e; omega)
                clear hnf hgt
                go_wp2_with fail
                go_quiet (fail)
                go_wp2_with fail
                go_roundw
                case rel => exact ⟨k + 1, by omega, by go_num, Go.below_drewN HB0.out _⟩
                case measure => simp [intOf]; omega
              · have hgb : decide (c.day > c.fst + 180) = false := decide_eq_false hgt
                clear hnf hgt
                go_wp2_with fail
                go_quiet (fail)
                go_wp2_with fail
                go_roundw
                case rel => exact ⟨k + 1, by omega, by go_num, Go.below_drewN HB0.out _⟩
                case measure => simp [intOf]; omega
            · have hkl : decide ((k : Int) < (ys.length : Int)) = false := decide_eq_false (by omega)
              go_wp2_with fail
              refine (lawsHasInt_any aO os.length capO os n1 wr rfl hmo (HO.out.below HB0.out)).mono ?_; rintro e x2 ⟨rfl, rfl⟩
              rw [HOSF.out]
              go_wp2_with fail
              refine (implAreC_is aI ys.length capI ys true wr HAY.out rfl hmy (HI_18.out.below HB0.out)).mono ?_; rintro e x3 ⟨rfl, hB⟩
              have HB1 := Lib.hid (HB0.out.trans (hB.mono HB0.out.size)); clear hB
              go_wp2_with fail
              go_ret
              exact ⟨rfl, HB_18.out.trans (HB1.out.mono HB_18.out.size)⟩
      · subst hk3
        have HOZF := Lib.hid hozf
        have ezl : ((zs.length : Int) != (ts2.length : Int) + 1) = false := by simp; omega
        clear HFA hozf hzl
        have hmoz : oz.length ≤ maxLen := by unfold maxLen; omega
        have D1 := Lib.hid (fun W (hx : Call.ListAt W aA zs) => show Calls Try.prog 28 #[.slice aA zs.length capA, .int .i64 d2] W (SaysNew9 oz 0 W) from by have e := implCalledOn_any aA zs.length capA zs d2 W rfl hmz hx; rw [hoz] at e; exact e.mono (fun _ _ h => h.new9))
        clear hoz
        rcases HFD.out with hk4 | ⟨hk4, hpl⟩
        · have ek4 : (k4 == 0) = false := beq_eq_false_iff_ne.2 hk4
          clear hk4 HFD
          go_wp2_with fail
          refine (D1.out _ HA_16.out).mono ?_; rintro e u17 ⟨aZ, capZ, rfl, ho, hB⟩
          have HB_17 := Lib.hid (HB_16.out.trans (hB.mono HB_16.out.size))
          have HH1_17 := Lib.hid (HH1_16.out.below hB)
          have HI_17 := Lib.hid (HI_16.out.below hB)
          have HA_17 := Lib.hid (HA_16.out.below hB)
          have HD_17 := Lib.hid (HD_16.out.below hB)
          clear HH1_16 HI_16 HA_16 HD_16 HB_16
          have HZ := Lib.hid (ownI_reads ho)
          clear ho hB
          clear D1
          go_wp2_with fail
          refine (lawsHasInt_any aZ oz.length capZ oz n2 u17 rfl hmoz HZ.out).mono ?_; rintro e x1 ⟨rfl, rfl⟩
          rw [HOZF.out]
          go_wp2_with fail
          refine (implCourtDay10_at ah1 hs1.length ch1 hs1 d1 true 0 u17 HCT.out rfl hhm1 HH1_17.out).mono ?_; rintro e u18 ⟨rfl, hB⟩
          have HB_18 := Lib.hid (HB_17.out.trans (hB.mono HB_17.out.size))
          have HH1_18 := Lib.hid (HH1_17.out.below hB)
          have HI_18 := Lib.hid (HI_17.out.below hB)
          have HA_18 := Lib.hid (HA_17.out.below hB)
          have HD_18 := Lib.hid (HD_17.out.below hB)
          have HZ_18 := Lib.hid (HZ.out.below hB)
          clear HH1_17 HI_17 HA_17 HD_17 HZ HB_17
          clear hB
          go_wp2_with fail
          have D2 := Lib.hid (fun W (hx : Call.ListAt W aI ys) => show Calls Try.prog 28 #[.slice aI ys.length capI, .int .i64 d1] W (SaysNew9 os 0 W) from by have e := implCalledOn_any aI ys.length capI ys d1 W rfl hmy hx; rw [HOS.out] at e; exact e.mono (fun _ _ h => h.new9))
          refine (D2.out _ HI_18.out).mono ?_; rintro e u19 ⟨aO, capO, rfl, ho, hB⟩
          have HB_19 := Lib.hid (HB_18.out.trans (hB.mono HB_18.out.size))
          have HH1_19 := Lib.hid (HH1_18.out.below hB)
          have HI_19 := Lib.hid (HI_18.out.below hB)
          have HA_19 := Lib.hid (HA_18.out.below hB)
          have HD_19 := Lib.hid (HD_18.out.below hB)
          have HZ_19 := Lib.hid (HZ_18.out.below hB)
          clear HH1_18 HI_18 HA_18 HD_18 HZ_18 HB_18
          have HO := Lib.hid (ownI_reads ho)
          clear ho hB
          clear D2
          go_wp2_with fail
          go_loopw [35] (fun i wr => ∃ k : Nat, k ≤ ys.length ∧ i = .int .i64 k ∧ Below u19.heap.size u19 wr) (fun i _ => ys.length - (intOf i).toNat)
          case atStart => exact ⟨0, Nat.zero_le _, rfl, Below.refl _ _⟩
          case round =>
            obtain ⟨k, hk, rfl, hB⟩ := hrel
            have HB0 := Lib.hid hB; clear hB
            by_cases hlt : k < ys.length
            · obtain ⟨b, off, c, ha, hc, hp⟩ := (HI_19.out.below HB0.out).at rfl hlt
              obtain ⟨_, o2, o3, _⟩ := okC_parts (HOK.out k c hp)
              have q1 : IntKind.i64.wrap (c.fst + 180) = c.fst + 180 := IntWalk.i64_in _ (by omega)
              have hnf := HFR.out k c hp
              obtain ⟨c0, c1, c2, c3⟩ := hc
              subst ha
              clear hp c3
              by_cases hgt : c.fst + 180 < c.day
              · have hgb : decide (c.day > c.fst + 180) = true := decide_eq_true hgt
                have hnb : (c.num == n1) = false := beq_eq_false_iff_ne.2 (fun e => by have := hnf e; omega)
                clear hnf hgt
                go_wp2_with fail
                go_quiet (fail)
                go_wp2_with fail
                go_roundw
                case rel => exact ⟨k + 1, by omega, by go_num, Go.below_drewN HB0.out _⟩
                case measure => simp [intOf]; omega
              · have hgb : decide (c.day > c.fst + 180) = false := decide_eq_false hgt
                clear hnf hgt
                go_wp2_with fail
                go_quiet (fail)
                go_wp2_with fail
                go_roundw
                case rel => exact ⟨k + 1, by omega, by go_num, Go.below_drewN HB0.out _⟩
                case measure => simp [intOf]; omega
            · have hkl : decide ((k : Int) < (ys.length : Int)) = false := decide_eq_false (by omega)
              go_wp2_with fail
              refine (lawsHasInt_any aO os.length capO os n1 wr rfl hmo (HO.out.below HB0.out)).mono ?_; rintro e x2 ⟨rfl, rfl⟩
              rw [HOSF.out]
              go_wp2_with fail
              refine (implAreC_is aI ys.length capI ys true wr HAY.out rfl hmy (HI_19.out.below HB0.out)).mono ?_; rintro e x3 ⟨rfl, hB⟩
              have HB1 := Lib.hid (HB0.out.trans (hB.mono HB0.out.size)); clear hB
              go_wp2_with fail
              go_ret
              exact ⟨rfl, HB_19.out.trans (HB1.out.mono HB_19.out.size)⟩
        · subst hk4
          have epl : ((ps.length : Int) + 1 != (ts3.length : Int)) = false := by simp; omega
          clear HFD hpl
          go_wp2_with fail
          refine (D1.out _ HA_16.out).mono ?_; rintro e u17 ⟨aZ, capZ, rfl, ho, hB⟩
          have HB_17 := Lib.hid (HB_16.out.trans (hB.mono HB_16.out.size))
          have HH1_17 := Lib.hid (HH1_16.out.below hB)
          have HI_17 := Lib.hid (HI_16.out.below hB)
          have HA_17 := Lib.hid (HA_16.out.below hB)
          have HD_17 := Lib.hid (HD_16.out.below hB)
          clear HH1_16 HI_16 HA_16 HD_16 HB_16
          have HZ := Lib.hid (ownI_reads ho)
          clear ho hB
          clear D1
          go_wp2_with fail
          refine (lawsHasInt_any aZ oz.length capZ oz n2 u17 rfl hmoz HZ.out).mono ?_; rintro e x1 ⟨rfl, rfl⟩
          rw [HOZF.out]
          go_wp2_with fail
          refine (implCourtDay10_at ah1 hs1.length ch1 hs1 d1 true 0 u17 HCT.out rfl hhm1 HH1_17.out).mono ?_; rintro e u18 ⟨rfl, hB⟩
          have HB_18 := Lib.hid (HB_17.out.trans (hB.mono HB_17.out.size))
          have HH1_18 := Lib.hid (HH1_17.out.below hB)
          have HI_18 := Lib.hid (HI_17.out.below hB)
          have HA_18 := Lib.hid (HA_17.out.below hB)
          have HD_18 := Lib.hid (HD_17.out.below hB)
          have HZ_18 := Lib.hid (HZ.out.below hB)
          clear HH1_17 HI_17 HA_17 HD_17 HZ HB_17
          clear hB
          go_wp2_with fail
          have D2 := Lib.hid (fun W (hx : Call.ListAt W aI ys) => show Calls Try.prog 28 #[.slice aI ys.length capI, .int .i64 d1] W (SaysNew9 os 0 W) from by have e := implCalledOn_any aI ys.length capI ys d1 W rfl hmy hx; rw [HOS.out] at e; exact e.mono (fun _ _ h => h.new9))
          refine (D2.out _ HI_18.out).mono ?_; rintro e u19 ⟨aO, capO, rfl, ho, hB⟩
          have HB_19 := Lib.hid (HB_18.out.trans (hB.mono HB_18.out.size))
          have HH1_19 := Lib.hid (HH1_18.out.below hB)
          have HI_19 := Lib.hid (HI_18.out.below hB)
          have HA_19 := Lib.hid (HA_18.out.below hB)
          have HD_19 := Lib.hid (HD_18.out.below hB)
          have HZ_19 := Lib.hid (HZ_18.out.below hB)
          clear HH1_18 HI_18 HA_18 HD_18 HZ_18 HB_18
          have HO := Lib.hid (ownI_reads ho)
          clear ho hB
          clear D2
          go_wp2_with fail
          go_loopw [35] (fun i wr => ∃ k : Nat, k ≤ ys.length ∧ i = .int .i64 k ∧ Below u19.heap.size u19 wr) (fun i _ => ys.length - (intOf i).toNat)
          case atStart => exact ⟨0, Nat.zero_le _, rfl, Below.refl _ _⟩
          case round =>
            obtain ⟨k, hk, rfl, hB⟩ := hrel
            have HB0 := Lib.hid hB; clear hB
            by_cases hlt : k < ys.length
            · obtain ⟨b, off, c, ha, hc, hp⟩ := (HI_19.out.below HB0.out).at rfl hlt
              obtain ⟨_, o2, o3, _⟩ := okC_parts (HOK.out k c hp)
              have q1 : IntKind.i64.wrap (c.fst + 180) = c.fst + 180 := IntWalk.i64_in _ (by omega)
              have hnf := HFR.out k c hp
              obtain ⟨c0, c1, c2, c3⟩ := hc
              subst ha
              clear hp c3
              by_cases hgt : c.fst + 180 < c.day
              · have hgb : decide (c.day > c.fst + 180) = true := decide_eq_true hgt
                have hnb : (c.num == n1) = false := beq_eq_false_iff_ne.2 (fun e => by have := hnf e; omega)
                clear hnf hgt
                go_wp2_with fail
                go_quiet (fail)
                go_wp2_with fail
                go_roundw
                case rel => exact ⟨k + 1, by omega, by go_num, Go.below_drewN HB0.out _⟩
                case measure => simp [intOf]; omega
              · have hgb : decide (c.day > c.fst + 180) = false := decide_eq_false hgt
                clear hnf hgt
                go_wp2_with fail
                go_quiet (fail)
                go_wp2_with fail
                go_roundw
                case rel => exact ⟨k + 1, by omega, by go_num, Go.below_drewN HB0.out _⟩
                case measure => simp [intOf]; omega
            · have hkl : decide ((k : Int) < (ys.length : Int)) = false := decide_eq_false (by omega)
              go_wp2_with fail
              refine (lawsHasInt_any aO os.length capO os n1 wr rfl hmo (HO.out.below HB0.out)).mono ?_; rintro e x2 ⟨rfl, rfl⟩
              rw [HOSF.out]
              go_wp2_with fail
              refine (implAreC_is aI ys.length capI ys true wr HAY.out rfl hmy (HI_19.out.below HB0.out)).mono ?_; rintro e x3 ⟨rfl, hB⟩
              have HB1 := Lib.hid (HB0.out.trans (hB.mono HB0.out.size)); clear hB
              go_wp2_with fail
              go_ret
              exact ⟨rfl, HB_19.out.trans (HB1.out.mono HB_19.out.size)⟩

set_option maxRecDepth 100000 in
theorem lifted (os : Os) (started : os.Started) (H : Type) (enc : TypeId × Value → H) :
    ReturnsInHanded {} Try.checked os 3 .any (Rows.fnCallsSpec.pre6 enc Try.prog Try.f3 Rows.fnCallsRow.domain false) (Rows.fnCallsSpec.post enc Try.prog Try.f3 false true false false) := by
  refine returnsInHanded_of_change (C := Try.checked) own started (by kernel_rfl) Try.func3
    (ChangeSpec.witness6 (enc := enc) (C := Try.checked) false ⟨#[], #[.slice none 0 0], []⟩ 8 (by kernel_rfl) (by kernel_rfl) (by kernel_rfl) (by kernel_rfl)) ?_
  intro W base args ds gs before hval0 hW hcnd _
  have hval : ∀ (j : Nat) t v, Try.f3.params[j]? = some t → args[j]? = some v → Value.okWide Try.prog W .any base t v := hval0
  have hW' := hW
  obtain ⟨p, q, hA0, hV, rfl, hfz, hnd⟩ := hW
  have hA : DataW.TrodAll enc Try.prog W 0 (fun _ => true) true Try.f3.params.toList args.toList ds p := hA0
  rw [Try.params3] at hA hval
  obtain ⟨v0, vs0, d0, ds0, p0, q0, hargs, rfl, rfl, h0, r0⟩ := trodAll_cons hA
  obtain ⟨rfl, rfl, rfl⟩ := trodAll_nil r0
  obtain rfl : args = #[v0] := by cases args; simp_all
  obtain ⟨rfl, rfl⟩ := trodVars_none hV
  obtain ⟨a0, len0, cap0, rfl⟩ := okWide_slice Try.underlying22 (hval 0 22 v0 rfl rfl)
  have k0 := h0
  have lt0 : ∀ x ∈ p0, x.block < W.heap.size := by obtain ⟨m, hm⟩ := k0; exact DataW.trod_lt m _ _ _ hm
  obtain ⟨z0, w0⟩ : ∃ zs, IsRow .u8 W a0 len0 cap0 zs := by
    obtain ⟨fuel, hf⟩ := h0
    rcases open_ints Try.underlying22 Try.underlying5 (by kernel_rfl) hf with ⟨hcs, _⟩ | ⟨x, l, c, zs, hcs, _, hl, hm, hz, _, hcell, hwz⟩
    · simp [Value.cells] at hcs
      obtain ⟨rfl, rfl, rfl⟩ := hcs
      exact ⟨[], .inl ⟨rfl, rfl, rfl, rfl⟩⟩
    · simp [Value.cells] at hcs
      obtain ⟨rfl, rfl, rfl⟩ := hcs
      exact ⟨zs, .inr ⟨_, rfl, hl, hm, by simpa using hz, hcell, hwz⟩⟩
  clear hA0 hval0
  refine (walk W a0 len0 cap0 z0 w0).mono fun e W' ⟨he, bel⟩ => ?_
  subst he
  exact ⟨_, rfl, _, _, _, [], _, [], hW', trodAll_mk1 (shut_bool Try.underlying4 _), (trodAll_cons_mk (Below.trod laidOut (by kernel_rfl) (of_decide_eq_true (by kernel_rfl)) k0 bel lt0) trodAll_mk0), rfl, bel.frame _, fun h => by cases h⟩

theorem over : Rows.fnCallsRow.holds Try.pinned (OpenSpec.ofChange Rows.fnCallsSpec) :=
  OpenClaim.holds_of_wide 3 Try.f3 rfl rfl rfl rfl rfl rfl rfl ⟨rfl, rfl, rfl, rfl, rfl⟩ rfl rfl rfl rfl rfl (by kernel_rfl) Try.func3 (by kernel_rfl)
    (of_decide_eq_true (by kernel_rfl)) (by unfold Func.isWrapper; first | (rw [if_pos (by decide +kernel)]; kernel_rfl) | (rw [if_neg (by decide +kernel)]; exact ⟨rfl, rfl⟩))
    (fun os started H enc _ => lifted os started H enc)

/-- The statement. -/
theorem proved : Rows.FnCallsSaid := over
end Go.Proofs.Ytekhdggaelppkaa.fnCalls
