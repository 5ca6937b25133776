/- Proved: for every code, laws.FnRoomForCalls returns true and leaves its argument as it was: a call may be moved to the first day with room, on which there is room, and the answers of chapter 10 are those of their models. No condition. -/
import Derived.Test.YtekhdggaelppkaaRows
import Derived.WalkKit
import Derived.ProofKit
import Derived.OpenShut
import Derived.ShutString
import Derived.ChangeOld
import Derived.Below
import Derived.SliceStrings
import Derived.Lib.Hide
import Derived.Test.YtekhdggaelppkaaBase0
import Derived.Test.YtekhdggaelppkaaPure100
import Derived.Test.YtekhdggaelppkaaCallB
import Derived.Test.YtekhdggaelppkaaCallC
import Derived.Test.YtekhdggaelppkaaBig
import Derived.Test.YtekhdggaelppkaaMarkI
import Derived.Test.YtekhdggaelppkaaEqInt
import Derived.Test.YtekhdggaelppkaaIntL
import Derived.Test.YtekhdggaelppkaaBuildI
import Derived.Test.YtekhdggaelppkaaSet10
import Derived.Test.YtekhdggaelppkaaLaw10
import Derived.Test.YtekhdggaelppkaaDraw10a
import Derived.Test.YtekhdggaelppkaaDraw10b
import Derived.Test.YtekhdggaelppkaaDraw10c
import Derived.Test.YtekhdggaelppkaaDraw10d
import Derived.Test.YtekhdggaelppkaaHasJ
import Derived.Test.YtekhdggaelppkaaFact10
import Derived.Test.YtekhdggaelppkaaLikeInt
import Derived.Test.YtekhdggaelppkaaSpec101
import Derived.Test.YtekhdggaelppkaaImpl10b
import Derived.Test.YtekhdggaelppkaaSpec103
import Derived.Test.YtekhdggaelppkaaImpl10d
import Derived.Test.YtekhdggaelppkaaImpl10c
namespace Go.Proofs.Ytekhdggaelppkaa.fnRoomForCalls
open Go.ChangeShapes Go.WideShapes Go.ChangeAt Go.RowKit
open Go.ChangeMaps (open_string shut_string)
open Pure2 Pure6 Pure20 Pure21 Pure40
set_option linter.unusedVariables false

theorem own : ownKnob Try.prog.godebug = none := by kernel_rfl
theorem laidOut : laidOutB Try.prog = true := by kernel_rfl

/-- What the walk is told of a slice of integers that came in: it is nil, or it leads to a row of cap cells, the numbers zs. -/
def IsRow (k : IntKind) (w : World) (a : Option Addr) (len cap : Nat) (zs : List Int) : Prop :=
  (a = none ∧ len = 0 ∧ cap = 0 ∧ zs = []) ∨
  ∃ x, a = some x ∧ len ≤ cap ∧ cap ≤ maxLen ∧ zs.length = cap ∧ (∀ i, i < zs.length → w.cell? (x.add i) = some (.int k (zs.getD i 0))) ∧ ∀ n ∈ zs, (Lit.int k n).wf = true

set_option maxRecDepth 100000 in
set_option maxHeartbeats 40000000 in
theorem walk (w : World) (a0 : Option Addr) (len0 cap0 : Nat) (z0 : List Int) (w0 : IsRow .u8 w a0 len0 cap0 z0) :
    Calls Try.prog 4 #[.slice a0 len0 cap0] w fun e w' => e = .returned (.bool true) ∧ Below w.heap.size w w' := by
  obtain ⟨hl, hY⟩ := bytes_of_row w0
  generalize z0.take len0 = bs at hl hY
  have HL := Lib.hid hl; have HY := Lib.hid hY; clear hl hY w0
  have HBig := Lib.hid (lawsBig_any a0 len0 cap0 w)
  by_cases hb : 4096 < len0
  · rw [decide_eq_true hb] at HBig
    go_enter Try.func4, Try.ntmps4
    go_wp2_with fail
    refine HBig.out.mono ?_; rintro e w' ⟨rfl, rfl⟩
    go_wp2_with fail
    go_ret
    exact ⟨rfl, Below.refl _ _⟩
  · rw [decide_eq_false hb] at HBig
    have hm : len0 ≤ 4096 := by omega
    clear hb
    go_enter Try.func4, Try.ntmps4
    go_wp2_with fail
    refine HBig.out.mono ?_; rintro e w' ⟨rfl, rfl⟩
    clear HBig
    go_wp2_with fail
    refine (specDrawFirstRoom_any a0 len0 cap0 bs w HL.out hm HY.out).mono ?_; rintro e u1 ⟨ah1, ch1, hs1, g1, cap1, ts1, n1, d1, rfl, hhl1, hH, _, hD, hB⟩
    have HB := Lib.hid (hB)
    have hhm1 : hs1.length ≤ maxLen := by unfold maxLen; omega
    have HH1 := Lib.hid (hH)
    clear hH
    have hl1 := hD.len
    have hcap1 := hD.cap.1
    have hm1 : ts1.length ≤ maxLen := by unfold maxLen; omega
    have HR1 := Lib.hid (hD.reads)
    clear hD hB
    obtain ⟨fr, k1, h1⟩ : ∃ f k, rooR hs1 ts1 n1 d1 = (f, k) := ⟨_, _, rfl⟩
    have HF := Lib.hid (room_facts10 h1)
    have C1 := Lib.hid (fun W (hh : IntsAt W ah1 hs1) (hx : Call.ListAt W (some ⟨g1, 0, none⟩) ts1) => show Calls Try.prog 32 #[.slice ah1 hs1.length ch1, .slice (some ⟨g1, 0, none⟩) ts1.length cap1, .int .i64 n1, .int .i64 d1] W (fun e w' => e = .returned (.tuple #[.int .i64 fr, .int .i64 k1]) ∧ Below W.heap.size W w') from by have e := implFirstRoom_any ah1 hs1.length ch1 hs1 (some ⟨g1, 0, none⟩) ts1.length cap1 ts1 n1 d1 W rfl hhm1 hh rfl hm1 hx; rw [h1] at e; exact e)
    have C2 := Lib.hid (fun W (hh : IntsAt W ah1 hs1) (hx : Call.ListAt W (some ⟨g1, 0, none⟩) ts1) => show Calls Try.prog 33 #[.slice ah1 hs1.length ch1, .slice (some ⟨g1, 0, none⟩) ts1.length cap1, .int .i64 n1, .int .i64 d1] W (fun e w' => e = .returned (.tuple #[.int .i64 fr, .int .i64 k1]) ∧ Below W.heap.size W w') from by have e := specFirstRoom_any ah1 hs1.length ch1 hs1 g1 ts1.length cap1 ts1 n1 d1 W rfl hhm1 hh rfl hm1 hx hcap1; rw [h1] at e; exact e)
    clear h1
    go_wp2_with fail
    refine (C1.out _ HH1.out HR1.out).mono ?_; rintro e u2 ⟨rfl, hB⟩
    have HB_2 := Lib.hid (HB.out.trans (hB.mono HB.out.size))
    have HH1_2 := Lib.hid (HH1.out.below hB)
    have HR1_2 := Lib.hid (HR1.out.below hB)
    clear HH1 HR1 HB
    clear hB
    go_wp2_with fail
    refine (C2.out _ HH1_2.out HR1_2.out).mono ?_; rintro e u3 ⟨rfl, hB⟩
    have HB_3 := Lib.hid (HB_2.out.trans (hB.mono HB_2.out.size))
    have HH1_3 := Lib.hid (HH1_2.out.below hB)
    have HR1_3 := Lib.hid (HR1_2.out.below hB)
    clear HH1_2 HR1_2 HB_2
    clear hB
    clear C1 C2
    go_wp2_with fail
    refine (specDrawCalledOn_any a0 len0 cap0 bs u3 HL.out hm (HY.out.later HB_3.out)).mono ?_; rintro e u4 ⟨g2, cap2, ts2, n2, rfl, hD, hB⟩
    have HB_4 := Lib.hid (HB_3.out.trans (hB.mono HB_3.out.size))
    have HH1_4 := Lib.hid (HH1_3.out.below hB)
    have HR1_4 := Lib.hid (HR1_3.out.below hB)
    clear HH1_3 HR1_3 HB_3
    have hl2 := hD.len
    have hcap2 := hD.cap.1
    have hm2 : ts2.length ≤ maxLen := by unfold maxLen; omega
    have HR2 := Lib.hid (hD.reads)
    clear hD hB
    obtain ⟨cs, k2, h2⟩ : ∃ f k, onC ts2 n2 = (f, k) := ⟨_, _, rfl⟩
    have hcs := onC_small ts2 n2
    rw [h2] at hcs
    simp only at hcs
    have hmc : cs.length ≤ maxLen := by unfold maxLen; omega
    have C1 := Lib.hid (fun W (hx : Call.ListAt W (some ⟨g2, 0, none⟩) ts2) => show Calls Try.prog 28 #[.slice (some ⟨g2, 0, none⟩) ts2.length cap2, .int .i64 n2] W (SaysNew9 cs k2 W) from by have e := implCalledOn_any (some ⟨g2, 0, none⟩) ts2.length cap2 ts2 n2 W rfl hm2 hx; rw [h2] at e; exact e.mono (fun _ _ h => h.new9))
    have C2 := Lib.hid (fun W (hx : Call.ListAt W (some ⟨g2, 0, none⟩) ts2) => show Calls Try.prog 35 #[.slice (some ⟨g2, 0, none⟩) ts2.length cap2, .int .i64 n2] W (SaysNew9 cs k2 W) from by have e := specCalledOn_any (some ⟨g2, 0, none⟩) ts2.length cap2 ts2 n2 W rfl hm2 hx; rw [h2] at e; exact e.mono (fun _ _ h => h.new9))
    clear h2
    go_wp2_with fail
    refine (C1.out _ HR2.out).mono ?_; rintro e u5 ⟨aC, capC, rfl, ho, hB⟩
    have HB_5 := Lib.hid (HB_4.out.trans (hB.mono HB_4.out.size))
    have HH1_5 := Lib.hid (HH1_4.out.below hB)
    have HR1_5 := Lib.hid (HR1_4.out.below hB)
    have HR2_5 := Lib.hid (HR2.out.below hB)
    clear HH1_4 HR1_4 HR2 HB_4
    have HC := Lib.hid (ownI_reads ho)
    clear ho hB
    go_wp2_with fail
    refine (C2.out _ HR2_5.out).mono ?_; rintro e u6 ⟨aE, capE, rfl, ho, hB⟩
    have HB_6 := Lib.hid (HB_5.out.trans (hB.mono HB_5.out.size))
    have HH1_6 := Lib.hid (HH1_5.out.below hB)
    have HR1_6 := Lib.hid (HR1_5.out.below hB)
    have HR2_6 := Lib.hid (HR2_5.out.below hB)
    have HC_6 := Lib.hid (HC.out.below hB)
    clear HH1_5 HR1_5 HR2_5 HC HB_5
    have HE := Lib.hid (ownI_reads ho)
    clear ho hB
    clear C1 C2
    clear HR2_6
    go_wp2_with fail
    refine (specDrawCrowdedDays_any a0 len0 cap0 bs u6 HL.out hm (HY.out.later HB_6.out)).mono ?_; rintro e u7 ⟨g3, cap3, ts3, n3, rfl, hD, hB⟩
    have HB_7 := Lib.hid (HB_6.out.trans (hB.mono HB_6.out.size))
    have HH1_7 := Lib.hid (HH1_6.out.below hB)
    have HR1_7 := Lib.hid (HR1_6.out.below hB)
    have HC_7 := Lib.hid (HC_6.out.below hB)
    have HE_7 := Lib.hid (HE.out.below hB)
    clear HH1_6 HR1_6 HC_6 HE HB_6
    have hl3 := hD.len
    have hcap3 := hD.cap.1
    have hm3 : ts3.length ≤ maxLen := by unfold maxLen; omega
    have HR3 := Lib.hid (hD.reads)
    clear hD hB
    obtain ⟨ds, k3, h3⟩ : ∃ f k, crowR ts3 n3 = (f, k) := ⟨_, _, rfl⟩
    obtain ⟨hds, hF⟩ := crow_facts10 h3
    have HC := Lib.hid hF
    clear hF
    have hmd : ds.length ≤ maxLen := by unfold maxLen; omega
    have C1 := Lib.hid (fun W (hx : Call.ListAt W (some ⟨g3, 0, none⟩) ts3) => show Calls Try.prog 37 #[.slice (some ⟨g3, 0, none⟩) ts3.length cap3, .int .i64 n3] W (SaysNew9 ds k3 W) from by have e := implCrowdedDays_any (some ⟨g3, 0, none⟩) ts3.length cap3 ts3 n3 W rfl hm3 hx; rw [h3] at e; exact e.mono (fun _ _ h => h.new9))
    have C2 := Lib.hid (fun W (hx : Call.ListAt W (some ⟨g3, 0, none⟩) ts3) => show Calls Try.prog 38 #[.slice (some ⟨g3, 0, none⟩) ts3.length cap3, .int .i64 n3] W (SaysNew9 ds k3 W) from by have e := specCrowdedDays_any (some ⟨g3, 0, none⟩) ts3.length cap3 ts3 n3 W rfl hm3 hx; rw [h3] at e; exact e.mono (fun _ _ h => h.new9))
    clear h3
    go_wp2_with fail
    refine (C1.out _ HR3.out).mono ?_; rintro e u8 ⟨aD, capD, rfl, ho, hB⟩
    have HB_8 := Lib.hid (HB_7.out.trans (hB.mono HB_7.out.size))
    have HH1_8 := Lib.hid (HH1_7.out.below hB)
    have HR1_8 := Lib.hid (HR1_7.out.below hB)
    have HC_8 := Lib.hid (HC_7.out.below hB)
    have HE_8 := Lib.hid (HE_7.out.below hB)
    have HR3_8 := Lib.hid (HR3.out.below hB)
    clear HH1_7 HR1_7 HC_7 HE_7 HR3 HB_7
    have HD := Lib.hid (ownI_reads ho)
    clear ho hB
    go_wp2_with fail
    refine (C2.out _ HR3_8.out).mono ?_; rintro e u9 ⟨aG, capG, rfl, ho, hB⟩
    have HB_9 := Lib.hid (HB_8.out.trans (hB.mono HB_8.out.size))
    have HH1_9 := Lib.hid (HH1_8.out.below hB)
    have HR1_9 := Lib.hid (HR1_8.out.below hB)
    have HC_9 := Lib.hid (HC_8.out.below hB)
    have HE_9 := Lib.hid (HE_8.out.below hB)
    have HR3_9 := Lib.hid (HR3_8.out.below hB)
    have HD_9 := Lib.hid (HD.out.below hB)
    clear HH1_8 HR1_8 HC_8 HE_8 HR3_8 HD HB_8
    have HG := Lib.hid (ownI_reads ho)
    clear ho hB
    clear C1 C2
    go_wp2_with fail
    refine (likeInts_any aC aE cs.length capC cs.length capE cs cs u9 rfl rfl hmc hmc HC_9.out HE_9.out).mono ?_
    intro e u10 hq
    obtain ⟨rfl, hB⟩ := sameI hq
    clear hq
    have HB_10 := Lib.hid (HB_9.out.trans (hB.mono HB_9.out.size))
    have HH1_10 := Lib.hid (HH1_9.out.below hB)
    have HR1_10 := Lib.hid (HR1_9.out.below hB)
    have HC_10 := Lib.hid (HC_9.out.below hB)
    have HE_10 := Lib.hid (HE_9.out.below hB)
    have HR3_10 := Lib.hid (HR3_9.out.below hB)
    have HD_10 := Lib.hid (HD_9.out.below hB)
    have HG_10 := Lib.hid (HG.out.below hB)
    clear HH1_9 HR1_9 HC_9 HE_9 HR3_9 HD_9 HG HB_9
    clear hB
    clear HE_10 HC_10
    go_wp2_with fail
    refine (likeInts_any aD aG ds.length capD ds.length capG ds ds u10 rfl rfl hmd hmd HD_10.out HG_10.out).mono ?_
    intro e u11 hq
    obtain ⟨rfl, hB⟩ := sameI hq
    clear hq
    have HB_11 := Lib.hid (HB_10.out.trans (hB.mono HB_10.out.size))
    have HH1_11 := Lib.hid (HH1_10.out.below hB)
    have HR1_11 := Lib.hid (HR1_10.out.below hB)
    have HR3_11 := Lib.hid (HR3_10.out.below hB)
    have HD_11 := Lib.hid (HD_10.out.below hB)
    have HG_11 := Lib.hid (HG_10.out.below hB)
    clear HH1_10 HR1_10 HR3_10 HD_10 HG_10 HB_10
    clear hB
    clear HG_11
    rcases HF.out with hk1 | ⟨hk1, hmy, os, hos, hol, hlt1⟩
    · have ek1 : (k1 != 0) = true := bne_iff_ne.2 hk1
      clear hk1 HF
      rcases HC.out with hk3 | ⟨hk3, hall⟩
      · have ek3 : (k3 == 0) = false := beq_eq_false_iff_ne.2 hk3
        clear hk3 HC
        go_wp2_with fail
        go_loopw [23, 24, 25] (fun i _ _ wr => ∃ k : Nat, k ≤ ds.length ∧ i = .int .i64 k ∧ Below u11.heap.size u11 wr) (fun i _ _ _ => ds.length - (intOf i).toNat)
        case atStart => exact ⟨0, Nat.zero_le _, rfl, Below.refl _ _⟩
        case round =>
          obtain ⟨k, hk, rfl, hB⟩ := hrel
          have HB0 := Lib.hid hB; clear hB
          clear HD_11 HR3_11
          have HB_12 := Lib.hid (HB_11.out.trans (HB0.out.mono HB_11.out.size))
          have HH1_12 := Lib.hid (HH1_11.out.below HB0.out)
          have HR1_12 := Lib.hid (HR1_11.out.below HB0.out)
          clear HH1_11 HR1_11 HB_11
          clear HB0
          go_wp2_with fail
          go_ret
          exact ⟨rfl, HB_12.out⟩
      · subst hk3
        have HALL := Lib.hid hall
        clear HC hall
        go_wp2_with fail
        go_loopw [23, 24, 25] (fun i _ _ wr => ∃ k : Nat, k ≤ ds.length ∧ i = .int .i64 k ∧ Below u11.heap.size u11 wr) (fun i _ _ _ => ds.length - (intOf i).toNat)
        case atStart => exact ⟨0, Nat.zero_le _, rfl, Below.refl _ _⟩
        case round =>
          obtain ⟨k, hk, rfl, hB⟩ := hrel
          have HB0 := Lib.hid hB; clear hB
          by_cases hlt : k < ds.length
          · obtain ⟨b, off, x, ha, hc, ht, hx⟩ := (HD_11.out.below HB0.out).at rfl hlt
            obtain ⟨os3, ho3, hl3, hn3⟩ := HALL.out k x hx
            have M3 := Lib.hid (fun W (hx : Call.ListAt W (some ⟨g3, 0, none⟩) ts3) => show Calls Try.prog 28 #[.slice (some ⟨g3, 0, none⟩) ts3.length cap3, .int .i64 x] W (SaysNew9 os3 0 W) from by have e := implCalledOn_any (some ⟨g3, 0, none⟩) ts3.length cap3 ts3 x W rfl hm3 hx; rw [ho3] at e; exact e.mono (fun _ _ h => h.new9))
            have hnb : decide ((os3.length : Int) ≤ n3) = false := decide_eq_false (by omega)
            subst ha
            clear ht hx ho3
            go_wp2_with fail
            refine (M3.out wr (HR3_11.out.below HB0.out)).mono ?_; rintro e x1 ⟨a3, c3, rfl, _, hB⟩
            have HB1 := Lib.hid (HB0.out.trans (hB.mono HB0.out.size)); clear hB hc M3
            go_wp2_with fail
            go_roundw
            case rel => exact ⟨k + 1, by omega, by go_num, HB1.out⟩
            case measure => simp [intOf]; omega
          · have hkl : decide ((k : Int) < (ds.length : Int)) = false := decide_eq_false (by omega)
            clear HD_11 HR3_11
            have HB_12 := Lib.hid (HB_11.out.trans (HB0.out.mono HB_11.out.size))
            have HH1_12 := Lib.hid (HH1_11.out.below HB0.out)
            have HR1_12 := Lib.hid (HR1_11.out.below HB0.out)
            clear HH1_11 HR1_11 HB_11
            clear HB0
            go_wp2_with fail
            go_ret
            exact ⟨rfl, HB_12.out⟩
    · subst hk1
      clear HF
      have M1 := Lib.hid (fun W (hh : IntsAt W ah1 hs1) (hx : Call.ListAt W (some ⟨g1, 0, none⟩) ts1) => show Calls Try.prog 17 #[.slice ah1 hs1.length ch1, .slice (some ⟨g1, 0, none⟩) ts1.length cap1, .int .i64 n1, .int .i64 fr] W (fun e w' => e = .returned (.tuple #[.bool true, .int .i64 0]) ∧ Below W.heap.size W w') from by have e := implMayMove_any ah1 hs1.length ch1 hs1 (some ⟨g1, 0, none⟩) ts1.length cap1 ts1 n1 fr W rfl hhm1 hh rfl hm1 hx; rw [hmy] at e; exact e)
      have M2 := Lib.hid (fun W (hx : Call.ListAt W (some ⟨g1, 0, none⟩) ts1) => show Calls Try.prog 28 #[.slice (some ⟨g1, 0, none⟩) ts1.length cap1, .int .i64 fr] W (SaysNew9 os 0 W) from by have e := implCalledOn_any (some ⟨g1, 0, none⟩) ts1.length cap1 ts1 fr W rfl hm1 hx; rw [hos] at e; exact e.mono (fun _ _ h => h.new9))
      have hlb : decide ((os.length : Int) < d1) = true := decide_eq_true hlt1
      clear hmy hos hlt1
      rcases HC.out with hk3 | ⟨hk3, hall⟩
      · have ek3 : (k3 == 0) = false := beq_eq_false_iff_ne.2 hk3
        clear hk3 HC
        go_wp2_with fail
        go_loopw [23, 24, 25] (fun i _ _ wr => ∃ k : Nat, k ≤ ds.length ∧ i = .int .i64 k ∧ Below u11.heap.size u11 wr) (fun i _ _ _ => ds.length - (intOf i).toNat)
        case atStart => exact ⟨0, Nat.zero_le _, rfl, Below.refl _ _⟩
        case round =>
          obtain ⟨k, hk, rfl, hB⟩ := hrel
          have HB0 := Lib.hid hB; clear hB
          clear HD_11 HR3_11
          have HB_12 := Lib.hid (HB_11.out.trans (HB0.out.mono HB_11.out.size))
          have HH1_12 := Lib.hid (HH1_11.out.below HB0.out)
          have HR1_12 := Lib.hid (HR1_11.out.below HB0.out)
          clear HH1_11 HR1_11 HB_11
          clear HB0
          go_wp2_with fail
          refine (M1.out _ HH1_12.out HR1_12.out).mono ?_; rintro e u12 ⟨rfl, hB⟩
          have HB_13 := Lib.hid (HB_12.out.trans (hB.mono HB_12.out.size))
          have HH1_13 := Lib.hid (HH1_12.out.below hB)
          have HR1_13 := Lib.hid (HR1_12.out.below hB)
          clear HH1_12 HR1_12 HB_12
          clear hB
          go_wp2_with fail
          refine (M2.out _ HR1_13.out).mono ?_; rintro e u13 ⟨aO, capO, rfl, _, hB⟩
          have HB_14 := Lib.hid (HB_13.out.trans (hB.mono HB_13.out.size))
          have HH1_14 := Lib.hid (HH1_13.out.below hB)
          have HR1_14 := Lib.hid (HR1_13.out.below hB)
          clear HH1_13 HR1_13 HB_13
          clear hB
          go_wp2_with fail
          go_ret
          exact ⟨rfl, HB_14.out⟩
      · subst hk3
        have HALL := Lib.hid hall
        clear HC hall
        go_wp2_with fail
        go_loopw [23, 24, 25] (fun i _ _ wr => ∃ k : Nat, k ≤ ds.length ∧ i = .int .i64 k ∧ Below u11.heap.size u11 wr) (fun i _ _ _ => ds.length - (intOf i).toNat)
        case atStart => exact ⟨0, Nat.zero_le _, rfl, Below.refl _ _⟩
        case round =>
          obtain ⟨k, hk, rfl, hB⟩ := hrel
          have HB0 := Lib.hid hB; clear hB
          by_cases hlt : k < ds.length
          · obtain ⟨b, off, x, ha, hc, ht, hx⟩ := (HD_11.out.below HB0.out).at rfl hlt
            obtain ⟨os3, ho3, hl3, hn3⟩ := HALL.out k x hx
            have M3 := Lib.hid (fun W (hx : Call.ListAt W (some ⟨g3, 0, none⟩) ts3) => show Calls Try.prog 28 #[.slice (some ⟨g3, 0, none⟩) ts3.length cap3, .int .i64 x] W (SaysNew9 os3 0 W) from by have e := implCalledOn_any (some ⟨g3, 0, none⟩) ts3.length cap3 ts3 x W rfl hm3 hx; rw [ho3] at e; exact e.mono (fun _ _ h => h.new9))
            have hnb : decide ((os3.length : Int) ≤ n3) = false := decide_eq_false (by omega)
            subst ha
            clear ht hx ho3
            go_wp2_with fail
            refine (M3.out wr (HR3_11.out.below HB0.out)).mono ?_; rintro e x1 ⟨a3, c3, rfl, _, hB⟩
            have HB1 := Lib.hid (HB0.out.trans (hB.mono HB0.out.size)); clear hB hc M3
            go_wp2_with fail
            go_roundw
            case rel => exact ⟨k + 1, by omega, by go_num, HB1.out⟩
            case measure => simp [intOf]; omega
          · have hkl : decide ((k : Int) < (ds.length : Int)) = false := decide_eq_false (by omega)
            clear HD_11 HR3_11
            have HB_12 := Lib.hid (HB_11.out.trans (HB0.out.mono HB_11.out.size))
            have HH1_12 := Lib.hid (HH1_11.out.below HB0.out)
            have HR1_12 := Lib.hid (HR1_11.out.below HB0.out)
            clear HH1_11 HR1_11 HB_11
            clear HB0
            go_wp2_with fail
            refine (M1.out _ HH1_12.out HR1_12.out).mono ?_; rintro e u12 ⟨rfl, hB⟩
            have HB_13 := Lib.hid (HB_12.out.trans (hB.mono HB_12.out.size))
            have HH1_13 := Lib.hid (HH1_12.out.below hB)
            have HR1_13 := Lib.hid (HR1_12.out.below hB)
            clear HH1_12 HR1_12 HB_12
            clear hB
            go_wp2_with fail
            refine (M2.out _ HR1_13.out).mono ?_; rintro e u13 ⟨aO, capO, rfl, _, hB⟩
            have HB_14 := Lib.hid (HB_13.out.trans (hB.mono HB_13.out.size))
            have HH1_14 := Lib.hid (HH1_13.out.below hB)
            have HR1_14 := Lib.hid (HR1_13.out.below hB)
            clear HH1_13 HR1_13 HB_13
            clear hB
            go_wp2_with fail
            go_ret
            exact ⟨rfl, HB_14.out⟩

set_option maxRecDepth 100000 in
theorem lifted (os : Os) (started : os.Started) (H : Type) (enc : TypeId × Value → H) :
    ReturnsInHanded {} Try.checked os 4 .any (Rows.fnRoomForCallsSpec.pre6 enc Try.prog Try.f4 Rows.fnRoomForCallsRow.domain false) (Rows.fnRoomForCallsSpec.post enc Try.prog Try.f4 false true false false) := by
  refine returnsInHanded_of_change (C := Try.checked) own started (by kernel_rfl) Try.func4
    (ChangeSpec.witness6 (enc := enc) (C := Try.checked) false ⟨#[], #[.slice none 0 0], []⟩ 8 (by kernel_rfl) (by kernel_rfl) (by kernel_rfl) (by kernel_rfl)) ?_
  intro W base args ds gs before hval0 hW hcnd _
  have hval : ∀ (j : Nat) t v, Try.f4.params[j]? = some t → args[j]? = some v → Value.okWide Try.prog W .any base t v := hval0
  have hW' := hW
  obtain ⟨p, q, hA0, hV, rfl, hfz, hnd⟩ := hW
  have hA : DataW.TrodAll enc Try.prog W 0 (fun _ => true) true Try.f4.params.toList args.toList ds p := hA0
  rw [Try.params4] at hA hval
  obtain ⟨v0, vs0, d0, ds0, p0, q0, hargs, rfl, rfl, h0, r0⟩ := trodAll_cons hA
  obtain ⟨rfl, rfl, rfl⟩ := trodAll_nil r0
  obtain rfl : args = #[v0] := by cases args; simp_all
  obtain ⟨rfl, rfl⟩ := trodVars_none hV
  obtain ⟨a0, len0, cap0, rfl⟩ := okWide_slice Try.underlying22 (hval 0 22 v0 rfl rfl)
  have k0 := h0
  have lt0 : ∀ x ∈ p0, x.block < W.heap.size := by obtain ⟨m, hm⟩ := k0; exact DataW.trod_lt m _ _ _ hm
  obtain ⟨z0, w0⟩ : ∃ zs, IsRow .u8 W a0 len0 cap0 zs := by
    obtain ⟨fuel, hf⟩ := h0
    rcases open_ints Try.underlying22 Try.underlying5 (by kernel_rfl) hf with ⟨hcs, _⟩ | ⟨x, l, c, zs, hcs, _, hl, hm, hz, _, hcell, hwz⟩
    · simp [Value.cells] at hcs
      obtain ⟨rfl, rfl, rfl⟩ := hcs
      exact ⟨[], .inl ⟨rfl, rfl, rfl, rfl⟩⟩
    · simp [Value.cells] at hcs
      obtain ⟨rfl, rfl, rfl⟩ := hcs
      exact ⟨zs, .inr ⟨_, rfl, hl, hm, by simpa using hz, hcell, hwz⟩⟩
  clear hA0 hval0
  refine (walk W a0 len0 cap0 z0 w0).mono fun e W' ⟨he, bel⟩ => ?_
  subst he
  exact ⟨_, rfl, _, _, _, [], _, [], hW', trodAll_mk1 (shut_bool Try.underlying4 _), (trodAll_cons_mk (Below.trod laidOut (by kernel_rfl) (of_decide_eq_true (by kernel_rfl)) k0 bel lt0) trodAll_mk0), rfl, bel.frame _, fun h => by cases h⟩

theorem over : Rows.fnRoomForCallsRow.holds Try.pinned (OpenSpec.ofChange Rows.fnRoomForCallsSpec) :=
  OpenClaim.holds_of_wide 4 Try.f4 rfl rfl rfl rfl rfl rfl rfl ⟨rfl, rfl, rfl, rfl, rfl⟩ rfl rfl rfl rfl rfl (by kernel_rfl) Try.func4 (by kernel_rfl)
    (of_decide_eq_true (by kernel_rfl)) (by unfold Func.isWrapper; first | (rw [if_pos (by decide +kernel)]; kernel_rfl) | (rw [if_neg (by decide +kernel)]; exact ⟨rfl, rfl⟩))
    (fun os started H enc _ => lifted os started H enc)

/-- The statement. -/
theorem proved : Rows.FnRoomForCallsSaid := over
end Go.Proofs.Ytekhdggaelppkaa.fnRoomForCalls
