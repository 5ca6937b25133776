/- Proved: for every code, laws.FnPoolTexts returns true and leaves its argument as it was: a pool is recovered from its text. The condition: the variables listed are laid. -/
import Derived.Test.YtjnicmlomjppnaaGreatDoorRows
import Derived.Test.YtjnicmlomjppnaaGreatDoorCards
import Derived.Test.YtjnicmlomjppnaaGreatDoorTie
import Derived.WalkKit
import Derived.ProofKit
import Derived.OpenShut
import Derived.ShutString
import Derived.ChangeOld
import Derived.Below
import Derived.SliceStrings
import Derived.Lib.Hide
import Derived.Deep.DeepHandedRow
import Derived.Deep.DeepWitnessRowRef
import Derived.SevenTiedAt
import Derived.Test.YtjnicmlomjppnaaGreatDoorBase0
import Derived.Test.YtjnicmlomjppnaaGreatDoorPure87
import Derived.Test.YtjnicmlomjppnaaGreatDoorIntL
import Derived.Test.YtjnicmlomjppnaaGreatDoorBuildI
import Derived.Test.YtjnicmlomjppnaaGreatDoorBuild8
import Derived.Test.YtjnicmlomjppnaaGreatDoorRowV
import Derived.Test.YtjnicmlomjppnaaGreatDoorPoolA
import Derived.Test.YtjnicmlomjppnaaGreatDoorBig
import Derived.Test.YtjnicmlomjppnaaGreatDoorLikeInt
import Derived.Test.YtjnicmlomjppnaaGreatDoorSpec80
import Derived.Test.YtjnicmlomjppnaaGreatDoorImpl8b
import Derived.Test.YtjnicmlomjppnaaGreatDoorText8
import Derived.Test.YtjnicmlomjppnaaGreatDoorRead8
import Derived.Test.YtjnicmlomjppnaaGreatDoorRead8I
import Derived.Test.YtjnicmlomjppnaaGreatDoorDraw8b
import Derived.Test.YtjnicmlomjppnaaGreatDoorDraw8c
import Derived.Test.YtjnicmlomjppnaaGreatDoorDraw8t
import Derived.Test.YtjnicmlomjppnaaGreatDoorLawP8
import Derived.Test.YtjnicmlomjppnaaGreatDoorLikeP8
import Derived.Test.YtjnicmlomjppnaaGreatDoorDoorW
import Derived.Test.YtjnicmlomjppnaaGreatDoorDoorE
namespace Go.Proofs.YtjnicmlomjppnaaGreatDoor.fnPoolTexts
open Go.ChangeShapes Go.WideShapes Go.ChangeAt Go.RowKit
open Go.ChangeMaps (open_string shut_string)
open Pure2 Pure4 Pure6 Pure30 Pure40 Pure80 Pure86 Rec
set_option linter.unusedVariables false

theorem own : ownKnob Tryz.prog.godebug = none := by kernel_rfl
theorem laidOut : laidOutB Tryz.prog = true := by kernel_rfl

/-- What the walk is told of a slice of integers that came in: it is nil, or it leads to a row of cap cells, the numbers zs. -/
def IsRow (k : IntKind) (w : World) (a : Option Addr) (len cap : Nat) (zs : List Int) : Prop :=
  (a = none ∧ len = 0 ∧ cap = 0 ∧ zs = []) ∨
  ∃ x, a = some x ∧ len ≤ cap ∧ cap ≤ maxLen ∧ zs.length = cap ∧ (∀ i, i < zs.length → w.cell? (x.add i) = some (.int k (zs.getD i 0))) ∧ ∀ n ∈ zs, (Lit.int k n).wf = true

set_option maxRecDepth 100000 in
set_option maxHeartbeats 4000000 in
theorem walk (w : World) (hL : laidMetH Tryz.prog Rows.fnPoolTextsRow.laid w) (hsh : w.ShapedOpen Tryz.prog) (a0 : Option Addr) (len0 cap0 : Nat) (z0 : List Int) (w0 : IsRow .u8 w a0 len0 cap0 z0) :
    Calls Tryz.prog 3 #[.slice a0 len0 cap0] w fun e w' => e = .returned (.bool true) ∧ Below w.heap.size w w' := by
  have hM := maxAt_of hsh
  have hT := tabs_of hL (by simp [Rows.fnPoolTextsRow])
  have hE := errs_of hL (by simp [Rows.fnPoolTextsRow]) (by simp [Rows.fnPoolTextsRow])
  have HME := Lib.hid (fun (W : World) (hB : Below w.heap.size w W) => (show MaxAt W ∧ ErrsAt W ∧ Tabs Tryz.prog W from ⟨hM.below hB, hE.below hB, hT.below Tryz.gPow hB⟩))
  clear hL hsh hM hT hE
  obtain ⟨hl, hY⟩ := bytes_of_row w0
  generalize z0.take len0 = bs at hl hY
  have HL := Lib.hid hl; have HY := Lib.hid hY; clear hl hY w0
  have HBig := Lib.hid (lawsBig_any a0 len0 cap0 w)
  by_cases hb : 4096 < len0
  · rw [decide_eq_true hb] at HBig
    go_enter Tryz.func3, Tryz.ntmps3
    go_wp2_with fail
    refine HBig.out.mono ?_; rintro e w' ⟨rfl, rfl⟩
    go_wp2_with fail
    go_ret
    exact ⟨rfl, Below.refl _ _⟩
  · rw [decide_eq_false hb] at HBig
    have hm : len0 ≤ 4096 := by omega
    clear hb
    go_enter Tryz.func3, Tryz.ntmps3
    go_wp2_with fail
    refine HBig.out.mono ?_; rintro e w' ⟨rfl, rfl⟩
    clear HBig
    go_wp2_with fail
    refine (specDrawPoolText_any a0 len0 cap0 bs w HL.out hm HY.out).mono ?_; rintro e u1 ⟨w0, w1, q1, rfl, h0, h1, hq, hB⟩
    have HB := Lib.hid (hB)
    clear hB
    obtain ⟨a10, c10, rfl, _⟩ := h0.slice
    obtain ⟨a11, c11, rfl, _⟩ := h1.slice
    have n10 := h0.nilcap; have n11 := h1.nilcap; have l11 := h1.lencap.2; have hq1 := hq; have hq1a := hq.1; have hq1b := hq.2
    have HP1 := Lib.hid (poolIn_of_build h0 h1 hq)
    clear h0 h1 hq
    obtain ⟨t1, k1, h3, hok, hF⟩ := pool_there q1
    have HF := Lib.hid hF
    clear hF
    have C1 := Lib.hid (fun W (hx : PoolV.In W a10 q1.nums.length a11 q1.drawn.length q1) (ht : Tabs Tryz.prog W) => show Calls Tryz.prog 6 #[.agg #[.slice a10 q1.nums.length c10, .slice a11 q1.drawn.length c11, .int .i64 q1.state]] W (SaysT2 t1 k1 W) from by have e := implPoolText_any a10 q1.nums.length c10 a11 q1.drawn.length c11 q1 W hx l11 (by omega) ht; rw [h3] at e; exact e)
    have C2 := Lib.hid (fun W (hx : PoolV.In W a10 q1.nums.length a11 q1.drawn.length q1) => show Calls Tryz.prog 7 #[.agg #[.slice a10 q1.nums.length c10, .slice a11 q1.drawn.length c11, .int .i64 q1.state]] W (SaysT2 t1 k1 W) from by have e := specPoolText_any a10 q1.nums.length c10 a11 q1.drawn.length c11 q1 W hx l11; rw [h3] at e; exact e)
    have E1 := Lib.hid (fun W (hx : PoolV.In W a10 q1.nums.length a11 q1.drawn.length q1) => show Calls Tryz.prog 12 #[.agg #[.slice a10 q1.nums.length c10, .slice a11 q1.drawn.length c11, .int .i64 q1.state]] W (SaysP (k1 == 0) W) from by have e := implIsPool8_any a10 q1.nums.length c10 a11 q1.drawn.length c11 q1 W hx l11 (by omega); rw [hok] at e; exact e)
    clear h3 hok
    have hB := boxed u1 (.cells #[.slice a10 q1.nums.length c10, .slice a11 q1.drawn.length c11, .int .i64 q1.state] 26)
    have HB_2 := Lib.hid (HB.out.trans (hB.mono HB.out.size))
    have HP1_2 := Lib.hid (HP1.out.below hB)
    clear HP1 HB
    clear hB
    have HX1 := Lib.hid (PoolV.boxed u1 a10 q1.nums.length c10 a11 q1.drawn.length c11 q1 26)
    obtain ⟨bX10, bX11, bX12⟩ := HX1.out
    go_wp2_with fail
    clear bX10 bX11 bX12
    generalize u1.alloc (.cells #[.slice a10 q1.nums.length c10, .slice a11 q1.drawn.length c11, .int .i64 q1.state] 26) = v1 at HP1_2 HX1 HB_2 ⊢
    obtain ⟨r1, hr1⟩ : ∃ r, u1.heap.size = r := ⟨_, rfl⟩
    rw [hr1] at HX1 ⊢
    clear hr1
    refine (C1.out _ HP1_2.out (HME.out _ HB_2.out).2.2).mono ?_; rintro e u2 ⟨rfl, hB⟩
    have HB_3 := Lib.hid (HB_2.out.trans (hB.mono HB_2.out.size))
    have HP1_3 := Lib.hid (HP1_2.out.below hB)
    have HX1_3 := Lib.hid (HX1.out.below hB)
    clear HP1_2 HX1 HB_2
    clear hB
    obtain ⟨bX10, bX11, bX12⟩ := HX1_3.out
    go_wp2_with fail
    clear bX10 bX11 bX12
    refine (C2.out _ HP1_3.out).mono ?_; rintro e u3 ⟨rfl, hB⟩
    have HB_4 := Lib.hid (HB_3.out.trans (hB.mono HB_3.out.size))
    have HP1_4 := Lib.hid (HP1_3.out.below hB)
    have HX1_4 := Lib.hid (HX1_3.out.below hB)
    clear HP1_3 HX1_3 HB_3
    clear hB
    clear C1 C2
    go_wp2_with fail
    refine (specDrawReadPool_any a0 len0 cap0 bs u3 HL.out hm (HY.out.later HB_4.out)).mono ?_; rintro e u4 ⟨s, rfl, hs, hB⟩
    have HB_5 := Lib.hid (HB_4.out.trans (hB.mono HB_4.out.size))
    have HP1_5 := Lib.hid (HP1_4.out.below hB)
    have HX1_5 := Lib.hid (HX1_4.out.below hB)
    clear HP1_4 HX1_4 HB_4
    clear hB
    obtain ⟨y, k2, h3, hy0, hy1, hG⟩ := pool_back s
    have HG := Lib.hid hG
    clear hG
    have hqy : SmallQ y := ⟨by omega, by omega⟩
    have C1 := Lib.hid (fun W (hm : MaxAt W ∧ ErrsAt W ∧ Tabs Tryz.prog W) => show Calls Tryz.prog 9 #[.string s] W (SaysQO y k2 W) from by have e := implReadPool_any s W (by omega) hm.1 hm.2.1 hm.2.2; rw [h3] at e; exact e)
    have C2 := Lib.hid (fun W => show Calls Tryz.prog 10 #[.string s] W (SaysQ y k2 W) from by have e := specReadPool_any s W (by omega); rw [h3] at e; exact e)
    clear h3
    go_wp2_with fail
    refine (C1.out _ (HME.out _ HB_5.out)).mono ?_; rintro e u5 ⟨a50, c50, a51, c51, rfl, o0, o1, _, _, _, hB, hcp⟩
    have HB_6 := Lib.hid (HB_5.out.trans (hB.mono HB_5.out.size))
    have HP1_6 := Lib.hid (HP1_5.out.below hB)
    have HX1_6 := Lib.hid (HX1_5.out.below hB)
    clear HP1_5 HX1_5 HB_5
    have l51 := hcp
    have HP5 := Lib.hid (show PoolV.In u5 a50 y.nums.length a51 y.drawn.length y from ⟨⟨rfl, by unfold maxLen; omega, ownI_reads o0⟩, ⟨rfl, by unfold maxLen; omega, ownI_reads o1⟩⟩)
    clear o0 o1 hcp hB
    have hB := boxed u5 (.cells #[.slice a50 y.nums.length c50, .slice a51 y.drawn.length c51, .int .i64 y.state] 26)
    have HB_7 := Lib.hid (HB_6.out.trans (hB.mono HB_6.out.size))
    have HP1_7 := Lib.hid (HP1_6.out.below hB)
    have HX1_7 := Lib.hid (HX1_6.out.below hB)
    have HP5_7 := Lib.hid (HP5.out.below hB)
    clear HP1_6 HX1_6 HP5 HB_6
    clear hB
    have HX5 := Lib.hid (PoolV.boxed u5 a50 y.nums.length c50 a51 y.drawn.length c51 y 26)
    go_wp2_with fail
    generalize u5.alloc (.cells #[.slice a50 y.nums.length c50, .slice a51 y.drawn.length c51, .int .i64 y.state] 26) = v5 at HP1_7 HX1_7 HP5_7 HX5 HB_7 ⊢
    obtain ⟨r5, hr5⟩ : ∃ r, u5.heap.size = r := ⟨_, rfl⟩
    rw [hr5] at HX5 ⊢
    clear hr5
    refine (C2.out _).mono ?_; rintro e u6 ⟨a60, c60, a61, c61, rfl, hIn, l61, hB⟩
    have HB_8 := Lib.hid (HB_7.out.trans (hB.mono HB_7.out.size))
    have HP1_8 := Lib.hid (HP1_7.out.below hB)
    have HX1_8 := Lib.hid (HX1_7.out.below hB)
    have HP5_8 := Lib.hid (HP5_7.out.below hB)
    have HX5_8 := Lib.hid (HX5.out.below hB)
    clear HP1_7 HX1_7 HP5_7 HX5 HB_7
    have HP6 := Lib.hid (hIn)
    clear hIn hB C1 C2
    have hB := boxed u6 (.cells #[.slice a60 y.nums.length c60, .slice a61 y.drawn.length c61, .int .i64 y.state] 26)
    have HB_9 := Lib.hid (HB_8.out.trans (hB.mono HB_8.out.size))
    have HP1_9 := Lib.hid (HP1_8.out.below hB)
    have HX1_9 := Lib.hid (HX1_8.out.below hB)
    have HP5_9 := Lib.hid (HP5_8.out.below hB)
    have HX5_9 := Lib.hid (HX5_8.out.below hB)
    have HP6_9 := Lib.hid (HP6.out.below hB)
    clear HP1_8 HX1_8 HP5_8 HX5_8 HP6 HB_8
    clear hB
    have HX6 := Lib.hid (PoolV.boxed u6 a60 y.nums.length c60 a61 y.drawn.length c61 y 26)
    obtain ⟨bX50, bX51, bX52⟩ := HX5_9.out
    obtain ⟨bX60, bX61, bX62⟩ := HX6.out
    go_wp2_with fail
    clear bX50 bX51 bX52
    clear bX60 bX61 bX62
    generalize u6.alloc (.cells #[.slice a60 y.nums.length c60, .slice a61 y.drawn.length c61, .int .i64 y.state] 26) = v6 at HP1_9 HX1_9 HP5_9 HX5_9 HP6_9 HX6 HB_9 ⊢
    obtain ⟨r6, hr6⟩ : ∃ r, u6.heap.size = r := ⟨_, rfl⟩
    rw [hr6] at HX6 ⊢
    clear hr6
    refine (likePool_same8 a50 a51 a60 a61 c50 c51 c60 c61 y v6 HP5_9.out HP6_9.out hqy).mono ?_; rintro e u7 ⟨rfl, hB⟩
    have HB_10 := Lib.hid (HB_9.out.trans (hB.mono HB_9.out.size))
    have HP1_10 := Lib.hid (HP1_9.out.below hB)
    have HX1_10 := Lib.hid (HX1_9.out.below hB)
    have HP5_10 := Lib.hid (HP5_9.out.below hB)
    have HX5_10 := Lib.hid (HX5_9.out.below hB)
    have HP6_10 := Lib.hid (HP6_9.out.below hB)
    have HX6_10 := Lib.hid (HX6.out.below hB)
    clear HP1_9 HX1_9 HP5_9 HX5_9 HP6_9 HX6 HB_9
    clear hB
    clear HP6_10 HX6_10
    obtain ⟨bX10, bX11, bX12⟩ := HX1_10.out
    go_wp2_with fail
    clear bX10 bX11 bX12
    refine (E1.out _ HP1_10.out).mono ?_; rintro e u8 ⟨rfl, hB⟩
    have HB_11 := Lib.hid (HB_10.out.trans (hB.mono HB_10.out.size))
    have HP1_11 := Lib.hid (HP1_10.out.below hB)
    have HX1_11 := Lib.hid (HX1_10.out.below hB)
    have HP5_11 := Lib.hid (HP5_10.out.below hB)
    have HX5_11 := Lib.hid (HX5_10.out.below hB)
    clear HP1_10 HX1_10 HP5_10 HX5_10 HB_10
    clear hB
    clear E1
    rcases HG.out with ⟨hk2, hts⟩ | hk2
    · subst hk2
      have D1 := Lib.hid (fun W (hx : PoolV.In W a50 y.nums.length a51 y.drawn.length y) (ht : Tabs Tryz.prog W) => show Calls Tryz.prog 6 #[.agg #[.slice a50 y.nums.length c50, .slice a51 y.drawn.length c51, .int .i64 y.state]] W (SaysT2 s 0 W) from by have e := implPoolText_any a50 y.nums.length c50 a51 y.drawn.length c51 y W hx l51 (by omega) ht; rw [hts] at e; exact e)
      clear hts
      obtain ⟨bX50, bX51, bX52⟩ := HX5_11.out
      go_wp2_with fail
      clear bX50 bX51 bX52
      refine (D1.out _ HP5_11.out (HME.out _ HB_11.out).2.2).mono ?_; rintro e u9 ⟨rfl, hB⟩
      have HB_12 := Lib.hid (HB_11.out.trans (hB.mono HB_11.out.size))
      have HP1_12 := Lib.hid (HP1_11.out.below hB)
      have HX1_12 := Lib.hid (HX1_11.out.below hB)
      have HP5_12 := Lib.hid (HP5_11.out.below hB)
      have HX5_12 := Lib.hid (HX5_11.out.below hB)
      clear HP1_11 HX1_11 HP5_11 HX5_11 HB_11
      clear hB
      clear D1
      clear HP5_12 HX5_12
      rcases HF.out with ⟨hk1, hrt, htz⟩ | hk1
      · subst hk1
        have D2 := Lib.hid (fun W (hm : MaxAt W ∧ ErrsAt W ∧ Tabs Tryz.prog W) => show Calls Tryz.prog 9 #[.string t1] W (SaysQO q1 0 W) from by have e := implReadPool_any t1 W (by omega) hm.1 hm.2.1 hm.2.2; rw [hrt] at e; exact e)
        clear hrt
        go_wp2_with fail
        refine (D2.out _ (HME.out _ HB_12.out)).mono ?_; rintro e u10 ⟨a70, c70, a71, c71, rfl, o0, o1, _, _, _, hB, hcp⟩
        have HB_13 := Lib.hid (HB_12.out.trans (hB.mono HB_12.out.size))
        have HP1_13 := Lib.hid (HP1_12.out.below hB)
        have HX1_13 := Lib.hid (HX1_12.out.below hB)
        clear HP1_12 HX1_12 HB_12
        have l71 := hcp
        have HP7 := Lib.hid (show PoolV.In u10 a70 q1.nums.length a71 q1.drawn.length q1 from ⟨⟨rfl, by unfold maxLen; omega, ownI_reads o0⟩, ⟨rfl, by unfold maxLen; omega, ownI_reads o1⟩⟩)
        clear o0 o1 hcp hB
        clear D2
        have hB := boxed u10 (.cells #[.slice a70 q1.nums.length c70, .slice a71 q1.drawn.length c71, .int .i64 q1.state] 26)
        have HB_14 := Lib.hid (HB_13.out.trans (hB.mono HB_13.out.size))
        have HP1_14 := Lib.hid (HP1_13.out.below hB)
        have HX1_14 := Lib.hid (HX1_13.out.below hB)
        have HP7_14 := Lib.hid (HP7.out.below hB)
        clear HP1_13 HX1_13 HP7 HB_13
        clear hB
        have HX7 := Lib.hid (PoolV.boxed u10 a70 q1.nums.length c70 a71 q1.drawn.length c71 q1 26)
        obtain ⟨bX70, bX71, bX72⟩ := HX7.out
        obtain ⟨bX10, bX11, bX12⟩ := HX1_14.out
        go_wp2_with fail
        clear bX70 bX71 bX72
        clear bX10 bX11 bX12
        generalize u10.alloc (.cells #[.slice a70 q1.nums.length c70, .slice a71 q1.drawn.length c71, .int .i64 q1.state] 26) = v7 at HP1_14 HX1_14 HP7_14 HX7 HB_14 ⊢
        obtain ⟨r7, hr7⟩ : ∃ r, u10.heap.size = r := ⟨_, rfl⟩
        rw [hr7] at HX7 ⊢
        clear hr7
        refine (likePool_same8 a70 a71 a10 a11 c70 c71 c10 c11 q1 v7 HP7_14.out HP1_14.out hq1).mono ?_; rintro e u11 ⟨rfl, hB⟩
        have HB_15 := Lib.hid (HB_14.out.trans (hB.mono HB_14.out.size))
        have HP1_15 := Lib.hid (HP1_14.out.below hB)
        have HX1_15 := Lib.hid (HX1_14.out.below hB)
        have HP7_15 := Lib.hid (HP7_14.out.below hB)
        have HX7_15 := Lib.hid (HX7.out.below hB)
        clear HP1_14 HX1_14 HP7_14 HX7 HB_14
        clear hB
        go_wp2_with fail
        go_ret
        exact ⟨rfl, HB_15.out⟩
      · subst hk1
        go_wp2_with fail
        go_ret
        exact ⟨rfl, HB_12.out⟩
    · subst hk2
      clear HP5_11 HX5_11
      rcases HF.out with ⟨hk1, hrt, htz⟩ | hk1
      · subst hk1
        have D2 := Lib.hid (fun W (hm : MaxAt W ∧ ErrsAt W ∧ Tabs Tryz.prog W) => show Calls Tryz.prog 9 #[.string t1] W (SaysQO q1 0 W) from by have e := implReadPool_any t1 W (by omega) hm.1 hm.2.1 hm.2.2; rw [hrt] at e; exact e)
        clear hrt
        go_wp2_with fail
        refine (D2.out _ (HME.out _ HB_11.out)).mono ?_; rintro e u10 ⟨a70, c70, a71, c71, rfl, o0, o1, _, _, _, hB, hcp⟩
        have HB_12 := Lib.hid (HB_11.out.trans (hB.mono HB_11.out.size))
        have HP1_12 := Lib.hid (HP1_11.out.below hB)
        have HX1_12 := Lib.hid (HX1_11.out.below hB)
        clear HP1_11 HX1_11 HB_11
        have l71 := hcp
        have HP7 := Lib.hid (show PoolV.In u10 a70 q1.nums.length a71 q1.drawn.length q1 from ⟨⟨rfl, by unfold maxLen; omega, ownI_reads o0⟩, ⟨rfl, by unfold maxLen; omega, ownI_reads o1⟩⟩)
        clear o0 o1 hcp hB
        clear D2
        have hB := boxed u10 (.cells #[.slice a70 q1.nums.length c70, .slice a71 q1.drawn.length c71, .int .i64 q1.state] 26)
        have HB_13 := Lib.hid (HB_12.out.trans (hB.mono HB_12.out.size))
        have HP1_13 := Lib.hid (HP1_12.out.below hB)
        have HX1_13 := Lib.hid (HX1_12.out.below hB)
        have HP7_13 := Lib.hid (HP7.out.below hB)
        clear HP1_12 HX1_12 HP7 HB_12
        clear hB
        have HX7 := Lib.hid (PoolV.boxed u10 a70 q1.nums.length c70 a71 q1.drawn.length c71 q1 26)
        obtain ⟨bX70, bX71, bX72⟩ := HX7.out
        obtain ⟨bX10, bX11, bX12⟩ := HX1_13.out
        go_wp2_with fail
        clear bX70 bX71 bX72
        clear bX10 bX11 bX12
        generalize u10.alloc (.cells #[.slice a70 q1.nums.length c70, .slice a71 q1.drawn.length c71, .int .i64 q1.state] 26) = v7 at HP1_13 HX1_13 HP7_13 HX7 HB_13 ⊢
        obtain ⟨r7, hr7⟩ : ∃ r, u10.heap.size = r := ⟨_, rfl⟩
        rw [hr7] at HX7 ⊢
        clear hr7
        refine (likePool_same8 a70 a71 a10 a11 c70 c71 c10 c11 q1 v7 HP7_13.out HP1_13.out hq1).mono ?_; rintro e u11 ⟨rfl, hB⟩
        have HB_14 := Lib.hid (HB_13.out.trans (hB.mono HB_13.out.size))
        have HP1_14 := Lib.hid (HP1_13.out.below hB)
        have HX1_14 := Lib.hid (HX1_13.out.below hB)
        have HP7_14 := Lib.hid (HP7_13.out.below hB)
        have HX7_14 := Lib.hid (HX7.out.below hB)
        clear HP1_13 HX1_13 HP7_13 HX7 HB_13
        clear hB
        go_wp2_with fail
        go_ret
        exact ⟨rfl, HB_14.out⟩
      · subst hk1
        go_wp2_with fail
        go_ret
        exact ⟨rfl, HB_11.out⟩

/-- A start that fits: the heap that the variables' own initialisers leave (and the pinned table, where the row lists one). -/
theorem laid_met (os : Os) : laidMetH Tryz.prog Rows.fnPoolTextsRow.laid ((doorWorldP os).forCall (fun _ _ => 0) ⟨#[], #[.slice none 0 0], []⟩).memory :=
  laidMetH_of_parts3 (fuel := 8) (laidMet_of_run' 8 (by kernel_rfl) (by kernel_rfl)) (by kernel_rfl) (by kernel_rfl)
theorem reads (os : Os) {H : Type} (enc : TypeId × Value → H) : DataW.whole enc Tryz.prog ((doorWorldP os).forCall (fun _ _ => 0) ⟨#[], #[.slice none 0 0], []⟩).memory Tryz.f3.params.toList Rows.fnPoolTextsSpec.vars false (#[.slice none 0 0] : Array Value).toList 8 = some ([.nil], [], []) :=
  by kernel_rfl

set_option maxRecDepth 100000 in
theorem lifted (os : Os) (started : os.Started) (H : Type) (enc : TypeId × Value → H) (F : Stop.Interp) :
    ReturnsInHanded {} Tryz.checked os 3 .any ((OpenSpec.ofChange Rows.fnPoolTextsSpec).preRow enc Tryz.prog Tryz.f3 Rows.fnPoolTextsRow.domain false Rows.fnPoolTextsRow.laid) (((OpenSpec.ofChange Rows.fnPoolTextsSpec).at F).post enc Tryz.prog Tryz.f3 false true false false) := by
  refine returnsInHanded_of_row (C := Tryz.checked) (s := OpenSpec.ofChange Rows.fnPoolTextsSpec) own started (by kernel_rfl) Tryz.func3
    (witness_row_atRef (enc := enc) (C := Tryz.checked) false (doorWorldP os) #[.slice none 0 0] rfl (by kernel_rfl) (by kernel_rfl) (by kernel_rfl)
      (OpenSpec.preRow_of_cond 8 (reads os enc) (by kernel_rfl) (fun k hk => by cases hk) (by kernel_rfl) (laid_met os))) ?_
  intro W base args ds gs before hval0 hW _ _ _ hL hsh _
  have hval : ∀ (j : Nat) t v, Tryz.f3.params[j]? = some t → args[j]? = some v → Value.okWide Tryz.prog W .any base t v := hval0
  have hW' := hW
  obtain ⟨p, q, hA0, hV, rfl, hfz, hnd⟩ := hW
  have hA : DataW.TrodAll enc Tryz.prog W 0 (fun _ => true) true Tryz.f3.params.toList args.toList ds p := hA0
  rw [Tryz.params3] at hA hval
  obtain ⟨v0, vs0, d0, ds0, p0, q0, hargs, rfl, rfl, h0, r0⟩ := trodAll_cons hA
  obtain ⟨rfl, rfl, rfl⟩ := trodAll_nil r0
  obtain rfl : args = #[v0] := by cases args; simp_all
  obtain ⟨rfl, rfl⟩ := trodVars_none hV
  obtain ⟨a0, len0, cap0, rfl⟩ := okWide_slice Tryz.underlying22 (hval 0 22 v0 rfl rfl)
  have k0 := h0
  have lt0 : ∀ x ∈ p0, x.block < W.heap.size := by obtain ⟨m, hm⟩ := k0; exact DataW.trod_lt m _ _ _ hm
  obtain ⟨z0, w0⟩ : ∃ zs, IsRow .u8 W a0 len0 cap0 zs := by
    obtain ⟨fuel, hf⟩ := h0
    rcases open_ints Tryz.underlying22 Tryz.underlying5 (by kernel_rfl) hf with ⟨hcs, _⟩ | ⟨x, l, c, zs, hcs, _, hl, hm, hz, _, hcell, hwz⟩
    · simp [Value.cells] at hcs
      obtain ⟨rfl, rfl, rfl⟩ := hcs
      exact ⟨[], .inl ⟨rfl, rfl, rfl, rfl⟩⟩
    · simp [Value.cells] at hcs
      obtain ⟨rfl, rfl, rfl⟩ := hcs
      exact ⟨zs, .inr ⟨_, rfl, hl, hm, by simpa using hz, hcell, hwz⟩⟩
  clear hA0 hval0
  refine (walk W hL hsh a0 len0 cap0 z0 w0).mono fun e W' ⟨he, bel⟩ => ?_
  subst he
  exact ⟨_, rfl, _, _, _, [], _, [], hW', trodAll_mk1 (shut_bool Tryz.underlying4 _), (trodAll_cons_mk (Below.trod laidOut (by kernel_rfl) (of_decide_eq_true (by kernel_rfl)) k0 bel lt0) trodAll_mk0), rfl, bel.frame _, fun h => by cases h⟩

theorem said : Rows.FnPoolTextsSaid :=
  OpenClaim.holds_of_cond 3 Tryz.f3 rfl rfl rfl rfl rfl rfl rfl ⟨rfl, rfl, rfl, rfl, rfl⟩ rfl rfl rfl rfl rfl (by kernel_rfl) Tryz.func3 (by kernel_rfl)
    (of_decide_eq_true (by kernel_rfl)) (by unfold Func.isWrapper; first | (rw [if_pos (by decide +kernel)]; kernel_rfl) | (rw [if_neg (by decide +kernel)]; exact ⟨rfl, rfl⟩))
    (fun os started H enc _ F => by rw [OpenClaim.pre_eq_preRow]; exact lifted os started H enc F)

/-- The statement: the tied card. -/
theorem proved : Rows.FnPoolTextsCardSaid :=
  Claim7.holds_tied_plain_at .later [] _ _ _ _ said (fun _ h => by cases h) (by kernel_rfl) (fun _ h => by cases h) fnPoolTexts_row_tie rfl ⟨rfl, rfl⟩ (by kernel_rfl) rfl
    (fun f fn hf hfn => by
      obtain rfl : f = 3 := Option.some.inj ((show Tryz.prog.funcNamed "loop.example/g01027/laws.FnPoolTexts" = some 3 by kernel_rfl).symm.trans hf) |>.symm
      obtain rfl : fn = Tryz.f3 := (Option.some.inj (Tryz.func3.symm.trans hfn)).symm
      exact ⟨by kernel_rfl, fun j t ht => by
        rw [Tryz.params3] at ht
        have hm : t ∈ [22] := by simpa using Array.mem_of_getElem? ht
        have hall : ([22].all fun u => !Tryz.prog.wantsStandIn u) = true := by kernel_rfl
        exact (show Tryz.prog.wantsStandIn t = false by simpa using List.all_eq_true.1 hall t hm)⟩)
    (by kernel_rfl)
end Go.Proofs.YtjnicmlomjppnaaGreatDoor.fnPoolTexts
