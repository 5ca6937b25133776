/- Proved: for every code, laws.FnPools returns true and leaves its argument as it was: what is drawn was left and is left no longer, a pool that was drawn from one state replays, and the answers of chapter 8 are those of their models. No condition. -/
import Derived.Test.YtmpopfcnjgcncaaRows
import Derived.WalkKit
import Derived.ProofKit
import Derived.OpenShut
import Derived.ShutString
import Derived.ChangeOld
import Derived.Below
import Derived.SliceStrings
import Derived.Lib.Hide
import Derived.Test.YtmpopfcnjgcncaaBase
import Derived.Test.YtmpopfcnjgcncaaPure6
import Derived.Test.YtmpopfcnjgcncaaPure80
import Derived.Test.YtmpopfcnjgcncaaIntL
import Derived.Test.YtmpopfcnjgcncaaBuildI
import Derived.Test.YtmpopfcnjgcncaaBuild8
import Derived.Test.YtmpopfcnjgcncaaRowV
import Derived.Test.YtmpopfcnjgcncaaPoolA
import Derived.Test.YtmpopfcnjgcncaaBig
import Derived.Test.YtmpopfcnjgcncaaLikeInt
import Derived.Test.YtmpopfcnjgcncaaSpec80
import Derived.Test.YtmpopfcnjgcncaaSpec81
import Derived.Test.YtmpopfcnjgcncaaSpec83
import Derived.Test.YtmpopfcnjgcncaaSpec84
import Derived.Test.YtmpopfcnjgcncaaSpec85
import Derived.Test.YtmpopfcnjgcncaaSpec86
import Derived.Test.YtmpopfcnjgcncaaImpl8b
import Derived.Test.YtmpopfcnjgcncaaImpl8d
import Derived.Test.YtmpopfcnjgcncaaImpl8e
import Derived.Test.YtmpopfcnjgcncaaImpl8f
import Derived.Test.YtmpopfcnjgcncaaDrawX8
import Derived.Test.YtmpopfcnjgcncaaDrawY8
import Derived.Test.YtmpopfcnjgcncaaLawQ8
namespace Go.Proofs.Ytmpopfcnjgcncaa.fnPools
open Go.ChangeShapes Go.WideShapes Go.ChangeAt Go.RowKit
open Go.ChangeMaps (open_string shut_string)
open Pure2 Pure6 Pure40 Pure60 Pure80
set_option linter.unusedVariables false

theorem own : ownKnob Try.prog.godebug = none := by kernel_rfl
theorem laidOut : laidOutB Try.prog = true := by kernel_rfl

/-- What the walk is told of a slice of integers that came in: it is nil, or it leads to a row of cap cells, the numbers zs. -/
def IsRow (k : IntKind) (w : World) (a : Option Addr) (len cap : Nat) (zs : List Int) : Prop :=
  (a = none ∧ len = 0 ∧ cap = 0 ∧ zs = []) ∨
  ∃ x, a = some x ∧ len ≤ cap ∧ cap ≤ maxLen ∧ zs.length = cap ∧ (∀ i, i < zs.length → w.cell? (x.add i) = some (.int k (zs.getD i 0))) ∧ ∀ n ∈ zs, (Lit.int k n).wf = true

set_option maxRecDepth 100000 in
set_option maxHeartbeats 4000000 in
theorem walk (w : World) (a0 : Option Addr) (len0 cap0 : Nat) (z0 : List Int) (w0 : IsRow .u8 w a0 len0 cap0 z0) :
    Calls Try.prog 3 #[.slice a0 len0 cap0] w fun e w' => e = .returned (.bool true) ∧ Below w.heap.size w w' := by
  obtain ⟨hl, hY⟩ := bytes_of_row w0
  generalize z0.take len0 = bs at hl hY
  have HL := Lib.hid hl; have HY := Lib.hid hY; clear hl hY w0
  have HBig := Lib.hid (lawsBig_any a0 len0 cap0 w)
  by_cases hb : 4096 < len0
  · rw [decide_eq_true hb] at HBig
    go_enter Try.func3, Try.ntmps3
    go_wp2_with fail
    refine HBig.out.mono ?_; rintro e w' ⟨rfl, rfl⟩
    go_wp2_with fail
    go_ret
    exact ⟨rfl, Below.refl _ _⟩
  · rw [decide_eq_false hb] at HBig
    have hm : len0 ≤ 4096 := by omega
    clear hb
    go_enter Try.func3, Try.ntmps3
    go_wp2_with fail
    refine HBig.out.mono ?_; rintro e w' ⟨rfl, rfl⟩
    clear HBig
    go_wp2_with fail
    refine (specDrawTakeFrom_any a0 len0 cap0 bs w HL.out hm HY.out).mono ?_; rintro e u1 ⟨w0, w1, q1, k, rfl, h0, h1, hq, hB⟩
    have HB := Lib.hid (hB)
    clear hB
    obtain ⟨a10, c10, rfl, _⟩ := h0.slice
    obtain ⟨a11, c11, rfl, _⟩ := h1.slice
    have n10 := h0.nilcap; have n11 := h1.nilcap; have l11 := h1.lencap.2; have hq1 := hq; have hq1a := hq.1; have hq1b := hq.2
    have HP1 := Lib.hid (poolIn_of_build h0 h1 hq)
    clear h0 h1 hq
    obtain ⟨qt, os, kt, h3⟩ : ∃ x y z, takeR q1 k = (x, y, z) := ⟨_, _, _, rfl⟩
    have HTF := Lib.hid (take_facts hq1 h3)
    have hqt := HTF.out.1
    have hos := HTF.out.2.1
    have C1 := Lib.hid (fun W (hx : PoolV.In W a10 q1.nums.length a11 q1.drawn.length q1) => show Calls Try.prog 14 #[.agg #[.slice a10 q1.nums.length c10, .slice a11 q1.drawn.length c11, .int .i64 q1.state], .int .i64 k] W (SaysTake qt os kt W) from by have e := implTake8_any a10 q1.nums.length c10 a11 q1.drawn.length c11 q1 k W hx l11 n10 n11 (by omega); rw [h3] at e; exact e)
    have C2 := Lib.hid (fun W (hx : PoolV.In W a10 q1.nums.length a11 q1.drawn.length q1) => show Calls Try.prog 15 #[.agg #[.slice a10 q1.nums.length c10, .slice a11 q1.drawn.length c11, .int .i64 q1.state], .int .i64 k] W (SaysTake qt os kt W) from by have e := specTake8_any a10 q1.nums.length c10 a11 q1.drawn.length c11 q1 k W hx l11 n10 n11; rw [h3] at e; exact e)
    clear h3
    have hB := boxed u1 (.cells #[.slice a10 q1.nums.length c10, .slice a11 q1.drawn.length c11, .int .i64 q1.state] 26)
    have HB_2 := Lib.hid (HB.out.trans (hB.mono HB.out.size))
    have HP1_2 := Lib.hid (HP1.out.below hB)
    clear HP1 HB
    clear hB
    have HX1 := Lib.hid (PoolV.boxed u1 a10 q1.nums.length c10 a11 q1.drawn.length c11 q1 26)
    obtain ⟨bX10, bX11, bX12⟩ := HX1.out
    go_wp2_with fail
    clear bX10 bX11 bX12
    generalize u1.alloc (.cells #[.slice a10 q1.nums.length c10, .slice a11 q1.drawn.length c11, .int .i64 q1.state] 26) = v1 at HP1_2 HX1 HB_2 ⊢
    obtain ⟨r1, hr1⟩ : ∃ r, u1.heap.size = r := ⟨_, rfl⟩
    rw [hr1] at HX1 ⊢
    clear hr1
    refine (C1.out _ HP1_2.out).mono ?_; rintro e u2 ⟨w5, w6, vl, rfl, h0, h1, ho, _, _, _, hB⟩
    have HB_3 := Lib.hid (HB_2.out.trans (hB.mono HB_2.out.size))
    have HP1_3 := Lib.hid (HP1_2.out.below hB)
    have HX1_3 := Lib.hid (HX1.out.below hB)
    clear HP1_2 HX1 HB_2
    clear hB
    have hq := hqt
    obtain ⟨a50, c50, rfl, _⟩ := h0.slice
    obtain ⟨a51, c51, rfl, _⟩ := h1.slice
    have n50 := h0.nilcap; have n51 := h1.nilcap; have l51 := h1.lencap.2; have hq5 := hq; have hq5a := hq.1; have hq5b := hq.2
    have HP5 := Lib.hid (poolIn_of_build h0 h1 hq)
    clear h0 h1 hq
    obtain ⟨aI, cI, rfl, tI⟩ := ho.slice
    have HI := Lib.hid (tI)
    clear ho tI
    have hB := boxed u2 (.cells #[.slice a50 qt.nums.length c50, .slice a51 qt.drawn.length c51, .int .i64 qt.state] 26)
    have HB_4 := Lib.hid (HB_3.out.trans (hB.mono HB_3.out.size))
    have HP1_4 := Lib.hid (HP1_3.out.below hB)
    have HX1_4 := Lib.hid (HX1_3.out.below hB)
    have HP5_4 := Lib.hid (HP5.out.below hB)
    have HI_4 := Lib.hid (HI.out.below hB)
    clear HP1_3 HX1_3 HP5 HI HB_3
    clear hB
    have HX5 := Lib.hid (PoolV.boxed u2 a50 qt.nums.length c50 a51 qt.drawn.length c51 qt 26)
    obtain ⟨bX10, bX11, bX12⟩ := HX1_4.out
    go_wp2_with fail
    clear bX10 bX11 bX12
    generalize u2.alloc (.cells #[.slice a50 qt.nums.length c50, .slice a51 qt.drawn.length c51, .int .i64 qt.state] 26) = v5 at HP1_4 HX1_4 HP5_4 HI_4 HX5 HB_4 ⊢
    obtain ⟨r5, hr5⟩ : ∃ r, u2.heap.size = r := ⟨_, rfl⟩
    rw [hr5] at HX5 ⊢
    clear hr5
    refine (C2.out _ HP1_4.out).mono ?_; rintro e u3 ⟨w7, w8, vl2, rfl, h0, h1, ho, _, _, _, hB⟩
    have HB_5 := Lib.hid (HB_4.out.trans (hB.mono HB_4.out.size))
    have HP1_5 := Lib.hid (HP1_4.out.below hB)
    have HX1_5 := Lib.hid (HX1_4.out.below hB)
    have HP5_5 := Lib.hid (HP5_4.out.below hB)
    have HI_5 := Lib.hid (HI_4.out.below hB)
    have HX5_5 := Lib.hid (HX5.out.below hB)
    clear HP1_4 HX1_4 HP5_4 HI_4 HX5 HB_4
    clear hB C1 C2
    have hq := hqt
    obtain ⟨a60, c60, rfl, _⟩ := h0.slice
    obtain ⟨a61, c61, rfl, _⟩ := h1.slice
    have n60 := h0.nilcap; have n61 := h1.nilcap; have l61 := h1.lencap.2; have hq6 := hq; have hq6a := hq.1; have hq6b := hq.2
    have HP6 := Lib.hid (poolIn_of_build h0 h1 hq)
    clear h0 h1 hq
    obtain ⟨aS, cS, rfl, tS⟩ := ho.slice
    have HS := Lib.hid (tS)
    clear ho tS
    have hB := boxed u3 (.cells #[.slice a60 qt.nums.length c60, .slice a61 qt.drawn.length c61, .int .i64 qt.state] 26)
    have HB_6 := Lib.hid (HB_5.out.trans (hB.mono HB_5.out.size))
    have HP1_6 := Lib.hid (HP1_5.out.below hB)
    have HX1_6 := Lib.hid (HX1_5.out.below hB)
    have HP5_6 := Lib.hid (HP5_5.out.below hB)
    have HI_6 := Lib.hid (HI_5.out.below hB)
    have HX5_6 := Lib.hid (HX5_5.out.below hB)
    have HP6_6 := Lib.hid (HP6.out.below hB)
    have HS_6 := Lib.hid (HS.out.below hB)
    clear HP1_5 HX1_5 HP5_5 HI_5 HX5_5 HP6 HS HB_5
    clear hB
    have HX6 := Lib.hid (PoolV.boxed u3 a60 qt.nums.length c60 a61 qt.drawn.length c61 qt 26)
    go_wp2_with fail
    generalize u3.alloc (.cells #[.slice a60 qt.nums.length c60, .slice a61 qt.drawn.length c61, .int .i64 qt.state] 26) = v6 at HP1_6 HX1_6 HP5_6 HI_6 HX5_6 HP6_6 HS_6 HX6 HB_6 ⊢
    obtain ⟨r6, hr6⟩ : ∃ r, u3.heap.size = r := ⟨_, rfl⟩
    rw [hr6] at HX6 ⊢
    clear hr6
    refine (specDrawIsReplay_any a0 len0 cap0 bs v6 HL.out hm (HY.out.later HB_6.out)).mono ?_; rintro e u4 ⟨w9, w10, q2, st, rfl, h0, h1, hq, hB⟩
    have HB_7 := Lib.hid (HB_6.out.trans (hB.mono HB_6.out.size))
    have HP1_7 := Lib.hid (HP1_6.out.below hB)
    have HX1_7 := Lib.hid (HX1_6.out.below hB)
    have HP5_7 := Lib.hid (HP5_6.out.below hB)
    have HI_7 := Lib.hid (HI_6.out.below hB)
    have HX5_7 := Lib.hid (HX5_6.out.below hB)
    have HP6_7 := Lib.hid (HP6_6.out.below hB)
    have HS_7 := Lib.hid (HS_6.out.below hB)
    have HX6_7 := Lib.hid (HX6.out.below hB)
    clear HP1_6 HX1_6 HP5_6 HI_6 HX5_6 HP6_6 HS_6 HX6 HB_6
    clear hB
    obtain ⟨a20, c20, rfl, _⟩ := h0.slice
    obtain ⟨a21, c21, rfl, _⟩ := h1.slice
    have n20 := h0.nilcap; have n21 := h1.nilcap; have l21 := h1.lencap.2; have hq2 := hq; have hq2a := hq.1; have hq2b := hq.2
    have HP2 := Lib.hid (poolIn_of_build h0 h1 hq)
    clear h0 h1 hq
    obtain ⟨rb, kr, h3⟩ : ∃ x y, replayR q2 st = (x, y) := ⟨_, _, rfl⟩
    have C1 := Lib.hid (fun W (hx : PoolV.In W a20 q2.nums.length a21 q2.drawn.length q2) => show Calls Try.prog 17 #[.agg #[.slice a20 q2.nums.length c20, .slice a21 q2.drawn.length c21, .int .i64 q2.state], .int .i64 st] W (Says8 (.tuple #[.bool rb, .int .i64 kr]) W) from by have e := implReplay8_any a20 q2.nums.length c20 a21 q2.drawn.length c21 q2 st W hx l21 n20 (by omega); rw [h3] at e; exact e)
    have C2 := Lib.hid (fun W (hx : PoolV.In W a20 q2.nums.length a21 q2.drawn.length q2) => show Calls Try.prog 18 #[.agg #[.slice a20 q2.nums.length c20, .slice a21 q2.drawn.length c21, .int .i64 q2.state], .int .i64 st] W (Says8 (.tuple #[.bool rb, .int .i64 kr]) W) from by have e := specReplay8_any a20 q2.nums.length c20 a21 q2.drawn.length c21 q2 st W hx l21 n20; rw [h3] at e; exact e)
    clear h3
    obtain ⟨ok, h3⟩ : ∃ x, isPool q2 = x := ⟨_, rfl⟩
    have E1 := Lib.hid (fun W (hx : PoolV.In W a20 q2.nums.length a21 q2.drawn.length q2) => show Calls Try.prog 27 #[.agg #[.slice a20 q2.nums.length c20, .slice a21 q2.drawn.length c21, .int .i64 q2.state]] W (SaysP ok W) from by have e := implIsPool8_any a20 q2.nums.length c20 a21 q2.drawn.length c21 q2 W hx l21 (by omega); rw [h3] at e; exact e)
    have E2 := Lib.hid (fun W (hx : PoolV.In W a20 q2.nums.length a21 q2.drawn.length q2) => show Calls Try.prog 28 #[.agg #[.slice a20 q2.nums.length c20, .slice a21 q2.drawn.length c21, .int .i64 q2.state]] W (SaysP ok W) from by have e := specIsPool8_any a20 q2.nums.length c20 a21 q2.drawn.length c21 q2 W hx l21; rw [h3] at e; exact e)
    clear h3
    have hB := boxed u4 (.cells #[.slice a20 q2.nums.length c20, .slice a21 q2.drawn.length c21, .int .i64 q2.state] 26)
    have HB_8 := Lib.hid (HB_7.out.trans (hB.mono HB_7.out.size))
    have HP1_8 := Lib.hid (HP1_7.out.below hB)
    have HX1_8 := Lib.hid (HX1_7.out.below hB)
    have HP5_8 := Lib.hid (HP5_7.out.below hB)
    have HI_8 := Lib.hid (HI_7.out.below hB)
    have HX5_8 := Lib.hid (HX5_7.out.below hB)
    have HP6_8 := Lib.hid (HP6_7.out.below hB)
    have HS_8 := Lib.hid (HS_7.out.below hB)
    have HX6_8 := Lib.hid (HX6_7.out.below hB)
    have HP2_8 := Lib.hid (HP2.out.below hB)
    clear HP1_7 HX1_7 HP5_7 HI_7 HX5_7 HP6_7 HS_7 HX6_7 HP2 HB_7
    clear hB
    have HX2 := Lib.hid (PoolV.boxed u4 a20 q2.nums.length c20 a21 q2.drawn.length c21 q2 26)
    obtain ⟨bX20, bX21, bX22⟩ := HX2.out
    go_wp2_with fail
    clear bX20 bX21 bX22
    generalize u4.alloc (.cells #[.slice a20 q2.nums.length c20, .slice a21 q2.drawn.length c21, .int .i64 q2.state] 26) = v2 at HP1_8 HX1_8 HP5_8 HI_8 HX5_8 HP6_8 HS_8 HX6_8 HP2_8 HX2 HB_8 ⊢
    obtain ⟨r2, hr2⟩ : ∃ r, u4.heap.size = r := ⟨_, rfl⟩
    rw [hr2] at HX2 ⊢
    clear hr2
    refine (C1.out _ HP2_8.out).mono ?_; rintro e u5 ⟨rfl, hB⟩
    have HB_9 := Lib.hid (HB_8.out.trans (hB.mono HB_8.out.size))
    have HP1_9 := Lib.hid (HP1_8.out.below hB)
    have HX1_9 := Lib.hid (HX1_8.out.below hB)
    have HP5_9 := Lib.hid (HP5_8.out.below hB)
    have HI_9 := Lib.hid (HI_8.out.below hB)
    have HX5_9 := Lib.hid (HX5_8.out.below hB)
    have HP6_9 := Lib.hid (HP6_8.out.below hB)
    have HS_9 := Lib.hid (HS_8.out.below hB)
    have HX6_9 := Lib.hid (HX6_8.out.below hB)
    have HP2_9 := Lib.hid (HP2_8.out.below hB)
    have HX2_9 := Lib.hid (HX2.out.below hB)
    clear HP1_8 HX1_8 HP5_8 HI_8 HX5_8 HP6_8 HS_8 HX6_8 HP2_8 HX2 HB_8
    clear hB
    obtain ⟨bX20, bX21, bX22⟩ := HX2_9.out
    go_wp2_with fail
    clear bX20 bX21 bX22
    refine (C2.out _ HP2_9.out).mono ?_; rintro e u6 ⟨rfl, hB⟩
    have HB_10 := Lib.hid (HB_9.out.trans (hB.mono HB_9.out.size))
    have HP1_10 := Lib.hid (HP1_9.out.below hB)
    have HX1_10 := Lib.hid (HX1_9.out.below hB)
    have HP5_10 := Lib.hid (HP5_9.out.below hB)
    have HI_10 := Lib.hid (HI_9.out.below hB)
    have HX5_10 := Lib.hid (HX5_9.out.below hB)
    have HP6_10 := Lib.hid (HP6_9.out.below hB)
    have HS_10 := Lib.hid (HS_9.out.below hB)
    have HX6_10 := Lib.hid (HX6_9.out.below hB)
    have HP2_10 := Lib.hid (HP2_9.out.below hB)
    have HX2_10 := Lib.hid (HX2_9.out.below hB)
    clear HP1_9 HX1_9 HP5_9 HI_9 HX5_9 HP6_9 HS_9 HX6_9 HP2_9 HX2_9 HB_9
    clear hB
    clear C1 C2
    go_wp2_with fail
    refine (specDrawMakePool_any a0 len0 cap0 bs u6 HL.out hm (HY.out.later HB_10.out)).mono ?_; rintro e u7 ⟨vn, ns, s3, rfl, h0, hns, hB⟩
    have HB_11 := Lib.hid (HB_10.out.trans (hB.mono HB_10.out.size))
    have HP1_11 := Lib.hid (HP1_10.out.below hB)
    have HX1_11 := Lib.hid (HX1_10.out.below hB)
    have HP5_11 := Lib.hid (HP5_10.out.below hB)
    have HI_11 := Lib.hid (HI_10.out.below hB)
    have HX5_11 := Lib.hid (HX5_10.out.below hB)
    have HP6_11 := Lib.hid (HP6_10.out.below hB)
    have HS_11 := Lib.hid (HS_10.out.below hB)
    have HX6_11 := Lib.hid (HX6_10.out.below hB)
    have HP2_11 := Lib.hid (HP2_10.out.below hB)
    have HX2_11 := Lib.hid (HX2_10.out.below hB)
    clear HP1_10 HX1_10 HP5_10 HI_10 HX5_10 HP6_10 HS_10 HX6_10 HP2_10 HX2_10 HB_10
    clear hB
    obtain ⟨an, cn, rfl, _⟩ := h0.slice
    have nn := h0.nilcap
    have HN := Lib.hid (show IntsIn u7 an ns.length ns from by obtain ⟨_, _, e, t⟩ := h0.slice; cases e; exact ⟨rfl, by unfold maxLen; omega, t⟩)
    clear h0
    obtain ⟨qm, km, h3⟩ : ∃ x y, makeR ns s3 = (x, y) := ⟨_, _, rfl⟩
    have HMF := Lib.hid (make_facts hns h3)
    have hqm := HMF.out.1
    have C1 := Lib.hid (fun W (hx : IntsIn W an ns.length ns) => show Calls Try.prog 20 #[.slice an ns.length cn, .int .i64 s3] W (SaysPool qm km W) from by have e := implMake8_any an ns.length cn ns s3 W hx nn (by omega); rw [h3] at e; exact e)
    have C2 := Lib.hid (fun W (hx : IntsIn W an ns.length ns) => show Calls Try.prog 21 #[.slice an ns.length cn, .int .i64 s3] W (SaysPool qm km W) from by have e := specMake8_any an ns.length cn ns s3 W hx nn (by omega); rw [h3] at e; exact e)
    clear h3
    go_wp2_with fail
    refine (C1.out _ HN.out).mono ?_; rintro e u8 ⟨w11, w12, rfl, h0, h1, _, hB⟩
    have HB_12 := Lib.hid (HB_11.out.trans (hB.mono HB_11.out.size))
    have HP1_12 := Lib.hid (HP1_11.out.below hB)
    have HX1_12 := Lib.hid (HX1_11.out.below hB)
    have HP5_12 := Lib.hid (HP5_11.out.below hB)
    have HI_12 := Lib.hid (HI_11.out.below hB)
    have HX5_12 := Lib.hid (HX5_11.out.below hB)
    have HP6_12 := Lib.hid (HP6_11.out.below hB)
    have HS_12 := Lib.hid (HS_11.out.below hB)
    have HX6_12 := Lib.hid (HX6_11.out.below hB)
    have HP2_12 := Lib.hid (HP2_11.out.below hB)
    have HX2_12 := Lib.hid (HX2_11.out.below hB)
    have HN_12 := Lib.hid (HN.out.below hB)
    clear HP1_11 HX1_11 HP5_11 HI_11 HX5_11 HP6_11 HS_11 HX6_11 HP2_11 HX2_11 HN HB_11
    clear hB
    have hq := hqm
    obtain ⟨a70, c70, rfl, _⟩ := h0.slice
    obtain ⟨a71, c71, rfl, _⟩ := h1.slice
    have n70 := h0.nilcap; have n71 := h1.nilcap; have l71 := h1.lencap.2; have hq7 := hq; have hq7a := hq.1; have hq7b := hq.2
    have HP7 := Lib.hid (poolIn_of_build h0 h1 hq)
    clear h0 h1 hq
    have hB := boxed u8 (.cells #[.slice a70 qm.nums.length c70, .slice a71 qm.drawn.length c71, .int .i64 qm.state] 26)
    have HB_13 := Lib.hid (HB_12.out.trans (hB.mono HB_12.out.size))
    have HP1_13 := Lib.hid (HP1_12.out.below hB)
    have HX1_13 := Lib.hid (HX1_12.out.below hB)
    have HP5_13 := Lib.hid (HP5_12.out.below hB)
    have HI_13 := Lib.hid (HI_12.out.below hB)
    have HX5_13 := Lib.hid (HX5_12.out.below hB)
    have HP6_13 := Lib.hid (HP6_12.out.below hB)
    have HS_13 := Lib.hid (HS_12.out.below hB)
    have HX6_13 := Lib.hid (HX6_12.out.below hB)
    have HP2_13 := Lib.hid (HP2_12.out.below hB)
    have HX2_13 := Lib.hid (HX2_12.out.below hB)
    have HN_13 := Lib.hid (HN_12.out.below hB)
    have HP7_13 := Lib.hid (HP7.out.below hB)
    clear HP1_12 HX1_12 HP5_12 HI_12 HX5_12 HP6_12 HS_12 HX6_12 HP2_12 HX2_12 HN_12 HP7 HB_12
    clear hB
    have HX7 := Lib.hid (PoolV.boxed u8 a70 qm.nums.length c70 a71 qm.drawn.length c71 qm 26)
    go_wp2_with fail
    generalize u8.alloc (.cells #[.slice a70 qm.nums.length c70, .slice a71 qm.drawn.length c71, .int .i64 qm.state] 26) = v7 at HP1_13 HX1_13 HP5_13 HI_13 HX5_13 HP6_13 HS_13 HX6_13 HP2_13 HX2_13 HN_13 HP7_13 HX7 HB_13 ⊢
    obtain ⟨r7, hr7⟩ : ∃ r, u8.heap.size = r := ⟨_, rfl⟩
    rw [hr7] at HX7 ⊢
    clear hr7
    refine (C2.out _ HN_13.out).mono ?_; rintro e u9 ⟨w13, w14, rfl, h0, h1, _, hB⟩
    have HB_14 := Lib.hid (HB_13.out.trans (hB.mono HB_13.out.size))
    have HP1_14 := Lib.hid (HP1_13.out.below hB)
    have HX1_14 := Lib.hid (HX1_13.out.below hB)
    have HP5_14 := Lib.hid (HP5_13.out.below hB)
    have HI_14 := Lib.hid (HI_13.out.below hB)
    have HX5_14 := Lib.hid (HX5_13.out.below hB)
    have HP6_14 := Lib.hid (HP6_13.out.below hB)
    have HS_14 := Lib.hid (HS_13.out.below hB)
    have HX6_14 := Lib.hid (HX6_13.out.below hB)
    have HP2_14 := Lib.hid (HP2_13.out.below hB)
    have HX2_14 := Lib.hid (HX2_13.out.below hB)
    have HN_14 := Lib.hid (HN_13.out.below hB)
    have HP7_14 := Lib.hid (HP7_13.out.below hB)
    have HX7_14 := Lib.hid (HX7.out.below hB)
    clear HP1_13 HX1_13 HP5_13 HI_13 HX5_13 HP6_13 HS_13 HX6_13 HP2_13 HX2_13 HN_13 HP7_13 HX7 HB_13
    clear hB C1 C2
    have hq := hqm
    obtain ⟨a80, c80, rfl, _⟩ := h0.slice
    obtain ⟨a81, c81, rfl, _⟩ := h1.slice
    have n80 := h0.nilcap; have n81 := h1.nilcap; have l81 := h1.lencap.2; have hq8 := hq; have hq8a := hq.1; have hq8b := hq.2
    have HP8 := Lib.hid (poolIn_of_build h0 h1 hq)
    clear h0 h1 hq
    clear HN_14
    have hB := boxed u9 (.cells #[.slice a80 qm.nums.length c80, .slice a81 qm.drawn.length c81, .int .i64 qm.state] 26)
    have HB_15 := Lib.hid (HB_14.out.trans (hB.mono HB_14.out.size))
    have HP1_15 := Lib.hid (HP1_14.out.below hB)
    have HX1_15 := Lib.hid (HX1_14.out.below hB)
    have HP5_15 := Lib.hid (HP5_14.out.below hB)
    have HI_15 := Lib.hid (HI_14.out.below hB)
    have HX5_15 := Lib.hid (HX5_14.out.below hB)
    have HP6_15 := Lib.hid (HP6_14.out.below hB)
    have HS_15 := Lib.hid (HS_14.out.below hB)
    have HX6_15 := Lib.hid (HX6_14.out.below hB)
    have HP2_15 := Lib.hid (HP2_14.out.below hB)
    have HX2_15 := Lib.hid (HX2_14.out.below hB)
    have HP7_15 := Lib.hid (HP7_14.out.below hB)
    have HX7_15 := Lib.hid (HX7_14.out.below hB)
    have HP8_15 := Lib.hid (HP8.out.below hB)
    clear HP1_14 HX1_14 HP5_14 HI_14 HX5_14 HP6_14 HS_14 HX6_14 HP2_14 HX2_14 HP7_14 HX7_14 HP8 HB_14
    clear hB
    have HX8 := Lib.hid (PoolV.boxed u9 a80 qm.nums.length c80 a81 qm.drawn.length c81 qm 26)
    go_wp2_with fail
    generalize u9.alloc (.cells #[.slice a80 qm.nums.length c80, .slice a81 qm.drawn.length c81, .int .i64 qm.state] 26) = v8 at HP1_15 HX1_15 HP5_15 HI_15 HX5_15 HP6_15 HS_15 HX6_15 HP2_15 HX2_15 HP7_15 HX7_15 HP8_15 HX8 HB_15 ⊢
    obtain ⟨r8, hr8⟩ : ∃ r, u9.heap.size = r := ⟨_, rfl⟩
    rw [hr8] at HX8 ⊢
    clear hr8
    refine (specDrawPutBack_any a0 len0 cap0 bs v8 HL.out hm (HY.out.later HB_15.out)).mono ?_; rintro e u10 ⟨w15, w16, q4, vb, bk, rfl, h0, h1, hbk, hbl, hq, hB⟩
    have HB_16 := Lib.hid (HB_15.out.trans (hB.mono HB_15.out.size))
    have HP1_16 := Lib.hid (HP1_15.out.below hB)
    have HX1_16 := Lib.hid (HX1_15.out.below hB)
    have HP5_16 := Lib.hid (HP5_15.out.below hB)
    have HI_16 := Lib.hid (HI_15.out.below hB)
    have HX5_16 := Lib.hid (HX5_15.out.below hB)
    have HP6_16 := Lib.hid (HP6_15.out.below hB)
    have HS_16 := Lib.hid (HS_15.out.below hB)
    have HX6_16 := Lib.hid (HX6_15.out.below hB)
    have HP2_16 := Lib.hid (HP2_15.out.below hB)
    have HX2_16 := Lib.hid (HX2_15.out.below hB)
    have HP7_16 := Lib.hid (HP7_15.out.below hB)
    have HX7_16 := Lib.hid (HX7_15.out.below hB)
    have HP8_16 := Lib.hid (HP8_15.out.below hB)
    have HX8_16 := Lib.hid (HX8.out.below hB)
    clear HP1_15 HX1_15 HP5_15 HI_15 HX5_15 HP6_15 HS_15 HX6_15 HP2_15 HX2_15 HP7_15 HX7_15 HP8_15 HX8 HB_15
    clear hB
    obtain ⟨a40, c40, rfl, _⟩ := h0.slice
    obtain ⟨a41, c41, rfl, _⟩ := h1.slice
    have n40 := h0.nilcap; have n41 := h1.nilcap; have l41 := h1.lencap.2; have hq4 := hq; have hq4a := hq.1; have hq4b := hq.2
    have HP4 := Lib.hid (poolIn_of_build h0 h1 hq)
    clear h0 h1 hq
    obtain ⟨ab, cb, rfl, _⟩ := hbk.slice
    have lb := hbk.lencap.2
    have HK := Lib.hid (show IntsIn u10 ab bk.length bk from by obtain ⟨_, _, e, t⟩ := hbk.slice; cases e; exact ⟨rfl, by unfold maxLen; omega, t⟩)
    clear hbk
    obtain ⟨qp, kp, h3⟩ : ∃ x y, putR q4 bk = (x, y) := ⟨_, _, rfl⟩
    have HPF := Lib.hid (put_facts hq4 h3)
    have hqp := HPF.out.1
    have C1 := Lib.hid (fun W (hx : PoolV.In W a40 q4.nums.length a41 q4.drawn.length q4) (hy : IntsIn W ab bk.length bk) => show Calls Try.prog 23 #[.agg #[.slice a40 q4.nums.length c40, .slice a41 q4.drawn.length c41, .int .i64 q4.state], .slice ab bk.length cb] W (SaysPool qp kp W) from by have e := implPut8_any a40 q4.nums.length c40 a41 q4.drawn.length c41 q4 ab bk.length cb bk W hx hy l41 lb n40 n41 (by omega) (by omega); rw [h3] at e; exact e)
    have C2 := Lib.hid (fun W (hx : PoolV.In W a40 q4.nums.length a41 q4.drawn.length q4) (hy : IntsIn W ab bk.length bk) => show Calls Try.prog 24 #[.agg #[.slice a40 q4.nums.length c40, .slice a41 q4.drawn.length c41, .int .i64 q4.state], .slice ab bk.length cb] W (SaysPool qp kp W) from by have e := specPut8_any a40 q4.nums.length c40 a41 q4.drawn.length c41 q4 ab bk.length cb bk W hx hy l41 lb n40; rw [h3] at e; exact e)
    clear h3
    have hB := boxed u10 (.cells #[.slice a40 q4.nums.length c40, .slice a41 q4.drawn.length c41, .int .i64 q4.state] 26)
    have HB_17 := Lib.hid (HB_16.out.trans (hB.mono HB_16.out.size))
    have HP1_17 := Lib.hid (HP1_16.out.below hB)
    have HX1_17 := Lib.hid (HX1_16.out.below hB)
    have HP5_17 := Lib.hid (HP5_16.out.below hB)
    have HI_17 := Lib.hid (HI_16.out.below hB)
    have HX5_17 := Lib.hid (HX5_16.out.below hB)
    have HP6_17 := Lib.hid (HP6_16.out.below hB)
    have HS_17 := Lib.hid (HS_16.out.below hB)
    have HX6_17 := Lib.hid (HX6_16.out.below hB)
    have HP2_17 := Lib.hid (HP2_16.out.below hB)
    have HX2_17 := Lib.hid (HX2_16.out.below hB)
    have HP7_17 := Lib.hid (HP7_16.out.below hB)
    have HX7_17 := Lib.hid (HX7_16.out.below hB)
    have HP8_17 := Lib.hid (HP8_16.out.below hB)
    have HX8_17 := Lib.hid (HX8_16.out.below hB)
    have HP4_17 := Lib.hid (HP4.out.below hB)
    have HK_17 := Lib.hid (HK.out.below hB)
    clear HP1_16 HX1_16 HP5_16 HI_16 HX5_16 HP6_16 HS_16 HX6_16 HP2_16 HX2_16 HP7_16 HX7_16 HP8_16 HX8_16 HP4 HK HB_16
    clear hB
    have HX4 := Lib.hid (PoolV.boxed u10 a40 q4.nums.length c40 a41 q4.drawn.length c41 q4 26)
    obtain ⟨bX40, bX41, bX42⟩ := HX4.out
    go_wp2_with fail
    clear bX40 bX41 bX42
    generalize u10.alloc (.cells #[.slice a40 q4.nums.length c40, .slice a41 q4.drawn.length c41, .int .i64 q4.state] 26) = v4 at HP1_17 HX1_17 HP5_17 HI_17 HX5_17 HP6_17 HS_17 HX6_17 HP2_17 HX2_17 HP7_17 HX7_17 HP8_17 HX8_17 HP4_17 HK_17 HX4 HB_17 ⊢
    obtain ⟨r4, hr4⟩ : ∃ r, u10.heap.size = r := ⟨_, rfl⟩
    rw [hr4] at HX4 ⊢
    clear hr4
    refine (C1.out _ HP4_17.out HK_17.out).mono ?_; rintro e u11 ⟨w17, w18, rfl, h0, h1, _, hB⟩
    have HB_18 := Lib.hid (HB_17.out.trans (hB.mono HB_17.out.size))
    have HP1_18 := Lib.hid (HP1_17.out.below hB)
    have HX1_18 := Lib.hid (HX1_17.out.below hB)
    have HP5_18 := Lib.hid (HP5_17.out.below hB)
    have HI_18 := Lib.hid (HI_17.out.below hB)
    have HX5_18 := Lib.hid (HX5_17.out.below hB)
    have HP6_18 := Lib.hid (HP6_17.out.below hB)
    have HS_18 := Lib.hid (HS_17.out.below hB)
    have HX6_18 := Lib.hid (HX6_17.out.below hB)
    have HP2_18 := Lib.hid (HP2_17.out.below hB)
    have HX2_18 := Lib.hid (HX2_17.out.below hB)
    have HP7_18 := Lib.hid (HP7_17.out.below hB)
    have HX7_18 := Lib.hid (HX7_17.out.below hB)
    have HP8_18 := Lib.hid (HP8_17.out.below hB)
    have HX8_18 := Lib.hid (HX8_17.out.below hB)
    have HP4_18 := Lib.hid (HP4_17.out.below hB)
    have HK_18 := Lib.hid (HK_17.out.below hB)
    have HX4_18 := Lib.hid (HX4.out.below hB)
    clear HP1_17 HX1_17 HP5_17 HI_17 HX5_17 HP6_17 HS_17 HX6_17 HP2_17 HX2_17 HP7_17 HX7_17 HP8_17 HX8_17 HP4_17 HK_17 HX4 HB_17
    clear hB
    have hq := hqp
    obtain ⟨a90, c90, rfl, _⟩ := h0.slice
    obtain ⟨a91, c91, rfl, _⟩ := h1.slice
    have n90 := h0.nilcap; have n91 := h1.nilcap; have l91 := h1.lencap.2; have hq9 := hq; have hq9a := hq.1; have hq9b := hq.2
    have HP9 := Lib.hid (poolIn_of_build h0 h1 hq)
    clear h0 h1 hq
    have hB := boxed u11 (.cells #[.slice a90 qp.nums.length c90, .slice a91 qp.drawn.length c91, .int .i64 qp.state] 26)
    have HB_19 := Lib.hid (HB_18.out.trans (hB.mono HB_18.out.size))
    have HP1_19 := Lib.hid (HP1_18.out.below hB)
    have HX1_19 := Lib.hid (HX1_18.out.below hB)
    have HP5_19 := Lib.hid (HP5_18.out.below hB)
    have HI_19 := Lib.hid (HI_18.out.below hB)
    have HX5_19 := Lib.hid (HX5_18.out.below hB)
    have HP6_19 := Lib.hid (HP6_18.out.below hB)
    have HS_19 := Lib.hid (HS_18.out.below hB)
    have HX6_19 := Lib.hid (HX6_18.out.below hB)
    have HP2_19 := Lib.hid (HP2_18.out.below hB)
    have HX2_19 := Lib.hid (HX2_18.out.below hB)
    have HP7_19 := Lib.hid (HP7_18.out.below hB)
    have HX7_19 := Lib.hid (HX7_18.out.below hB)
    have HP8_19 := Lib.hid (HP8_18.out.below hB)
    have HX8_19 := Lib.hid (HX8_18.out.below hB)
    have HP4_19 := Lib.hid (HP4_18.out.below hB)
    have HK_19 := Lib.hid (HK_18.out.below hB)
    have HX4_19 := Lib.hid (HX4_18.out.below hB)
    have HP9_19 := Lib.hid (HP9.out.below hB)
    clear HP1_18 HX1_18 HP5_18 HI_18 HX5_18 HP6_18 HS_18 HX6_18 HP2_18 HX2_18 HP7_18 HX7_18 HP8_18 HX8_18 HP4_18 HK_18 HX4_18 HP9 HB_18
    clear hB
    have HX9 := Lib.hid (PoolV.boxed u11 a90 qp.nums.length c90 a91 qp.drawn.length c91 qp 26)
    obtain ⟨bX40, bX41, bX42⟩ := HX4_19.out
    go_wp2_with fail
    clear bX40 bX41 bX42
    generalize u11.alloc (.cells #[.slice a90 qp.nums.length c90, .slice a91 qp.drawn.length c91, .int .i64 qp.state] 26) = v9 at HP1_19 HX1_19 HP5_19 HI_19 HX5_19 HP6_19 HS_19 HX6_19 HP2_19 HX2_19 HP7_19 HX7_19 HP8_19 HX8_19 HP4_19 HK_19 HX4_19 HP9_19 HX9 HB_19 ⊢
    obtain ⟨r9, hr9⟩ : ∃ r, u11.heap.size = r := ⟨_, rfl⟩
    rw [hr9] at HX9 ⊢
    clear hr9
    refine (C2.out _ HP4_19.out HK_19.out).mono ?_; rintro e u12 ⟨w19, w20, rfl, h0, h1, _, hB⟩
    have HB_20 := Lib.hid (HB_19.out.trans (hB.mono HB_19.out.size))
    have HP1_20 := Lib.hid (HP1_19.out.below hB)
    have HX1_20 := Lib.hid (HX1_19.out.below hB)
    have HP5_20 := Lib.hid (HP5_19.out.below hB)
    have HI_20 := Lib.hid (HI_19.out.below hB)
    have HX5_20 := Lib.hid (HX5_19.out.below hB)
    have HP6_20 := Lib.hid (HP6_19.out.below hB)
    have HS_20 := Lib.hid (HS_19.out.below hB)
    have HX6_20 := Lib.hid (HX6_19.out.below hB)
    have HP2_20 := Lib.hid (HP2_19.out.below hB)
    have HX2_20 := Lib.hid (HX2_19.out.below hB)
    have HP7_20 := Lib.hid (HP7_19.out.below hB)
    have HX7_20 := Lib.hid (HX7_19.out.below hB)
    have HP8_20 := Lib.hid (HP8_19.out.below hB)
    have HX8_20 := Lib.hid (HX8_19.out.below hB)
    have HP4_20 := Lib.hid (HP4_19.out.below hB)
    have HK_20 := Lib.hid (HK_19.out.below hB)
    have HX4_20 := Lib.hid (HX4_19.out.below hB)
    have HP9_20 := Lib.hid (HP9_19.out.below hB)
    have HX9_20 := Lib.hid (HX9.out.below hB)
    clear HP1_19 HX1_19 HP5_19 HI_19 HX5_19 HP6_19 HS_19 HX6_19 HP2_19 HX2_19 HP7_19 HX7_19 HP8_19 HX8_19 HP4_19 HK_19 HX4_19 HP9_19 HX9 HB_19
    clear hB C1 C2
    have hq := hqp
    obtain ⟨a100, c100, rfl, _⟩ := h0.slice
    obtain ⟨a101, c101, rfl, _⟩ := h1.slice
    have n100 := h0.nilcap; have n101 := h1.nilcap; have l101 := h1.lencap.2; have hq10 := hq; have hq10a := hq.1; have hq10b := hq.2
    have HP10 := Lib.hid (poolIn_of_build h0 h1 hq)
    clear h0 h1 hq
    clear HK_20
    have hB := boxed u12 (.cells #[.slice a100 qp.nums.length c100, .slice a101 qp.drawn.length c101, .int .i64 qp.state] 26)
    have HB_21 := Lib.hid (HB_20.out.trans (hB.mono HB_20.out.size))
    have HP1_21 := Lib.hid (HP1_20.out.below hB)
    have HX1_21 := Lib.hid (HX1_20.out.below hB)
    have HP5_21 := Lib.hid (HP5_20.out.below hB)
    have HI_21 := Lib.hid (HI_20.out.below hB)
    have HX5_21 := Lib.hid (HX5_20.out.below hB)
    have HP6_21 := Lib.hid (HP6_20.out.below hB)
    have HS_21 := Lib.hid (HS_20.out.below hB)
    have HX6_21 := Lib.hid (HX6_20.out.below hB)
    have HP2_21 := Lib.hid (HP2_20.out.below hB)
    have HX2_21 := Lib.hid (HX2_20.out.below hB)
    have HP7_21 := Lib.hid (HP7_20.out.below hB)
    have HX7_21 := Lib.hid (HX7_20.out.below hB)
    have HP8_21 := Lib.hid (HP8_20.out.below hB)
    have HX8_21 := Lib.hid (HX8_20.out.below hB)
    have HP4_21 := Lib.hid (HP4_20.out.below hB)
    have HX4_21 := Lib.hid (HX4_20.out.below hB)
    have HP9_21 := Lib.hid (HP9_20.out.below hB)
    have HX9_21 := Lib.hid (HX9_20.out.below hB)
    have HP10_21 := Lib.hid (HP10.out.below hB)
    clear HP1_20 HX1_20 HP5_20 HI_20 HX5_20 HP6_20 HS_20 HX6_20 HP2_20 HX2_20 HP7_20 HX7_20 HP8_20 HX8_20 HP4_20 HX4_20 HP9_20 HX9_20 HP10 HB_20
    clear hB
    have HX10 := Lib.hid (PoolV.boxed u12 a100 qp.nums.length c100 a101 qp.drawn.length c101 qp 26)
    go_wp2_with fail
    generalize u12.alloc (.cells #[.slice a100 qp.nums.length c100, .slice a101 qp.drawn.length c101, .int .i64 qp.state] 26) = v10 at HP1_21 HX1_21 HP5_21 HI_21 HX5_21 HP6_21 HS_21 HX6_21 HP2_21 HX2_21 HP7_21 HX7_21 HP8_21 HX8_21 HP4_21 HX4_21 HP9_21 HX9_21 HP10_21 HX10 HB_21 ⊢
    obtain ⟨r10, hr10⟩ : ∃ r, u12.heap.size = r := ⟨_, rfl⟩
    rw [hr10] at HX10 ⊢
    clear hr10
    go_upto_region 15 with fail
    go_cut [164] from 111 to 163 (fun c W => c = .bool false ∧ Below w.heap.size w W ∧ PoolV.In W a10 q1.nums.length a11 q1.drawn.length q1 ∧ PoolV.In W a50 qt.nums.length a51 qt.drawn.length qt ∧ PoolV.In W a70 qm.nums.length a71 qm.drawn.length qm ∧ (W.cell? ⟨r1, 0, none⟩ = some (.slice a10 q1.nums.length c10) ∧ W.cell? ⟨r1, 1, none⟩ = some (.slice a11 q1.drawn.length c11) ∧ W.cell? ⟨r1, 2, none⟩ = some (.int .i64 q1.state)) ∧ (W.cell? ⟨r5, 0, none⟩ = some (.slice a50 qt.nums.length c50) ∧ W.cell? ⟨r5, 1, none⟩ = some (.slice a51 qt.drawn.length c51) ∧ W.cell? ⟨r5, 2, none⟩ = some (.int .i64 qt.state)) ∧ (W.cell? ⟨r7, 0, none⟩ = some (.slice a70 qm.nums.length c70) ∧ W.cell? ⟨r7, 1, none⟩ = some (.slice a71 qm.drawn.length c71) ∧ W.cell? ⟨r7, 2, none⟩ = some (.int .i64 qm.state)) ∧ (W.cell? ⟨r4, 0, none⟩ = some (.slice a40 q4.nums.length c40) ∧ W.cell? ⟨r4, 1, none⟩ = some (.slice a41 q4.drawn.length c41) ∧ W.cell? ⟨r4, 2, none⟩ = some (.int .i64 q4.state)) ∧ (W.cell? ⟨r9, 0, none⟩ = some (.slice a90 qp.nums.length c90) ∧ W.cell? ⟨r9, 1, none⟩ = some (.slice a91 qp.drawn.length c91) ∧ W.cell? ⟨r9, 2, none⟩ = some (.int .i64 qp.state)) ∧ IntsAt W aI os)
    case first =>
      have hB := Below.drew (Below.refl v10.heap.size v10)
      have HB_22 := Lib.hid (HB_21.out.trans (hB.mono HB_21.out.size))
      have HP1_22 := Lib.hid (HP1_21.out.below hB)
      have HX1_22 := Lib.hid (HX1_21.out.below hB)
      have HP5_22 := Lib.hid (HP5_21.out.below hB)
      have HI_22 := Lib.hid (HI_21.out.below hB)
      have HX5_22 := Lib.hid (HX5_21.out.below hB)
      have HP6_22 := Lib.hid (HP6_21.out.below hB)
      have HS_22 := Lib.hid (HS_21.out.below hB)
      have HX6_22 := Lib.hid (HX6_21.out.below hB)
      have HP2_22 := Lib.hid (HP2_21.out.below hB)
      have HX2_22 := Lib.hid (HX2_21.out.below hB)
      have HP7_22 := Lib.hid (HP7_21.out.below hB)
      have HX7_22 := Lib.hid (HX7_21.out.below hB)
      have HP8_22 := Lib.hid (HP8_21.out.below hB)
      have HX8_22 := Lib.hid (HX8_21.out.below hB)
      have HP4_22 := Lib.hid (HP4_21.out.below hB)
      have HX4_22 := Lib.hid (HX4_21.out.below hB)
      have HP9_22 := Lib.hid (HP9_21.out.below hB)
      have HX9_22 := Lib.hid (HX9_21.out.below hB)
      have HP10_22 := Lib.hid (HP10_21.out.below hB)
      have HX10_22 := Lib.hid (HX10.out.below hB)
      clear HP1_21 HX1_21 HP5_21 HI_21 HX5_21 HP6_21 HS_21 HX6_21 HP2_21 HX2_21 HP7_21 HX7_21 HP8_21 HX8_21 HP4_21 HX4_21 HP9_21 HX9_21 HP10_21 HX10 HB_21
      clear hB
      have L1 := Lib.hid (fun W (hx : PoolV.In W a50 qt.nums.length a51 qt.drawn.length qt) (hy : PoolV.In W a60 qt.nums.length a61 qt.drawn.length qt) => likePool_same8 a50 a51 a60 a61 c50 c51 c60 c61 qt W hx hy hq5)
      have L2 := Lib.hid (fun W (hx : PoolV.In W a70 qm.nums.length a71 qm.drawn.length qm) (hy : PoolV.In W a80 qm.nums.length a81 qm.drawn.length qm) => likePool_same8 a70 a71 a80 a81 c70 c71 c80 c81 qm W hx hy hq7)
      have L3 := Lib.hid (fun W (hx : PoolV.In W a90 qp.nums.length a91 qp.drawn.length qp) (hy : PoolV.In W a100 qp.nums.length a101 qp.drawn.length qp) => likePool_same8 a90 a91 a100 a101 c90 c91 c100 c101 qp W hx hy hq9)
      have L4 := Lib.hid (fun W (hx : IntsAt W aI os) (hy : IntsAt W aS os) => likeSame8 aI aS cI cS os W (by omega) hx hy)
      go_region_held3 (fun W => (W.cell? ⟨r5, 0, none⟩ = some (.slice a50 qt.nums.length c50) ∧ W.cell? ⟨r5, 1, none⟩ = some (.slice a51 qt.drawn.length c51) ∧ W.cell? ⟨r5, 2, none⟩ = some (.int .i64 qt.state)) ∧ (W.cell? ⟨r6, 0, none⟩ = some (.slice a60 qt.nums.length c60) ∧ W.cell? ⟨r6, 1, none⟩ = some (.slice a61 qt.drawn.length c61) ∧ W.cell? ⟨r6, 2, none⟩ = some (.int .i64 qt.state)) ∧ (W.cell? ⟨r7, 0, none⟩ = some (.slice a70 qm.nums.length c70) ∧ W.cell? ⟨r7, 1, none⟩ = some (.slice a71 qm.drawn.length c71) ∧ W.cell? ⟨r7, 2, none⟩ = some (.int .i64 qm.state)) ∧ (W.cell? ⟨r8, 0, none⟩ = some (.slice a80 qm.nums.length c80) ∧ W.cell? ⟨r8, 1, none⟩ = some (.slice a81 qm.drawn.length c81) ∧ W.cell? ⟨r8, 2, none⟩ = some (.int .i64 qm.state)) ∧ (W.cell? ⟨r9, 0, none⟩ = some (.slice a90 qp.nums.length c90) ∧ W.cell? ⟨r9, 1, none⟩ = some (.slice a91 qp.drawn.length c91) ∧ W.cell? ⟨r9, 2, none⟩ = some (.int .i64 qp.state)) ∧ (W.cell? ⟨r10, 0, none⟩ = some (.slice a100 qp.nums.length c100) ∧ W.cell? ⟨r10, 1, none⟩ = some (.slice a101 qp.drawn.length c101) ∧ W.cell? ⟨r10, 2, none⟩ = some (.int .i64 qp.state)) ∧ (W.cell? ⟨r2, 0, none⟩ = some (.slice a20 q2.nums.length c20) ∧ W.cell? ⟨r2, 1, none⟩ = some (.slice a21 q2.drawn.length c21) ∧ W.cell? ⟨r2, 2, none⟩ = some (.int .i64 q2.state))) (first | exact ⟨((((((HX5_22.out.below hB1).below hB2).below hB3).below hB4).below hB5).below hB6), ((((((HX6_22.out.below hB1).below hB2).below hB3).below hB4).below hB5).below hB6), ((((((HX7_22.out.below hB1).below hB2).below hB3).below hB4).below hB5).below hB6), ((((((HX8_22.out.below hB1).below hB2).below hB3).below hB4).below hB5).below hB6), ((((((HX9_22.out.below hB1).below hB2).below hB3).below hB4).below hB5).below hB6), ((((((HX10_22.out.below hB1).below hB2).below hB3).below hB4).below hB5).below hB6), ((((((HX2_22.out.below hB1).below hB2).below hB3).below hB4).below hB5).below hB6)⟩ | exact ⟨(((((HX5_22.out.below hB1).below hB2).below hB3).below hB4).below hB5), (((((HX6_22.out.below hB1).below hB2).below hB3).below hB4).below hB5), (((((HX7_22.out.below hB1).below hB2).below hB3).below hB4).below hB5), (((((HX8_22.out.below hB1).below hB2).below hB3).below hB4).below hB5), (((((HX9_22.out.below hB1).below hB2).below hB3).below hB4).below hB5), (((((HX10_22.out.below hB1).below hB2).below hB3).below hB4).below hB5), (((((HX2_22.out.below hB1).below hB2).below hB3).below hB4).below hB5)⟩ | exact ⟨((((HX5_22.out.below hB1).below hB2).below hB3).below hB4), ((((HX6_22.out.below hB1).below hB2).below hB3).below hB4), ((((HX7_22.out.below hB1).below hB2).below hB3).below hB4), ((((HX8_22.out.below hB1).below hB2).below hB3).below hB4), ((((HX9_22.out.below hB1).below hB2).below hB3).below hB4), ((((HX10_22.out.below hB1).below hB2).below hB3).below hB4), ((((HX2_22.out.below hB1).below hB2).below hB3).below hB4)⟩ | exact ⟨(((HX5_22.out.below hB1).below hB2).below hB3), (((HX6_22.out.below hB1).below hB2).below hB3), (((HX7_22.out.below hB1).below hB2).below hB3), (((HX8_22.out.below hB1).below hB2).below hB3), (((HX9_22.out.below hB1).below hB2).below hB3), (((HX10_22.out.below hB1).below hB2).below hB3), (((HX2_22.out.below hB1).below hB2).below hB3)⟩ | exact ⟨((HX5_22.out.below hB1).below hB2), ((HX6_22.out.below hB1).below hB2), ((HX7_22.out.below hB1).below hB2), ((HX8_22.out.below hB1).below hB2), ((HX9_22.out.below hB1).below hB2), ((HX10_22.out.below hB1).below hB2), ((HX2_22.out.below hB1).below hB2)⟩ | exact ⟨(HX5_22.out.below hB1), (HX6_22.out.below hB1), (HX7_22.out.below hB1), (HX8_22.out.below hB1), (HX9_22.out.below hB1), (HX10_22.out.below hB1), (HX2_22.out.below hB1)⟩ | exact ⟨HX5_22.out, HX6_22.out, HX7_22.out, HX8_22.out, HX9_22.out, HX10_22.out, HX2_22.out⟩) (first | (go_at_call 28; refine (E2.out _ (((((HP2_22.out.below hB1).below hB2).below hB3).below hB4).below hB5)).mono ?_; rintro e y6 ⟨rfl, hB6⟩) | (go_at_call 27; refine (E1.out _ ((((HP2_22.out.below hB1).below hB2).below hB3).below hB4)).mono ?_; rintro e y5 ⟨rfl, hB5⟩) | (go_at_call 25; refine (L3.out _ (((HP9_22.out.below hB1).below hB2).below hB3) (((HP10_22.out.below hB1).below hB2).below hB3)).mono ?_; rintro e y4 ⟨rfl, hB4⟩) | (go_at_call 25; refine (L2.out _ ((HP7_22.out.below hB1).below hB2) ((HP8_22.out.below hB1).below hB2)).mono ?_; rintro e y3 ⟨rfl, hB3⟩) | (go_at_call 26; refine (L4.out _ (HI_22.out.below hB1) (HS_22.out.below hB1)).mono ?_; rintro e y2 ⟨rfl, hB2⟩) | (go_at_call 25; refine (L1.out _ HP5_22.out HP6_22.out).mono ?_; rintro e y1 ⟨rfl, hB1⟩))
      have HB_23 := Lib.hid (HB_22.out.trans (hB1.mono HB_22.out.size))
      have HP1_23 := Lib.hid (HP1_22.out.below hB1)
      have HX1_23 := Lib.hid (HX1_22.out.below hB1)
      have HP5_23 := Lib.hid (HP5_22.out.below hB1)
      have HI_23 := Lib.hid (HI_22.out.below hB1)
      have HX5_23 := Lib.hid (HX5_22.out.below hB1)
      have HP6_23 := Lib.hid (HP6_22.out.below hB1)
      have HS_23 := Lib.hid (HS_22.out.below hB1)
      have HX6_23 := Lib.hid (HX6_22.out.below hB1)
      have HP2_23 := Lib.hid (HP2_22.out.below hB1)
      have HX2_23 := Lib.hid (HX2_22.out.below hB1)
      have HP7_23 := Lib.hid (HP7_22.out.below hB1)
      have HX7_23 := Lib.hid (HX7_22.out.below hB1)
      have HP8_23 := Lib.hid (HP8_22.out.below hB1)
      have HX8_23 := Lib.hid (HX8_22.out.below hB1)
      have HP4_23 := Lib.hid (HP4_22.out.below hB1)
      have HX4_23 := Lib.hid (HX4_22.out.below hB1)
      have HP9_23 := Lib.hid (HP9_22.out.below hB1)
      have HX9_23 := Lib.hid (HX9_22.out.below hB1)
      have HP10_23 := Lib.hid (HP10_22.out.below hB1)
      have HX10_23 := Lib.hid (HX10_22.out.below hB1)
      clear HP1_22 HX1_22 HP5_22 HI_22 HX5_22 HP6_22 HS_22 HX6_22 HP2_22 HX2_22 HP7_22 HX7_22 HP8_22 HX8_22 HP4_22 HX4_22 HP9_22 HX9_22 HP10_22 HX10_22 HB_22
      have HB_24 := Lib.hid (HB_23.out.trans (hB2.mono HB_23.out.size))
      have HP1_24 := Lib.hid (HP1_23.out.below hB2)
      have HX1_24 := Lib.hid (HX1_23.out.below hB2)
      have HP5_24 := Lib.hid (HP5_23.out.below hB2)
      have HI_24 := Lib.hid (HI_23.out.below hB2)
      have HX5_24 := Lib.hid (HX5_23.out.below hB2)
      have HP6_24 := Lib.hid (HP6_23.out.below hB2)
      have HS_24 := Lib.hid (HS_23.out.below hB2)
      have HX6_24 := Lib.hid (HX6_23.out.below hB2)
      have HP2_24 := Lib.hid (HP2_23.out.below hB2)
      have HX2_24 := Lib.hid (HX2_23.out.below hB2)
      have HP7_24 := Lib.hid (HP7_23.out.below hB2)
      have HX7_24 := Lib.hid (HX7_23.out.below hB2)
      have HP8_24 := Lib.hid (HP8_23.out.below hB2)
      have HX8_24 := Lib.hid (HX8_23.out.below hB2)
      have HP4_24 := Lib.hid (HP4_23.out.below hB2)
      have HX4_24 := Lib.hid (HX4_23.out.below hB2)
      have HP9_24 := Lib.hid (HP9_23.out.below hB2)
      have HX9_24 := Lib.hid (HX9_23.out.below hB2)
      have HP10_24 := Lib.hid (HP10_23.out.below hB2)
      have HX10_24 := Lib.hid (HX10_23.out.below hB2)
      clear HP1_23 HX1_23 HP5_23 HI_23 HX5_23 HP6_23 HS_23 HX6_23 HP2_23 HX2_23 HP7_23 HX7_23 HP8_23 HX8_23 HP4_23 HX4_23 HP9_23 HX9_23 HP10_23 HX10_23 HB_23
      have HB_25 := Lib.hid (HB_24.out.trans (hB3.mono HB_24.out.size))
      have HP1_25 := Lib.hid (HP1_24.out.below hB3)
      have HX1_25 := Lib.hid (HX1_24.out.below hB3)
      have HP5_25 := Lib.hid (HP5_24.out.below hB3)
      have HI_25 := Lib.hid (HI_24.out.below hB3)
      have HX5_25 := Lib.hid (HX5_24.out.below hB3)
      have HP6_25 := Lib.hid (HP6_24.out.below hB3)
      have HS_25 := Lib.hid (HS_24.out.below hB3)
      have HX6_25 := Lib.hid (HX6_24.out.below hB3)
      have HP2_25 := Lib.hid (HP2_24.out.below hB3)
      have HX2_25 := Lib.hid (HX2_24.out.below hB3)
      have HP7_25 := Lib.hid (HP7_24.out.below hB3)
      have HX7_25 := Lib.hid (HX7_24.out.below hB3)
      have HP8_25 := Lib.hid (HP8_24.out.below hB3)
      have HX8_25 := Lib.hid (HX8_24.out.below hB3)
      have HP4_25 := Lib.hid (HP4_24.out.below hB3)
      have HX4_25 := Lib.hid (HX4_24.out.below hB3)
      have HP9_25 := Lib.hid (HP9_24.out.below hB3)
      have HX9_25 := Lib.hid (HX9_24.out.below hB3)
      have HP10_25 := Lib.hid (HP10_24.out.below hB3)
      have HX10_25 := Lib.hid (HX10_24.out.below hB3)
      clear HP1_24 HX1_24 HP5_24 HI_24 HX5_24 HP6_24 HS_24 HX6_24 HP2_24 HX2_24 HP7_24 HX7_24 HP8_24 HX8_24 HP4_24 HX4_24 HP9_24 HX9_24 HP10_24 HX10_24 HB_24
      have HB_26 := Lib.hid (HB_25.out.trans (hB4.mono HB_25.out.size))
      have HP1_26 := Lib.hid (HP1_25.out.below hB4)
      have HX1_26 := Lib.hid (HX1_25.out.below hB4)
      have HP5_26 := Lib.hid (HP5_25.out.below hB4)
      have HI_26 := Lib.hid (HI_25.out.below hB4)
      have HX5_26 := Lib.hid (HX5_25.out.below hB4)
      have HP6_26 := Lib.hid (HP6_25.out.below hB4)
      have HS_26 := Lib.hid (HS_25.out.below hB4)
      have HX6_26 := Lib.hid (HX6_25.out.below hB4)
      have HP2_26 := Lib.hid (HP2_25.out.below hB4)
      have HX2_26 := Lib.hid (HX2_25.out.below hB4)
      have HP7_26 := Lib.hid (HP7_25.out.below hB4)
      have HX7_26 := Lib.hid (HX7_25.out.below hB4)
      have HP8_26 := Lib.hid (HP8_25.out.below hB4)
      have HX8_26 := Lib.hid (HX8_25.out.below hB4)
      have HP4_26 := Lib.hid (HP4_25.out.below hB4)
      have HX4_26 := Lib.hid (HX4_25.out.below hB4)
      have HP9_26 := Lib.hid (HP9_25.out.below hB4)
      have HX9_26 := Lib.hid (HX9_25.out.below hB4)
      have HP10_26 := Lib.hid (HP10_25.out.below hB4)
      have HX10_26 := Lib.hid (HX10_25.out.below hB4)
      clear HP1_25 HX1_25 HP5_25 HI_25 HX5_25 HP6_25 HS_25 HX6_25 HP2_25 HX2_25 HP7_25 HX7_25 HP8_25 HX8_25 HP4_25 HX4_25 HP9_25 HX9_25 HP10_25 HX10_25 HB_25
      have HB_27 := Lib.hid (HB_26.out.trans (hB5.mono HB_26.out.size))
      have HP1_27 := Lib.hid (HP1_26.out.below hB5)
      have HX1_27 := Lib.hid (HX1_26.out.below hB5)
      have HP5_27 := Lib.hid (HP5_26.out.below hB5)
      have HI_27 := Lib.hid (HI_26.out.below hB5)
      have HX5_27 := Lib.hid (HX5_26.out.below hB5)
      have HP6_27 := Lib.hid (HP6_26.out.below hB5)
      have HS_27 := Lib.hid (HS_26.out.below hB5)
      have HX6_27 := Lib.hid (HX6_26.out.below hB5)
      have HP2_27 := Lib.hid (HP2_26.out.below hB5)
      have HX2_27 := Lib.hid (HX2_26.out.below hB5)
      have HP7_27 := Lib.hid (HP7_26.out.below hB5)
      have HX7_27 := Lib.hid (HX7_26.out.below hB5)
      have HP8_27 := Lib.hid (HP8_26.out.below hB5)
      have HX8_27 := Lib.hid (HX8_26.out.below hB5)
      have HP4_27 := Lib.hid (HP4_26.out.below hB5)
      have HX4_27 := Lib.hid (HX4_26.out.below hB5)
      have HP9_27 := Lib.hid (HP9_26.out.below hB5)
      have HX9_27 := Lib.hid (HX9_26.out.below hB5)
      have HP10_27 := Lib.hid (HP10_26.out.below hB5)
      have HX10_27 := Lib.hid (HX10_26.out.below hB5)
      clear HP1_26 HX1_26 HP5_26 HI_26 HX5_26 HP6_26 HS_26 HX6_26 HP2_26 HX2_26 HP7_26 HX7_26 HP8_26 HX8_26 HP4_26 HX4_26 HP9_26 HX9_26 HP10_26 HX10_26 HB_26
      have HB_28 := Lib.hid (HB_27.out.trans (hB6.mono HB_27.out.size))
      have HP1_28 := Lib.hid (HP1_27.out.below hB6)
      have HX1_28 := Lib.hid (HX1_27.out.below hB6)
      have HP5_28 := Lib.hid (HP5_27.out.below hB6)
      have HI_28 := Lib.hid (HI_27.out.below hB6)
      have HX5_28 := Lib.hid (HX5_27.out.below hB6)
      have HP6_28 := Lib.hid (HP6_27.out.below hB6)
      have HS_28 := Lib.hid (HS_27.out.below hB6)
      have HX6_28 := Lib.hid (HX6_27.out.below hB6)
      have HP2_28 := Lib.hid (HP2_27.out.below hB6)
      have HX2_28 := Lib.hid (HX2_27.out.below hB6)
      have HP7_28 := Lib.hid (HP7_27.out.below hB6)
      have HX7_28 := Lib.hid (HX7_27.out.below hB6)
      have HP8_28 := Lib.hid (HP8_27.out.below hB6)
      have HX8_28 := Lib.hid (HX8_27.out.below hB6)
      have HP4_28 := Lib.hid (HP4_27.out.below hB6)
      have HX4_28 := Lib.hid (HX4_27.out.below hB6)
      have HP9_28 := Lib.hid (HP9_27.out.below hB6)
      have HX9_28 := Lib.hid (HX9_27.out.below hB6)
      have HP10_28 := Lib.hid (HP10_27.out.below hB6)
      have HX10_28 := Lib.hid (HX10_27.out.below hB6)
      clear HP1_27 HX1_27 HP5_27 HI_27 HX5_27 HP6_27 HS_27 HX6_27 HP2_27 HX2_27 HP7_27 HX7_27 HP8_27 HX8_27 HP4_27 HX4_27 HP9_27 HX9_27 HP10_27 HX10_27 HB_27
      go_wp2_with fail
      go_meet
      exact ⟨rfl, HB_28.out, HP1_28.out, HP5_28.out, HP7_28.out, HX1_28.out, HX5_28.out, HX7_28.out, HX4_28.out, HX9_28.out, HI_28.out⟩
    case rest =>
      clear HP1_21 HX1_21 HP5_21 HI_21 HX5_21 HP6_21 HS_21 HX6_21 HP2_21 HX2_21 HP7_21 HX7_21 HP8_21 HX8_21 HP4_21 HX4_21 HP9_21 HX9_21 HP10_21 HX10 HB_21 E1 E2 HL HY
      obtain ⟨rfl, kB, kP1, kP5, kP7, kX1, kX5, kX7, kX4, kX9, kI⟩ := hcut
      have HB := Lib.hid (kB)
      clear kB
      have hx : PoolV.In wc a10 q1.nums.length a11 q1.drawn.length q1 := kP1
      have HP1 := Lib.hid (hx)
      clear hx kP1
      have hx : PoolV.In wc a50 qt.nums.length a51 qt.drawn.length qt := kP5
      have HP5 := Lib.hid (hx)
      clear hx kP5
      have hx : PoolV.In wc a70 qm.nums.length a71 qm.drawn.length qm := kP7
      have HP7 := Lib.hid (hx)
      clear hx kP7
      have hx : PoolV.Box wc r1 a10 q1.nums.length c10 a11 q1.drawn.length c11 q1 := kX1
      have HX1 := Lib.hid (hx)
      clear hx kX1
      have hx : PoolV.Box wc r5 a50 qt.nums.length c50 a51 qt.drawn.length c51 qt := kX5
      have HX5 := Lib.hid (hx)
      clear hx kX5
      have hx : PoolV.Box wc r7 a70 qm.nums.length c70 a71 qm.drawn.length c71 qm := kX7
      have HX7 := Lib.hid (hx)
      clear hx kX7
      have hx : PoolV.Box wc r4 a40 q4.nums.length c40 a41 q4.drawn.length c41 q4 := kX4
      have HX4 := Lib.hid (hx)
      clear hx kX4
      have hx : PoolV.Box wc r9 a90 qp.nums.length c90 a91 qp.drawn.length c91 qp := kX9
      have HX9 := Lib.hid (hx)
      clear hx kX9
      have hx : IntsAt wc aI os := kI
      have HI := Lib.hid (hx)
      clear hx kI
      go_upto_region 17 with fail
      go_cut [171] from 165 to 170 (fun c W => ∃ tb : Bool, c = .bool tb ∧ (tb = true → km = 0 ∧ 0 < ns.length) ∧ Below w.heap.size w W ∧ PoolV.In W a10 q1.nums.length a11 q1.drawn.length q1 ∧ PoolV.In W a50 qt.nums.length a51 qt.drawn.length qt ∧ PoolV.In W a70 qm.nums.length a71 qm.drawn.length qm ∧ (W.cell? ⟨r1, 0, none⟩ = some (.slice a10 q1.nums.length c10) ∧ W.cell? ⟨r1, 1, none⟩ = some (.slice a11 q1.drawn.length c11) ∧ W.cell? ⟨r1, 2, none⟩ = some (.int .i64 q1.state)) ∧ (W.cell? ⟨r5, 0, none⟩ = some (.slice a50 qt.nums.length c50) ∧ W.cell? ⟨r5, 1, none⟩ = some (.slice a51 qt.drawn.length c51) ∧ W.cell? ⟨r5, 2, none⟩ = some (.int .i64 qt.state)) ∧ (W.cell? ⟨r7, 0, none⟩ = some (.slice a70 qm.nums.length c70) ∧ W.cell? ⟨r7, 1, none⟩ = some (.slice a71 qm.drawn.length c71) ∧ W.cell? ⟨r7, 2, none⟩ = some (.int .i64 qm.state)) ∧ (W.cell? ⟨r4, 0, none⟩ = some (.slice a40 q4.nums.length c40) ∧ W.cell? ⟨r4, 1, none⟩ = some (.slice a41 q4.drawn.length c41) ∧ W.cell? ⟨r4, 2, none⟩ = some (.int .i64 q4.state)) ∧ (W.cell? ⟨r9, 0, none⟩ = some (.slice a90 qp.nums.length c90) ∧ W.cell? ⟨r9, 1, none⟩ = some (.slice a91 qp.drawn.length c91) ∧ W.cell? ⟨r9, 2, none⟩ = some (.int .i64 qp.state)) ∧ IntsAt W aI os)
      case first =>
        rcases HMF.out.2 with hkm | ⟨hkm, hn0 | ⟨hn1, _⟩⟩
        · have ekm : (km == 0) = false := beq_eq_false_iff_ne.2 hkm
          clear hkm
          go_wp2_with fail
          go_meet
          exact ⟨false, rfl, (fun h => by cases h), HB.out, HP1.out, HP5.out, HP7.out, HX1.out, HX5.out, HX7.out, HX4.out, HX9.out, HI.out⟩
        · subst hkm
          have hn1 : ¬ 0 < ns.length := by omega
          clear hn0
          go_wp2_with fail
          go_meet
          exact ⟨false, rfl, (fun h => by cases h), HB.out, HP1.out, HP5.out, HP7.out, HX1.out, HX5.out, HX7.out, HX4.out, HX9.out, HI.out⟩
        · subst hkm
          go_wp2_with fail
          go_meet
          exact ⟨true, rfl, (fun _ => by first | exact ⟨trivial, hn1⟩ | exact ⟨rfl, hn1⟩ | simp [hn1]), HB.out, HP1.out, HP5.out, HP7.out, HX1.out, HX5.out, HX7.out, HX4.out, HX9.out, HI.out⟩
      case rest =>
        clear HP1 HP5 HP7 HX1 HX5 HX7 HX4 HX9 HI HB
        obtain ⟨tb, rfl, hcb, kB, kP1, kP5, kP7, kX1, kX5, kX7, kX4, kX9, kI⟩ := hcut
        have HB := Lib.hid (kB)
        clear kB
        have hx : PoolV.In wc a10 q1.nums.length a11 q1.drawn.length q1 := kP1
        have HP1 := Lib.hid (hx)
        clear hx kP1
        have hx : PoolV.In wc a50 qt.nums.length a51 qt.drawn.length qt := kP5
        have HP5 := Lib.hid (hx)
        clear hx kP5
        have hx : PoolV.In wc a70 qm.nums.length a71 qm.drawn.length qm := kP7
        have HP7 := Lib.hid (hx)
        clear hx kP7
        have hx : PoolV.Box wc r1 a10 q1.nums.length c10 a11 q1.drawn.length c11 q1 := kX1
        have HX1 := Lib.hid (hx)
        clear hx kX1
        have hx : PoolV.Box wc r5 a50 qt.nums.length c50 a51 qt.drawn.length c51 qt := kX5
        have HX5 := Lib.hid (hx)
        clear hx kX5
        have hx : PoolV.Box wc r7 a70 qm.nums.length c70 a71 qm.drawn.length c71 qm := kX7
        have HX7 := Lib.hid (hx)
        clear hx kX7
        have hx : PoolV.Box wc r4 a40 q4.nums.length c40 a41 q4.drawn.length c41 q4 := kX4
        have HX4 := Lib.hid (hx)
        clear hx kX4
        have hx : PoolV.Box wc r9 a90 qp.nums.length c90 a91 qp.drawn.length c91 qp := kX9
        have HX9 := Lib.hid (hx)
        clear hx kX9
        have hx : IntsAt wc aI os := kI
        have HI := Lib.hid (hx)
        clear hx kI
        have HCB := Lib.hid hcb
        clear hcb
        go_upto_if 171 with fail
        go_cut [29, 30, 31, 32, 33] from 172 to 193 (fun s29 s30 s31 s32 s33 W => Below w.heap.size w W ∧ PoolV.In W a10 q1.nums.length a11 q1.drawn.length q1 ∧ PoolV.In W a50 qt.nums.length a51 qt.drawn.length qt ∧ (W.cell? ⟨r1, 0, none⟩ = some (.slice a10 q1.nums.length c10) ∧ W.cell? ⟨r1, 1, none⟩ = some (.slice a11 q1.drawn.length c11) ∧ W.cell? ⟨r1, 2, none⟩ = some (.int .i64 q1.state)) ∧ (W.cell? ⟨r5, 0, none⟩ = some (.slice a50 qt.nums.length c50) ∧ W.cell? ⟨r5, 1, none⟩ = some (.slice a51 qt.drawn.length c51) ∧ W.cell? ⟨r5, 2, none⟩ = some (.int .i64 qt.state)) ∧ (W.cell? ⟨r4, 0, none⟩ = some (.slice a40 q4.nums.length c40) ∧ W.cell? ⟨r4, 1, none⟩ = some (.slice a41 q4.drawn.length c41) ∧ W.cell? ⟨r4, 2, none⟩ = some (.int .i64 q4.state)) ∧ (W.cell? ⟨r9, 0, none⟩ = some (.slice a90 qp.nums.length c90) ∧ W.cell? ⟨r9, 1, none⟩ = some (.slice a91 qp.drawn.length c91) ∧ W.cell? ⟨r9, 2, none⟩ = some (.int .i64 qp.state)) ∧ IntsAt W aI os)
        case first =>
          cases tb
          · skip
            go_wp2_with fail
            go_meet
            exact ⟨HB.out, HP1.out, HP5.out, HX1.out, HX5.out, HX4.out, HX9.out, HI.out⟩
          · obtain ⟨hkm, hn1⟩ := HCB.out rfl
            rcases HMF.out.2 with h | ⟨-, h | ⟨-, qo, oo, ht, hqo, hr⟩⟩
            · exact absurd hkm h
            · omega
            clear hkm hn1
            have F1 := Lib.hid (fun W (hx : PoolV.In W a70 qm.nums.length a71 qm.drawn.length qm) => show Calls Try.prog 14 #[.agg #[.slice a70 qm.nums.length c70, .slice a71 qm.drawn.length c71, .int .i64 qm.state], .int .i64 1] W (SaysTake qo oo 0 W) from by have e := implTake8_any a70 qm.nums.length c70 a71 qm.drawn.length c71 qm 1 W hx l71 n70 n71 (by omega); rw [ht] at e; exact e)
            clear ht
            obtain ⟨bX70, bX71, bX72⟩ := HX7.out
            go_wp2_with fail
            clear bX70 bX71 bX72
            refine (F1.out _ HP7.out).mono ?_; rintro e z1 ⟨w21, w22, vo, rfl, h0, h1, _, _, _, _, hB⟩
            have HB_22 := Lib.hid (HB.out.trans (hB.mono HB.out.size))
            have HP1_22 := Lib.hid (HP1.out.below hB)
            have HP5_22 := Lib.hid (HP5.out.below hB)
            have HP7_22 := Lib.hid (HP7.out.below hB)
            have HX1_22 := Lib.hid (HX1.out.below hB)
            have HX5_22 := Lib.hid (HX5.out.below hB)
            have HX7_22 := Lib.hid (HX7.out.below hB)
            have HX4_22 := Lib.hid (HX4.out.below hB)
            have HX9_22 := Lib.hid (HX9.out.below hB)
            have HI_22 := Lib.hid (HI.out.below hB)
            clear HP1 HP5 HP7 HX1 HX5 HX7 HX4 HX9 HI HB
            clear hB F1
            have hq := hqo
            obtain ⟨a110, c110, rfl, _⟩ := h0.slice
            obtain ⟨a111, c111, rfl, _⟩ := h1.slice
            have n110 := h0.nilcap; have n111 := h1.nilcap; have l111 := h1.lencap.2; have hq11 := hq; have hq11a := hq.1; have hq11b := hq.2
            have HP11 := Lib.hid (poolIn_of_build h0 h1 hq)
            clear h0 h1 hq
            have F2 := Lib.hid (fun W (hx : PoolV.In W a110 qo.nums.length a111 qo.drawn.length qo) => show Calls Try.prog 17 #[.agg #[.slice a110 qo.nums.length c110, .slice a111 qo.drawn.length c111, .int .i64 qo.state], .int .i64 s3] W (Says8 (.tuple #[.bool true, .int .i64 0]) W) from by have e := implReplay8_any a110 qo.nums.length c110 a111 qo.drawn.length c111 qo s3 W hx l111 n110 (by omega); rw [hr] at e; exact e)
            clear hr
            have hB := boxed z1 (.cells #[.slice a110 qo.nums.length c110, .slice a111 qo.drawn.length c111, .int .i64 qo.state] 26)
            have HB_23 := Lib.hid (HB_22.out.trans (hB.mono HB_22.out.size))
            have HP1_23 := Lib.hid (HP1_22.out.below hB)
            have HP5_23 := Lib.hid (HP5_22.out.below hB)
            have HP7_23 := Lib.hid (HP7_22.out.below hB)
            have HX1_23 := Lib.hid (HX1_22.out.below hB)
            have HX5_23 := Lib.hid (HX5_22.out.below hB)
            have HX7_23 := Lib.hid (HX7_22.out.below hB)
            have HX4_23 := Lib.hid (HX4_22.out.below hB)
            have HX9_23 := Lib.hid (HX9_22.out.below hB)
            have HI_23 := Lib.hid (HI_22.out.below hB)
            have HP11_23 := Lib.hid (HP11.out.below hB)
            clear HP1_22 HP5_22 HP7_22 HX1_22 HX5_22 HX7_22 HX4_22 HX9_22 HI_22 HP11 HB_22
            clear hB
            have HX11 := Lib.hid (PoolV.boxed z1 a110 qo.nums.length c110 a111 qo.drawn.length c111 qo 26)
            obtain ⟨bX110, bX111, bX112⟩ := HX11.out
            go_wp2_with fail
            clear bX110 bX111 bX112
            generalize z1.alloc (.cells #[.slice a110 qo.nums.length c110, .slice a111 qo.drawn.length c111, .int .i64 qo.state] 26) = v11 at HP1_23 HP5_23 HP7_23 HX1_23 HX5_23 HX7_23 HX4_23 HX9_23 HI_23 HP11_23 HX11 HB_23 ⊢
            obtain ⟨r11, hr11⟩ : ∃ r, z1.heap.size = r := ⟨_, rfl⟩
            rw [hr11] at HX11 ⊢
            clear hr11
            refine (F2.out _ HP11_23.out).mono ?_; rintro e z2 ⟨rfl, hB⟩
            have HB_24 := Lib.hid (HB_23.out.trans (hB.mono HB_23.out.size))
            have HP1_24 := Lib.hid (HP1_23.out.below hB)
            have HP5_24 := Lib.hid (HP5_23.out.below hB)
            have HP7_24 := Lib.hid (HP7_23.out.below hB)
            have HX1_24 := Lib.hid (HX1_23.out.below hB)
            have HX5_24 := Lib.hid (HX5_23.out.below hB)
            have HX7_24 := Lib.hid (HX7_23.out.below hB)
            have HX4_24 := Lib.hid (HX4_23.out.below hB)
            have HX9_24 := Lib.hid (HX9_23.out.below hB)
            have HI_24 := Lib.hid (HI_23.out.below hB)
            have HP11_24 := Lib.hid (HP11_23.out.below hB)
            have HX11_24 := Lib.hid (HX11.out.below hB)
            clear HP1_23 HP5_23 HP7_23 HX1_23 HX5_23 HX7_23 HX4_23 HX9_23 HI_23 HP11_23 HX11 HB_23
            clear hB
            go_wp2_with fail
            go_meet
            exact ⟨HB_24.out, HP1_24.out, HP5_24.out, HX1_24.out, HX5_24.out, HX4_24.out, HX9_24.out, HI_24.out⟩
        case rest =>
          clear HP1 HP5 HP7 HX1 HX5 HX7 HX4 HX9 HI HB
          obtain ⟨kB, kP1, kP5, kX1, kX5, kX4, kX9, kI⟩ := hcut
          have HB := Lib.hid (kB)
          clear kB
          have hx : PoolV.In wc a10 q1.nums.length a11 q1.drawn.length q1 := kP1
          have HP1 := Lib.hid (hx)
          clear hx kP1
          have hx : PoolV.In wc a50 qt.nums.length a51 qt.drawn.length qt := kP5
          have HP5 := Lib.hid (hx)
          clear hx kP5
          have hx : PoolV.Box wc r1 a10 q1.nums.length c10 a11 q1.drawn.length c11 q1 := kX1
          have HX1 := Lib.hid (hx)
          clear hx kX1
          have hx : PoolV.Box wc r5 a50 qt.nums.length c50 a51 qt.drawn.length c51 qt := kX5
          have HX5 := Lib.hid (hx)
          clear hx kX5
          have hx : PoolV.Box wc r4 a40 q4.nums.length c40 a41 q4.drawn.length c41 q4 := kX4
          have HX4 := Lib.hid (hx)
          clear hx kX4
          have hx : PoolV.Box wc r9 a90 qp.nums.length c90 a91 qp.drawn.length c91 qp := kX9
          have HX9 := Lib.hid (hx)
          clear hx kX9
          have hx : IntsAt wc aI os := kI
          have HI := Lib.hid (hx)
          clear hx kI
          go_upto_region 22 with fail
          go_cut [207] from 194 to 206 (fun c W => c = .bool false ∧ Below w.heap.size w W ∧ PoolV.In W a10 q1.nums.length a11 q1.drawn.length q1 ∧ PoolV.In W a50 qt.nums.length a51 qt.drawn.length qt ∧ (W.cell? ⟨r1, 0, none⟩ = some (.slice a10 q1.nums.length c10) ∧ W.cell? ⟨r1, 1, none⟩ = some (.slice a11 q1.drawn.length c11) ∧ W.cell? ⟨r1, 2, none⟩ = some (.int .i64 q1.state)) ∧ (W.cell? ⟨r5, 0, none⟩ = some (.slice a50 qt.nums.length c50) ∧ W.cell? ⟨r5, 1, none⟩ = some (.slice a51 qt.drawn.length c51) ∧ W.cell? ⟨r5, 2, none⟩ = some (.int .i64 qt.state)) ∧ IntsAt W aI os)
          case first =>
            rcases HPF.out.2 with hkp | ⟨hkp, hcnt⟩
            · have ekp : (kp == 0) = false := beq_eq_false_iff_ne.2 hkp
              clear hkp
              go_wp2_with fail
              go_meet
              exact ⟨rfl, HB.out, HP1.out, HP5.out, HX1.out, HX5.out, HI.out⟩
            · subst hkp
              have qw : IntKind.i64.wrap ((qp.drawn.length : Int) + (bk.length : Int)) = (q4.drawn.length : Int) := by rw [← hcnt, Int.natCast_add]; exact IntWalk.i64_in _ (by omega)
              clear hcnt
              obtain ⟨bX40, bX41, bX42⟩ := HX4.out
              obtain ⟨bX90, bX91, bX92⟩ := HX9.out
              go_wp2_with fail
              clear bX40 bX41 bX42
              clear bX90 bX91 bX92
              go_meet
              exact ⟨rfl, HB.out, HP1.out, HP5.out, HX1.out, HX5.out, HI.out⟩
          case rest =>
            clear HP1 HP5 HX1 HX5 HX4 HX9 HI HB
            obtain ⟨rfl, kB, kP1, kP5, kX1, kX5, kI⟩ := hcut
            have HB := Lib.hid (kB)
            clear kB
            have hx : PoolV.In wc a10 q1.nums.length a11 q1.drawn.length q1 := kP1
            have HP1 := Lib.hid (hx)
            clear hx kP1
            have hx : PoolV.In wc a50 qt.nums.length a51 qt.drawn.length qt := kP5
            have HP5 := Lib.hid (hx)
            clear hx kP5
            have hx : PoolV.Box wc r1 a10 q1.nums.length c10 a11 q1.drawn.length c11 q1 := kX1
            have HX1 := Lib.hid (hx)
            clear hx kX1
            have hx : PoolV.Box wc r5 a50 qt.nums.length c50 a51 qt.drawn.length c51 qt := kX5
            have HX5 := Lib.hid (hx)
            clear hx kX5
            have hx : IntsAt wc aI os := kI
            have HI := Lib.hid (hx)
            clear hx kI
            rcases HTF.out.2.2 with hkt | ⟨hkt, hl1, hl2, hcnt, hkk, hall⟩
            · have ekt : (kt == 0) = false := beq_eq_false_iff_ne.2 hkt
              have ekt2 : (kt != 0) = true := bne_iff_ne.2 hkt
              clear hkt
              go_wp2_with fail
              go_ret
              exact ⟨rfl, HB.out⟩
            · subst hkt
              have hL1 := leftL_small hq1
              have hL2 := leftL_small hqt
              have G1 := Lib.hid (fun W (hx : PoolV.In W a50 qt.nums.length a51 qt.drawn.length qt) => show Calls Try.prog 29 #[.agg #[.slice a50 qt.nums.length c50, .slice a51 qt.drawn.length c51, .int .i64 qt.state]] W (SaysBI (leftL qt.nums qt.drawn) 0 W) from by have e := implLeftOf8_any a50 qt.nums.length c50 a51 qt.drawn.length c51 qt W hx l51 n50 (by omega); rw [hl2] at e; exact e)
              have G2 := Lib.hid (fun W (hx : PoolV.In W a10 q1.nums.length a11 q1.drawn.length q1) => show Calls Try.prog 29 #[.agg #[.slice a10 q1.nums.length c10, .slice a11 q1.drawn.length c11, .int .i64 q1.state]] W (SaysBI (leftL q1.nums q1.drawn) 0 W) from by have e := implLeftOf8_any a10 q1.nums.length c10 a11 q1.drawn.length c11 q1 W hx l11 n10 (by omega); rw [hl1] at e; exact e)
              have HALL := Lib.hid hall
              have HCNT := Lib.hid hcnt
              have HKK := Lib.hid hkk
              clear hl1 hl2 hall hcnt hkk
              obtain ⟨lt, hlt⟩ : ∃ l, leftL qt.nums qt.drawn = l := ⟨_, rfl⟩
              obtain ⟨lp, hlp⟩ : ∃ l, leftL q1.nums q1.drawn = l := ⟨_, rfl⟩
              rw [hlt] at G1 HCNT HALL hL2
              rw [hlp] at G2 HCNT HALL hL1
              clear hlt hlp
              obtain ⟨bX50, bX51, bX52⟩ := HX5.out
              go_wp2_with fail
              clear bX50 bX51 bX52
              refine (G1.out _ HP5.out).mono ?_; rintro e z3 ⟨vt, rfl, ho, hB⟩
              have HB_22 := Lib.hid (HB.out.trans (hB.mono HB.out.size))
              have HP1_22 := Lib.hid (HP1.out.below hB)
              have HP5_22 := Lib.hid (HP5.out.below hB)
              have HX1_22 := Lib.hid (HX1.out.below hB)
              have HX5_22 := Lib.hid (HX5.out.below hB)
              have HI_22 := Lib.hid (HI.out.below hB)
              clear HP1 HP5 HX1 HX5 HI HB
              obtain ⟨aT, cT, rfl, tT⟩ := ho.slice
              have HT := Lib.hid (tT)
              clear ho hB tT G1
              obtain ⟨bX10, bX11, bX12⟩ := HX1_22.out
              go_wp2_with fail
              clear bX10 bX11 bX12
              refine (G2.out _ HP1_22.out).mono ?_; rintro e z4 ⟨vp, rfl, ho, hB⟩
              have HB_23 := Lib.hid (HB_22.out.trans (hB.mono HB_22.out.size))
              have HP1_23 := Lib.hid (HP1_22.out.below hB)
              have HP5_23 := Lib.hid (HP5_22.out.below hB)
              have HX1_23 := Lib.hid (HX1_22.out.below hB)
              have HX5_23 := Lib.hid (HX5_22.out.below hB)
              have HI_23 := Lib.hid (HI_22.out.below hB)
              have HT_23 := Lib.hid (HT.out.below hB)
              clear HP1_22 HP5_22 HX1_22 HX5_22 HI_22 HT HB_22
              obtain ⟨aP, cP, rfl, tP⟩ := ho.slice
              have HL := Lib.hid (tP)
              clear ho hB tP G2
              go_wp2
              go_loop [38] (fun iv => ∃ j : Nat, j ≤ os.length ∧ iv = .int .i64 (j : Int)) (fun iv => os.length - (intOf iv).toNat)
              case atStart => exact ⟨0, Nat.zero_le _, rfl⟩
              case round =>
                obtain ⟨j, hj, rfl⟩ := hrel
                by_cases hlt : j < os.length
                · obtain ⟨bI, oI, y, ha, hc, _, hy⟩ := HI_23.out.at rfl hlt
                  subst ha
                  have hy2 := HALL.out y (List.mem_of_getElem? hy)
                  have hT := lawsHasInt_any aT lt.length cT lt y z4 rfl (by unfold maxLen; omega) HT_23.out
                  have hP := lawsHasInt_any aP lp.length cP lp y z4 rfl (by unfold maxLen; omega) HL.out
                  rw [show hasI lt y = false from decide_eq_false hy2.2] at hT
                  rw [show hasI lp y = true from decide_eq_true hy2.1] at hP
                  have HT := Lib.hid hT; have HP := Lib.hid hP
                  clear hT hP hy2 hy
                  go_wp2_with fail
                  refine HP.out.mono ?_; rintro e w' ⟨rfl, rfl⟩
                  go_wp2_with fail
                  refine HT.out.mono ?_; rintro e w' ⟨rfl, rfl⟩
                  go_wp2
                  go_round
                  case rel => exact ⟨j + 1, by omega, by go_num⟩
                  case measure => simp [intOf]; omega
                · have qw : IntKind.i64.wrap ((lt.length : Int) + (os.length : Int)) = (lp.length : Int) := by rw [← HCNT.out, Int.natCast_add]; exact IntWalk.i64_in _ (by omega)
                  have qk : ((os.length : Int) == k) = true := beq_iff_eq.2 HKK.out
                  have HB := Lib.hid HB_23.out
                  clear hj
                  go_wp2
                  go_ret
                  exact ⟨rfl, HB.out⟩

set_option maxRecDepth 100000 in
theorem lifted (os : Os) (started : os.Started) (H : Type) (enc : TypeId × Value → H) :
    ReturnsInHanded {} Try.checked os 3 .any (Rows.fnPoolsSpec.pre6 enc Try.prog Try.f3 Rows.fnPoolsRow.domain false) (Rows.fnPoolsSpec.post enc Try.prog Try.f3 false true false false) := by
  refine returnsInHanded_of_change (C := Try.checked) own started (by kernel_rfl) Try.func3
    (ChangeSpec.witness6 (enc := enc) (C := Try.checked) false ⟨#[], #[.slice none 0 0], []⟩ 8 (by kernel_rfl) (by kernel_rfl) (by kernel_rfl) (by kernel_rfl)) ?_
  intro W base args ds gs before hval0 hW hcnd _
  have hval : ∀ (j : Nat) t v, Try.f3.params[j]? = some t → args[j]? = some v → Value.okWide Try.prog W .any base t v := hval0
  have hW' := hW
  obtain ⟨p, q, hA0, hV, rfl, hfz, hnd⟩ := hW
  have hA : DataW.TrodAll enc Try.prog W 0 (fun _ => true) true Try.f3.params.toList args.toList ds p := hA0
  rw [Try.params3] at hA hval
  obtain ⟨v0, vs0, d0, ds0, p0, q0, hargs, rfl, rfl, h0, r0⟩ := trodAll_cons hA
  obtain ⟨rfl, rfl, rfl⟩ := trodAll_nil r0
  obtain rfl : args = #[v0] := by cases args; simp_all
  obtain ⟨rfl, rfl⟩ := trodVars_none hV
  obtain ⟨a0, len0, cap0, rfl⟩ := okWide_slice Try.underlying22 (hval 0 22 v0 rfl rfl)
  have k0 := h0
  have lt0 : ∀ x ∈ p0, x.block < W.heap.size := by obtain ⟨m, hm⟩ := k0; exact DataW.trod_lt m _ _ _ hm
  obtain ⟨z0, w0⟩ : ∃ zs, IsRow .u8 W a0 len0 cap0 zs := by
    obtain ⟨fuel, hf⟩ := h0
    rcases open_ints Try.underlying22 Try.underlying5 (by kernel_rfl) hf with ⟨hcs, _⟩ | ⟨x, l, c, zs, hcs, _, hl, hm, hz, _, hcell, hwz⟩
    · simp [Value.cells] at hcs
      obtain ⟨rfl, rfl, rfl⟩ := hcs
      exact ⟨[], .inl ⟨rfl, rfl, rfl, rfl⟩⟩
    · simp [Value.cells] at hcs
      obtain ⟨rfl, rfl, rfl⟩ := hcs
      exact ⟨zs, .inr ⟨_, rfl, hl, hm, by simpa using hz, hcell, hwz⟩⟩
  clear hA0 hval0
  refine (walk W a0 len0 cap0 z0 w0).mono fun e W' ⟨he, bel⟩ => ?_
  subst he
  exact ⟨_, rfl, _, _, _, [], _, [], hW', trodAll_mk1 (shut_bool Try.underlying4 _), (trodAll_cons_mk (Below.trod laidOut (by kernel_rfl) (of_decide_eq_true (by kernel_rfl)) k0 bel lt0) trodAll_mk0), rfl, bel.frame _, fun h => by cases h⟩

theorem over : Rows.fnPoolsRow.holds Try.pinned (OpenSpec.ofChange Rows.fnPoolsSpec) :=
  OpenClaim.holds_of_wide 3 Try.f3 rfl rfl rfl rfl rfl rfl rfl ⟨rfl, rfl, rfl, rfl, rfl⟩ rfl rfl rfl rfl rfl (by kernel_rfl) Try.func3 (by kernel_rfl)
    (of_decide_eq_true (by kernel_rfl)) (by unfold Func.isWrapper; first | (rw [if_pos (by decide +kernel)]; kernel_rfl) | (rw [if_neg (by decide +kernel)]; exact ⟨rfl, rfl⟩))
    (fun os started H enc _ => lifted os started H enc)

/-- The statement. -/
theorem proved : Rows.FnPoolsSaid := over
end Go.Proofs.Ytmpopfcnjgcncaa.fnPools
