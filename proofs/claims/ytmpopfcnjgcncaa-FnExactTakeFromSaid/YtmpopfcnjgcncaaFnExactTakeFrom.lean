/- Proved: for every pool and number, laws.FnExactTakeFrom returns true and leaves its arguments as they were: impl.TakeFrom answers as its model, in memory of its own. No condition. -/
import Derived.Test.YtmpopfcnjgcncaaRows
import Derived.WalkKit
import Derived.ProofKit
import Derived.OpenShut
import Derived.ShutString
import Derived.ChangeOld
import Derived.Below
import Derived.SliceStrings
import Derived.Lib.Hide
import Derived.Deep.RegionHeld3
import Derived.Deep.QuietTactic
import Derived.BigQuiet
import Derived.Test.YtmpopfcnjgcncaaBase
import Derived.Test.YtmpopfcnjgcncaaPure2
import Derived.Test.YtmpopfcnjgcncaaPure30
import Derived.Test.YtmpopfcnjgcncaaPure40
import Derived.Test.YtmpopfcnjgcncaaPure80
import Derived.Test.YtmpopfcnjgcncaaMarkI
import Derived.Test.YtmpopfcnjgcncaaEqInt
import Derived.Test.YtmpopfcnjgcncaaIntL
import Derived.Test.YtmpopfcnjgcncaaBuildI
import Derived.Test.YtmpopfcnjgcncaaBuild8
import Derived.Test.YtmpopfcnjgcncaaRowV
import Derived.Test.YtmpopfcnjgcncaaPoolA
import Derived.Test.YtmpopfcnjgcncaaPoolB
import Derived.Test.YtmpopfcnjgcncaaSpec80
import Derived.Test.YtmpopfcnjgcncaaSpec81
import Derived.Test.YtmpopfcnjgcncaaSpec82
import Derived.Test.YtmpopfcnjgcncaaSpec83
import Derived.Test.YtmpopfcnjgcncaaLaw8
import Derived.Test.YtmpopfcnjgcncaaImpl8d
namespace Go.Proofs.Ytmpopfcnjgcncaa.fnExactTakeFrom
open Go.ChangeShapes Go.WideShapes Go.ChangeAt Go.RowKit
open Go.ChangeMaps (open_string shut_string)
open Pure2 Pure30 Pure40 Pure80 Rec
set_option linter.unusedVariables false

theorem own : ownKnob Try.prog.godebug = none := by kernel_rfl
theorem laidOut : laidOutB Try.prog = true := by kernel_rfl


set_option maxRecDepth 100000 in
set_option maxHeartbeats 4000000 in
theorem walk (w : World) (qa00 : Option Addr) (ql00 qc00 : Nat) (qa01 : Option Addr) (ql01 qc01 : Nat) (pv0 : Pure80.PoolV) (w0 : PoolV.In w qa00 ql00 qa01 ql01 pv0) (a1 : Int) (w1 : (Lit.int .i64 a1).wf = true) :
    Calls Try.prog 8 #[.agg #[.slice qa00 ql00 qc00, .slice qa01 ql01 qc01, .int .i64 pv0.state], .int .i64 a1] w fun e w' => e = .returned (.bool true) ∧ Below w.heap.size w w' := by
  have hm0 := w0.1.2.1; have hm1 := w0.2.2.1
  go_enter Try.func8, Try.ntmps8
  have HB := Lib.hid (boxed w (.cells #[.slice qa00 ql00 qc00, .slice qa01 ql01 qc01, .int .i64 pv0.state] 47))
  have HX := Lib.hid (PoolV.boxed w qa00 ql00 qc00 qa01 ql01 qc01 pv0 47)
  have HR := Lib.hid (w0.below HB.out)
  go_wp2_with fail
  refine (szPoolV_any qa00 ql00 qc00 qa01 ql01 qc01 pv0 1048576 _ (by omega) (by omega) hm0 hm1).mono ?_; rintro e u1 ⟨L0, rfl, hL1, hL, hB⟩
  have HB_1 := Lib.hid (HB.out.trans (hB.mono HB.out.size))
  have HX_1 := Lib.hid (HX.out.below hB)
  have HR_1 := Lib.hid (HR.out.below hB)
  clear hB
  by_cases hneg : L0 < 0
  · go_wp2_with fail
    go_ret
    exact ⟨rfl, HB_1.out⟩
  · skip
    obtain ⟨hzs, hjs⟩ := hL (by omega)
    clear hL
    have hsm := takeR_small pv0 a1
    obtain ⟨q, xs, c, hv⟩ : ∃ q xs c, takeR pv0 a1 = (q, xs, c) := ⟨_, _, _, rfl⟩
    have HSp := Lib.hid (fun bz bj W (h : PoolV.In W (some ⟨bz, 0, none⟩) ql00 (some ⟨bj, 0, none⟩) ql01 pv0) => show Calls Try.prog 15 #[.agg #[.slice (some ⟨bz, 0, none⟩) ql00 ql00, .slice (some ⟨bj, 0, none⟩) ql01 ql01, .int .i64 pv0.state], .int .i64 a1] W (SaysNewT8 q xs c W) from by have e := specTake8_any (some ⟨bz, 0, none⟩) ql00 ql00 (some ⟨bj, 0, none⟩) ql01 ql01 pv0 a1 W h (Nat.le_refl _) (fun e => by cases e) (fun e => by cases e); rw [hv] at e; exact e.mono fun _ _ hh => hh.newT)
    have HIm := Lib.hid (fun bz bj W (h : PoolV.In W (some ⟨bz, 0, none⟩) ql00 (some ⟨bj, 0, none⟩) ql01 pv0) => show Calls Try.prog 14 #[.agg #[.slice (some ⟨bz, 0, none⟩) ql00 ql00, .slice (some ⟨bj, 0, none⟩) ql01 ql01, .int .i64 pv0.state], .int .i64 a1] W (SaysNewT8 q xs c W) from by have e := implTake8_any (some ⟨bz, 0, none⟩) ql00 ql00 (some ⟨bj, 0, none⟩) ql01 ql01 pv0 a1 W h (Nat.le_refl _) (fun e => by cases e) (fun e => by cases e) (by omega); rw [hv] at e; exact e.mono fun _ _ hh => hh.newT)
    rw [hv] at hsm
    simp only at hsm
    clear hv
    obtain ⟨m0, m1, m2⟩ := hsm
    have hM2 : xs.length ≤ maxLen := by unfold maxLen; omega
    obtain ⟨ax0, ax1, ax2⟩ := HX_1.out
    go_wp2_with fail
    clear ax0 ax1 ax2
    refine (toPoolV_any qa00 ql00 qc00 qa01 ql01 qc01 pv0 u1 HR_1.out hzs hjs).mono ?_; rintro e u2 ⟨bz, bj, rfl, hb1bz, hb2bz, ho1bz, hb3bz, hb4bz, ho2bz, hnebz, hR2, hB⟩
    have HB_2 := Lib.hid (HB_1.out.trans (hB.mono HB_1.out.size))
    have HX_2 := Lib.hid (HX_1.out.below hB)
    have HR_2 := Lib.hid (HR_1.out.below hB)
    clear hB
    clear hb1bz hb2bz ho1bz hb3bz hb4bz ho2bz hnebz
    go_wp2_with fail
    refine (HSp.out bz bj u2 hR2).mono ?_; rintro e u3 ⟨aS0, eS0, aS1, eS1, aS2, eS2, rfl, o0, o1, o2, _, _, _, _, _, _, hB⟩
    have hin := ownP_in o0 o1 (by omega) (by omega)
    have hbx := boxed u3 (.cells #[.slice aS0 q.nums.length eS0, .slice aS1 q.drawn.length eS1, .int .i64 q.state] 26)
    have hB2 := hB.trans (hbx.mono hB.size)
    have HXS0 := Lib.hid (PoolV.boxed u3 aS0 q.nums.length eS0 aS1 q.drawn.length eS1 q 26)
    have HS0 := Lib.hid (hin.below hbx); have HL0 := Lib.hid ((ownI_reads o2).below hbx)
    have HB0 := Lib.hid (HB_2.out.trans (hB2.mono HB_2.out.size)); have HX0 := Lib.hid (HX_2.out.below hB2); have HR0 := Lib.hid (HR_2.out.below hB2)
    clear hB hB2 hbx o0 o1 o2 hin hR2
    obtain ⟨x0, x1, x2⟩ := HX0.out
    have hbs : u3.heap.size < (u3.alloc (.cells #[.slice aS0 q.nums.length eS0, .slice aS1 q.drawn.length eS1, .int .i64 q.state] 26)).heap.size := by simp
    obtain ⟨sb, hsb⟩ : ∃ sb, u3.heap.size = sb := ⟨_, rfl⟩
    go_wp2_with fail
    clear x0 x1 x2
    rw [hsb] at HXS0 hbs
    generalize u3.alloc (.cells #[.slice aS0 q.nums.length eS0, .slice aS1 q.drawn.length eS1, .int .i64 q.state] 26) = u4 at HXS0 HS0 HL0 HB0 HX0 HR0 hbs ⊢
    clear hsb
    obtain ⟨s5, hs5⟩ : ∃ s5, u4.heap.size = s5 := ⟨_, rfl⟩
    have hcv : ∀ W, Below s5 u4 W → Below u4.heap.size u4 W := fun W h => by rw [hs5]; exact h
    have HS := Lib.hid (fun (W : World) (h : Below s5 u4 W) => HS0.out.below (hcv W h)); have HLS := Lib.hid (fun (W : World) (h : Below s5 u4 W) => HL0.out.below (hcv W h)); have HXS := Lib.hid (fun (W : World) (h : Below s5 u4 W) => HXS0.out.below (hcv W h)); have HXA := Lib.hid (fun (W : World) (h : Below s5 u4 W) => HX0.out.below (hcv W h)); have HRA := Lib.hid (fun (W : World) (h : Below s5 u4 W) => HR0.out.below (hcv W h)); have HFIN := Lib.hid (fun (W : World) (h : Below s5 u4 W) => HB0.out.trans ((hcv W h).mono HB0.out.size))
    have E4 : Below s5 u4 u4 := Below.refl _ _
    have hu4 : s5 ≤ u4.heap.size := by omega
    refine (toPoolV_any qa00 ql00 qc00 qa01 ql01 qc01 pv0 u4 (HRA.out _ E4) hzs hjs).mono ?_; rintro e u5 ⟨bz2, bj2, rfl, e1, e3, ho1, e2, e4, ho2, hne, hR2, hB⟩
    rw [hs5] at e1 e2 ho1 ho2
    have E5 := from_step E4 hu4 hB
    clear hB
    have hbx := boxed u5 (.cells #[.slice (some ⟨bz2, 0, none⟩) ql00 ql00, .slice (some ⟨bj2, 0, none⟩) ql01 ql01, .int .i64 pv0.state] 26)
    have E6 := from_step E5 hu4 hbx
    have HOZ := Lib.hid (ho1.below hbx); have HOJ := Lib.hid (ho2.below hbx); have HZ := Lib.hid (hR2.below hbx); have HY := Lib.hid (PoolV.boxed u5 (some ⟨bz2, 0, none⟩) ql00 ql00 (some ⟨bj2, 0, none⟩) ql01 ql01 pv0 26)
    have hxs : (u5.alloc (.cells #[.slice (some ⟨bz2, 0, none⟩) ql00 ql00, .slice (some ⟨bj2, 0, none⟩) ql01 ql01, .int .i64 pv0.state] 26)).heap.size = u5.heap.size + 1 := by simp
    clear hbx ho1 ho2 hR2
    obtain ⟨xb, hxb⟩ : ∃ xb, u5.heap.size = xb := ⟨_, rfl⟩
    have y := HY.out
    rw [hxb] at y
    obtain ⟨y0, y1, y2⟩ := y
    go_wp2_with fail
    clear y0 y1 y2
    rw [hxb] at HY hxs e3 e4
    generalize u5.alloc (.cells #[.slice (some ⟨bz2, 0, none⟩) ql00 ql00, .slice (some ⟨bj2, 0, none⟩) ql01 ql01, .int .i64 pv0.state] 26) = u6 at HOZ HOJ HZ HY hxs E6 ⊢
    clear hxb
    refine (HIm.out bz2 bj2 u6 HZ.out).mono ?_; rintro e u7 ⟨aG0, eG0, aG1, eG1, aG2, eG2, rfl, o0, o1, o2, hA01, hA02, hA12, n0, n1, n2, hB⟩
    obtain ⟨cc, hcc⟩ : ∃ cc, u6.heap.size = cc := ⟨_, rfl⟩
    rw [hcc] at o0 o1 o2 n0 n1 n2 hxs
    have hcc7 : cc ≤ u7.heap.size := by rw [← hcc]; exact hB.size
    have hbx := boxed u7 (.cells #[.slice aG0 q.nums.length eG0, .slice aG1 q.drawn.length eG1, .int .i64 q.state] 26)
    have hB2 := hB.trans (hbx.mono hB.size)
    have E8 := from_step E6 hu4 hB2
    have HOZ8 := Lib.hid (HOZ.out.below hB2); have HOJ8 := Lib.hid (HOJ.out.below hB2); have HZ8 := Lib.hid (HZ.out.below hB2); have HY8 := Lib.hid (HY.out.below hB2)
    have HG0 := Lib.hid (o0.below hbx); have HG1 := Lib.hid (o1.below hbx); have HG2 := Lib.hid (o2.below hbx)
    have HXG := Lib.hid (PoolV.boxed u7 aG0 q.nums.length eG0 aG1 q.drawn.length eG1 q 26)
    have hgl : u7.heap.size < (u7.alloc (.cells #[.slice aG0 q.nums.length eG0, .slice aG1 q.drawn.length eG1, .int .i64 q.state] 26)).heap.size := by simp
    clear o0 o1 o2 hbx hB hB2 HOZ HOJ HZ HY
    obtain ⟨gb, hgb⟩ : ∃ gb, u7.heap.size = gb := ⟨_, rfl⟩
    have y := HXG.out
    rw [hgb] at y
    obtain ⟨y0, y1, y2⟩ := y
    obtain ⟨x0, x1, x2⟩ := HXS.out _ E8
    go_wp2_with fail
    clear x0 x1 x2 y0 y1 y2
    rw [hgb] at HXG hgl n0 n1 n2 hcc7
    generalize u7.alloc (.cells #[.slice aG0 q.nums.length eG0, .slice aG1 q.drawn.length eG1, .int .i64 q.state] 26) = u8 at HXG HG0 HG1 HG2 HOZ8 HOJ8 HZ8 HY8 E8 hgl ⊢
    clear hgb hcc
    refine (eqPoolV_same aG0 q.nums.length eG0 aG1 q.drawn.length eG1 aS0 eS0 aS1 eS1 q u8 (ownP_in HG0.out HG1.out (by omega) (by omega)) (HS.out u8 E8)).mono ?_; rintro e u9 ⟨rfl, hB⟩
    have E9 := from_step E8 hu4 hB; have HOZ9 := Lib.hid (HOZ8.out.below hB); have HOJ9 := Lib.hid (HOJ8.out.below hB); have HZ9 := Lib.hid (HZ8.out.below hB); have HY9 := Lib.hid (HY8.out.below hB); have HG09 := Lib.hid (HG0.out.below hB); have HG19 := Lib.hid (HG1.out.below hB); have HG29 := Lib.hid (HG2.out.below hB); have HXG9 := Lib.hid (HXG.out.below hB)
    have hgl9 : gb < u9.heap.size := Nat.lt_of_lt_of_le hgl hB.size
    clear hB HOZ8 HOJ8 HZ8 HY8 HG0 HG1 HG2 HXG
    go_wp2_with fail
    refine (sameB (eqInt64S_any aG2 aS2 xs.length eG2 xs.length eS2 xs xs u9 rfl rfl hM2 hM2 (ownI_reads HG29.out) (HLS.out _ E9))).mono ?_; rintro e u10 ⟨rfl, hB⟩
    have E10 := from_step E9 hu4 hB; have HOZ10 := Lib.hid (HOZ9.out.below hB); have HOJ10 := Lib.hid (HOJ9.out.below hB); have HZ10 := Lib.hid (HZ9.out.below hB); have HY10 := Lib.hid (HY9.out.below hB); have HG010 := Lib.hid (HG09.out.below hB); have HG110 := Lib.hid (HG19.out.below hB); have HG210 := Lib.hid (HG29.out.below hB); have HXG10 := Lib.hid (HXG9.out.below hB)
    have hgl10 : gb < u10.heap.size := Nat.lt_of_lt_of_le hgl9 hB.size
    clear hB HOZ9 HOJ9 HZ9 HY9 HG09 HG19 HG29 HXG9
    go_wp2_with fail
    have hdr := Below.drew (Below.refl u10.heap.size u10)
    have HdY := Lib.hid (HY10.out.below hdr); have HdX := Lib.hid ((HXA.out _ E10).below hdr); have HdR := Lib.hid ((HRA.out _ E10).below hdr); have HdZ := Lib.hid (HZ10.out.below hdr)
    go_region_held3 (fun W => (W.cell? ⟨xb, 0, none⟩ = some (.slice (some ⟨bz2, 0, none⟩) ql00 ql00) ∧ W.cell? ⟨xb, 1, none⟩ = some (.slice (some ⟨bj2, 0, none⟩) ql01 ql01) ∧ W.cell? ⟨xb, 2, none⟩ = some (.int .i64 pv0.state)) ∧ (W.cell? ⟨w.heap.size, 0, none⟩ = some (.slice qa00 ql00 qc00) ∧ W.cell? ⟨w.heap.size, 1, none⟩ = some (.slice qa01 ql01 qc01) ∧ W.cell? ⟨w.heap.size, 2, none⟩ = some (.int .i64 pv0.state))) (first | exact ⟨HdY.out, HdX.out⟩ | exact ⟨HdY.out.below hBq, HdX.out.below hBq⟩ | exact ⟨(HdY.out.below hBq).below hBr, (HdX.out.below hBq).below hBr⟩) (first | (go_at_call 37; refine (toPoolV_any qa00 ql00 qc00 qa01 ql01 qc01 pv0 u10.drew HdR.out hzs hjs).mono ?_; rintro e v1 ⟨bq, br, rfl, hb1bq, hb2bq, ho1bq, hb3bq, hb4bq, ho2bq, hnebq, hRq, hBq⟩) | (go_at_call 38; refine (eqPoolV_same (some ⟨bz2, 0, none⟩) ql00 ql00 (some ⟨bj2, 0, none⟩) ql01 ql01 (some ⟨bq, 0, none⟩) ql00 (some ⟨br, 0, none⟩) ql01 pv0 v1 (HdZ.out.below hBq) hRq).mono ?_; rintro e v2 ⟨rfl, hBr⟩))
    have hB := (hdr.trans hBq).trans (hBr.mono (hdr.trans hBq).size)
    have E11 := from_step E10 hu4 hB; have HOZ11 := Lib.hid (HOZ10.out.below hB); have HOJ11 := Lib.hid (HOJ10.out.below hB); have HY11 := Lib.hid (HY10.out.below hB); have HG011 := Lib.hid (HG010.out.below hB); have HG111 := Lib.hid (HG110.out.below hB); have HG211 := Lib.hid (HG210.out.below hB); have HXG11 := Lib.hid (HXG10.out.below hB)
    have hgl11 : gb < v2.heap.size := Nat.lt_of_lt_of_le hgl10 hB.size
    clear hB HOZ10 HOJ10 HY10 HG010 HG110 HG210 HXG10
    clear hdr hBq hBr HdY HdX HdR HdZ hRq HZ10
    clear hb1bq hb2bq ho1bq hb3bq hb4bq ho2bq hnebq
    obtain ⟨y0, y1, y2⟩ := HY11.out
    go_wp2_with fail
    clear y0 y1 y2
    refine (markPoolV_any s5 (some ⟨bz2, 0, none⟩) ql00 ql00 (some ⟨bj2, 0, none⟩) ql01 ql01 pv0 _ _ 1 v2 (by omega) (by omega) hzs hjs HOZ11.out HOJ11.out (apart_of hne)).mono ?_; rintro e v3 ⟨rfl, _, _, hT⟩
    have hE := E11.size
    have hS : ∀ x, some x ∈ [some (⟨bz2, 0, none⟩ : Addr), some ⟨bj2, 0, none⟩] → x.block < cc := by intro x hx; simp at hx; rcases hx with rfl | rfl <;> (show _ < cc; simp only; omega)
    have E12 := E11.trans (hT.below (by omega))
    have HG012 := Lib.hid (ownI_past HG011.out hT hS); have HG112 := Lib.hid (ownI_past HG111.out hT hS); have HG212 := Lib.hid (ownI_past HG211.out hT hS)
    have HXG12 := Lib.hid (HXG11.out.turn hT hgl11 (.inr (.inr fun x hx => by have := hS x hx; omega)))
    have hgl12 : gb < v3.heap.size := Nat.lt_of_lt_of_le hgl11 hT.2.2.2.1
    clear hT hE hS HG011 HG111 HG211 HXG11 HOZ11 HOJ11 HY11
    obtain ⟨y0, y1, y2⟩ := HXG12.out
    obtain ⟨x0, x1, x2⟩ := HXS.out _ E12
    go_wp2_with fail
    clear x0 x1 x2 y0 y1 y2
    refine (eqPoolV_same aG0 q.nums.length eG0 aG1 q.drawn.length eG1 aS0 eS0 aS1 eS1 q v3 (ownP_in HG012.out HG112.out (by omega) (by omega)) (HS.out v3 E12)).mono ?_; rintro e v4 ⟨rfl, hB⟩
    have E13 := from_step E12 hu4 hB; have HG013 := Lib.hid (HG012.out.below hB); have HG113 := Lib.hid (HG112.out.below hB); have HG213 := Lib.hid (HG212.out.below hB); have HXG13 := Lib.hid (HXG12.out.below hB)
    have hgl13 : gb < v4.heap.size := Nat.lt_of_lt_of_le hgl12 hB.size
    clear hB HG012 HG112 HG212 HXG12
    go_wp2_with fail
    refine (sameB (eqInt64S_any aG2 aS2 xs.length eG2 xs.length eS2 xs xs v4 rfl rfl hM2 hM2 (ownI_reads HG213.out) (HLS.out _ E13))).mono ?_; rintro e v5 ⟨rfl, hB⟩
    have E14 := from_step E13 hu4 hB; have HG014 := Lib.hid (HG013.out.below hB); have HG114 := Lib.hid (HG113.out.below hB); have HG214 := Lib.hid (HG213.out.below hB); have HXG14 := Lib.hid (HXG13.out.below hB)
    have hgl14 : gb < v5.heap.size := Nat.lt_of_lt_of_le hgl13 hB.size
    clear hB HG013 HG113 HG213 HXG13
    obtain ⟨y0, y1, y2⟩ := HXG14.out
    go_wp2_with fail
    clear y0 y1 y2
    refine (markPoolV_any cc aG0 q.nums.length eG0 aG1 q.drawn.length eG1 q _ _ 1 v5 (by omega) (by omega) (by omega) (by omega) HG014.out HG114.out hA01).mono ?_; rintro e v6 ⟨rfl, k0, k1, hT⟩
    have hE := E14.size
    have E15 := E14.trans ((hT.below (by omega)).mono (show s5 ≤ cc by omega))
    have HK015 := Lib.hid k0; have HK115 := Lib.hid k1
    have HG215 := Lib.hid (ownI_turn HG214.out hT (fun y hy => by
      simp at hy
      rcases hy with rfl | rfl
      · exact hA02.symm
      · exact hA12.symm))
    have HXG15 := Lib.hid (HXG14.out.turn hT hgl14 (.inr (.inr fun x hx => by
      simp at hx
      rcases hx with hx | hx
      · have := (n0 x hx.symm).2; omega
      · have := (n1 x hx.symm).2; omega)))
    have hgl15 : gb < v6.heap.size := Nat.lt_of_lt_of_le hgl14 hT.2.2.2.1
    clear hT hE k0 k1 HG014 HG114 HG214 HXG14
    go_wp2_with fail
    refine (markInt_any cc v6.heap.size aG2 xs.length eG2 _ (1 + (q.nums.length : Int) + q.drawn.length) v6 (by omega) (by omega) (by omega) HG215.out (fun x hx _ => by have := (n2 x hx).2; omega)).mono ?_; rintro e v7 ⟨rfl, k2, hT⟩
    have hE := E15.size
    have E16 := E15.trans ((hT.below (by omega)).mono (show s5 ≤ cc by omega))
    have HK216 := Lib.hid k2
    have HK016 := Lib.hid (ownI_turn HK015.out hT (fun y hy => by cases List.mem_singleton.1 hy; exact hA02)); have HK116 := Lib.hid (ownI_turn HK115.out hT (fun y hy => by cases List.mem_singleton.1 hy; exact hA12))
    have HXG16 := Lib.hid (HXG15.out.turn hT hgl15 (.inr (.inr fun x hx => by simp at hx; have := (n2 x hx.symm).2; omega)))
    clear hT hE k2 HK015 HK115 HG215 HXG15
    obtain ⟨y0, y1, y2⟩ := HXG16.out
    go_wp2_with fail
    clear y0 y1 y2
    refine (heldPoolV_any cc aG0 q.nums.length eG0 aG1 q.drawn.length eG1 q 1 v7 (by omega) (by omega) (by omega) (by omega) HK016.out HK116.out).mono ?_; rintro e v8 ⟨rfl, hB⟩
    have E17 := from_step E16 hu4 hB; have HK017 := Lib.hid (HK016.out.below hB); have HK117 := Lib.hid (HK116.out.below hB); have HK217 := Lib.hid (HK216.out.below hB); have HXG17 := Lib.hid (HXG16.out.below hB)
    clear hB HK016 HK116 HK216 HXG16
    go_wp2_with fail
    refine (heldInt64S_any cc aG2 xs.length eG2 (1 + (q.nums.length : Int) + q.drawn.length) v8 (by omega) (by omega) (by omega) HK217.out).mono ?_; rintro e v9 ⟨rfl, rfl⟩
    obtain ⟨x0, x1, x2⟩ := HXA.out _ E17
    go_wp2_with fail
    clear x0 x1 x2
    refine (toPoolV_any qa00 ql00 qc00 qa01 ql01 qc01 pv0 v8 (HRA.out _ E17) hzs hjs).mono ?_; rintro e v10 ⟨bm, bn, rfl, _, _, _, _, _, _, _, hR2, hB⟩
    have E18 := from_step E17 hu4 hB; have HK018 := Lib.hid (HK017.out.below hB); have HK118 := Lib.hid (HK117.out.below hB); have HK218 := Lib.hid (HK217.out.below hB); have HXG18 := Lib.hid (HXG17.out.below hB)
    clear hB HK017 HK117 HK217 HXG17
    go_wp2_with fail
    refine (HIm.out bm bn v10 hR2).mono ?_; rintro e v11 ⟨aH0, eH0, aH1, eH1, aH2, eH2, rfl, o0, o1, o2, _, _, _, _, _, _, hB⟩
    have hin := ownP_in o0 o1 (by omega) (by omega)
    have hbx := boxed v11 (.cells #[.slice aH0 q.nums.length eH0, .slice aH1 q.drawn.length eH1, .int .i64 q.state] 26)
    have hB2 := hB.trans (hbx.mono hB.size)
    have HH := Lib.hid (hin.below hbx); have HHL := Lib.hid ((ownI_reads o2).below hbx)
    have HXH := Lib.hid (PoolV.boxed v11 aH0 q.nums.length eH0 aH1 q.drawn.length eH1 q 26)
    clear hB
    have hB := hB2
    have E19 := from_step E18 hu4 hB; have HK019 := Lib.hid (HK018.out.below hB); have HK119 := Lib.hid (HK118.out.below hB); have HK219 := Lib.hid (HK218.out.below hB); have HXG19 := Lib.hid (HXG18.out.below hB)
    clear hB HK018 HK118 HK218 HXG18
    clear hB2 hbx hin o0 o1 o2 hR2
    obtain ⟨hb6, hhb6⟩ : ∃ hb6, v11.heap.size = hb6 := ⟨_, rfl⟩
    have y := HXH.out
    rw [hhb6] at y
    obtain ⟨y0, y1, y2⟩ := y
    obtain ⟨x0, x1, x2⟩ := HXS.out _ E19
    go_wp2_with fail
    clear x0 x1 x2 y0 y1 y2
    generalize v11.alloc (.cells #[.slice aH0 q.nums.length eH0, .slice aH1 q.drawn.length eH1, .int .i64 q.state] 26) = v12 at HH HHL HXH HK019 HK119 HK219 HXG19 E19 ⊢
    refine (eqPoolV_same aH0 q.nums.length eH0 aH1 q.drawn.length eH1 aS0 eS0 aS1 eS1 q v12 HH.out (HS.out v12 E19)).mono ?_; rintro e v13 ⟨rfl, hB⟩
    have HHL2 := Lib.hid (HHL.out.below hB)
    have E20 := from_step E19 hu4 hB; have HK020 := Lib.hid (HK019.out.below hB); have HK120 := Lib.hid (HK119.out.below hB); have HK220 := Lib.hid (HK219.out.below hB); have HXG20 := Lib.hid (HXG19.out.below hB)
    clear hB HK019 HK119 HK219 HXG19
    go_wp2_with fail
    refine (sameB (eqInt64S_any aH2 aS2 xs.length eH2 xs.length eS2 xs xs v13 rfl rfl hM2 hM2 HHL2.out (HLS.out _ E20))).mono ?_; rintro e v14 ⟨rfl, hB⟩
    have E21 := from_step E20 hu4 hB; have HK021 := Lib.hid (HK020.out.below hB); have HK121 := Lib.hid (HK120.out.below hB); have HK221 := Lib.hid (HK220.out.below hB); have HXG21 := Lib.hid (HXG20.out.below hB)
    clear hB HK020 HK120 HK220 HXG20
    obtain ⟨y0, y1, y2⟩ := HXG21.out
    go_wp2_with fail
    clear y0 y1 y2
    refine (heldPoolV_any cc aG0 q.nums.length eG0 aG1 q.drawn.length eG1 q 1 v14 (by omega) (by omega) (by omega) (by omega) HK021.out HK121.out).mono ?_; rintro e v15 ⟨rfl, hB⟩
    have E22 := from_step E21 hu4 hB; have HK022 := Lib.hid (HK021.out.below hB); have HK122 := Lib.hid (HK121.out.below hB); have HK222 := Lib.hid (HK221.out.below hB); have HXG22 := Lib.hid (HXG21.out.below hB)
    clear hB HK021 HK121 HK221 HXG21
    go_wp2_with fail
    refine (heldInt64S_any cc aG2 xs.length eG2 (1 + (q.nums.length : Int) + q.drawn.length) v15 (by omega) (by omega) (by omega) HK222.out).mono ?_; rintro e v16 ⟨rfl, rfl⟩
    go_wp2_with fail
    go_ret
    exact ⟨rfl, HFIN.out _ E22⟩

set_option maxRecDepth 100000 in
theorem lifted (os : Os) (started : os.Started) (H : Type) (enc : TypeId × Value → H) :
    ReturnsInHanded {} Try.checked os 8 .any (Rows.fnExactTakeFromSpec.pre6 enc Try.prog Try.f8 Rows.fnExactTakeFromRow.domain false) (Rows.fnExactTakeFromSpec.post enc Try.prog Try.f8 false true false false) := by
  refine returnsInHanded_of_change (C := Try.checked) own started (by kernel_rfl) Try.func8
    (ChangeSpec.witness6 (enc := enc) (C := Try.checked) false ⟨#[], #[.agg #[.slice none 0 0, .slice none 0 0, .int .i64 0], .int .i64 0], []⟩ 8 (by kernel_rfl) (by kernel_rfl) (by kernel_rfl) (by kernel_rfl)) ?_
  intro W base args ds gs before hval0 hW hcnd _
  have hval : ∀ (j : Nat) t v, Try.f8.params[j]? = some t → args[j]? = some v → Value.okWide Try.prog W .any base t v := hval0
  have hW' := hW
  obtain ⟨p, q, hA0, hV, rfl, hfz, hnd⟩ := hW
  have hA : DataW.TrodAll enc Try.prog W 0 (fun _ => true) true Try.f8.params.toList args.toList ds p := hA0
  rw [Try.params8] at hA hval
  obtain ⟨v0, vs0, d0, ds0, p0, q0, hargs, rfl, rfl, h0, r0⟩ := trodAll_cons hA
  obtain ⟨v1, vs1, d1, ds1, p1, q1, rfl, rfl, rfl, h1, r1⟩ := trodAll_cons r0
  obtain ⟨rfl, rfl, rfl⟩ := trodAll_nil r1
  obtain rfl : args = #[v0, v1] := by cases args; simp_all
  obtain ⟨rfl, rfl⟩ := trodVars_none hV
  have k0 := h0
  have lt0 : ∀ x ∈ p0, x.block < W.heap.size := by obtain ⟨m, hm⟩ := k0; exact DataW.trod_lt m _ _ _ hm
  obtain ⟨qa00, ql00, qc00, qa01, ql01, qc01, pv0, rfl, w0⟩ := PoolV.open Try.tyPoolV (hval 0 47 v0 rfl rfl) h0
  obtain ⟨a1, rfl, rfl, rfl, w1⟩ := open_int Try.underlying2 (hval 1 2 v1 rfl rfl) h1
  clear hA0 hval0
  refine (walk W qa00 ql00 qc00 qa01 ql01 qc01 pv0 w0 a1 w1).mono fun e W' ⟨he, bel⟩ => ?_
  subst he
  exact ⟨_, rfl, _, _, _, [], _, [], hW', trodAll_mk1 (shut_bool Try.underlying4 _), (trodAll_cons_mk (Below.trod laidOut (by kernel_rfl) (of_decide_eq_true (by kernel_rfl)) k0 bel lt0) (trodAll_cons_mk (shut_int Try.underlying2 w1) trodAll_mk0)), rfl, bel.frame _, fun h => by cases h⟩

theorem over : Rows.fnExactTakeFromRow.holds Try.pinned (OpenSpec.ofChange Rows.fnExactTakeFromSpec) :=
  OpenClaim.holds_of_wide 8 Try.f8 rfl rfl rfl rfl rfl rfl rfl ⟨rfl, rfl, rfl, rfl, rfl⟩ rfl rfl rfl rfl rfl (by kernel_rfl) Try.func8 (by kernel_rfl)
    (of_decide_eq_true (by kernel_rfl)) (by unfold Func.isWrapper; first | (rw [if_pos (by decide +kernel)]; kernel_rfl) | (rw [if_neg (by decide +kernel)]; exact ⟨rfl, rfl⟩))
    (fun os started H enc _ => lifted os started H enc)

/-- The statement. -/
theorem proved : Rows.FnExactTakeFromSaid := over
end Go.Proofs.Ytmpopfcnjgcncaa.fnExactTakeFrom
