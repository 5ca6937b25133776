/- Proved: for every pool and list of numbers, laws.FnExactPutBack returns true and leaves its arguments as they were: impl.PutBack answers as its model, in memory of its own. No condition. -/
import Derived.Test.YtmpopfcnjgcncaaRows
import Derived.WalkKit
import Derived.ProofKit
import Derived.OpenShut
import Derived.ShutString
import Derived.ChangeOld
import Derived.Below
import Derived.SliceStrings
import Derived.Lib.Hide
import Derived.Deep.RegionHeld3
import Derived.Deep.QuietTactic
import Derived.BigQuiet
import Derived.Test.YtmpopfcnjgcncaaBase
import Derived.Test.YtmpopfcnjgcncaaPure2
import Derived.Test.YtmpopfcnjgcncaaPure30
import Derived.Test.YtmpopfcnjgcncaaPure40
import Derived.Test.YtmpopfcnjgcncaaPure80
import Derived.Test.YtmpopfcnjgcncaaMarkI
import Derived.Test.YtmpopfcnjgcncaaEqInt
import Derived.Test.YtmpopfcnjgcncaaIntL
import Derived.Test.YtmpopfcnjgcncaaBuildI
import Derived.Test.YtmpopfcnjgcncaaBuild8
import Derived.Test.YtmpopfcnjgcncaaRowV
import Derived.Test.YtmpopfcnjgcncaaPoolA
import Derived.Test.YtmpopfcnjgcncaaPoolB
import Derived.Test.YtmpopfcnjgcncaaSpec80
import Derived.Test.YtmpopfcnjgcncaaSpec81
import Derived.Test.YtmpopfcnjgcncaaSpec82
import Derived.Test.YtmpopfcnjgcncaaSpec83
import Derived.Test.YtmpopfcnjgcncaaSpec84
import Derived.Test.YtmpopfcnjgcncaaSpec85
import Derived.Test.YtmpopfcnjgcncaaSpec86
import Derived.Test.YtmpopfcnjgcncaaLaw8
import Derived.Test.YtmpopfcnjgcncaaImpl8f
namespace Go.Proofs.Ytmpopfcnjgcncaa.fnExactPutBack
open Go.ChangeShapes Go.WideShapes Go.ChangeAt Go.RowKit
open Go.ChangeMaps (open_string shut_string)
open Pure2 Pure30 Pure40 Pure80 Rec
set_option linter.unusedVariables false

theorem own : ownKnob Try.prog.godebug = none := by kernel_rfl
theorem laidOut : laidOutB Try.prog = true := by kernel_rfl

/-- What the walk is told of a slice of integers that came in: it is nil, or it leads to a row of cap cells, the numbers zs. -/
def IsRow (k : IntKind) (w : World) (a : Option Addr) (len cap : Nat) (zs : List Int) : Prop :=
  (a = none ∧ len = 0 ∧ cap = 0 ∧ zs = []) ∨
  ∃ x, a = some x ∧ len ≤ cap ∧ cap ≤ maxLen ∧ zs.length = cap ∧ (∀ i, i < zs.length → w.cell? (x.add i) = some (.int k (zs.getD i 0))) ∧ ∀ n ∈ zs, (Lit.int k n).wf = true

set_option maxRecDepth 100000 in
set_option maxHeartbeats 4000000 in
theorem walk (w : World) (qa00 : Option Addr) (ql00 qc00 : Nat) (qa01 : Option Addr) (ql01 qc01 : Nat) (pv0 : Pure80.PoolV) (w0 : PoolV.In w qa00 ql00 qa01 ql01 pv0) (a1 : Option Addr) (len1 cap1 : Nat) (z1 : List Int) (w1 : IsRow .i64 w a1 len1 cap1 z1) :
    Calls Try.prog 9 #[.agg #[.slice qa00 ql00 qc00, .slice qa01 ql01 qc01, .int .i64 pv0.state], .slice a1 len1 cap1] w fun e w' => e = .returned (.bool true) ∧ Below w.heap.size w w' := by
  obtain ⟨hl, hm, hI⟩ := ints_of_row w1
  generalize z1.take len1 = bs at hl hI
  have hM := hm
  unfold maxLen at hm
  by_cases hb : 1048576 < (len1 : Int)
  · clear hl hI w1
    have HB := Lib.hid (boxed w (.cells #[.slice qa00 ql00 qc00, .slice qa01 ql01 qc01, .int .i64 pv0.state] 47))
    go_enter Try.func9, Try.ntmps9
    go_wp2
    go_ret
    exact ⟨rfl, HB.out⟩
  · skip
    have HL := Lib.hid hl; have HI := Lib.hid hI; clear hl hI w1
    have hm0 := w0.1.2.1; have hm1 := w0.2.2.1
    go_enter Try.func9, Try.ntmps9
    have HB := Lib.hid (boxed w (.cells #[.slice qa00 ql00 qc00, .slice qa01 ql01 qc01, .int .i64 pv0.state] 47))
    have HX := Lib.hid (PoolV.boxed w qa00 ql00 qc00 qa01 ql01 qc01 pv0 47)
    have HR := Lib.hid (w0.below HB.out)
    go_wp2_with fail
    refine (szPoolV_any qa00 ql00 qc00 qa01 ql01 qc01 pv0 1048576 _ (by omega) (by omega) hm0 hm1).mono ?_; rintro e u1 ⟨L0, rfl, hL1, hL, hB⟩
    have HB_1 := Lib.hid (HB.out.trans (hB.mono HB.out.size))
    have HX_1 := Lib.hid (HX.out.below hB)
    have HR_1 := Lib.hid (HR.out.below hB)
    clear hB
    by_cases hneg : L0 < 0
    · go_wp2_with fail
      go_ret
      exact ⟨rfl, HB_1.out⟩
    · skip
      obtain ⟨hzs, hjs⟩ := hL (by omega)
      clear hL
      have hsm := putR_small pv0 bs
      obtain ⟨q, c, hv⟩ : ∃ q c, putR pv0 bs = (q, c) := ⟨_, _, rfl⟩
      have HSp := Lib.hid (fun bz bj b W (h : PoolV.In W (some ⟨bz, 0, none⟩) ql00 (some ⟨bj, 0, none⟩) ql01 pv0) (hi : IntsAt W (some ⟨b, 0, none⟩) bs) => show Calls Try.prog 24 #[.agg #[.slice (some ⟨bz, 0, none⟩) ql00 ql00, .slice (some ⟨bj, 0, none⟩) ql01 ql01, .int .i64 pv0.state], .slice (some ⟨b, 0, none⟩) len1 len1] W (SaysNewP q c W) from by have e := specPut8_any (some ⟨bz, 0, none⟩) ql00 ql00 (some ⟨bj, 0, none⟩) ql01 ql01 pv0 (some ⟨b, 0, none⟩) len1 len1 bs W h ⟨HL.out, hM, hi⟩ (Nat.le_refl _) (Nat.le_refl _) (fun e => by cases e); rw [hv] at e; exact e.mono fun _ _ hh => hh.newP)
      have HIm := Lib.hid (fun bz bj b W (h : PoolV.In W (some ⟨bz, 0, none⟩) ql00 (some ⟨bj, 0, none⟩) ql01 pv0) (hi : IntsAt W (some ⟨b, 0, none⟩) bs) => show Calls Try.prog 23 #[.agg #[.slice (some ⟨bz, 0, none⟩) ql00 ql00, .slice (some ⟨bj, 0, none⟩) ql01 ql01, .int .i64 pv0.state], .slice (some ⟨b, 0, none⟩) len1 len1] W (SaysNewP q c W) from by have e := implPut8_any (some ⟨bz, 0, none⟩) ql00 ql00 (some ⟨bj, 0, none⟩) ql01 ql01 pv0 (some ⟨b, 0, none⟩) len1 len1 bs W h ⟨HL.out, hM, hi⟩ (Nat.le_refl _) (Nat.le_refl _) (fun e => by cases e) (fun e => by cases e) (by omega) (by omega); rw [hv] at e; exact e.mono fun _ _ hh => hh.newP)
      rw [hv] at hsm
      simp only at hsm
      clear hv
      obtain ⟨m0, m1⟩ := hsm
      obtain ⟨ax0, ax1, ax2⟩ := HX_1.out
      go_wp2_with fail
      clear ax0 ax1 ax2
      refine (toPoolV_any qa00 ql00 qc00 qa01 ql01 qc01 pv0 u1 HR_1.out hzs hjs).mono ?_; rintro e u2 ⟨bz, bj, rfl, hb1bz, hb2bz, ho1bz, hb3bz, hb4bz, ho2bz, hnebz, hR2, hB⟩
      have HB_2 := Lib.hid (HB_1.out.trans (hB.mono HB_1.out.size))
      have HX_2 := Lib.hid (HX_1.out.below hB)
      have HR_2 := Lib.hid (HR_1.out.below hB)
      clear hB
      clear hb1bz hb2bz ho1bz hb3bz hb4bz ho2bz hnebz
      go_wp2_with fail
      have HR2 := Lib.hid hR2
      clear hR2
      refine (Rec.toInt64W_any _ _ _ bs _ HL.out (by omega) (HI.out.below HB_2.out)).mono ?_; rintro e u2b ⟨bi, rfl, _, _, _, hI2, hBi⟩
      go_wp2_with fail
      refine (HSp.out bz bj bi u2b (HR2.out.below hBi) hI2).mono ?_; rintro e u3 ⟨aS0, eS0, aS1, eS1, rfl, o0, o1, _, _, _, hB0⟩
      have hB := hBi.trans (hB0.mono hBi.size)
      clear hBi hB0 hI2
      have hin := ownP_in o0 o1 (by omega) (by omega)
      have hbx := boxed u3 (.cells #[.slice aS0 q.nums.length eS0, .slice aS1 q.drawn.length eS1, .int .i64 q.state] 26)
      have hB2 := hB.trans (hbx.mono hB.size)
      have HXS0 := Lib.hid (PoolV.boxed u3 aS0 q.nums.length eS0 aS1 q.drawn.length eS1 q 26)
      have HS0 := Lib.hid (hin.below hbx)
      have HB0 := Lib.hid (HB_2.out.trans (hB2.mono HB_2.out.size)); have HX0 := Lib.hid (HX_2.out.below hB2); have HR0 := Lib.hid (HR_2.out.below hB2)
      clear hB hB2 hbx o0 o1 hin
      obtain ⟨x0, x1, x2⟩ := HX0.out
      have hbs : u3.heap.size < (u3.alloc (.cells #[.slice aS0 q.nums.length eS0, .slice aS1 q.drawn.length eS1, .int .i64 q.state] 26)).heap.size := by simp
      obtain ⟨sb, hsb⟩ : ∃ sb, u3.heap.size = sb := ⟨_, rfl⟩
      go_wp2_with fail
      clear x0 x1 x2
      rw [hsb] at HXS0 hbs
      generalize u3.alloc (.cells #[.slice aS0 q.nums.length eS0, .slice aS1 q.drawn.length eS1, .int .i64 q.state] 26) = u4 at HXS0 HS0 HB0 HX0 HR0 hbs ⊢
      clear hsb
      obtain ⟨s5, hs5⟩ : ∃ s5, u4.heap.size = s5 := ⟨_, rfl⟩
      have hcv : ∀ W, Below s5 u4 W → Below u4.heap.size u4 W := fun W h => by rw [hs5]; exact h
      have HS := Lib.hid (fun (W : World) (h : Below s5 u4 W) => HS0.out.below (hcv W h)); have HXS := Lib.hid (fun (W : World) (h : Below s5 u4 W) => HXS0.out.below (hcv W h)); have HXA := Lib.hid (fun (W : World) (h : Below s5 u4 W) => HX0.out.below (hcv W h)); have HRA := Lib.hid (fun (W : World) (h : Below s5 u4 W) => HR0.out.below (hcv W h)); have HFIN := Lib.hid (fun (W : World) (h : Below s5 u4 W) => HB0.out.trans ((hcv W h).mono HB0.out.size)); have HIE := Lib.hid (fun (W : World) (h : Below s5 u4 W) => HI.out.below (HFIN.out W h))
      have E4 : Below s5 u4 u4 := Below.refl _ _
      have hu4 : s5 ≤ u4.heap.size := by omega
      refine (toPoolV_any qa00 ql00 qc00 qa01 ql01 qc01 pv0 u4 (HRA.out _ E4) hzs hjs).mono ?_; rintro e u5 ⟨bz2, bj2, rfl, e1, e3, ho1, e2, e4, ho2, hne, hR2, hB⟩
      rw [hs5] at e1 e2 ho1 ho2
      have E5 := from_step E4 hu4 hB
      clear hB
      have hbx := boxed u5 (.cells #[.slice (some ⟨bz2, 0, none⟩) ql00 ql00, .slice (some ⟨bj2, 0, none⟩) ql01 ql01, .int .i64 pv0.state] 26)
      have E6 := from_step E5 hu4 hbx
      have HOZ := Lib.hid (ho1.below hbx); have HOJ := Lib.hid (ho2.below hbx); have HZ := Lib.hid (hR2.below hbx); have HY := Lib.hid (PoolV.boxed u5 (some ⟨bz2, 0, none⟩) ql00 ql00 (some ⟨bj2, 0, none⟩) ql01 ql01 pv0 26)
      have hxs : (u5.alloc (.cells #[.slice (some ⟨bz2, 0, none⟩) ql00 ql00, .slice (some ⟨bj2, 0, none⟩) ql01 ql01, .int .i64 pv0.state] 26)).heap.size = u5.heap.size + 1 := by simp
      clear hbx ho1 ho2 hR2
      obtain ⟨xb, hxb⟩ : ∃ xb, u5.heap.size = xb := ⟨_, rfl⟩
      have y := HY.out
      rw [hxb] at y
      obtain ⟨y0, y1, y2⟩ := y
      go_wp2_with fail
      clear y0 y1 y2
      rw [hxb] at HY hxs e3 e4
      generalize u5.alloc (.cells #[.slice (some ⟨bz2, 0, none⟩) ql00 ql00, .slice (some ⟨bj2, 0, none⟩) ql01 ql01, .int .i64 pv0.state] 26) = u6 at HOZ HOJ HZ HY hxs E6 ⊢
      clear hxb
      refine (Rec.toInt64W_any _ _ _ bs _ HL.out (by omega) (HIE.out _ E6)).mono ?_; rintro e u6b ⟨bx, rfl, f1, f2, hox, hIx, hBx⟩
      have E6b := from_step E6 hu4 hBx
      have hsx := E6.size
      have HOX := Lib.hid (Rec.ownI_mono hox (show s5 ≤ u6.heap.size by omega)); have HIX := Lib.hid hIx
      have HOZb := Lib.hid (HOZ.out.below hBx); have HOJb := Lib.hid (HOJ.out.below hBx); have HZb := Lib.hid (HZ.out.below hBx); have HYb := Lib.hid (HY.out.below hBx)
      have hbx5 : s5 ≤ bx := by omega
      have hbxz : bx ≠ bz2 ∧ bx ≠ bj2 := ⟨by omega, by omega⟩
      have hxb6 : xb < u6b.heap.size := by omega
      clear hox hIx hBx HOZ HOJ HZ HY f1 hsx
      obtain ⟨y0, y1, y2⟩ := HYb.out
      go_wp2_with fail
      clear y0 y1 y2
      refine (HIm.out bz2 bj2 bx u6b HZb.out HIX.out).mono ?_; rintro e u7 ⟨aG0, eG0, aG1, eG1, rfl, o0, o1, hA01, n0, n1, hB⟩
      obtain ⟨cc, hcc⟩ : ∃ cc, u6b.heap.size = cc := ⟨_, rfl⟩
      rw [hcc] at o0 o1 n0 n1 f2 hxb6
      have hcc7 : cc ≤ u7.heap.size := by rw [← hcc]; exact hB.size
      have hbx := boxed u7 (.cells #[.slice aG0 q.nums.length eG0, .slice aG1 q.drawn.length eG1, .int .i64 q.state] 26)
      have hB2 := hB.trans (hbx.mono hB.size)
      have E8 := from_step E6b hu4 hB2
      have HOZ8 := Lib.hid (HOZb.out.below hB2); have HOJ8 := Lib.hid (HOJb.out.below hB2); have HZ8 := Lib.hid (HZb.out.below hB2); have HY8 := Lib.hid (HYb.out.below hB2); have HOX8 := Lib.hid (HOX.out.below hB2)
      have HG0 := Lib.hid (o0.below hbx); have HG1 := Lib.hid (o1.below hbx)
      have HXG := Lib.hid (PoolV.boxed u7 aG0 q.nums.length eG0 aG1 q.drawn.length eG1 q 26)
      have hgl : u7.heap.size < (u7.alloc (.cells #[.slice aG0 q.nums.length eG0, .slice aG1 q.drawn.length eG1, .int .i64 q.state] 26)).heap.size := by simp
      clear o0 o1 hbx hB hB2 HOZb HOJb HZb HYb HOX
      obtain ⟨gb, hgb⟩ : ∃ gb, u7.heap.size = gb := ⟨_, rfl⟩
      have y := HXG.out
      rw [hgb] at y
      obtain ⟨y0, y1, y2⟩ := y
      obtain ⟨x0, x1, x2⟩ := HXS.out _ E8
      go_wp2_with fail
      clear x0 x1 x2 y0 y1 y2
      rw [hgb] at HXG hgl n0 n1 hcc7
      generalize u7.alloc (.cells #[.slice aG0 q.nums.length eG0, .slice aG1 q.drawn.length eG1, .int .i64 q.state] 26) = u8 at HXG HG0 HG1 HOZ8 HOJ8 HOX8 HZ8 HY8 E8 hgl ⊢
      clear hgb hcc
      refine (eqPoolV_same aG0 q.nums.length eG0 aG1 q.drawn.length eG1 aS0 eS0 aS1 eS1 q u8 (ownP_in HG0.out HG1.out (by omega) (by omega)) (HS.out u8 E8)).mono ?_; rintro e u9 ⟨rfl, hB⟩
      have E10 := from_step E8 hu4 hB; have HOZ10 := Lib.hid (HOZ8.out.below hB); have HOJ10 := Lib.hid (HOJ8.out.below hB); have HZ10 := Lib.hid (HZ8.out.below hB); have HY10 := Lib.hid (HY8.out.below hB); have HOX10 := Lib.hid (HOX8.out.below hB); have HG010 := Lib.hid (HG0.out.below hB); have HG110 := Lib.hid (HG1.out.below hB); have HXG10 := Lib.hid (HXG.out.below hB)
      have hgl10 : gb < u9.heap.size := Nat.lt_of_lt_of_le hgl hB.size
      clear hB HOZ8 HOJ8 HZ8 HY8 HOX8 HG0 HG1 HXG
      go_wp2_with fail
      have hdr := Below.drew (Below.refl u9.heap.size u9)
      have HdY := Lib.hid (HY10.out.below hdr); have HdX := Lib.hid ((HXA.out _ E10).below hdr); have HdR := Lib.hid ((HRA.out _ E10).below hdr); have HdZ := Lib.hid (HZ10.out.below hdr)
      go_region_held3 (fun W => (W.cell? ⟨xb, 0, none⟩ = some (.slice (some ⟨bz2, 0, none⟩) ql00 ql00) ∧ W.cell? ⟨xb, 1, none⟩ = some (.slice (some ⟨bj2, 0, none⟩) ql01 ql01) ∧ W.cell? ⟨xb, 2, none⟩ = some (.int .i64 pv0.state)) ∧ (W.cell? ⟨w.heap.size, 0, none⟩ = some (.slice qa00 ql00 qc00) ∧ W.cell? ⟨w.heap.size, 1, none⟩ = some (.slice qa01 ql01 qc01) ∧ W.cell? ⟨w.heap.size, 2, none⟩ = some (.int .i64 pv0.state))) (first | exact ⟨HdY.out, HdX.out⟩ | exact ⟨HdY.out.below hBq, HdX.out.below hBq⟩ | exact ⟨(HdY.out.below hBq).below hBr, (HdX.out.below hBq).below hBr⟩) (first | (go_at_call 37; refine (toPoolV_any qa00 ql00 qc00 qa01 ql01 qc01 pv0 u9.drew HdR.out hzs hjs).mono ?_; rintro e v1 ⟨bq, br, rfl, hb1bq, hb2bq, ho1bq, hb3bq, hb4bq, ho2bq, hnebq, hRq, hBq⟩) | (go_at_call 38; refine (eqPoolV_same (some ⟨bz2, 0, none⟩) ql00 ql00 (some ⟨bj2, 0, none⟩) ql01 ql01 (some ⟨bq, 0, none⟩) ql00 (some ⟨br, 0, none⟩) ql01 pv0 v1 (HdZ.out.below hBq) hRq).mono ?_; rintro e v2 ⟨rfl, hBr⟩))
      have hB := (hdr.trans hBq).trans (hBr.mono (hdr.trans hBq).size)
      have E11a := from_step E10 hu4 hB; have HOZ11a := Lib.hid (HOZ10.out.below hB); have HOJ11a := Lib.hid (HOJ10.out.below hB); have HY11a := Lib.hid (HY10.out.below hB); have HOX11a := Lib.hid (HOX10.out.below hB); have HG011a := Lib.hid (HG010.out.below hB); have HG111a := Lib.hid (HG110.out.below hB); have HXG11a := Lib.hid (HXG10.out.below hB)
      have hgl11a : gb < v2.heap.size := Nat.lt_of_lt_of_le hgl10 hB.size
      clear hB HOZ10 HOJ10 HY10 HOX10 HG010 HG110 HXG10
      clear hdr hBq hBr HdY HdX HdR HdZ hRq HZ10
      clear hb1bq hb2bq ho1bq hb3bq hb4bq ho2bq hnebq
      go_wp2_with fail
      refine (Rec.toInt64W_any _ _ _ bs _ HL.out (by omega) (HIE.out _ E11a)).mono ?_; rintro e v2b ⟨by8, rfl, _, _, _, hIy, hB⟩
      have E11b := from_step E11a hu4 hB; have HOZ11b := Lib.hid (HOZ11a.out.below hB); have HOJ11b := Lib.hid (HOJ11a.out.below hB); have HY11b := Lib.hid (HY11a.out.below hB); have HOX11b := Lib.hid (HOX11a.out.below hB); have HG011b := Lib.hid (HG011a.out.below hB); have HG111b := Lib.hid (HG111a.out.below hB); have HXG11b := Lib.hid (HXG11a.out.below hB)
      have hgl11b : gb < v2b.heap.size := Nat.lt_of_lt_of_le hgl11a hB.size
      clear hB HOZ11a HOJ11a HY11a HOX11a HG011a HG111a HXG11a
      have hrx : IntsAt v2b (some ⟨bx, 0, none⟩) bs := ownI_reads (by rw [HL.out]; exact HOX11b.out)
      go_wp2_with fail
      refine (sameB (eqInt64S_any _ _ _ _ _ _ bs bs _ HL.out HL.out hM hM hrx hIy)).mono ?_; rintro e v2c ⟨rfl, hB⟩
      have E11 := from_step E11b hu4 hB; have HOZ11 := Lib.hid (HOZ11b.out.below hB); have HOJ11 := Lib.hid (HOJ11b.out.below hB); have HY11 := Lib.hid (HY11b.out.below hB); have HOX11 := Lib.hid (HOX11b.out.below hB); have HG011 := Lib.hid (HG011b.out.below hB); have HG111 := Lib.hid (HG111b.out.below hB); have HXG11 := Lib.hid (HXG11b.out.below hB)
      have hgl11 : gb < v2c.heap.size := Nat.lt_of_lt_of_le hgl11b hB.size
      clear hB HOZ11b HOJ11b HY11b HOX11b HG011b HG111b HXG11b
      clear hrx hIy
      obtain ⟨y0, y1, y2⟩ := HY11.out
      go_wp2_with fail
      clear y0 y1 y2
      refine (markPoolV_any s5 (some ⟨bz2, 0, none⟩) ql00 ql00 (some ⟨bj2, 0, none⟩) ql01 ql01 pv0 _ _ 1 v2c (by omega) (by omega) hzs hjs HOZ11.out HOJ11.out (apart_of hne)).mono ?_; rintro e v3 ⟨rfl, _, _, hT⟩
      have hE := E11.size
      have hS : ∀ x, some x ∈ [some (⟨bz2, 0, none⟩ : Addr), some ⟨bj2, 0, none⟩] → x.block < cc := by intro x hx; simp at hx; rcases hx with rfl | rfl <;> (show _ < cc; simp only; omega)
      have E12 := E11.trans (hT.below (by omega))
      have HG012a := Lib.hid (ownI_past HG011.out hT hS); have HG112a := Lib.hid (ownI_past HG111.out hT hS)
      have HOX12 := Lib.hid (ownI_turn HOX11.out hT (fun y hy => by
        simp at hy
        rcases hy with rfl | rfl
        · exact apart_of hbxz.1
        · exact apart_of hbxz.2))
      have HXG12a := Lib.hid (HXG11.out.turn hT hgl11 (.inr (.inr fun x hx => by have := hS x hx; omega)))
      have hgl12a : gb < v3.heap.size := Nat.lt_of_lt_of_le hgl11 hT.2.2.2.1
      clear hT hE hS HG011 HG111 HXG11 HOZ11 HOJ11 HOX11 HY11
      go_wp2_with fail
      refine (markInt_any s5 cc (some ⟨bx, 0, none⟩) len1 len1 _ (1 + (ql00 : Int) + ql01) v3 (by omega) (by omega) (by omega) HOX12.out (fun x hx _ => by cases hx; exact f2)).mono ?_; rintro e v3b ⟨rfl, _, hT⟩
      have hE := E12.size
      have hS : ∀ x, some x ∈ [some (⟨bx, 0, none⟩ : Addr)] → x.block < cc := by intro x hx; cases List.mem_singleton.1 hx; exact f2
      have E12b := E12.trans (hT.below (by omega))
      have HG012 := Lib.hid (ownI_past HG012a.out hT hS); have HG112 := Lib.hid (ownI_past HG112a.out hT hS)
      have HXG12 := Lib.hid (HXG12a.out.turn hT hgl12a (.inr (.inr fun x hx => by have := hS x hx; omega)))
      have hgl12 : gb < v3b.heap.size := Nat.lt_of_lt_of_le hgl12a hT.2.2.2.1
      clear hT hE hS HG012a HG112a HXG12a HOX12
      obtain ⟨y0, y1, y2⟩ := HXG12.out
      obtain ⟨x0, x1, x2⟩ := HXS.out _ E12b
      go_wp2_with fail
      clear x0 x1 x2 y0 y1 y2
      refine (eqPoolV_same aG0 q.nums.length eG0 aG1 q.drawn.length eG1 aS0 eS0 aS1 eS1 q v3b (ownP_in HG012.out HG112.out (by omega) (by omega)) (HS.out v3b E12b)).mono ?_; rintro e v4 ⟨rfl, hB⟩
      have E14 := from_step E12b hu4 hB; have HG014 := Lib.hid (HG012.out.below hB); have HG114 := Lib.hid (HG112.out.below hB); have HXG14 := Lib.hid (HXG12.out.below hB)
      have hgl14 : gb < v4.heap.size := Nat.lt_of_lt_of_le hgl12 hB.size
      clear hB HG012 HG112 HXG12
      obtain ⟨y0, y1, y2⟩ := HXG14.out
      go_wp2_with fail
      clear y0 y1 y2
      refine (markPoolV_any cc aG0 q.nums.length eG0 aG1 q.drawn.length eG1 q _ _ 1 v4 (by omega) (by omega) (by omega) (by omega) HG014.out HG114.out hA01).mono ?_; rintro e v6 ⟨rfl, k0, k1, hT⟩
      have hE := E14.size
      have E15 := E14.trans ((hT.below (by omega)).mono (show s5 ≤ cc by omega))
      have HK015 := Lib.hid k0; have HK115 := Lib.hid k1
      have HXG15 := Lib.hid (HXG14.out.turn hT hgl14 (.inr (.inr fun x hx => by
        simp at hx
        rcases hx with hx | hx
        · have := (n0 x hx.symm).2; omega
        · have := (n1 x hx.symm).2; omega)))
      have hgl15 : gb < v6.heap.size := Nat.lt_of_lt_of_le hgl14 hT.2.2.2.1
      clear hT hE k0 k1 HG014 HG114 HXG14
      obtain ⟨y0, y1, y2⟩ := HXG15.out
      go_wp2_with fail
      clear y0 y1 y2
      refine (heldPoolV_any cc aG0 q.nums.length eG0 aG1 q.drawn.length eG1 q 1 v6 (by omega) (by omega) (by omega) (by omega) HK015.out HK115.out).mono ?_; rintro e v8 ⟨rfl, hB⟩
      have E17 := from_step E15 hu4 hB; have HK017 := Lib.hid (HK015.out.below hB); have HK117 := Lib.hid (HK115.out.below hB); have HXG17 := Lib.hid (HXG15.out.below hB)
      clear hB HK015 HK115 HXG15
      obtain ⟨x0, x1, x2⟩ := HXA.out _ E17
      go_wp2_with fail
      clear x0 x1 x2
      refine (toPoolV_any qa00 ql00 qc00 qa01 ql01 qc01 pv0 v8 (HRA.out _ E17) hzs hjs).mono ?_; rintro e v10 ⟨bm, bn, rfl, _, _, _, _, _, _, _, hR2, hB⟩
      have HR3 := Lib.hid hR2
      clear hR2
      have E18 := from_step E17 hu4 hB; have HK018 := Lib.hid (HK017.out.below hB); have HK118 := Lib.hid (HK117.out.below hB); have HXG18 := Lib.hid (HXG17.out.below hB)
      clear hB HK017 HK117 HXG17
      go_wp2_with fail
      refine (Rec.toInt64W_any _ _ _ bs _ HL.out (by omega) (HIE.out _ E18)).mono ?_; rintro e v10b ⟨bo, rfl, _, _, _, hI5, hB⟩
      have HR4 := Lib.hid (HR3.out.below hB)
      have E18b := from_step E18 hu4 hB; have HK018b := Lib.hid (HK018.out.below hB); have HK118b := Lib.hid (HK118.out.below hB); have HXG18b := Lib.hid (HXG18.out.below hB)
      clear hB HK018 HK118 HXG18
      go_wp2_with fail
      refine (HIm.out bm bn bo v10b HR4.out hI5).mono ?_; rintro e v11 ⟨aH0, eH0, aH1, eH1, rfl, o0, o1, _, _, _, hB⟩
      have hin := ownP_in o0 o1 (by omega) (by omega)
      have hbx := boxed v11 (.cells #[.slice aH0 q.nums.length eH0, .slice aH1 q.drawn.length eH1, .int .i64 q.state] 26)
      have hB2 := hB.trans (hbx.mono hB.size)
      have HH := Lib.hid (hin.below hbx)
      have HXH := Lib.hid (PoolV.boxed v11 aH0 q.nums.length eH0 aH1 q.drawn.length eH1 q 26)
      clear hB
      have hB := hB2
      have E19 := from_step E18b hu4 hB; have HK019 := Lib.hid (HK018b.out.below hB); have HK119 := Lib.hid (HK118b.out.below hB); have HXG19 := Lib.hid (HXG18b.out.below hB)
      clear hB HK018b HK118b HXG18b
      clear hB2 hbx hin o0 o1 hI5
      obtain ⟨hb6, hhb6⟩ : ∃ hb6, v11.heap.size = hb6 := ⟨_, rfl⟩
      have y := HXH.out
      rw [hhb6] at y
      obtain ⟨y0, y1, y2⟩ := y
      obtain ⟨x0, x1, x2⟩ := HXS.out _ E19
      go_wp2_with fail
      clear x0 x1 x2 y0 y1 y2
      generalize v11.alloc (.cells #[.slice aH0 q.nums.length eH0, .slice aH1 q.drawn.length eH1, .int .i64 q.state] 26) = v12 at HH HXH HK019 HK119 HXG19 E19 ⊢
      refine (eqPoolV_same aH0 q.nums.length eH0 aH1 q.drawn.length eH1 aS0 eS0 aS1 eS1 q v12 HH.out (HS.out v12 E19)).mono ?_; rintro e v13 ⟨rfl, hB⟩
      have E21 := from_step E19 hu4 hB; have HK021 := Lib.hid (HK019.out.below hB); have HK121 := Lib.hid (HK119.out.below hB); have HXG21 := Lib.hid (HXG19.out.below hB)
      clear hB HK019 HK119 HXG19
      obtain ⟨y0, y1, y2⟩ := HXG21.out
      go_wp2_with fail
      clear y0 y1 y2
      refine (heldPoolV_any cc aG0 q.nums.length eG0 aG1 q.drawn.length eG1 q 1 v13 (by omega) (by omega) (by omega) (by omega) HK021.out HK121.out).mono ?_; rintro e v15 ⟨rfl, hB⟩
      have E22 := from_step E21 hu4 hB; have HK022 := Lib.hid (HK021.out.below hB); have HK122 := Lib.hid (HK121.out.below hB); have HXG22 := Lib.hid (HXG21.out.below hB)
      clear hB HK021 HK121 HXG21
      go_wp2_with fail
      go_ret
      exact ⟨rfl, HFIN.out _ E22⟩

set_option maxRecDepth 100000 in
theorem lifted (os : Os) (started : os.Started) (H : Type) (enc : TypeId × Value → H) :
    ReturnsInHanded {} Try.checked os 9 .any (Rows.fnExactPutBackSpec.pre6 enc Try.prog Try.f9 Rows.fnExactPutBackRow.domain false) (Rows.fnExactPutBackSpec.post enc Try.prog Try.f9 false true false false) := by
  refine returnsInHanded_of_change (C := Try.checked) own started (by kernel_rfl) Try.func9
    (ChangeSpec.witness6 (enc := enc) (C := Try.checked) false ⟨#[], #[.agg #[.slice none 0 0, .slice none 0 0, .int .i64 0], .slice none 0 0], []⟩ 8 (by kernel_rfl) (by kernel_rfl) (by kernel_rfl) (by kernel_rfl)) ?_
  intro W base args ds gs before hval0 hW hcnd _
  have hval : ∀ (j : Nat) t v, Try.f9.params[j]? = some t → args[j]? = some v → Value.okWide Try.prog W .any base t v := hval0
  have hW' := hW
  obtain ⟨p, q, hA0, hV, rfl, hfz, hnd⟩ := hW
  have hA : DataW.TrodAll enc Try.prog W 0 (fun _ => true) true Try.f9.params.toList args.toList ds p := hA0
  rw [Try.params9] at hA hval
  obtain ⟨v0, vs0, d0, ds0, p0, q0, hargs, rfl, rfl, h0, r0⟩ := trodAll_cons hA
  obtain ⟨v1, vs1, d1, ds1, p1, q1, rfl, rfl, rfl, h1, r1⟩ := trodAll_cons r0
  obtain ⟨rfl, rfl, rfl⟩ := trodAll_nil r1
  obtain rfl : args = #[v0, v1] := by cases args; simp_all
  obtain ⟨rfl, rfl⟩ := trodVars_none hV
  have k0 := h0
  have lt0 : ∀ x ∈ p0, x.block < W.heap.size := by obtain ⟨m, hm⟩ := k0; exact DataW.trod_lt m _ _ _ hm
  obtain ⟨qa00, ql00, qc00, qa01, ql01, qc01, pv0, rfl, w0⟩ := PoolV.open Try.tyPoolV (hval 0 47 v0 rfl rfl) h0
  obtain ⟨a1, len1, cap1, rfl⟩ := okWide_slice Try.underlying24 (hval 1 24 v1 rfl rfl)
  have k1 := h1
  have lt1 : ∀ x ∈ p1, x.block < W.heap.size := by obtain ⟨m, hm⟩ := k1; exact DataW.trod_lt m _ _ _ hm
  obtain ⟨z1, w1⟩ : ∃ zs, IsRow .i64 W a1 len1 cap1 zs := by
    obtain ⟨fuel, hf⟩ := h1
    rcases open_ints Try.underlying24 Try.underlying2 (by kernel_rfl) hf with ⟨hcs, _⟩ | ⟨x, l, c, zs, hcs, _, hl, hm, hz, _, hcell, hwz⟩
    · simp [Value.cells] at hcs
      obtain ⟨rfl, rfl, rfl⟩ := hcs
      exact ⟨[], .inl ⟨rfl, rfl, rfl, rfl⟩⟩
    · simp [Value.cells] at hcs
      obtain ⟨rfl, rfl, rfl⟩ := hcs
      exact ⟨zs, .inr ⟨_, rfl, hl, hm, by simpa using hz, hcell, hwz⟩⟩
  clear hA0 hval0
  refine (walk W qa00 ql00 qc00 qa01 ql01 qc01 pv0 w0 a1 len1 cap1 z1 w1).mono fun e W' ⟨he, bel⟩ => ?_
  subst he
  exact ⟨_, rfl, _, _, _, [], _, [], hW', trodAll_mk1 (shut_bool Try.underlying4 _), (trodAll_cons_mk (Below.trod laidOut (by kernel_rfl) (of_decide_eq_true (by kernel_rfl)) k0 bel lt0) (trodAll_cons_mk (Below.trod laidOut (by kernel_rfl) (of_decide_eq_true (by kernel_rfl)) k1 bel lt1) trodAll_mk0)), rfl, bel.frame _, fun h => by cases h⟩

theorem over : Rows.fnExactPutBackRow.holds Try.pinned (OpenSpec.ofChange Rows.fnExactPutBackSpec) :=
  OpenClaim.holds_of_wide 9 Try.f9 rfl rfl rfl rfl rfl rfl rfl ⟨rfl, rfl, rfl, rfl, rfl⟩ rfl rfl rfl rfl rfl (by kernel_rfl) Try.func9 (by kernel_rfl)
    (of_decide_eq_true (by kernel_rfl)) (by unfold Func.isWrapper; first | (rw [if_pos (by decide +kernel)]; kernel_rfl) | (rw [if_neg (by decide +kernel)]; exact ⟨rfl, rfl⟩))
    (fun os started H enc _ => lifted os started H enc)

/-- The statement. -/
theorem proved : Rows.FnExactPutBackSaid := over
end Go.Proofs.Ytmpopfcnjgcncaa.fnExactPutBack
