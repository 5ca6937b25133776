/- Proved: for every rules and every list of candidates, laws.FnExactQualifiedOf returns true and leaves its arguments as they were: impl.QualifiedOf answers as its model, in memory of its own. No condition. -/
import Derived.Test.YtjnjmoiilapbiaaRows
import Derived.WalkKit
import Derived.ProofKit
import Derived.OpenShut
import Derived.ShutString
import Derived.ChangeOld
import Derived.Below
import Derived.SliceStrings
import Derived.Lib.Hide
import Derived.Deep.RegionHeld3
import Derived.Test.YtjnjmoiilapbiaaBase
import Derived.Test.YtjnjmoiilapbiaaPure40
import Derived.Test.YtjnjmoiilapbiaaPure60
import Derived.Test.YtjnjmoiilapbiaaPure61
import Derived.Test.YtjnjmoiilapbiaaPersOpen
import Derived.Test.YtjnjmoiilapbiaaCandOpen
import Derived.Test.YtjnjmoiilapbiaaPersLaw
import Derived.Test.YtjnjmoiilapbiaaMarkI
import Derived.Test.YtjnjmoiilapbiaaEqInt
import Derived.Test.YtjnjmoiilapbiaaBuild6
import Derived.Test.YtjnjmoiilapbiaaHas6
import Derived.Test.YtjnjmoiilapbiaaTruth6
import Derived.Test.YtjnjmoiilapbiaaRul6
import Derived.Test.YtjnjmoiilapbiaaAns6
import Derived.Test.YtjnjmoiilapbiaaRulLaw6
import Derived.Test.YtjnjmoiilapbiaaMarkT6
import Derived.Test.YtjnjmoiilapbiaaCandLaw6
import Derived.Test.YtjnjmoiilapbiaaQual6
import Derived.Test.YtjnjmoiilapbiaaSmall6
namespace Go.Proofs.Ytjnjmoiilapbiaa.fnExactQualifiedOf
open Go.ChangeShapes Go.WideShapes Go.ChangeAt Go.RowKit
open Go.ChangeMaps (open_string shut_string)
open Pure2 Pure40 Pure60 Pure61
set_option linter.unusedVariables false

theorem own : ownKnob Try.prog.godebug = none := by kernel_rfl
theorem laidOut : laidOutB Try.prog = true := by kernel_rfl


set_option maxRecDepth 100000 in
set_option maxHeartbeats 4000000 in
theorem walk (w : World) (ry0 rl0 rm0 : Int) (za0 : Option Addr) (zl0 zc0 : Nat) (ja0 : Option Addr) (jl0 jc0 : Nat) (zz0 jj0 : List Int) (w0 : Pure61.RulesIn w za0 zl0 ja0 jl0 zz0 jj0) (a1 : Option Addr) (len1 cap1 : Nat) (ps1 : List Pure61.Cand) (hl1 : ps1.length = len1) (hm1 : len1 ≤ maxLen) (hI1 : Pure61.CandsAt w a1 ps1) (w1 : Pure61.FitsC ps1) :
    Calls Try.prog 7 #[.agg #[.int .i64 ry0, .int .i64 rl0, .int .i64 rm0, .slice za0 zl0 zc0, .slice ja0 jl0 jc0], .slice a1 len1 cap1] w fun e w' => e = .returned (.bool true) ∧ Below w.heap.size w w' := by
  have hI0 := hI1
  have hz0 := w0.2.1; have hj0 := w0.2.2.2.2.1
  go_enter Try.func7, Try.ntmps7
  have HB := Lib.hid (boxed w (.cells #[.int .i64 ry0, .int .i64 rl0, .int .i64 rm0, .slice za0 zl0 zc0, .slice ja0 jl0 jc0] 54))
  have HX := Lib.hid (atR_box w ry0 rl0 rm0 za0 zl0 zc0 ja0 jl0 jc0 54)
  have HR := Lib.hid (w0.below HB.out)
  have HC := Lib.hid (hI1.below HB.out)
  clear hI0
  go_wp2_with fail
  refine (szRules_any ry0 rl0 rm0 za0 zl0 zc0 ja0 jl0 jc0 zz0 jj0 1048576 _ (by omega) (by omega) hz0 hj0).mono ?_; rintro e u1 ⟨L0, rfl, hL1, hL, hB⟩
  have HB_1 := Lib.hid (HB.out.trans (hB.mono HB.out.size))
  have HX_1 := Lib.hid (HX.out.below hB)
  have HR_1 := Lib.hid (HR.out.below hB)
  have HC_1 := Lib.hid (HC.out.below hB)
  clear hB
  by_cases hneg1 : L0 < 0
  · go_wp2_with fail
    go_ret
    exact ⟨rfl, HB_1.out⟩
  · skip
    obtain ⟨hzs, hjs⟩ := hL (by omega)
    clear hL
    go_wp2_with fail
    refine (szCandS_any a1 len1 cap1 ps1 L0 u1 (by omega) hL1 hl1 hm1 HC_1.out w1).mono ?_; rintro e u2 ⟨L2, rfl, hL3, hL4, hB⟩
    have HB_2 := Lib.hid (HB_1.out.trans (hB.mono HB_1.out.size))
    have HX_2 := Lib.hid (HX_1.out.below hB)
    have HR_2 := Lib.hid (HR_1.out.below hB)
    have HC_2 := Lib.hid (HC_1.out.below hB)
    clear hB
    by_cases hneg2 : L2 < 0
    · go_wp2_with fail
      go_ret
      exact ⟨rfl, HB_2.out⟩
    · skip
      have hcs : len1 ≤ 1048576 := hL4 (by omega)
      clear hL4
      have hsmall := qualOfR_small ⟨ry0, rl0, rm0, zz0, jj0⟩ ps1
      obtain ⟨xs, c, hv⟩ : ∃ xs c, qualOfR ⟨ry0, rl0, rm0, zz0, jj0⟩ ps1 = (xs, c) := ⟨_, _, rfl⟩
      have HSp := Lib.hid (fun bz bj b W (h : RulesIn W (some ⟨bz, 0, none⟩) zl0 (some ⟨bj, 0, none⟩) jl0 zz0 jj0) (hc : CandsAt W (some ⟨b, 0, none⟩) ps1) => show Calls Try.prog 18 #[.agg #[.int .i64 ry0, .int .i64 rl0, .int .i64 rm0, .slice (some ⟨bz, 0, none⟩) zl0 zl0, .slice (some ⟨bj, 0, none⟩) jl0 jl0], .slice (some ⟨b, 0, none⟩) len1 len1] W (SaysNewI xs c W) from by have := specQualifiedOf_any ry0 rl0 rm0 (some ⟨bz, 0, none⟩) zl0 zl0 (some ⟨bj, 0, none⟩) jl0 jl0 zz0 jj0 (some ⟨b, 0, none⟩) len1 len1 ps1 W h hl1 hm1 hc w1; rw [hv] at this; exact this)
      have HIm := Lib.hid (fun bz bj b W (h : RulesIn W (some ⟨bz, 0, none⟩) zl0 (some ⟨bj, 0, none⟩) jl0 zz0 jj0) (hc : CandsAt W (some ⟨b, 0, none⟩) ps1) => show Calls Try.prog 17 #[.agg #[.int .i64 ry0, .int .i64 rl0, .int .i64 rm0, .slice (some ⟨bz, 0, none⟩) zl0 zl0, .slice (some ⟨bj, 0, none⟩) jl0 jl0], .slice (some ⟨b, 0, none⟩) len1 len1] W (SaysNewI xs c W) from by have := implQualifiedOf_any ry0 rl0 rm0 (some ⟨bz, 0, none⟩) zl0 zl0 (some ⟨bj, 0, none⟩) jl0 jl0 zz0 jj0 (some ⟨b, 0, none⟩) len1 len1 ps1 W h hl1 hm1 hc w1; rw [hv] at this; exact this)
      rw [hv] at hsmall
      simp only at hsmall
      have hmm : xs.length ≤ maxLen := by unfold maxLen; omega
      clear hv
      obtain ⟨ax0, ax1, ax2, ax3, ax4⟩ := HX_2.out
      go_wp2_with fail
      clear ax0 ax1 ax2 ax3 ax4
      refine (toRules_any ry0 rl0 rm0 za0 zl0 zc0 ja0 jl0 jc0 zz0 jj0 u2 HR_2.out hzs hjs).mono ?_; rintro e u3 ⟨bz, bj, rfl, hb1bz, hb2bz, hb3bz, hb4bz, ho1bz, ho2bz, hnebz, hR2, hB⟩
      have HB_3 := Lib.hid (HB_2.out.trans (hB.mono HB_2.out.size))
      have HX_3 := Lib.hid (HX_2.out.below hB)
      have HR_3 := Lib.hid (HR_2.out.below hB)
      have HC_3 := Lib.hid (HC_2.out.below hB)
      clear hB
      clear hb1bz hb2bz hb3bz hb4bz ho1bz ho2bz hnebz
      have HZ0 := Lib.hid hR2
      clear hR2
      go_wp2_with fail
      refine (toCandS_any a1 len1 cap1 ps1 u3 hl1 hcs HC_3.out).mono ?_; rintro e u4 ⟨bc, rfl, hb5, hb6, hrow, hC2, hB⟩
      have HB_4 := Lib.hid (HB_3.out.trans (hB.mono HB_3.out.size))
      have HX_4 := Lib.hid (HX_3.out.below hB)
      have HR_4 := Lib.hid (HR_3.out.below hB)
      have HC_4 := Lib.hid (HC_3.out.below hB)
      have HZ_4 := Lib.hid (HZ0.out.below hB)
      clear hB
      clear hb5 hb6 hrow
      go_wp2_with fail
      refine (HSp.out bz bj bc u4 HZ_4.out hC2).mono ?_; rintro e u5 ⟨aS, capS, rfl, hoS, hB⟩
      have HB_5 := Lib.hid (HB_4.out.trans (hB.mono HB_4.out.size))
      have HX_5 := Lib.hid (HX_4.out.below hB)
      have HR_5 := Lib.hid (HR_4.out.below hB)
      have HC_5 := Lib.hid (HC_4.out.below hB)
      clear hB
      have HS5 := Lib.hid (ownI_reads hoS)
      clear hoS hC2
      have HE5 := Lib.hid (Below.refl u5.heap.size u5)
      have hu5 : u5.heap.size ≤ u5.heap.size := Nat.le_refl _
      obtain ⟨ax0, ax1, ax2, ax3, ax4⟩ := HX_5.out
      go_wp2_with fail
      clear ax0 ax1 ax2 ax3 ax4
      refine (toRules_any ry0 rl0 rm0 za0 zl0 zc0 ja0 jl0 jc0 zz0 jj0 u5 HR_5.out hzs hjs).mono ?_; rintro e u6 ⟨bz2, bj2, rfl, e1, e2, e3, e4, ho1, ho2, hne, hR2, hB⟩
      have HX_6 := Lib.hid (HX_5.out.below hB)
      have HR_6 := Lib.hid (HR_5.out.below hB)
      have HC_6 := Lib.hid (HC_5.out.below hB)
      have HE_6 := Lib.hid (from_step HE5.out hu5 hB)
      clear hB
      have HOZ := Lib.hid ho1; have HOJ := Lib.hid ho2; have HZ6 := Lib.hid hR2
      clear ho1 ho2 hR2
      have hbx := boxed u6 (.cells #[.int .i64 ry0, .int .i64 rl0, .int .i64 rm0, .slice (some ⟨bz2, 0, none⟩) zl0 zl0, .slice (some ⟨bj2, 0, none⟩) jl0 jl0] 26)
      have HX_7 := Lib.hid (HX_6.out.below hbx)
      have HR_7 := Lib.hid (HR_6.out.below hbx)
      have HC_7 := Lib.hid (HC_6.out.below hbx)
      have HOZ_7 := Lib.hid (HOZ.out.below hbx)
      have HOJ_7 := Lib.hid (HOJ.out.below hbx)
      have HZ_7 := Lib.hid (HZ6.out.below hbx)
      have HE_7 := Lib.hid (from_step HE_6.out hu5 hbx)
      have HY := Lib.hid (atR_box u6 ry0 rl0 rm0 (some ⟨bz2, 0, none⟩) zl0 zl0 (some ⟨bj2, 0, none⟩) jl0 jl0 26)
      have hxs : (u6.alloc (.cells #[.int .i64 ry0, .int .i64 rl0, .int .i64 rm0, .slice (some ⟨bz2, 0, none⟩) zl0 zl0, .slice (some ⟨bj2, 0, none⟩) jl0 jl0] 26)).heap.size = u6.heap.size + 1 := by simp
      clear hbx
      go_wp2_with fail
      generalize hxq : u6.alloc (.cells #[.int .i64 ry0, .int .i64 rl0, .int .i64 rm0, .slice (some ⟨bz2, 0, none⟩) zl0 zl0, .slice (some ⟨bj2, 0, none⟩) jl0 jl0] 26) = uq at hxs HX_7 HR_7 HC_7 HOZ_7 HOJ_7 HZ_7 HY HE_7 ⊢
      obtain ⟨xb, hxb⟩ : ∃ xb, u6.heap.size = xb := ⟨_, rfl⟩
      rw [hxb] at HY hxs e3 e4 ⊢
      clear hxb hxq
      refine (toCandS_any a1 len1 cap1 ps1 uq hl1 hcs HC_7.out).mono ?_; rintro e u7 ⟨bc2, rfl, e5, e6, hrow, hC2, hB⟩
      have HX_8 := Lib.hid (HX_7.out.below hB)
      have HR_8 := Lib.hid (HR_7.out.below hB)
      have HC_8 := Lib.hid (HC_7.out.below hB)
      have HOZ_8 := Lib.hid (HOZ_7.out.below hB)
      have HOJ_8 := Lib.hid (HOJ_7.out.below hB)
      have HZ_8 := Lib.hid (HZ_7.out.below hB)
      have HY_8 := Lib.hid (HY.out.below hB)
      have HE_8 := Lib.hid (from_step HE_7.out hu5 hB)
      clear hB
      have HK7 := Lib.hid (show RowC bc2 len1 u7 from hrow); have HQ7 := Lib.hid hC2
      clear hrow hC2
      obtain ⟨ax0, ax1, ax2, ax3, ax4⟩ := HY_8.out
      go_wp2_with fail
      clear ax0 ax1 ax2 ax3 ax4
      refine (HIm.out bz2 bj2 bc2 u7 HZ_8.out HQ7.out).mono ?_; rintro e u8 ⟨aI, capI, rfl, hoI, hB⟩
      have HX_9 := Lib.hid (HX_8.out.below hB)
      have HR_9 := Lib.hid (HR_8.out.below hB)
      have HC_9 := Lib.hid (HC_8.out.below hB)
      have HOZ_9 := Lib.hid (HOZ_8.out.below hB)
      have HOJ_9 := Lib.hid (HOJ_8.out.below hB)
      have HZ_9 := Lib.hid (HZ_8.out.below hB)
      have HY_9 := Lib.hid (HY_8.out.below hB)
      have HK_9 := Lib.hid (HK7.out.below hB)
      have HQ_9 := Lib.hid (HQ7.out.below hB)
      have HE_9 := Lib.hid (from_step HE_8.out hu5 hB)
      clear hB
      have HG8 := Lib.hid hoI
      clear hoI
      obtain ⟨cc, hcc⟩ : ∃ cc, u7.heap.size = cc := ⟨_, rfl⟩
      rw [hcc] at HG8 e6
      obtain ⟨s5, hs5⟩ : ∃ s5, u5.heap.size = s5 := ⟨_, rfl⟩
      rw [hs5] at e1 e2
      rw [hs5] at HE_9 HOZ_9 HOJ_9
      have hcs5 : s5 ≤ cc := by omega
      clear hu5
      have hu5 : s5 ≤ u5.heap.size := by omega
      have HS5E := Lib.hid (fun (W : World) (h : Below s5 u5 W) => HS5.out.below (by rw [hs5]; exact h)); have HX5E := Lib.hid (fun (W : World) (h : Below s5 u5 W) => HX_5.out.below (by rw [hs5]; exact h)); have HR5E := Lib.hid (fun (W : World) (h : Below s5 u5 W) => HR_5.out.below (by rw [hs5]; exact h)); have HC5E := Lib.hid (fun (W : World) (h : Below s5 u5 W) => HC_5.out.below (by rw [hs5]; exact h)); have HFIN := Lib.hid (fun (W : World) (h : Below s5 u5 W) => (HB_5.out.trans ((show Below u5.heap.size u5 W by rw [hs5]; exact h).mono HB_5.out.size)))
      clear hcc hs5
      go_wp2_with fail
      refine (sameB (eqInt64S_any aI aS xs.length capI xs.length capS xs xs u8 rfl rfl hmm hmm (ownI_reads HG8.out) (HS5E.out u8 HE_9.out))).mono ?_; rintro e u9 ⟨rfl, hB⟩
      have HX_10 := Lib.hid (HX_9.out.below hB)
      have HR_10 := Lib.hid (HR_9.out.below hB)
      have HC_10 := Lib.hid (HC_9.out.below hB)
      have HOZ_10 := Lib.hid (HOZ_9.out.below hB)
      have HOJ_10 := Lib.hid (HOJ_9.out.below hB)
      have HZ_10 := Lib.hid (HZ_9.out.below hB)
      have HY_10 := Lib.hid (HY_9.out.below hB)
      have HK_10 := Lib.hid (HK_9.out.below hB)
      have HQ_10 := Lib.hid (HQ_9.out.below hB)
      have HG_10 := Lib.hid (HG8.out.below hB)
      have HE_10 := Lib.hid (from_step HE_9.out hu5 hB)
      clear hB
      go_wp2_with fail
      have hdr := Below.drew (Below.refl u9.heap.size u9)
      have HdY := Lib.hid (HY_10.out.below hdr)
      have HdX := Lib.hid (HX_10.out.below hdr)
      have HdR := Lib.hid (HR_10.out.below hdr)
      have HdZ := Lib.hid (HZ_10.out.below hdr)
      go_region_held3 (fun W => (W.cell? ⟨xb, 0, none⟩ = some (.int .i64 ry0) ∧ W.cell? ⟨xb, 1, none⟩ = some (.int .i64 rl0) ∧ W.cell? ⟨xb, 2, none⟩ = some (.int .i64 rm0) ∧ W.cell? ⟨xb, 3, none⟩ = some (.slice (some ⟨bz2, 0, none⟩) zl0 zl0) ∧ W.cell? ⟨xb, 4, none⟩ = some (.slice (some ⟨bj2, 0, none⟩) jl0 jl0)) ∧ (W.cell? ⟨w.heap.size, 0, none⟩ = some (.int .i64 ry0) ∧ W.cell? ⟨w.heap.size, 1, none⟩ = some (.int .i64 rl0) ∧ W.cell? ⟨w.heap.size, 2, none⟩ = some (.int .i64 rm0) ∧ W.cell? ⟨w.heap.size, 3, none⟩ = some (.slice za0 zl0 zc0) ∧ W.cell? ⟨w.heap.size, 4, none⟩ = some (.slice ja0 jl0 jc0))) (first | exact ⟨HdY.out, HdX.out⟩ | exact ⟨(HdY.out.below hBq), (HdX.out.below hBq)⟩ | exact ⟨((HdY.out.below hBq).below hBr), ((HdX.out.below hBq).below hBr)⟩) (first | (go_at_call 35; refine (toRules_any ry0 rl0 rm0 za0 zl0 zc0 ja0 jl0 jc0 zz0 jj0 u9.drew HdR.out hzs hjs).mono ?_; rintro e v1 ⟨bq, br, rfl, hb1bq, hb2bq, hb3bq, hb4bq, ho1bq, ho2bq, hnebq, hRq, hBq⟩) | (go_at_call 36; refine (eqRules_same ry0 rl0 rm0 (some ⟨bz2, 0, none⟩) zl0 zl0 (some ⟨bj2, 0, none⟩) jl0 jl0 zz0 jj0 (some ⟨bq, 0, none⟩) zl0 (some ⟨br, 0, none⟩) jl0 v1 (HdZ.out.below hBq) hRq).mono ?_; rintro e v2 ⟨rfl, hBr⟩))
      have hall := (hdr.trans hBq).trans (hBr.mono (hdr.trans hBq).size)
      have HX_11 := Lib.hid (HX_10.out.below hall)
      have HR_11 := Lib.hid (HR_10.out.below hall)
      have HC_11 := Lib.hid (HC_10.out.below hall)
      have HOZ_11 := Lib.hid (HOZ_10.out.below hall)
      have HOJ_11 := Lib.hid (HOJ_10.out.below hall)
      have HZ_11 := Lib.hid (HZ_10.out.below hall)
      have HY_11 := Lib.hid (HY_10.out.below hall)
      have HK_11 := Lib.hid (HK_10.out.below hall)
      have HQ_11 := Lib.hid (HQ_10.out.below hall)
      have HG_11 := Lib.hid (HG_10.out.below hall)
      have HE_11 := Lib.hid (from_step HE_10.out hu5 hall)
      clear hall hdr hBq hBr
      clear hb1bq hb2bq hb3bq hb4bq ho1bq ho2bq hnebq hRq HdY HdX HdR HdZ
      go_wp2_with fail
      refine (toCandS_any a1 len1 cap1 ps1 v2 hl1 hcs HC_11.out).mono ?_; rintro e v3 ⟨bd, rfl, g5, g6, hrow, hC2, hB⟩
      have HX_12 := Lib.hid (HX_11.out.below hB)
      have HR_12 := Lib.hid (HR_11.out.below hB)
      have HC_12 := Lib.hid (HC_11.out.below hB)
      have HOZ_12 := Lib.hid (HOZ_11.out.below hB)
      have HOJ_12 := Lib.hid (HOJ_11.out.below hB)
      have HZ_12 := Lib.hid (HZ_11.out.below hB)
      have HY_12 := Lib.hid (HY_11.out.below hB)
      have HK_12 := Lib.hid (HK_11.out.below hB)
      have HQ_12 := Lib.hid (HQ_11.out.below hB)
      have HG_12 := Lib.hid (HG_11.out.below hB)
      have HE_12 := Lib.hid (from_step HE_11.out hu5 hB)
      clear hB
      clear g5 g6 hrow
      go_wp2_with fail
      refine (eqCandS_same (some ⟨bc2, 0, none⟩) (some ⟨bd, 0, none⟩) len1 len1 len1 ps1 v3 hl1 hcs HQ_12.out hC2).mono ?_; rintro e v4 ⟨rfl, hB⟩
      have HX_13 := Lib.hid (HX_12.out.below hB)
      have HR_13 := Lib.hid (HR_12.out.below hB)
      have HC_13 := Lib.hid (HC_12.out.below hB)
      have HOZ_13 := Lib.hid (HOZ_12.out.below hB)
      have HOJ_13 := Lib.hid (HOJ_12.out.below hB)
      have HZ_13 := Lib.hid (HZ_12.out.below hB)
      have HY_13 := Lib.hid (HY_12.out.below hB)
      have HK_13 := Lib.hid (HK_12.out.below hB)
      have HQ_13 := Lib.hid (HQ_12.out.below hB)
      have HG_13 := Lib.hid (HG_12.out.below hB)
      have HE_13 := Lib.hid (from_step HE_12.out hu5 hB)
      clear hB
      clear hC2
      obtain ⟨ax0, ax1, ax2, ax3, ax4⟩ := HY_13.out
      go_wp2_with fail
      clear ax0 ax1 ax2 ax3 ax4
      have hK4 : bc2 < v4.heap.size := by obtain ⟨f, hr⟩ := HK_13.out; exact hr.lt
      refine (markRules_any s5 xb ry0 rl0 rm0 bz2 bj2 zl0 jl0 _ _ 1 v4 hzs hjs (by omega) (by omega) HOZ_13.out HOJ_13.out hne e1 e3 e2 e4 (by omega) (by omega)).mono ?_; rintro e v5 ⟨rfl, hM⟩
      have HG15 := Lib.hid (ownI_between HG_13.out (hM.mono (show xb ≤ cc by omega))); have HK15 := Lib.hid (HK_13.out.between hM (show xb ≤ bc2 by omega)); have HE15 := Lib.hid (HE_13.out.trans (hM.below (by have := hM.2.2.2.1; omega)))
      clear hM
      go_wp2_with fail
      refine (markCandS_any bc2 len1 len1 (1 + zl0 + jl0) v5 (by omega) (by omega) (by omega) HK15.out).mono ?_; rintro e v6 ⟨rfl, hg⟩
      have hM := between_of (B := s5) (C := cc) hg (by omega) (by omega)
      have HG16 := Lib.hid (ownI_between HG15.out hM); have HE16 := Lib.hid (HE15.out.trans (hM.below (by obtain ⟨f, hr⟩ := HK15.out; have := hr.lt; omega)))
      clear hM hg
      go_wp2_with fail
      refine (sameB (eqInt64S_any aI aS xs.length capI xs.length capS xs xs v6 rfl rfl hmm hmm (ownI_reads HG16.out) (HS5E.out v6 HE16.out))).mono ?_; rintro e u17 ⟨rfl, hB⟩
      have HG_17 := Lib.hid (HG16.out.below hB)
      have HE_17 := Lib.hid (from_step HE16.out hu5 hB)
      clear hB
      go_wp2_with fail
      refine (markInt64S_any s5 aI xs.length capI _ 1 u17 (by omega) (by omega) (by omega) (ownI_mono HG_17.out hcs5)).mono ?_; rintro e v8 ⟨rfl, hM, hB, _⟩
      have HM18 := Lib.hid hM; have HE18 := Lib.hid (HE_17.out.trans hB)
      clear hM hB
      go_wp2_with fail
      refine (heldInt64S_any s5 aI xs.length capI 1 v8 (by omega) (by omega) (by omega) HM18.out).mono ?_; rintro e u19 ⟨rfl, hw⟩
      have HM_19 := Lib.hid (hw ▸ HM18.out); have HE_19 := Lib.hid (hw ▸ HE18.out)
      clear hw
      have HX := Lib.hid (HX5E.out _ HE_19.out)
      have HR19 := Lib.hid (HR5E.out _ HE_19.out); have HC19 := Lib.hid (HC5E.out _ HE_19.out); have HX19 := Lib.hid HX.out
      clear HX
      obtain ⟨ax0, ax1, ax2, ax3, ax4⟩ := HX19.out
      go_wp2_with fail
      clear ax0 ax1 ax2 ax3 ax4
      refine (toRules_any ry0 rl0 rm0 za0 zl0 zc0 ja0 jl0 jc0 zz0 jj0 u19 HR19.out hzs hjs).mono ?_; rintro e v10 ⟨bm, bn, rfl, hb1bm, hb2bm, hb3bm, hb4bm, ho1bm, ho2bm, hnebm, hR2, hB⟩
      have HM_20 := Lib.hid (HM_19.out.below hB)
      have HX_20 := Lib.hid (HX19.out.below hB)
      have HR_20 := Lib.hid (HR19.out.below hB)
      have HC_20 := Lib.hid (HC19.out.below hB)
      have HE_20 := Lib.hid (from_step HE_19.out hu5 hB)
      clear hB
      clear hb1bm hb2bm hb3bm hb4bm ho1bm ho2bm hnebm
      have HZ20 := Lib.hid hR2
      clear hR2
      go_wp2_with fail
      refine (toCandS_any a1 len1 cap1 ps1 v10 hl1 hcs HC_20.out).mono ?_; rintro e v11 ⟨bo, rfl, g5, g6, hrow, hC2, hB⟩
      have HM_21 := Lib.hid (HM_20.out.below hB)
      have HX_21 := Lib.hid (HX_20.out.below hB)
      have HR_21 := Lib.hid (HR_20.out.below hB)
      have HC_21 := Lib.hid (HC_20.out.below hB)
      have HZ_21 := Lib.hid (HZ20.out.below hB)
      have HE_21 := Lib.hid (from_step HE_20.out hu5 hB)
      clear hB
      clear g5 g6 hrow
      go_wp2_with fail
      refine (HIm.out bm bn bo v11 HZ_21.out hC2).mono ?_; rintro e v12 ⟨aH, capH, rfl, hoH, hB⟩
      have HM_22 := Lib.hid (HM_21.out.below hB)
      have HE_22 := Lib.hid (from_step HE_21.out hu5 hB)
      clear hB
      have HH := Lib.hid (ownI_reads hoH)
      clear hoH hC2
      go_wp2_with fail
      refine (sameB (eqInt64S_any aH aS xs.length capH xs.length capS xs xs v12 rfl rfl hmm hmm HH.out (HS5E.out v12 HE_22.out))).mono ?_; rintro e v13 ⟨rfl, hB⟩
      have HM_23 := Lib.hid (HM_22.out.below hB)
      have HE_23 := Lib.hid (from_step HE_22.out hu5 hB)
      clear hB
      go_wp2_with fail
      refine (heldInt64S_any s5 aI xs.length capI 1 v13 (by omega) (by omega) (by omega) HM_23.out).mono ?_; rintro e u31 ⟨rfl, hw⟩
      have HM_24 := Lib.hid (hw ▸ HM_23.out); have HE_24 := Lib.hid (hw ▸ HE_23.out)
      clear hw
      go_wp2_with fail
      go_ret
      exact ⟨rfl, HFIN.out _ HE_24.out⟩

set_option maxRecDepth 100000 in
theorem lifted (os : Os) (started : os.Started) (H : Type) (enc : TypeId × Value → H) :
    ReturnsInHanded {} Try.checked os 7 .any (Rows.fnExactQualifiedOfSpec.pre6 enc Try.prog Try.f7 Rows.fnExactQualifiedOfRow.domain false) (Rows.fnExactQualifiedOfSpec.post enc Try.prog Try.f7 false true false false) := by
  refine returnsInHanded_of_change (C := Try.checked) own started (by kernel_rfl) Try.func7
    (ChangeSpec.witness6 (enc := enc) (C := Try.checked) false ⟨#[], #[.agg #[.int .i64 0, .int .i64 0, .int .i64 0, .slice none 0 0, .slice none 0 0], .slice none 0 0], []⟩ 8 (by kernel_rfl) (by kernel_rfl) (by kernel_rfl) (by kernel_rfl)) ?_
  intro W base args ds gs before hval0 hW hcnd _
  have hval : ∀ (j : Nat) t v, Try.f7.params[j]? = some t → args[j]? = some v → Value.okWide Try.prog W .any base t v := hval0
  have hW' := hW
  obtain ⟨p, q, hA0, hV, rfl, hfz, hnd⟩ := hW
  have hA : DataW.TrodAll enc Try.prog W 0 (fun _ => true) true Try.f7.params.toList args.toList ds p := hA0
  rw [Try.params7] at hA hval
  obtain ⟨v0, vs0, d0, ds0, p0, q0, hargs, rfl, rfl, h0, r0⟩ := trodAll_cons hA
  obtain ⟨v1, vs1, d1, ds1, p1, q1, rfl, rfl, rfl, h1, r1⟩ := trodAll_cons r0
  obtain ⟨rfl, rfl, rfl⟩ := trodAll_nil r1
  obtain rfl : args = #[v0, v1] := by cases args; simp_all
  obtain ⟨rfl, rfl⟩ := trodVars_none hV
  have k0 := h0
  have lt0 : ∀ x ∈ p0, x.block < W.heap.size := by obtain ⟨m, hm⟩ := k0; exact DataW.trod_lt m _ _ _ hm
  obtain ⟨ry0, rl0, rm0, za0, zl0, zc0, ja0, jl0, jc0, zz0, jj0, rfl, _, _, _, w0⟩ := open_rul Try.rulLaws (hval 0 54 v0 rfl rfl) h0
  obtain ⟨a1, len1, cap1, rfl⟩ := okWide_slice Try.underlying59 (hval 1 59 v1 rfl rfl)
  have k1 := h1
  have lt1 : ∀ x ∈ p1, x.block < W.heap.size := by obtain ⟨m, hm⟩ := k1; exact DataW.trod_lt m _ _ _ hm
  obtain ⟨pp1, hl1, hm1, hI1, w1⟩ : ∃ ps : List Pure61.Cand, ps.length = len1 ∧ len1 ≤ maxLen ∧ Pure61.CandsAt W a1 ps ∧ Pure61.FitsC ps := by
    obtain ⟨fuel, hf⟩ := h1
    exact open_cands Try.candLaws Try.underlying59 hf
  clear hA0 hval0
  refine (walk W ry0 rl0 rm0 za0 zl0 zc0 ja0 jl0 jc0 zz0 jj0 w0 a1 len1 cap1 pp1 hl1 hm1 hI1 w1).mono fun e W' ⟨he, bel⟩ => ?_
  subst he
  exact ⟨_, rfl, _, _, _, [], _, [], hW', trodAll_mk1 (shut_bool Try.underlying4 _), (trodAll_cons_mk (Below.trod laidOut (by kernel_rfl) (of_decide_eq_true (by kernel_rfl)) k0 bel lt0) (trodAll_cons_mk (Below.trod laidOut (by kernel_rfl) (of_decide_eq_true (by kernel_rfl)) k1 bel lt1) trodAll_mk0)), rfl, bel.frame _, fun h => by cases h⟩

theorem over : Rows.fnExactQualifiedOfRow.holds Try.pinned (OpenSpec.ofChange Rows.fnExactQualifiedOfSpec) :=
  OpenClaim.holds_of_wide 7 Try.f7 rfl rfl rfl rfl rfl rfl rfl ⟨rfl, rfl, rfl, rfl, rfl⟩ rfl rfl rfl rfl rfl (by kernel_rfl) Try.func7 (by kernel_rfl)
    (of_decide_eq_true (by kernel_rfl)) (by unfold Func.isWrapper; first | (rw [if_pos (by decide +kernel)]; kernel_rfl) | (rw [if_neg (by decide +kernel)]; exact ⟨rfl, rfl⟩))
    (fun os started H enc _ => lifted os started H enc)

/-- The statement. -/
theorem proved : Rows.FnExactQualifiedOfSaid := over
end Go.Proofs.Ytjnjmoiilapbiaa.fnExactQualifiedOf
