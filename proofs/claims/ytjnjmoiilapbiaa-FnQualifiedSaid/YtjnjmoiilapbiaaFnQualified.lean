/- Proved: for every code, laws.FnQualified returns true and leaves its argument as it was: a candidate is qualified exactly if there is no reason against them, and the answers of chapter 6 are those of their models. No condition. -/
import Derived.Test.YtjnjmoiilapbiaaRows
import Derived.WalkKit
import Derived.ProofKit
import Derived.OpenShut
import Derived.ShutString
import Derived.ChangeOld
import Derived.Below
import Derived.SliceStrings
import Derived.Lib.Hide
import Derived.Test.YtjnjmoiilapbiaaBase
import Derived.Test.YtjnjmoiilapbiaaPure3
import Derived.Test.YtjnjmoiilapbiaaPure40
import Derived.Test.YtjnjmoiilapbiaaPure6
import Derived.Test.YtjnjmoiilapbiaaPure60
import Derived.Test.YtjnjmoiilapbiaaPure61
import Derived.Test.YtjnjmoiilapbiaaPersOpen
import Derived.Test.YtjnjmoiilapbiaaCandOpen
import Derived.Test.YtjnjmoiilapbiaaPersLaw
import Derived.Test.YtjnjmoiilapbiaaBuild6
import Derived.Test.YtjnjmoiilapbiaaTruth6
import Derived.Test.YtjnjmoiilapbiaaRul6
import Derived.Test.YtjnjmoiilapbiaaAns6
import Derived.Test.YtjnjmoiilapbiaaQual6
import Derived.Test.YtjnjmoiilapbiaaCount6
import Derived.Test.YtjnjmoiilapbiaaText6
import Derived.Test.YtjnjmoiilapbiaaRulLaw6
import Derived.Test.YtjnjmoiilapbiaaCandLaw6
import Derived.Test.YtjnjmoiilapbiaaSmall6
import Derived.Test.YtjnjmoiilapbiaaFact6
import Derived.Test.YtjnjmoiilapbiaaBig
import Derived.Test.YtjnjmoiilapbiaaLikeInt
import Derived.Test.YtjnjmoiilapbiaaDrawR6
import Derived.Test.YtjnjmoiilapbiaaDrawC6
import Derived.Test.YtjnjmoiilapbiaaList6
import Derived.Test.YtjnjmoiilapbiaaDrawX6
namespace Go.Proofs.Ytjnjmoiilapbiaa.fnQualified
open Go.ChangeShapes Go.WideShapes Go.ChangeAt Go.RowKit
open Go.ChangeMaps (open_string shut_string)
open Pure2 Pure3 Pure6 Pure40 Pure60 Pure61 Go.Sort
set_option linter.unusedVariables false

theorem own : ownKnob Try.prog.godebug = none := by kernel_rfl
theorem laidOut : laidOutB Try.prog = true := by kernel_rfl

/-- What the walk is told of a slice of integers that came in: it is nil, or it leads to a row of cap cells, the numbers zs. -/
def IsRow (k : IntKind) (w : World) (a : Option Addr) (len cap : Nat) (zs : List Int) : Prop :=
  (a = none ∧ len = 0 ∧ cap = 0 ∧ zs = []) ∨
  ∃ x, a = some x ∧ len ≤ cap ∧ cap ≤ maxLen ∧ zs.length = cap ∧ (∀ i, i < zs.length → w.cell? (x.add i) = some (.int k (zs.getD i 0))) ∧ ∀ n ∈ zs, (Lit.int k n).wf = true

set_option maxRecDepth 100000 in
set_option maxHeartbeats 4000000 in
theorem walk (w : World) (a0 : Option Addr) (len0 cap0 : Nat) (z0 : List Int) (w0 : IsRow .u8 w a0 len0 cap0 z0) :
    Calls Try.prog 3 #[.slice a0 len0 cap0] w fun e w' => e = .returned (.bool true) ∧ Below w.heap.size w w' := by
  obtain ⟨hl, hY⟩ := bytes_of_row w0
  generalize z0.take len0 = bs at hl hY
  have HL := Lib.hid hl; have HY := Lib.hid hY; clear hl hY w0
  have HBig := Lib.hid (lawsBig_any a0 len0 cap0 w)
  by_cases hb : 4096 < len0
  · rw [decide_eq_true hb] at HBig
    go_enter Try.func3, Try.ntmps3
    go_wp2_with fail
    refine HBig.out.mono ?_; rintro e w' ⟨rfl, rfl⟩
    go_wp2_with fail
    go_ret
    exact ⟨rfl, Below.refl _ _⟩
  · rw [decide_eq_false hb] at HBig
    have hm : len0 ≤ 4096 := by omega
    clear hb
    go_enter Try.func3, Try.ntmps3
    go_wp2_with fail
    refine HBig.out.mono ?_; rintro e w' ⟨rfl, rfl⟩
    clear HBig
    go_wp2_with fail
    refine (specDrawRC_any a0 len0 cap0 bs w HL.out hm HY.out).mono ?_; rintro e u1 ⟨y1, l1, m1, za1, zl1, zc1, ja1, jl1, jc1, zz1, jj1, c1, rfl, hu, hq, hB⟩
    have hf1 : c1.p.fst.size ≤ maxLen := by have := hq.1.1; unfold maxLen; omega
    have hl1 : c1.p.lst.size ≤ maxLen := by have := hq.1.2.1; unfold maxLen; omega
    clear hq
    have HB := Lib.hid (hB)
    have HR := Lib.hid (hu.reads)
    clear hu hB
    have hbx := boxes_below u1 (.cells #[.int .i64 y1, .int .i64 l1, .int .i64 m1, .slice za1 zl1 zc1, .slice ja1 jl1 jc1] 26) (.cells #[.int .i64 c1.p.num, .string c1.p.fst, .string c1.p.lst, .int .i64 c1.p.born, .int .i64 c1.p.zone, .bool c1.cit, .bool c1.con, .bool c1.flu, .int .i64 c1.job] 30)
    have HB_1 := Lib.hid (HB.out.trans (hbx.mono HB.out.size))
    have HR_1 := Lib.hid (HR.out.below hbx)
    clear HR HB
    have HX := Lib.hid ((atR_box u1 y1 l1 m1 za1 zl1 zc1 ja1 jl1 jc1 26).below (boxed (u1.alloc (.cells #[.int .i64 y1, .int .i64 l1, .int .i64 m1, .slice za1 zl1 zc1, .slice ja1 jl1 jc1] 26)) (.cells #[.int .i64 c1.p.num, .string c1.p.fst, .string c1.p.lst, .int .i64 c1.p.born, .int .i64 c1.p.zone, .bool c1.cit, .bool c1.con, .bool c1.flu, .int .i64 c1.job] 30)))
    have hcd := atD_box (u1.alloc (.cells #[.int .i64 y1, .int .i64 l1, .int .i64 m1, .slice za1 zl1 zc1, .slice ja1 jl1 jc1] 26)) c1.p.num c1.p.fst c1.p.lst c1.p.born c1.p.zone c1.cit c1.con c1.flu c1.job 30
    have hx : (u1.alloc (.cells #[.int .i64 y1, .int .i64 l1, .int .i64 m1, .slice za1 zl1 zc1, .slice ja1 jl1 jc1] 26)).heap.size = u1.heap.size + 1 := by simp
    rw [hx] at hcd
    clear hx
    have HD := Lib.hid (hcd)
    clear hcd
    obtain ⟨n1, k1, h1⟩ : ∃ n k, reasonsR (⟨y1, l1, m1, zz1, jj1⟩ : Rul) c1 = (n, k) := ⟨_, _, rfl⟩
    obtain ⟨q1, k2, h2⟩ : ∃ q k, qualR (⟨y1, l1, m1, zz1, jj1⟩ : Rul) c1 = (q, k) := ⟨_, _, rfl⟩
    obtain ⟨rfl, hfacts⟩ := two_facts h1 h2
    have HRQ := Lib.hid hfacts
    clear hfacts
    have HA1 := Lib.hid (fun W (h : RulesIn W za1 zl1 ja1 jl1 zz1 jj1) => show Calls Try.prog 12 #[.agg #[.int .i64 y1, .int .i64 l1, .int .i64 m1, .slice za1 zl1 zc1, .slice ja1 jl1 jc1], .agg #[.int .i64 c1.p.num, .string c1.p.fst, .string c1.p.lst, .int .i64 c1.p.born, .int .i64 c1.p.zone, .bool c1.cit, .bool c1.con, .bool c1.flu, .int .i64 c1.job]] W (SaysW (.tuple #[.int .i64 n1, .int .i64 k1]) W) from by have e : Calls Try.prog 12 #[.agg #[.int .i64 y1, .int .i64 l1, .int .i64 m1, .slice za1 zl1 zc1, .slice ja1 jl1 jc1], .agg #[.int .i64 c1.p.num, .string c1.p.fst, .string c1.p.lst, .int .i64 c1.p.born, .int .i64 c1.p.zone, .bool c1.cit, .bool c1.con, .bool c1.flu, .int .i64 c1.job]] W (SaysW (twoI (reasonsR (⟨y1, l1, m1, zz1, jj1⟩ : Rul) c1)) W) := implReasonsAgainst_any y1 l1 m1 za1 zl1 zc1 ja1 jl1 jc1 zz1 jj1 c1.p.num c1.p.fst c1.p.lst c1.p.born c1.p.zone c1.cit c1.con c1.flu c1.job W h hf1 hl1; rw [h1] at e; exact e)
    have HA2 := Lib.hid (fun W (h : RulesIn W za1 zl1 ja1 jl1 zz1 jj1) => show Calls Try.prog 13 #[.agg #[.int .i64 y1, .int .i64 l1, .int .i64 m1, .slice za1 zl1 zc1, .slice ja1 jl1 jc1], .agg #[.int .i64 c1.p.num, .string c1.p.fst, .string c1.p.lst, .int .i64 c1.p.born, .int .i64 c1.p.zone, .bool c1.cit, .bool c1.con, .bool c1.flu, .int .i64 c1.job]] W (SaysW (.tuple #[.int .i64 n1, .int .i64 k1]) W) from by have e : Calls Try.prog 13 #[.agg #[.int .i64 y1, .int .i64 l1, .int .i64 m1, .slice za1 zl1 zc1, .slice ja1 jl1 jc1], .agg #[.int .i64 c1.p.num, .string c1.p.fst, .string c1.p.lst, .int .i64 c1.p.born, .int .i64 c1.p.zone, .bool c1.cit, .bool c1.con, .bool c1.flu, .int .i64 c1.job]] W (SaysW (twoI (reasonsR (⟨y1, l1, m1, zz1, jj1⟩ : Rul) c1)) W) := specReasonsAgainst_any y1 l1 m1 za1 zl1 zc1 ja1 jl1 jc1 zz1 jj1 c1.p.num c1.p.fst c1.p.lst c1.p.born c1.p.zone c1.cit c1.con c1.flu c1.job W h hf1 hl1; rw [h1] at e; exact e)
    have HA3 := Lib.hid (fun W (h : RulesIn W za1 zl1 ja1 jl1 zz1 jj1) => show Calls Try.prog 14 #[.agg #[.int .i64 y1, .int .i64 l1, .int .i64 m1, .slice za1 zl1 zc1, .slice ja1 jl1 jc1], .agg #[.int .i64 c1.p.num, .string c1.p.fst, .string c1.p.lst, .int .i64 c1.p.born, .int .i64 c1.p.zone, .bool c1.cit, .bool c1.con, .bool c1.flu, .int .i64 c1.job]] W (SaysW (.tuple #[.bool q1, .int .i64 k1]) W) from by have e : Calls Try.prog 14 #[.agg #[.int .i64 y1, .int .i64 l1, .int .i64 m1, .slice za1 zl1 zc1, .slice ja1 jl1 jc1], .agg #[.int .i64 c1.p.num, .string c1.p.fst, .string c1.p.lst, .int .i64 c1.p.born, .int .i64 c1.p.zone, .bool c1.cit, .bool c1.con, .bool c1.flu, .int .i64 c1.job]] W (SaysW (boolI (qualR (⟨y1, l1, m1, zz1, jj1⟩ : Rul) c1)) W) := implIsQualified_any y1 l1 m1 za1 zl1 zc1 ja1 jl1 jc1 zz1 jj1 c1.p.num c1.p.fst c1.p.lst c1.p.born c1.p.zone c1.cit c1.con c1.flu c1.job W h hf1 hl1; rw [h2] at e; exact e)
    have HA4 := Lib.hid (fun W (h : RulesIn W za1 zl1 ja1 jl1 zz1 jj1) => show Calls Try.prog 15 #[.agg #[.int .i64 y1, .int .i64 l1, .int .i64 m1, .slice za1 zl1 zc1, .slice ja1 jl1 jc1], .agg #[.int .i64 c1.p.num, .string c1.p.fst, .string c1.p.lst, .int .i64 c1.p.born, .int .i64 c1.p.zone, .bool c1.cit, .bool c1.con, .bool c1.flu, .int .i64 c1.job]] W (SaysW (.tuple #[.bool q1, .int .i64 k1]) W) from by have e : Calls Try.prog 15 #[.agg #[.int .i64 y1, .int .i64 l1, .int .i64 m1, .slice za1 zl1 zc1, .slice ja1 jl1 jc1], .agg #[.int .i64 c1.p.num, .string c1.p.fst, .string c1.p.lst, .int .i64 c1.p.born, .int .i64 c1.p.zone, .bool c1.cit, .bool c1.con, .bool c1.flu, .int .i64 c1.job]] W (SaysW (boolI (qualR (⟨y1, l1, m1, zz1, jj1⟩ : Rul) c1)) W) := specIsQualified_any y1 l1 m1 za1 zl1 zc1 ja1 jl1 jc1 zz1 jj1 c1.p.num c1.p.fst c1.p.lst c1.p.born c1.p.zone c1.cit c1.con c1.flu c1.job W h hf1 hl1; rw [h2] at e; exact e)
    obtain ⟨okr, hokr⟩ : ∃ v, areRul (⟨y1, l1, m1, zz1, jj1⟩ : Rul) = v := ⟨_, rfl⟩
    obtain ⟨okc, hokc⟩ : ∃ v, isCand c1 = v := ⟨_, rfl⟩
    have HR1 := Lib.hid (fun W (h : RulesIn W za1 zl1 ja1 jl1 zz1 jj1) => show Calls Try.prog 28 #[.agg #[.int .i64 y1, .int .i64 l1, .int .i64 m1, .slice za1 zl1 zc1, .slice ja1 jl1 jc1]] W (SaysBB okr W) from by have e := implAreRules_any y1 l1 m1 za1 zl1 zc1 ja1 jl1 jc1 zz1 jj1 W h; rw [hokr] at e; exact e)
    have HR2 := Lib.hid (fun W (h : RulesIn W za1 zl1 ja1 jl1 zz1 jj1) => show Calls Try.prog 29 #[.agg #[.int .i64 y1, .int .i64 l1, .int .i64 m1, .slice za1 zl1 zc1, .slice ja1 jl1 jc1]] W (SaysBB okr W) from by have e := specAreRules_any y1 l1 m1 za1 zl1 zc1 ja1 jl1 jc1 zz1 jj1 W h; rw [hokr] at e; exact e)
    have HC1 := Lib.hid (fun W => show Calls Try.prog 30 #[.agg #[.int .i64 c1.p.num, .string c1.p.fst, .string c1.p.lst, .int .i64 c1.p.born, .int .i64 c1.p.zone, .bool c1.cit, .bool c1.con, .bool c1.flu, .int .i64 c1.job]] W (SaysBB okc W) from by have e : Calls Try.prog 30 #[.agg #[.int .i64 c1.p.num, .string c1.p.fst, .string c1.p.lst, .int .i64 c1.p.born, .int .i64 c1.p.zone, .bool c1.cit, .bool c1.con, .bool c1.flu, .int .i64 c1.job]] W (SaysBB (isCand c1) W) := implIsCand_any c1.p.num c1.p.fst c1.p.lst c1.p.born c1.p.zone c1.cit c1.con c1.flu c1.job W hf1 hl1; rw [hokc] at e; exact e)
    have HC2 := Lib.hid (fun W => show Calls Try.prog 31 #[.agg #[.int .i64 c1.p.num, .string c1.p.fst, .string c1.p.lst, .int .i64 c1.p.born, .int .i64 c1.p.zone, .bool c1.cit, .bool c1.con, .bool c1.flu, .int .i64 c1.job]] W (SaysBB okc W) from by have e : Calls Try.prog 31 #[.agg #[.int .i64 c1.p.num, .string c1.p.fst, .string c1.p.lst, .int .i64 c1.p.born, .int .i64 c1.p.zone, .bool c1.cit, .bool c1.con, .bool c1.flu, .int .i64 c1.job]] W (SaysBB (isCand c1) W) := specIsCand_any c1.p.num c1.p.fst c1.p.lst c1.p.born c1.p.zone c1.cit c1.con c1.flu c1.job W hf1 hl1; rw [hokc] at e; exact e)
    clear h1 h2 hokr hokc
    obtain ⟨ax0, ax1, ax2, ax3, ax4⟩ := HX.out
    obtain ⟨bx0, bx1, bx2, bx3, bx4, bx5, bx6, bx7, bx8⟩ := HD.out
    go_wp2_with fail
    clear ax0 ax1 ax2 ax3 ax4 bx0 bx1 bx2 bx3 bx4 bx5 bx6 bx7 bx8
    obtain ⟨r1, hr1⟩ : ∃ r1, u1.heap.size = r1 := ⟨_, rfl⟩
    rw [hr1] at HX HD ⊢
    clear hr1
    clear hbx
    generalize ((u1.alloc (.cells #[.int .i64 y1, .int .i64 l1, .int .i64 m1, .slice za1 zl1 zc1, .slice ja1 jl1 jc1] 26)).alloc (.cells #[.int .i64 c1.p.num, .string c1.p.fst, .string c1.p.lst, .int .i64 c1.p.born, .int .i64 c1.p.zone, .bool c1.cit, .bool c1.con, .bool c1.flu, .int .i64 c1.job] 30)) = v1 at HR_1 HX HD HB_1 ⊢
    refine (HA1.out v1 HR_1.out).mono ?_; rintro e u2 ⟨rfl, hB⟩
    have HB_2 := Lib.hid (HB_1.out.trans (hB.mono HB_1.out.size))
    have HR_2 := Lib.hid (HR_1.out.below hB)
    have HX_2 := Lib.hid (HX.out.below hB)
    have HD_2 := Lib.hid (HD.out.below hB)
    clear HR_1 HX HD HB_1
    clear hB
    obtain ⟨ax0, ax1, ax2, ax3, ax4⟩ := HX_2.out
    obtain ⟨bx0, bx1, bx2, bx3, bx4, bx5, bx6, bx7, bx8⟩ := HD_2.out
    go_wp2_with fail
    clear ax0 ax1 ax2 ax3 ax4 bx0 bx1 bx2 bx3 bx4 bx5 bx6 bx7 bx8
    refine (HA2.out u2 HR_2.out).mono ?_; rintro e u3 ⟨rfl, hB⟩
    have HB_3 := Lib.hid (HB_2.out.trans (hB.mono HB_2.out.size))
    have HR_3 := Lib.hid (HR_2.out.below hB)
    have HX_3 := Lib.hid (HX_2.out.below hB)
    have HD_3 := Lib.hid (HD_2.out.below hB)
    clear HR_2 HX_2 HD_2 HB_2
    clear hB
    obtain ⟨ax0, ax1, ax2, ax3, ax4⟩ := HX_3.out
    obtain ⟨bx0, bx1, bx2, bx3, bx4, bx5, bx6, bx7, bx8⟩ := HD_3.out
    go_wp2_with fail
    clear ax0 ax1 ax2 ax3 ax4 bx0 bx1 bx2 bx3 bx4 bx5 bx6 bx7 bx8
    refine (HA3.out u3 HR_3.out).mono ?_; rintro e u4 ⟨rfl, hB⟩
    have HB_4 := Lib.hid (HB_3.out.trans (hB.mono HB_3.out.size))
    have HR_4 := Lib.hid (HR_3.out.below hB)
    have HX_4 := Lib.hid (HX_3.out.below hB)
    have HD_4 := Lib.hid (HD_3.out.below hB)
    clear HR_3 HX_3 HD_3 HB_3
    clear hB
    obtain ⟨ax0, ax1, ax2, ax3, ax4⟩ := HX_4.out
    obtain ⟨bx0, bx1, bx2, bx3, bx4, bx5, bx6, bx7, bx8⟩ := HD_4.out
    go_wp2_with fail
    clear ax0 ax1 ax2 ax3 ax4 bx0 bx1 bx2 bx3 bx4 bx5 bx6 bx7 bx8
    refine (HA4.out u4 HR_4.out).mono ?_; rintro e u5 ⟨rfl, hB⟩
    have HB_5 := Lib.hid (HB_4.out.trans (hB.mono HB_4.out.size))
    have HR_5 := Lib.hid (HR_4.out.below hB)
    have HX_5 := Lib.hid (HX_4.out.below hB)
    have HD_5 := Lib.hid (HD_4.out.below hB)
    clear HR_4 HX_4 HD_4 HB_4
    clear hB
    clear HA1 HA2 HA3 HA4
    go_wp2_with fail
    refine (specDrawRCs_any a0 len0 cap0 bs u5 HL.out hm (HY.out.later HB_5.out)).mono ?_; rintro e u6 ⟨y2, l2, m2, za2, zl2, zc2, ja2, jl2, jc2, zz2, jj2, g2, cap2, cs, rfl, hu, hc, hcl, hq, hB⟩
    have HB_6 := Lib.hid (HB_5.out.trans (hB.mono HB_5.out.size))
    have HR_6 := Lib.hid (HR_5.out.below hB)
    have HX_6 := Lib.hid (HX_5.out.below hB)
    have HD_6 := Lib.hid (HD_5.out.below hB)
    clear HR_5 HX_5 HD_5 HB_5
    have HR2 := Lib.hid (hu.reads)
    have HC2 := Lib.hid (hc)
    have hfit : FitsC cs := fun q hx => by have := hq q hx; exact ⟨by have := this.1.1; unfold maxLen; omega, by have := this.1.2.1; unfold maxLen; omega⟩
    have hcm : cs.length ≤ maxLen := by unfold maxLen; omega
    clear hu hc hq hB
    have hbx := boxed u6 (.cells #[.int .i64 y2, .int .i64 l2, .int .i64 m2, .slice za2 zl2 zc2, .slice ja2 jl2 jc2] 26)
    have HB_7 := Lib.hid (HB_6.out.trans (hbx.mono HB_6.out.size))
    have HR_7 := Lib.hid (HR_6.out.below hbx)
    have HX_7 := Lib.hid (HX_6.out.below hbx)
    have HD_7 := Lib.hid (HD_6.out.below hbx)
    have HR2_7 := Lib.hid (HR2.out.below hbx)
    have HC2_7 := Lib.hid (HC2.out.below hbx)
    clear HR_6 HX_6 HD_6 HR2 HC2 HB_6
    have HX2 := Lib.hid (atR_box u6 y2 l2 m2 za2 zl2 zc2 ja2 jl2 jc2 26)
    have hsq := qualOfR_small (⟨y2, l2, m2, zz2, jj2⟩ : Rul) cs
    have hsk := countR_small (⟨y2, l2, m2, zz2, jj2⟩ : Rul) cs
    obtain ⟨xs, k3, h3⟩ : ∃ xs k, qualOfR (⟨y2, l2, m2, zz2, jj2⟩ : Rul) cs = (xs, k) := ⟨_, _, rfl⟩
    obtain ⟨ks, k4, h4⟩ : ∃ ks k, countR (⟨y2, l2, m2, zz2, jj2⟩ : Rul) cs = (ks, k) := ⟨_, _, rfl⟩
    rw [h3] at hsq; rw [h4] at hsk; simp only at hsq hsk
    obtain ⟨rfl, hfacts⟩ := cnt_facts h3 h4
    have HCF := Lib.hid hfacts
    clear hfacts
    have hmx : xs.length ≤ maxLen := by unfold maxLen; omega
    have hmk : ks.length ≤ maxLen := by unfold maxLen; omega
    have HQ1 := Lib.hid (fun W (h : RulesIn W za2 zl2 ja2 jl2 zz2 jj2) (hc : CandsAt W (some ⟨g2, 0, none⟩) cs) => show Calls Try.prog 17 #[.agg #[.int .i64 y2, .int .i64 l2, .int .i64 m2, .slice za2 zl2 zc2, .slice ja2 jl2 jc2], .slice (some ⟨g2, 0, none⟩) cs.length cap2] W (SaysNewI xs k3 W) from by have e := implQualifiedOf_any y2 l2 m2 za2 zl2 zc2 ja2 jl2 jc2 zz2 jj2 (some ⟨g2, 0, none⟩) cs.length cap2 cs W h rfl hcm hc hfit; rw [h3] at e; exact e)
    have HQ2 := Lib.hid (fun W (h : RulesIn W za2 zl2 ja2 jl2 zz2 jj2) (hc : CandsAt W (some ⟨g2, 0, none⟩) cs) => show Calls Try.prog 18 #[.agg #[.int .i64 y2, .int .i64 l2, .int .i64 m2, .slice za2 zl2 zc2, .slice ja2 jl2 jc2], .slice (some ⟨g2, 0, none⟩) cs.length cap2] W (SaysNewI xs k3 W) from by have e := specQualifiedOf_any y2 l2 m2 za2 zl2 zc2 ja2 jl2 jc2 zz2 jj2 (some ⟨g2, 0, none⟩) cs.length cap2 cs W h rfl hcm hc hfit; rw [h3] at e; exact e)
    have HK1 := Lib.hid (fun W (h : RulesIn W za2 zl2 ja2 jl2 zz2 jj2) (hc : CandsAt W (some ⟨g2, 0, none⟩) cs) => show Calls Try.prog 19 #[.agg #[.int .i64 y2, .int .i64 l2, .int .i64 m2, .slice za2 zl2 zc2, .slice ja2 jl2 jc2], .slice (some ⟨g2, 0, none⟩) cs.length cap2] W (SaysNewI ks k3 W) from by have e := implCountReasons_any y2 l2 m2 za2 zl2 zc2 ja2 jl2 jc2 zz2 jj2 (some ⟨g2, 0, none⟩) cs.length cap2 cs W h rfl hcm hc hfit; rw [h4] at e; exact e)
    have HK2 := Lib.hid (fun W (h : RulesIn W za2 zl2 ja2 jl2 zz2 jj2) (hc : CandsAt W (some ⟨g2, 0, none⟩) cs) => show Calls Try.prog 20 #[.agg #[.int .i64 y2, .int .i64 l2, .int .i64 m2, .slice za2 zl2 zc2, .slice ja2 jl2 jc2], .slice (some ⟨g2, 0, none⟩) cs.length cap2] W (SaysNewI ks k3 W) from by have e := specCountReasons_any y2 l2 m2 za2 zl2 zc2 ja2 jl2 jc2 zz2 jj2 (some ⟨g2, 0, none⟩) cs.length cap2 cs W h rfl hcm hc hfit; rw [h4] at e; exact e)
    clear h3 h4 hfit
    obtain ⟨ax0, ax1, ax2, ax3, ax4⟩ := HX2.out
    go_wp2_with fail
    clear ax0 ax1 ax2 ax3 ax4
    obtain ⟨r6, hr6⟩ : ∃ r6, u6.heap.size = r6 := ⟨_, rfl⟩
    rw [hr6] at HX2 ⊢
    clear hr6
    clear hbx
    generalize (u6.alloc (.cells #[.int .i64 y2, .int .i64 l2, .int .i64 m2, .slice za2 zl2 zc2, .slice ja2 jl2 jc2] 26)) = v6 at HR_7 HX_7 HD_7 HR2_7 HC2_7 HX2 HB_7 ⊢
    refine (HQ1.out v6 HR2_7.out HC2_7.out).mono ?_; rintro e u7 ⟨aQ, capQ, rfl, ho, hB⟩
    have HB_8 := Lib.hid (HB_7.out.trans (hB.mono HB_7.out.size))
    have HR_8 := Lib.hid (HR_7.out.below hB)
    have HX_8 := Lib.hid (HX_7.out.below hB)
    have HD_8 := Lib.hid (HD_7.out.below hB)
    have HR2_8 := Lib.hid (HR2_7.out.below hB)
    have HC2_8 := Lib.hid (HC2_7.out.below hB)
    have HX2_8 := Lib.hid (HX2.out.below hB)
    clear HR_7 HX_7 HD_7 HR2_7 HC2_7 HX2 HB_7
    have HQ := Lib.hid (ownI_reads ho)
    clear ho hB
    obtain ⟨ax0, ax1, ax2, ax3, ax4⟩ := HX2_8.out
    go_wp2_with fail
    clear ax0 ax1 ax2 ax3 ax4
    refine (HQ2.out u7 HR2_8.out HC2_8.out).mono ?_; rintro e u8 ⟨aS, capS, rfl, ho, hB⟩
    have HB_9 := Lib.hid (HB_8.out.trans (hB.mono HB_8.out.size))
    have HR_9 := Lib.hid (HR_8.out.below hB)
    have HX_9 := Lib.hid (HX_8.out.below hB)
    have HD_9 := Lib.hid (HD_8.out.below hB)
    have HR2_9 := Lib.hid (HR2_8.out.below hB)
    have HC2_9 := Lib.hid (HC2_8.out.below hB)
    have HX2_9 := Lib.hid (HX2_8.out.below hB)
    have HQ_9 := Lib.hid (HQ.out.below hB)
    clear HR_8 HX_8 HD_8 HR2_8 HC2_8 HX2_8 HQ HB_8
    have HS := Lib.hid (ownI_reads ho)
    clear ho hB
    obtain ⟨ax0, ax1, ax2, ax3, ax4⟩ := HX2_9.out
    go_wp2_with fail
    clear ax0 ax1 ax2 ax3 ax4
    refine (HK1.out u8 HR2_9.out HC2_9.out).mono ?_; rintro e u9 ⟨aK, capK, rfl, ho, hB⟩
    have HB_10 := Lib.hid (HB_9.out.trans (hB.mono HB_9.out.size))
    have HR_10 := Lib.hid (HR_9.out.below hB)
    have HX_10 := Lib.hid (HX_9.out.below hB)
    have HD_10 := Lib.hid (HD_9.out.below hB)
    have HR2_10 := Lib.hid (HR2_9.out.below hB)
    have HC2_10 := Lib.hid (HC2_9.out.below hB)
    have HX2_10 := Lib.hid (HX2_9.out.below hB)
    have HQ_10 := Lib.hid (HQ_9.out.below hB)
    have HS_10 := Lib.hid (HS.out.below hB)
    clear HR_9 HX_9 HD_9 HR2_9 HC2_9 HX2_9 HQ_9 HS HB_9
    have HK := Lib.hid (ownI_reads ho)
    clear ho hB
    obtain ⟨ax0, ax1, ax2, ax3, ax4⟩ := HX2_10.out
    go_wp2_with fail
    clear ax0 ax1 ax2 ax3 ax4
    refine (HK2.out u9 HR2_10.out HC2_10.out).mono ?_; rintro e u10 ⟨aM, capM, rfl, ho, hB⟩
    have HB_11 := Lib.hid (HB_10.out.trans (hB.mono HB_10.out.size))
    have HR_11 := Lib.hid (HR_10.out.below hB)
    have HX_11 := Lib.hid (HX_10.out.below hB)
    have HD_11 := Lib.hid (HD_10.out.below hB)
    have HR2_11 := Lib.hid (HR2_10.out.below hB)
    have HC2_11 := Lib.hid (HC2_10.out.below hB)
    have HX2_11 := Lib.hid (HX2_10.out.below hB)
    have HQ_11 := Lib.hid (HQ_10.out.below hB)
    have HS_11 := Lib.hid (HS_10.out.below hB)
    have HK_11 := Lib.hid (HK.out.below hB)
    clear HR_10 HX_10 HD_10 HR2_10 HC2_10 HX2_10 HQ_10 HS_10 HK HB_10
    have HM := Lib.hid (ownI_reads ho)
    clear ho hB
    clear HQ1 HQ2 HK1 HK2 HR2_11 HC2_11 HX2_11
    go_wp2_with fail
    refine (specDrawQF_any a0 len0 cap0 bs u10 HL.out hm (HY.out.later HB_11.out)).mono ?_; rintro e u11 ⟨y3, l3, m3, za3, zl3, zc3, ja3, jl3, jc3, zz3, jj3, c3, rfl, hu, hq, hB⟩
    have HB_12 := Lib.hid (HB_11.out.trans (hB.mono HB_11.out.size))
    have HR_12 := Lib.hid (HR_11.out.below hB)
    have HX_12 := Lib.hid (HX_11.out.below hB)
    have HD_12 := Lib.hid (HD_11.out.below hB)
    have HQ_12 := Lib.hid (HQ_11.out.below hB)
    have HS_12 := Lib.hid (HS_11.out.below hB)
    have HK_12 := Lib.hid (HK_11.out.below hB)
    have HM_12 := Lib.hid (HM.out.below hB)
    clear HR_11 HX_11 HD_11 HQ_11 HS_11 HK_11 HM HB_11
    have hf3 : c3.p.fst.size ≤ maxLen := by have := hq.1.1; unfold maxLen; omega
    have hl3 : c3.p.lst.size ≤ maxLen := by have := hq.1.2.1; unfold maxLen; omega
    clear hq
    have FR3 := Lib.hid hu.reads; have FK := Lib.hid HK_12.out; have HBW := Lib.hid HB_12.out.size
    have HU := Lib.hid (Below.refl u11.heap.size u11)
    have HR3 := Lib.hid (FR3.out)
    clear hu hB
    have hbx := boxes_below u11 (.cells #[.int .i64 y3, .int .i64 l3, .int .i64 m3, .slice za3 zl3 zc3, .slice ja3 jl3 jc3] 26) (.cells #[.int .i64 c3.p.num, .string c3.p.fst, .string c3.p.lst, .int .i64 c3.p.born, .int .i64 c3.p.zone, .bool c3.cit, .bool c3.con, .bool c3.flu, .int .i64 c3.job] 30)
    have HB_13 := Lib.hid (HB_12.out.trans (hbx.mono HB_12.out.size))
    have HU_13 := Lib.hid (HU.out.trans (hbx.mono HU.out.size))
    have HR_13 := Lib.hid (HR_12.out.below hbx)
    have HX_13 := Lib.hid (HX_12.out.below hbx)
    have HD_13 := Lib.hid (HD_12.out.below hbx)
    have HQ_13 := Lib.hid (HQ_12.out.below hbx)
    have HS_13 := Lib.hid (HS_12.out.below hbx)
    have HK_13 := Lib.hid (HK_12.out.below hbx)
    have HM_13 := Lib.hid (HM_12.out.below hbx)
    have HR3_13 := Lib.hid (HR3.out.below hbx)
    clear HR_12 HX_12 HD_12 HQ_12 HS_12 HK_12 HM_12 HR3 HB_12 HU
    have hx3 := (row5_box u11 26 (.int .i64 y3) (.int .i64 l3) (.int .i64 m3) (.slice za3 zl3 zc3) (.slice ja3 jl3 jc3)).below (boxed (u11.alloc (.cells #[.int .i64 y3, .int .i64 l3, .int .i64 m3, .slice za3 zl3 zc3, .slice ja3 jl3 jc3] 26)) (.cells #[.int .i64 c3.p.num, .string c3.p.fst, .string c3.p.lst, .int .i64 c3.p.born, .int .i64 c3.p.zone, .bool c3.cit, .bool c3.con, .bool c3.flu, .int .i64 c3.job] 30))
    have HX3 := Lib.hid (hx3)
    have hcd := atD_box (u11.alloc (.cells #[.int .i64 y3, .int .i64 l3, .int .i64 m3, .slice za3 zl3 zc3, .slice ja3 jl3 jc3] 26)) c3.p.num c3.p.fst c3.p.lst c3.p.born c3.p.zone c3.cit c3.con c3.flu c3.job 30
    have hx : (u11.alloc (.cells #[.int .i64 y3, .int .i64 l3, .int .i64 m3, .slice za3 zl3 zc3, .slice ja3 jl3 jc3] 26)).heap.size = u11.heap.size + 1 := by simp
    rw [hx] at hcd
    clear hx hx3
    have HD3 := Lib.hid (hcd)
    clear hcd
    obtain ⟨yf, k5, h5⟩ : ∃ n k, fromR (⟨y3, l3, m3, zz3, jj3⟩ : Rul) c3 = (n, k) := ⟨_, _, rfl⟩
    have HFR := Lib.hid (from_facts h5)
    have HF1 := Lib.hid (fun W (h : RulesIn W za3 zl3 ja3 jl3 zz3 jj3) => show Calls Try.prog 22 #[.agg #[.int .i64 y3, .int .i64 l3, .int .i64 m3, .slice za3 zl3 zc3, .slice ja3 jl3 jc3], .agg #[.int .i64 c3.p.num, .string c3.p.fst, .string c3.p.lst, .int .i64 c3.p.born, .int .i64 c3.p.zone, .bool c3.cit, .bool c3.con, .bool c3.flu, .int .i64 c3.job]] W (SaysW (.tuple #[.int .i64 yf, .int .i64 k5]) W) from by have e : Calls Try.prog 22 #[.agg #[.int .i64 y3, .int .i64 l3, .int .i64 m3, .slice za3 zl3 zc3, .slice ja3 jl3 jc3], .agg #[.int .i64 c3.p.num, .string c3.p.fst, .string c3.p.lst, .int .i64 c3.p.born, .int .i64 c3.p.zone, .bool c3.cit, .bool c3.con, .bool c3.flu, .int .i64 c3.job]] W (SaysW (twoI (fromR (⟨y3, l3, m3, zz3, jj3⟩ : Rul) c3)) W) := implQualifiedFrom_any y3 l3 m3 za3 zl3 zc3 ja3 jl3 jc3 zz3 jj3 c3.p.num c3.p.fst c3.p.lst c3.p.born c3.p.zone c3.cit c3.con c3.flu c3.job W h hf3 hl3; rw [h5] at e; exact e)
    have HF2 := Lib.hid (fun W (h : RulesIn W za3 zl3 ja3 jl3 zz3 jj3) => show Calls Try.prog 23 #[.agg #[.int .i64 y3, .int .i64 l3, .int .i64 m3, .slice za3 zl3 zc3, .slice ja3 jl3 jc3], .agg #[.int .i64 c3.p.num, .string c3.p.fst, .string c3.p.lst, .int .i64 c3.p.born, .int .i64 c3.p.zone, .bool c3.cit, .bool c3.con, .bool c3.flu, .int .i64 c3.job]] W (SaysW (.tuple #[.int .i64 yf, .int .i64 k5]) W) from by have e : Calls Try.prog 23 #[.agg #[.int .i64 y3, .int .i64 l3, .int .i64 m3, .slice za3 zl3 zc3, .slice ja3 jl3 jc3], .agg #[.int .i64 c3.p.num, .string c3.p.fst, .string c3.p.lst, .int .i64 c3.p.born, .int .i64 c3.p.zone, .bool c3.cit, .bool c3.con, .bool c3.flu, .int .i64 c3.job]] W (SaysW (twoI (fromR (⟨y3, l3, m3, zz3, jj3⟩ : Rul) c3)) W) := specQualifiedFrom_any y3 l3 m3 za3 zl3 zc3 ja3 jl3 jc3 zz3 jj3 c3.p.num c3.p.fst c3.p.lst c3.p.born c3.p.zone c3.cit c3.con c3.flu c3.job W h hf3 hl3; rw [h5] at e; exact e)
    clear h5
    obtain ⟨ax0, ax1, ax2, ax3, ax4⟩ := HX3.out.cells
    obtain ⟨bx0, bx1, bx2, bx3, bx4, bx5, bx6, bx7, bx8⟩ := HD3.out
    go_wp2_with fail
    clear ax0 ax1 ax2 ax3 ax4 bx0 bx1 bx2 bx3 bx4 bx5 bx6 bx7 bx8
    obtain ⟨r3, hr3⟩ : ∃ r3, u11.heap.size = r3 := ⟨_, rfl⟩
    rw [hr3] at HX3 HD3 HBW ⊢
    clear hbx
    generalize ((u11.alloc (.cells #[.int .i64 y3, .int .i64 l3, .int .i64 m3, .slice za3 zl3 zc3, .slice ja3 jl3 jc3] 26)).alloc (.cells #[.int .i64 c3.p.num, .string c3.p.fst, .string c3.p.lst, .int .i64 c3.p.born, .int .i64 c3.p.zone, .bool c3.cit, .bool c3.con, .bool c3.flu, .int .i64 c3.job] 30)) = v11 at HR_13 HX_13 HD_13 HQ_13 HS_13 HK_13 HM_13 HR3_13 HX3 HD3 HB_13 HU_13 ⊢
    refine (HF1.out v11 HR3_13.out).mono ?_; rintro e u12 ⟨rfl, hB⟩
    have HB_14 := Lib.hid (HB_13.out.trans (hB.mono HB_13.out.size))
    have HU_14 := Lib.hid (HU_13.out.trans (hB.mono HU_13.out.size))
    have HR_14 := Lib.hid (HR_13.out.below hB)
    have HX_14 := Lib.hid (HX_13.out.below hB)
    have HD_14 := Lib.hid (HD_13.out.below hB)
    have HQ_14 := Lib.hid (HQ_13.out.below hB)
    have HS_14 := Lib.hid (HS_13.out.below hB)
    have HK_14 := Lib.hid (HK_13.out.below hB)
    have HM_14 := Lib.hid (HM_13.out.below hB)
    have HR3_14 := Lib.hid (HR3_13.out.below hB)
    have HX3_14 := Lib.hid (HX3.out.below hB)
    have HD3_14 := Lib.hid (HD3.out.below hB)
    clear HR_13 HX_13 HD_13 HQ_13 HS_13 HK_13 HM_13 HR3_13 HX3 HD3 HB_13 HU_13
    clear hB
    obtain ⟨ax0, ax1, ax2, ax3, ax4⟩ := HX3_14.out.cells
    obtain ⟨bx0, bx1, bx2, bx3, bx4, bx5, bx6, bx7, bx8⟩ := HD3_14.out
    go_wp2_with fail
    clear ax0 ax1 ax2 ax3 ax4 bx0 bx1 bx2 bx3 bx4 bx5 bx6 bx7 bx8
    refine (HF2.out u12 HR3_14.out).mono ?_; rintro e u13 ⟨rfl, hB⟩
    have HB_15 := Lib.hid (HB_14.out.trans (hB.mono HB_14.out.size))
    have HU_15 := Lib.hid (HU_14.out.trans (hB.mono HU_14.out.size))
    have HR_15 := Lib.hid (HR_14.out.below hB)
    have HX_15 := Lib.hid (HX_14.out.below hB)
    have HD_15 := Lib.hid (HD_14.out.below hB)
    have HQ_15 := Lib.hid (HQ_14.out.below hB)
    have HS_15 := Lib.hid (HS_14.out.below hB)
    have HK_15 := Lib.hid (HK_14.out.below hB)
    have HM_15 := Lib.hid (HM_14.out.below hB)
    have HR3_15 := Lib.hid (HR3_14.out.below hB)
    have HX3_15 := Lib.hid (HX3_14.out.below hB)
    have HD3_15 := Lib.hid (HD3_14.out.below hB)
    clear HR_14 HX_14 HD_14 HQ_14 HS_14 HK_14 HM_14 HR3_14 HX3_14 HD3_14 HB_14 HU_14
    clear hB
    clear HF1 HF2 HR3_15
    go_wp2_with fail
    refine (specDrawRT_any a0 len0 cap0 bs u13 HL.out hm (HY.out.later HB_15.out)).mono ?_; rintro e u14 ⟨z, rfl, hz1, hz2, hB⟩
    have HB_16 := Lib.hid (HB_15.out.trans (hB.mono HB_15.out.size))
    have HU_16 := Lib.hid (HU_15.out.trans (hB.mono HU_15.out.size))
    have HR_16 := Lib.hid (HR_15.out.below hB)
    have HX_16 := Lib.hid (HX_15.out.below hB)
    have HD_16 := Lib.hid (HD_15.out.below hB)
    have HQ_16 := Lib.hid (HQ_15.out.below hB)
    have HS_16 := Lib.hid (HS_15.out.below hB)
    have HK_16 := Lib.hid (HK_15.out.below hB)
    have HM_16 := Lib.hid (HM_15.out.below hB)
    have HX3_16 := Lib.hid (HX3_15.out.below hB)
    have HD3_16 := Lib.hid (HD3_15.out.below hB)
    clear HR_15 HX_15 HD_15 HQ_15 HS_15 HK_15 HM_15 HX3_15 HD3_15 HB_15 HU_15
    clear hB
    obtain ⟨tx, k6, h6⟩ : ∃ t k, textR z = (t, k) := ⟨_, _, rfl⟩
    have HTF := Lib.hid (text_facts h6)
    have HT1 := Lib.hid (fun W => show Calls Try.prog 25 #[.int .i64 z] W (SaysT2 tx k6 W) from by have e := implReasonsText_any z W; rw [h6] at e; exact e)
    have HT2 := Lib.hid (fun W => show Calls Try.prog 26 #[.int .i64 z] W (SaysT2 tx k6 W) from by have e := specReasonsText_any z W; rw [h6] at e; exact e)
    clear h6
    go_wp2_with fail
    refine (HT1.out u14).mono ?_; rintro e u15 ⟨rfl, hB⟩
    have HB_17 := Lib.hid (HB_16.out.trans (hB.mono HB_16.out.size))
    have HU_17 := Lib.hid (HU_16.out.trans (hB.mono HU_16.out.size))
    have HR_17 := Lib.hid (HR_16.out.below hB)
    have HX_17 := Lib.hid (HX_16.out.below hB)
    have HD_17 := Lib.hid (HD_16.out.below hB)
    have HQ_17 := Lib.hid (HQ_16.out.below hB)
    have HS_17 := Lib.hid (HS_16.out.below hB)
    have HK_17 := Lib.hid (HK_16.out.below hB)
    have HM_17 := Lib.hid (HM_16.out.below hB)
    have HX3_17 := Lib.hid (HX3_16.out.below hB)
    have HD3_17 := Lib.hid (HD3_16.out.below hB)
    clear HR_16 HX_16 HD_16 HQ_16 HS_16 HK_16 HM_16 HX3_16 HD3_16 HB_16 HU_16
    clear hB
    go_wp2_with fail
    refine (HT2.out u15).mono ?_; rintro e u16 ⟨rfl, hB⟩
    have HB_18 := Lib.hid (HB_17.out.trans (hB.mono HB_17.out.size))
    have HU_18 := Lib.hid (HU_17.out.trans (hB.mono HU_17.out.size))
    have HR_18 := Lib.hid (HR_17.out.below hB)
    have HX_18 := Lib.hid (HX_17.out.below hB)
    have HD_18 := Lib.hid (HD_17.out.below hB)
    have HQ_18 := Lib.hid (HQ_17.out.below hB)
    have HS_18 := Lib.hid (HS_17.out.below hB)
    have HK_18 := Lib.hid (HK_17.out.below hB)
    have HM_18 := Lib.hid (HM_17.out.below hB)
    have HX3_18 := Lib.hid (HX3_17.out.below hB)
    have HD3_18 := Lib.hid (HD3_17.out.below hB)
    clear HR_17 HX_17 HD_17 HQ_17 HS_17 HK_17 HM_17 HX3_17 HD3_17 HB_17 HU_17
    clear hB
    clear HT1 HT2
    go_wp2_with fail
    obtain ⟨x0, x1, x2, x3, x4⟩ := HX_18.out
    obtain ⟨d0, d1, d2, d3, d4, d5, d6, d7, d8⟩ := HD_18.out
    have ex0 := cell_regrown x0; have ex1 := cell_regrown x1; have ex2 := cell_regrown x2; have ex3 := cell_regrown x3; have ex4 := cell_regrown x4; have ed0 := cell_regrown d0; have ed1 := cell_regrown d1; have ed2 := cell_regrown d2; have ed3 := cell_regrown d3; have ed4 := cell_regrown d4; have ed5 := cell_regrown d5; have ed6 := cell_regrown d6; have ed7 := cell_regrown d7; have ed8 := cell_regrown d8
    clear x0 x1 x2 x3 x4 d0 d1 d2 d3 d4 d5 d6 d7 d8
    have hq1 := regr_call (w := u16) (fun W hB => sameB (likeInts_any aQ aS xs.length capQ xs.length capS xs xs W rfl rfl hmx hmx (HQ_18.out.below hB) (HS_18.out.below hB)))
    have hq2 := regr_call (w := u16) (fun W hB => sameB (likeInts_any aK aM ks.length capK ks.length capM ks ks W rfl rfl hmk hmk (HK_18.out.below hB) (HM_18.out.below hB)))
    have hq3 := regr_call (w := u16) (fun W hB => HR1.out W (HR_18.out.below hB)); have hq4 := regr_call (w := u16) (fun W hB => HR2.out W (HR_18.out.below hB))
    have hq5 := regr_call (w := u16) (fun W _ => HC1.out W); have hq6 := regr_call (w := u16) (fun W _ => HC2.out W)
    clear HR1 HR2 HC1 HC2
    simp only [List.append]
    refine wp_region_quiet_below (by kernel_rfl) (by kernel_rfl) ?_
    iterate 27 (go_big_quiet_step (exact hq1 _ _))
    iterate 11 (go_big_quiet_step (exact hq2 _ _))
    iterate 25 (go_big_quiet_step (exact hq3 _ _))
    iterate 2 (go_big_quiet_step (exact hq4 _ _))
    iterate 5 (go_big_quiet_step (exact hq5 _ _))
    iterate 4 (go_big_quiet_step (exact hq6 _ _))
    refine wpQuiet_nil ?_
    intro _ hw
    obtain ⟨⟨dq, osq⟩, hw2⟩ := hw
    subst hw2
    have hB := below_regrown u16 dq osq
    clear hq1 hq2 hq3 hq4 hq5 hq6 ex0 ex1 ex2 ex3 ex4 ed0 ed1 ed2 ed3 ed4 ed5 ed6 ed7 ed8
    clear HX_18
    clear HD_18
    clear HR_18
    clear HQ_18
    clear HS_18
    clear HK_18
    clear HM_18
    have HB_19 := Lib.hid (HB_18.out.trans (hB.mono HB_18.out.size))
    have HU_19 := Lib.hid (HU_18.out.trans (hB.mono HU_18.out.size))
    have HX3_19 := Lib.hid (HX3_18.out.below hB)
    have HD3_19 := Lib.hid (HD3_18.out.below hB)
    clear HX3_18 HD3_18 HB_18 HU_18
    clear hB
    generalize Go.Sort.grow (redrawn u16 dq) osq = u17 at HX3_19 HD3_19 HB_19 HU_19 ⊢
    rcases HFR.out with hkf | ⟨hkf, hyf⟩
    · have ekf : (k5 == 0) = false := beq_eq_false_iff_ne.2 hkf
      rcases HCF.out with hkc | ⟨hkc, hcnt⟩
      · have ekc : (k3 == 0) = false := beq_eq_false_iff_ne.2 hkc
        rcases HTF.out with hkt | ⟨hkt, hte⟩
        · have ekt : (k6 == 0) = false := beq_eq_false_iff_ne.2 hkt
          clear hkt
          rcases HRQ.out with hkr | ⟨hkr, hqe⟩
          · have ekr : (k1 == 0) = false := beq_eq_false_iff_ne.2 hkr
            have ekr2 : (k1 != 0) = true := bne_iff_ne.2 hkr
            go_wp2_with fail
            go_ret
            exact ⟨rfl, HB_19.out⟩
          · subst hkr
            subst hqe
            go_wp2_with fail
            go_ret
            exact ⟨rfl, HB_19.out⟩
        · subst hkt
          have hts : ((tx.toList == [45]) == (z == 0)) = true := by rw [hte]; exact beq_self_eq_true _
          clear hte
          rcases HRQ.out with hkr | ⟨hkr, hqe⟩
          · have ekr : (k1 == 0) = false := beq_eq_false_iff_ne.2 hkr
            have ekr2 : (k1 != 0) = true := bne_iff_ne.2 hkr
            go_wp2_with fail
            go_ret
            exact ⟨rfl, HB_19.out⟩
          · subst hkr
            subst hqe
            go_wp2_with fail
            go_ret
            exact ⟨rfl, HB_19.out⟩
      · subst hkc
        have HCN := Lib.hid hcnt
        clear hcnt
        go_wp2_with fail
        go_loopw [36] (fun i wr => ∃ k : Nat, k ≤ ks.length ∧ i = .int .i64 k ∧ Below u17.heap.size u17 wr) (fun i _ => ks.length - (intOf i).toNat)
        case atStart => exact ⟨0, Nat.zero_le _, rfl, Below.refl _ _⟩
        case round =>
          obtain ⟨k, hk, rfl, hB⟩ := hrel
          have HB0 := Lib.hid hB; clear hB
          by_cases hlt : k < ks.length
          · obtain ⟨b, off, x, ha, hc, ht, hx⟩ := (FK.out.below (HU_19.out.trans (HB0.out.mono HU_19.out.size))).at rfl hlt
            subst ha
            have hxle : ¬ ((cs.length : Int) - (xs.length : Int) < x) := by have := HCN.out k x hx; omega
            clear ht hx
            go_wp2_with fail
            go_roundw
            case rel => exact ⟨k + 1, by omega, by go_num, HB0.out⟩
            case measure => simp [intOf]; omega
          · skip
            rcases HTF.out with hkt | ⟨hkt, hte⟩
            · have ekt : (k6 == 0) = false := beq_eq_false_iff_ne.2 hkt
              clear hkt
              rcases HRQ.out with hkr | ⟨hkr, hqe⟩
              · have ekr : (k1 == 0) = false := beq_eq_false_iff_ne.2 hkr
                have ekr2 : (k1 != 0) = true := bne_iff_ne.2 hkr
                go_wp2_with fail
                go_ret
                exact ⟨rfl, (HB_19.out.trans (HB0.out.mono HB_19.out.size))⟩
              · subst hkr
                subst hqe
                go_wp2_with fail
                go_ret
                exact ⟨rfl, (HB_19.out.trans (HB0.out.mono HB_19.out.size))⟩
            · subst hkt
              have hts : ((tx.toList == [45]) == (z == 0)) = true := by rw [hte]; exact beq_self_eq_true _
              clear hte
              rcases HRQ.out with hkr | ⟨hkr, hqe⟩
              · have ekr : (k1 == 0) = false := beq_eq_false_iff_ne.2 hkr
                have ekr2 : (k1 != 0) = true := bne_iff_ne.2 hkr
                go_wp2_with fail
                go_ret
                exact ⟨rfl, (HB_19.out.trans (HB0.out.mono HB_19.out.size))⟩
              · subst hkr
                subst hqe
                go_wp2_with fail
                go_ret
                exact ⟨rfl, (HB_19.out.trans (HB0.out.mono HB_19.out.size))⟩
    · subst hkf
      have hyf : qualR (⟨yf, l3, m3, zz3, jj3⟩ : Rul) c3 = (true, 0) := hyf
      have HQF := Lib.hid (fun W (h : RulesIn W za3 zl3 ja3 jl3 zz3 jj3) => show Calls Try.prog 14 #[.agg #[.int .i64 yf, .int .i64 l3, .int .i64 m3, .slice za3 zl3 zc3, .slice ja3 jl3 jc3], .agg #[.int .i64 c3.p.num, .string c3.p.fst, .string c3.p.lst, .int .i64 c3.p.born, .int .i64 c3.p.zone, .bool c3.cit, .bool c3.con, .bool c3.flu, .int .i64 c3.job]] W (SaysW (.tuple #[.bool true, .int .i64 0]) W) from by have e : Calls Try.prog 14 #[.agg #[.int .i64 yf, .int .i64 l3, .int .i64 m3, .slice za3 zl3 zc3, .slice ja3 jl3 jc3], .agg #[.int .i64 c3.p.num, .string c3.p.fst, .string c3.p.lst, .int .i64 c3.p.born, .int .i64 c3.p.zone, .bool c3.cit, .bool c3.con, .bool c3.flu, .int .i64 c3.job]] W (SaysW (boolI (qualR (⟨yf, l3, m3, zz3, jj3⟩ : Rul) c3)) W) := implIsQualified_any yf l3 m3 za3 zl3 zc3 ja3 jl3 jc3 zz3 jj3 c3.p.num c3.p.fst c3.p.lst c3.p.born c3.p.zone c3.cit c3.con c3.flu c3.job W h hf3 hl3; rw [hyf] at e; exact e)
      clear hyf
      have HXS := Lib.hid (HX3_19.out.set0 (.int .i64 yf))
      have HDS := Lib.hid (AtD.grown HD3_19.out (grown_cell u17 r3 0 (.int .i64 yf)) (by omega))
      have HBS := Lib.hid (HB_19.out.setCell (p := ⟨r3, 0, none⟩) HBW.out (.int .i64 yf))
      have HUS := Lib.hid (HU_19.out.setCell (p := ⟨r3, 0, none⟩) (by rw [hr3]; exact Nat.le_refl _) (.int .i64 yf))
      obtain ⟨k0, _, _, _, _⟩ := HX3_19.out.cells
      have g0 := HX3_19.out.frozen 0
      obtain ⟨x0, x1, x2, x3, x4⟩ := HXS.out.cells
      obtain ⟨d0, d1, d2, d3, d4, d5, d6, d7, d8⟩ := HDS.out
      go_wp2_with fail
      clear k0 g0 x0 x1 x2 x3 x4 d0 d1 d2 d3 d4 d5 d6 d7 d8
      refine (HQF.out _ (FR3.out.below HUS.out)).mono ?_; rintro e u18 ⟨rfl, hB⟩
      have HB18 := Lib.hid (HBS.out.trans (hB.mono HBS.out.size)); have HU18 := Lib.hid (HUS.out.trans (hB.mono HUS.out.size))
      clear hB HBS HUS HXS HDS HX3_19 HD3_19
      rcases HCF.out with hkc | ⟨hkc, hcnt⟩
      · have ekc : (k3 == 0) = false := beq_eq_false_iff_ne.2 hkc
        rcases HTF.out with hkt | ⟨hkt, hte⟩
        · have ekt : (k6 == 0) = false := beq_eq_false_iff_ne.2 hkt
          clear hkt
          rcases HRQ.out with hkr | ⟨hkr, hqe⟩
          · have ekr : (k1 == 0) = false := beq_eq_false_iff_ne.2 hkr
            have ekr2 : (k1 != 0) = true := bne_iff_ne.2 hkr
            go_wp2_with fail
            go_ret
            exact ⟨rfl, HB18.out⟩
          · subst hkr
            subst hqe
            go_wp2_with fail
            go_ret
            exact ⟨rfl, HB18.out⟩
        · subst hkt
          have hts : ((tx.toList == [45]) == (z == 0)) = true := by rw [hte]; exact beq_self_eq_true _
          clear hte
          rcases HRQ.out with hkr | ⟨hkr, hqe⟩
          · have ekr : (k1 == 0) = false := beq_eq_false_iff_ne.2 hkr
            have ekr2 : (k1 != 0) = true := bne_iff_ne.2 hkr
            go_wp2_with fail
            go_ret
            exact ⟨rfl, HB18.out⟩
          · subst hkr
            subst hqe
            go_wp2_with fail
            go_ret
            exact ⟨rfl, HB18.out⟩
      · subst hkc
        have HCN := Lib.hid hcnt
        clear hcnt
        go_wp2_with fail
        go_loopw [36] (fun i wr => ∃ k : Nat, k ≤ ks.length ∧ i = .int .i64 k ∧ Below u18.heap.size u18 wr) (fun i _ => ks.length - (intOf i).toNat)
        case atStart => exact ⟨0, Nat.zero_le _, rfl, Below.refl _ _⟩
        case round =>
          obtain ⟨k, hk, rfl, hB⟩ := hrel
          have HB0 := Lib.hid hB; clear hB
          by_cases hlt : k < ks.length
          · obtain ⟨b, off, x, ha, hc, ht, hx⟩ := (FK.out.below (HU18.out.trans (HB0.out.mono HU18.out.size))).at rfl hlt
            subst ha
            have hxle : ¬ ((cs.length : Int) - (xs.length : Int) < x) := by have := HCN.out k x hx; omega
            clear ht hx
            go_wp2_with fail
            go_roundw
            case rel => exact ⟨k + 1, by omega, by go_num, HB0.out⟩
            case measure => simp [intOf]; omega
          · skip
            rcases HTF.out with hkt | ⟨hkt, hte⟩
            · have ekt : (k6 == 0) = false := beq_eq_false_iff_ne.2 hkt
              clear hkt
              rcases HRQ.out with hkr | ⟨hkr, hqe⟩
              · have ekr : (k1 == 0) = false := beq_eq_false_iff_ne.2 hkr
                have ekr2 : (k1 != 0) = true := bne_iff_ne.2 hkr
                go_wp2_with fail
                go_ret
                exact ⟨rfl, (HB18.out.trans (HB0.out.mono HB18.out.size))⟩
              · subst hkr
                subst hqe
                go_wp2_with fail
                go_ret
                exact ⟨rfl, (HB18.out.trans (HB0.out.mono HB18.out.size))⟩
            · subst hkt
              have hts : ((tx.toList == [45]) == (z == 0)) = true := by rw [hte]; exact beq_self_eq_true _
              clear hte
              rcases HRQ.out with hkr | ⟨hkr, hqe⟩
              · have ekr : (k1 == 0) = false := beq_eq_false_iff_ne.2 hkr
                have ekr2 : (k1 != 0) = true := bne_iff_ne.2 hkr
                go_wp2_with fail
                go_ret
                exact ⟨rfl, (HB18.out.trans (HB0.out.mono HB18.out.size))⟩
              · subst hkr
                subst hqe
                go_wp2_with fail
                go_ret
                exact ⟨rfl, (HB18.out.trans (HB0.out.mono HB18.out.size))⟩

set_option maxRecDepth 100000 in
theorem lifted (os : Os) (started : os.Started) (H : Type) (enc : TypeId × Value → H) :
    ReturnsInHanded {} Try.checked os 3 .any (Rows.fnQualifiedSpec.pre6 enc Try.prog Try.f3 Rows.fnQualifiedRow.domain false) (Rows.fnQualifiedSpec.post enc Try.prog Try.f3 false true false false) := by
  refine returnsInHanded_of_change (C := Try.checked) own started (by kernel_rfl) Try.func3
    (ChangeSpec.witness6 (enc := enc) (C := Try.checked) false ⟨#[], #[.slice none 0 0], []⟩ 8 (by kernel_rfl) (by kernel_rfl) (by kernel_rfl) (by kernel_rfl)) ?_
  intro W base args ds gs before hval0 hW hcnd _
  have hval : ∀ (j : Nat) t v, Try.f3.params[j]? = some t → args[j]? = some v → Value.okWide Try.prog W .any base t v := hval0
  have hW' := hW
  obtain ⟨p, q, hA0, hV, rfl, hfz, hnd⟩ := hW
  have hA : DataW.TrodAll enc Try.prog W 0 (fun _ => true) true Try.f3.params.toList args.toList ds p := hA0
  rw [Try.params3] at hA hval
  obtain ⟨v0, vs0, d0, ds0, p0, q0, hargs, rfl, rfl, h0, r0⟩ := trodAll_cons hA
  obtain ⟨rfl, rfl, rfl⟩ := trodAll_nil r0
  obtain rfl : args = #[v0] := by cases args; simp_all
  obtain ⟨rfl, rfl⟩ := trodVars_none hV
  obtain ⟨a0, len0, cap0, rfl⟩ := okWide_slice Try.underlying22 (hval 0 22 v0 rfl rfl)
  have k0 := h0
  have lt0 : ∀ x ∈ p0, x.block < W.heap.size := by obtain ⟨m, hm⟩ := k0; exact DataW.trod_lt m _ _ _ hm
  obtain ⟨z0, w0⟩ : ∃ zs, IsRow .u8 W a0 len0 cap0 zs := by
    obtain ⟨fuel, hf⟩ := h0
    rcases open_ints Try.underlying22 Try.underlying5 (by kernel_rfl) hf with ⟨hcs, _⟩ | ⟨x, l, c, zs, hcs, _, hl, hm, hz, _, hcell, hwz⟩
    · simp [Value.cells] at hcs
      obtain ⟨rfl, rfl, rfl⟩ := hcs
      exact ⟨[], .inl ⟨rfl, rfl, rfl, rfl⟩⟩
    · simp [Value.cells] at hcs
      obtain ⟨rfl, rfl, rfl⟩ := hcs
      exact ⟨zs, .inr ⟨_, rfl, hl, hm, by simpa using hz, hcell, hwz⟩⟩
  clear hA0 hval0
  refine (walk W a0 len0 cap0 z0 w0).mono fun e W' ⟨he, bel⟩ => ?_
  subst he
  exact ⟨_, rfl, _, _, _, [], _, [], hW', trodAll_mk1 (shut_bool Try.underlying4 _), (trodAll_cons_mk (Below.trod laidOut (by kernel_rfl) (of_decide_eq_true (by kernel_rfl)) k0 bel lt0) trodAll_mk0), rfl, bel.frame _, fun h => by cases h⟩

theorem over : Rows.fnQualifiedRow.holds Try.pinned (OpenSpec.ofChange Rows.fnQualifiedSpec) :=
  OpenClaim.holds_of_wide 3 Try.f3 rfl rfl rfl rfl rfl rfl rfl ⟨rfl, rfl, rfl, rfl, rfl⟩ rfl rfl rfl rfl rfl (by kernel_rfl) Try.func3 (by kernel_rfl)
    (of_decide_eq_true (by kernel_rfl)) (by unfold Func.isWrapper; first | (rw [if_pos (by decide +kernel)]; kernel_rfl) | (rw [if_neg (by decide +kernel)]; exact ⟨rfl, rfl⟩))
    (fun os started H enc _ => lifted os started H enc)

/-- The statement. -/
theorem proved : Rows.FnQualifiedSaid := over
end Go.Proofs.Ytjnjmoiilapbiaa.fnQualified
