/- Contracts: ReasonsAgainst, IsQualified and QualifiedFrom, of the program and of its model. -/
import Derived.Test.YtjnjmoiilapbiaaChecked
import Derived.Test.YtjnjmoiilapbiaaBase
import Derived.Test.YtjnjmoiilapbiaaPure61
import Derived.Test.YtjnjmoiilapbiaaIsPers
import Derived.Test.YtjnjmoiilapbiaaHas6
import Derived.Test.YtjnjmoiilapbiaaTruth6
import Derived.Test.YtjnjmoiilapbiaaRul6
import Derived.WalkKit
import Derived.WalkSpells
import Derived.WalkLawsBesides
import Derived.Lib.Hide
import Derived.IntWalk
import Derived.Deep.OwnRows
import Derived.Outline
namespace Go.Proofs.Ytjnjmoiilapbiaa
open Go.RowKit Pure1 Pure2 Pure40 Pure60 Pure61

def twoI (r : Int × Int) : Value := .tuple #[.int .i64 r.1, .int .i64 r.2]
def boolI (r : Bool × Int) : Value := .tuple #[.bool r.1, .int .i64 r.2]
/-- a value is returned; nothing that was there has turned -/
def SaysW (v : Value) (w : World) (e : Ending) (w' : World) : Prop := e = .returned v ∧ Below w.heap.size w w'
theorem qual_beq (r : Rul) (c : Cand) : (reasons r c == 0) = qualB r c := rfl
theorem ret_val {a b : Value} (h : a = b) : Ending.returned a = .returned b := by rw [h]
theorem year_of {r : Rul} (h : areRul r = true) : 1900 ≤ r.year ∧ r.year ≤ 2200 := by
  unfold areRul at h; simp only [Bool.and_eq_true] at h; exact inR_iff.1 h.1
theorem born_of {c : Cand} (h : isCand c = true) : 1900 ≤ c.p.born ∧ c.p.born ≤ 2100 := by
  unfold isCand at h; simp only [Bool.and_eq_true] at h
  have := h.1; unfold isPers at this; simp only [Bool.and_eq_true] at this
  exact inR_iff.1 this.2.2.2.1
theorem code_one {r : Rul} {c : Cand} (h : codeC r [c] = 0) : areRul r = true ∧ isCand c = true := by
  rcases codeC_cases r [c] with ⟨_, h1, _, h2⟩ | h1
  · exact ⟨h1, by simpa using h2⟩
  · rw [h1] at h; cases h
theorem fits_one {c : Cand} (h : c.p.fst.size ≤ maxLen) (h' : c.p.lst.size ≤ maxLen) : FitsC [c] := fun x hx => by
  simp at hx; subst hx; exact ⟨h, h'⟩
theorem boxes_below (w : World) (o o' : Obj) : Below w.heap.size w ((w.alloc o).alloc o') := (boxed _ _).alloc (by simp) _
theorem boxes3_below (w : World) (o o' o'' : Obj) : Below w.heap.size w (((w.alloc o).alloc o').alloc o'') := (boxes_below w o o').alloc (by simp; omega) _

set_option maxRecDepth 100000 in
set_option maxHeartbeats 1000000 in
theorem implQual_any (y l m : Int) (za : Option Addr) (zl zc : Nat) (ja : Option Addr) (jl jc : Nat) (zz jj : List Int) (n : Int) (f la : ByteArray) (bo z : Int) (c1 c2 c3 : Bool) (j : Int) (w : World) (hR : RulesIn w za zl ja jl zz jj) (hy : 1900 ≤ y ∧ y ≤ 2200) (hbo : 1900 ≤ bo ∧ bo ≤ 2100) :
    Calls Try.prog 52 #[.agg #[.int .i64 y, .int .i64 l, .int .i64 m, .slice za zl zc, .slice ja jl jc], .agg #[.int .i64 n, .string f, .string la, .int .i64 bo, .int .i64 z, .bool c1, .bool c2, .bool c3, .int .i64 j]] w (SaysW (.bool (qualB ⟨y, l, m, zz, jj⟩ ⟨⟨n, f, la, bo, z⟩, c1, c2, c3, j⟩)) w) := by
  have HW := Lib.hid (boxes_below w (.cells #[.int .i64 y, .int .i64 l, .int .i64 m, .slice za zl zc, .slice ja jl jc] 26) (.cells #[.int .i64 n, .string f, .string la, .int .i64 bo, .int .i64 z, .bool c1, .bool c2, .bool c3, .int .i64 j] 30))
  have HA0 := Lib.hid ((atR_box w y l m za zl zc ja jl jc 26).below (boxed _ (.cells #[.int .i64 n, .string f, .string la, .int .i64 bo, .int .i64 z, .bool c1, .bool c2, .bool c3, .int .i64 j] 30)))
  have HB0 := Lib.hid (atD_box (w.alloc (.cells #[.int .i64 y, .int .i64 l, .int .i64 m, .slice za zl zc, .slice ja jl jc] 26)) n f la bo z c1 c2 c3 j 30)
  have hx : (w.alloc (.cells #[.int .i64 y, .int .i64 l, .int .i64 m, .slice za zl zc, .slice ja jl jc] 26)).heap.size = w.heap.size + 1 := by simp
  rw [hx] at HB0
  clear hx
  have HD := Lib.hid (implReasons_any y l m za zl zc ja jl jc zz jj n f la bo z c1 c2 c3 j ((w.alloc (.cells #[.int .i64 y, .int .i64 l, .int .i64 m, .slice za zl zc, .slice ja jl jc] 26)).alloc (.cells #[.int .i64 n, .string f, .string la, .int .i64 bo, .int .i64 z, .bool c1, .bool c2, .bool c3, .int .i64 j] 30)) (hR.below HW.out) hy hbo)
  have HN := Lib.hid (show (reasons ⟨y, l, m, zz, jj⟩ ⟨⟨n, f, la, bo, z⟩, c1, c2, c3, j⟩ == 0) = qualB ⟨y, l, m, zz, jj⟩ ⟨⟨n, f, la, bo, z⟩, c1, c2, c3, j⟩ from qual_beq _ _)
  clear hR hy hbo
  go_enter Try.func52, Try.ntmps52
  go_wp2_with fail
  refine HD.out.mono ?_; rintro e w1 ⟨rfl, hB⟩
  have HB1 := Lib.hid (HW.out.trans (hB.mono HW.out.size)); clear hB
  go_wp2_with fail
  go_ret
  exact ⟨ret_bool' HN.out, HB1.out⟩

set_option maxRecDepth 100000 in
set_option maxHeartbeats 1000000 in
theorem implReasonsAgainst_any (y l m : Int) (za : Option Addr) (zl zc : Nat) (ja : Option Addr) (jl jc : Nat) (zz jj : List Int) (n : Int) (f la : ByteArray) (bo z : Int) (c1 c2 c3 : Bool) (j : Int) (w : World) (hR : RulesIn w za zl ja jl zz jj) (hf : f.size ≤ maxLen) (hl : la.size ≤ maxLen) :
    Calls Try.prog 12 #[.agg #[.int .i64 y, .int .i64 l, .int .i64 m, .slice za zl zc, .slice ja jl jc], .agg #[.int .i64 n, .string f, .string la, .int .i64 bo, .int .i64 z, .bool c1, .bool c2, .bool c3, .int .i64 j]] w (SaysW (twoI (reasonsR ⟨y, l, m, zz, jj⟩ ⟨⟨n, f, la, bo, z⟩, c1, c2, c3, j⟩)) w) := by
  have HW := Lib.hid (boxes_below w (.cells #[.int .i64 y, .int .i64 l, .int .i64 m, .slice za zl zc, .slice ja jl jc] 26) (.cells #[.int .i64 n, .string f, .string la, .int .i64 bo, .int .i64 z, .bool c1, .bool c2, .bool c3, .int .i64 j] 30))
  have HA0 := Lib.hid ((atR_box w y l m za zl zc ja jl jc 26).below (boxed _ (.cells #[.int .i64 n, .string f, .string la, .int .i64 bo, .int .i64 z, .bool c1, .bool c2, .bool c3, .int .i64 j] 30)))
  have HB0 := Lib.hid (atD_box (w.alloc (.cells #[.int .i64 y, .int .i64 l, .int .i64 m, .slice za zl zc, .slice ja jl jc] 26)) n f la bo z c1 c2 c3 j 30)
  have hx : (w.alloc (.cells #[.int .i64 y, .int .i64 l, .int .i64 m, .slice za zl zc, .slice ja jl jc] 26)).heap.size = w.heap.size + 1 := by simp
  rw [hx] at HB0
  clear hx
  have HA1 := Lib.hid (HA0.out.below (boxed _ (.cells #[.int .i64 n, .string f, .string la, .int .i64 bo, .int .i64 z, .bool c1, .bool c2, .bool c3, .int .i64 j] 30))); have HB1 := Lib.hid (HB0.out.below (boxed _ (.cells #[.int .i64 n, .string f, .string la, .int .i64 bo, .int .i64 z, .bool c1, .bool c2, .bool c3, .int .i64 j] 30)))
  have HW1 := Lib.hid (boxes3_below w (.cells #[.int .i64 y, .int .i64 l, .int .i64 m, .slice za zl zc, .slice ja jl jc] 26) (.cells #[.int .i64 n, .string f, .string la, .int .i64 bo, .int .i64 z, .bool c1, .bool c2, .bool c3, .int .i64 j] 30) (.cells #[.int .i64 n, .string f, .string la, .int .i64 bo, .int .i64 z, .bool c1, .bool c2, .bool c3, .int .i64 j] 30))
  have HR1 := Lib.hid (hR.below HW1.out)
  have hcs := atD_box ((w.alloc (.cells #[.int .i64 y, .int .i64 l, .int .i64 m, .slice za zl zc, .slice ja jl jc] 26)).alloc (.cells #[.int .i64 n, .string f, .string la, .int .i64 bo, .int .i64 z, .bool c1, .bool c2, .bool c3, .int .i64 j] 30)) n f la bo z c1 c2 c3 j 30
  have hx : ((w.alloc (.cells #[.int .i64 y, .int .i64 l, .int .i64 m, .slice za zl zc, .slice ja jl jc] 26)).alloc (.cells #[.int .i64 n, .string f, .string la, .int .i64 bo, .int .i64 z, .bool c1, .bool c2, .bool c3, .int .i64 j] 30)).heap.size = w.heap.size + 1 + 1 := by simp
  rw [hx] at hcs
  clear hx
  have HC := Lib.hid (implCode6_any y l m za zl zc ja jl jc zz jj (some ⟨w.heap.size + 1 + 1, 0, none⟩) 1 1 [⟨⟨n, f, la, bo, z⟩, c1, c2, c3, j⟩] (((w.alloc (.cells #[.int .i64 y, .int .i64 l, .int .i64 m, .slice za zl zc, .slice ja jl jc] 26)).alloc (.cells #[.int .i64 n, .string f, .string la, .int .i64 bo, .int .i64 z, .bool c1, .bool c2, .bool c3, .int .i64 j] 30)).alloc (.cells #[.int .i64 n, .string f, .string la, .int .i64 bo, .int .i64 z, .bool c1, .bool c2, .bool c3, .int .i64 j] 30)) HR1.out rfl (by unfold maxLen; omega) (CandsAt.one hcs) (fits_one hf hl))
  clear hR hcs hf hl HA0 HB0 HW
  rcases codeC_cases ⟨y, l, m, zz, jj⟩ [⟨⟨n, f, la, bo, z⟩, c1, c2, c3, j⟩] with ⟨h0, hr, _, hc⟩ | h1
  · have HN := Lib.hid (show reasonsR ⟨y, l, m, zz, jj⟩ ⟨⟨n, f, la, bo, z⟩, c1, c2, c3, j⟩ = (reasons ⟨y, l, m, zz, jj⟩ ⟨⟨n, f, la, bo, z⟩, c1, c2, c3, j⟩, 0) by unfold reasonsR; rw [if_pos h0])
    have hy := year_of hr; have hbo := born_of (c := ⟨⟨n, f, la, bo, z⟩, c1, c2, c3, j⟩) (by simpa using hc)
    simp only at hy hbo
    rw [h0] at HC
    clear h0 hr hc
    go_enter Try.func12, Try.ntmps12
    go_wp2_with fail
    refine HC.out.mono ?_; rintro e w1 ⟨rfl, hB⟩
    have HW2 := Lib.hid (HW1.out.trans (hB.mono HW1.out.size))
    have HR2 := Lib.hid (HR1.out.below hB); have HA2 := Lib.hid (HA1.out.below hB); have HB2 := Lib.hid (HB1.out.below hB)
    clear hB HC HW1 HR1 HA1 HB1
    obtain ⟨a0, a1, a2, a3, a4⟩ := HA2.out
    obtain ⟨b0, b1, b2, b3, b4, b5, b6, b7, b8⟩ := HB2.out
    go_wp2_with fail
    refine (implReasons_any y l m za zl zc ja jl jc zz jj n f la bo z c1 c2 c3 j w1 HR2.out hy hbo).mono ?_; rintro e w2 ⟨rfl, hB⟩
    have HW3 := Lib.hid (HW2.out.trans (hB.mono HW2.out.size)); clear hB
    go_wp2_with fail
    go_ret2
    exact ⟨ret_val (by rw [HN.out]; rfl), HW3.out⟩
  · have HN := Lib.hid (show reasonsR ⟨y, l, m, zz, jj⟩ ⟨⟨n, f, la, bo, z⟩, c1, c2, c3, j⟩ = (0, 1) by unfold reasonsR; rw [if_neg (by rw [h1]; decide)])
    rw [h1] at HC
    clear h1
    go_enter Try.func12, Try.ntmps12
    go_wp2_with fail
    refine HC.out.mono ?_; rintro e w1 ⟨rfl, hB⟩
    have HW2 := Lib.hid (HW1.out.trans (hB.mono HW1.out.size))
    have HR2 := Lib.hid (HR1.out.below hB); have HA2 := Lib.hid (HA1.out.below hB); have HB2 := Lib.hid (HB1.out.below hB)
    clear hB HC HW1 HR1 HA1 HB1
    go_wp2_with fail
    go_ret2
    exact ⟨ret_val (by rw [HN.out]; rfl), HW2.out⟩

set_option maxRecDepth 100000 in
set_option maxHeartbeats 1000000 in
theorem specReasonsAgainst_any (y l m : Int) (za : Option Addr) (zl zc : Nat) (ja : Option Addr) (jl jc : Nat) (zz jj : List Int) (n : Int) (f la : ByteArray) (bo z : Int) (c1 c2 c3 : Bool) (j : Int) (w : World) (hR : RulesIn w za zl ja jl zz jj) (hf : f.size ≤ maxLen) (hl : la.size ≤ maxLen) :
    Calls Try.prog 13 #[.agg #[.int .i64 y, .int .i64 l, .int .i64 m, .slice za zl zc, .slice ja jl jc], .agg #[.int .i64 n, .string f, .string la, .int .i64 bo, .int .i64 z, .bool c1, .bool c2, .bool c3, .int .i64 j]] w (SaysW (twoI (reasonsR ⟨y, l, m, zz, jj⟩ ⟨⟨n, f, la, bo, z⟩, c1, c2, c3, j⟩)) w) := by
  have HW := Lib.hid (boxes_below w (.cells #[.int .i64 y, .int .i64 l, .int .i64 m, .slice za zl zc, .slice ja jl jc] 26) (.cells #[.int .i64 n, .string f, .string la, .int .i64 bo, .int .i64 z, .bool c1, .bool c2, .bool c3, .int .i64 j] 30))
  have HA0 := Lib.hid ((atR_box w y l m za zl zc ja jl jc 26).below (boxed _ (.cells #[.int .i64 n, .string f, .string la, .int .i64 bo, .int .i64 z, .bool c1, .bool c2, .bool c3, .int .i64 j] 30)))
  have HB0 := Lib.hid (atD_box (w.alloc (.cells #[.int .i64 y, .int .i64 l, .int .i64 m, .slice za zl zc, .slice ja jl jc] 26)) n f la bo z c1 c2 c3 j 30)
  have hx : (w.alloc (.cells #[.int .i64 y, .int .i64 l, .int .i64 m, .slice za zl zc, .slice ja jl jc] 26)).heap.size = w.heap.size + 1 := by simp
  rw [hx] at HB0
  clear hx
  have HA1 := Lib.hid (HA0.out.below (boxed _ (.cells #[.int .i64 n, .string f, .string la, .int .i64 bo, .int .i64 z, .bool c1, .bool c2, .bool c3, .int .i64 j] 30))); have HB1 := Lib.hid (HB0.out.below (boxed _ (.cells #[.int .i64 n, .string f, .string la, .int .i64 bo, .int .i64 z, .bool c1, .bool c2, .bool c3, .int .i64 j] 30)))
  have HW1 := Lib.hid (boxes3_below w (.cells #[.int .i64 y, .int .i64 l, .int .i64 m, .slice za zl zc, .slice ja jl jc] 26) (.cells #[.int .i64 n, .string f, .string la, .int .i64 bo, .int .i64 z, .bool c1, .bool c2, .bool c3, .int .i64 j] 30) (.cells #[.int .i64 n, .string f, .string la, .int .i64 bo, .int .i64 z, .bool c1, .bool c2, .bool c3, .int .i64 j] 30))
  have HR1 := Lib.hid (hR.below HW1.out)
  have hcs := atD_box ((w.alloc (.cells #[.int .i64 y, .int .i64 l, .int .i64 m, .slice za zl zc, .slice ja jl jc] 26)).alloc (.cells #[.int .i64 n, .string f, .string la, .int .i64 bo, .int .i64 z, .bool c1, .bool c2, .bool c3, .int .i64 j] 30)) n f la bo z c1 c2 c3 j 30
  have hx : ((w.alloc (.cells #[.int .i64 y, .int .i64 l, .int .i64 m, .slice za zl zc, .slice ja jl jc] 26)).alloc (.cells #[.int .i64 n, .string f, .string la, .int .i64 bo, .int .i64 z, .bool c1, .bool c2, .bool c3, .int .i64 j] 30)).heap.size = w.heap.size + 1 + 1 := by simp
  rw [hx] at hcs
  clear hx
  have HC := Lib.hid (specCode6_any y l m za zl zc ja jl jc zz jj (some ⟨w.heap.size + 1 + 1, 0, none⟩) 1 1 [⟨⟨n, f, la, bo, z⟩, c1, c2, c3, j⟩] (((w.alloc (.cells #[.int .i64 y, .int .i64 l, .int .i64 m, .slice za zl zc, .slice ja jl jc] 26)).alloc (.cells #[.int .i64 n, .string f, .string la, .int .i64 bo, .int .i64 z, .bool c1, .bool c2, .bool c3, .int .i64 j] 30)).alloc (.cells #[.int .i64 n, .string f, .string la, .int .i64 bo, .int .i64 z, .bool c1, .bool c2, .bool c3, .int .i64 j] 30)) HR1.out rfl (by unfold maxLen; omega) (CandsAt.one hcs) (fits_one hf hl))
  clear hR hcs hf hl HA0 HB0 HW
  rcases codeC_cases ⟨y, l, m, zz, jj⟩ [⟨⟨n, f, la, bo, z⟩, c1, c2, c3, j⟩] with ⟨h0, hr, _, hc⟩ | h1
  · have HN := Lib.hid (show reasonsR ⟨y, l, m, zz, jj⟩ ⟨⟨n, f, la, bo, z⟩, c1, c2, c3, j⟩ = (reasons ⟨y, l, m, zz, jj⟩ ⟨⟨n, f, la, bo, z⟩, c1, c2, c3, j⟩, 0) by unfold reasonsR; rw [if_pos h0])
    have hy := year_of hr; have hbo := born_of (c := ⟨⟨n, f, la, bo, z⟩, c1, c2, c3, j⟩) (by simpa using hc)
    simp only at hy hbo
    rw [h0] at HC
    clear h0 hr hc
    go_enter Try.func13, Try.ntmps13
    go_wp2_with fail
    refine HC.out.mono ?_; rintro e w1 ⟨rfl, hB⟩
    have HW2 := Lib.hid (HW1.out.trans (hB.mono HW1.out.size))
    have HR2 := Lib.hid (HR1.out.below hB); have HA2 := Lib.hid (HA1.out.below hB); have HB2 := Lib.hid (HB1.out.below hB)
    clear hB HC HW1 HR1 HA1 HB1
    obtain ⟨a0, a1, a2, a3, a4⟩ := HA2.out
    obtain ⟨b0, b1, b2, b3, b4, b5, b6, b7, b8⟩ := HB2.out
    go_wp2_with fail
    refine (specReasons_any y l m za zl zc ja jl jc zz jj n f la bo z c1 c2 c3 j w1 HR2.out hy hbo).mono ?_; rintro e w2 ⟨rfl, hB⟩
    have HW3 := Lib.hid (HW2.out.trans (hB.mono HW2.out.size)); clear hB
    go_wp2_with fail
    go_ret2
    exact ⟨ret_val (by rw [HN.out]; rfl), HW3.out⟩
  · have HN := Lib.hid (show reasonsR ⟨y, l, m, zz, jj⟩ ⟨⟨n, f, la, bo, z⟩, c1, c2, c3, j⟩ = (0, 1) by unfold reasonsR; rw [if_neg (by rw [h1]; decide)])
    rw [h1] at HC
    clear h1
    go_enter Try.func13, Try.ntmps13
    go_wp2_with fail
    refine HC.out.mono ?_; rintro e w1 ⟨rfl, hB⟩
    have HW2 := Lib.hid (HW1.out.trans (hB.mono HW1.out.size))
    have HR2 := Lib.hid (HR1.out.below hB); have HA2 := Lib.hid (HA1.out.below hB); have HB2 := Lib.hid (HB1.out.below hB)
    clear hB HC HW1 HR1 HA1 HB1
    go_wp2_with fail
    go_ret2
    exact ⟨ret_val (by rw [HN.out]; rfl), HW2.out⟩

set_option maxRecDepth 100000 in
set_option maxHeartbeats 1000000 in
theorem implIsQualified_any (y l m : Int) (za : Option Addr) (zl zc : Nat) (ja : Option Addr) (jl jc : Nat) (zz jj : List Int) (n : Int) (f la : ByteArray) (bo z : Int) (c1 c2 c3 : Bool) (j : Int) (w : World) (hR : RulesIn w za zl ja jl zz jj) (hf : f.size ≤ maxLen) (hl : la.size ≤ maxLen) :
    Calls Try.prog 14 #[.agg #[.int .i64 y, .int .i64 l, .int .i64 m, .slice za zl zc, .slice ja jl jc], .agg #[.int .i64 n, .string f, .string la, .int .i64 bo, .int .i64 z, .bool c1, .bool c2, .bool c3, .int .i64 j]] w (SaysW (boolI (qualR ⟨y, l, m, zz, jj⟩ ⟨⟨n, f, la, bo, z⟩, c1, c2, c3, j⟩)) w) := by
  have HW := Lib.hid (boxes_below w (.cells #[.int .i64 y, .int .i64 l, .int .i64 m, .slice za zl zc, .slice ja jl jc] 26) (.cells #[.int .i64 n, .string f, .string la, .int .i64 bo, .int .i64 z, .bool c1, .bool c2, .bool c3, .int .i64 j] 30))
  have HA0 := Lib.hid ((atR_box w y l m za zl zc ja jl jc 26).below (boxed _ (.cells #[.int .i64 n, .string f, .string la, .int .i64 bo, .int .i64 z, .bool c1, .bool c2, .bool c3, .int .i64 j] 30)))
  have HB0 := Lib.hid (atD_box (w.alloc (.cells #[.int .i64 y, .int .i64 l, .int .i64 m, .slice za zl zc, .slice ja jl jc] 26)) n f la bo z c1 c2 c3 j 30)
  have hx : (w.alloc (.cells #[.int .i64 y, .int .i64 l, .int .i64 m, .slice za zl zc, .slice ja jl jc] 26)).heap.size = w.heap.size + 1 := by simp
  rw [hx] at HB0
  clear hx
  have HA1 := Lib.hid (HA0.out.below (boxed _ (.cells #[.int .i64 n, .string f, .string la, .int .i64 bo, .int .i64 z, .bool c1, .bool c2, .bool c3, .int .i64 j] 30))); have HB1 := Lib.hid (HB0.out.below (boxed _ (.cells #[.int .i64 n, .string f, .string la, .int .i64 bo, .int .i64 z, .bool c1, .bool c2, .bool c3, .int .i64 j] 30)))
  have HW1 := Lib.hid (boxes3_below w (.cells #[.int .i64 y, .int .i64 l, .int .i64 m, .slice za zl zc, .slice ja jl jc] 26) (.cells #[.int .i64 n, .string f, .string la, .int .i64 bo, .int .i64 z, .bool c1, .bool c2, .bool c3, .int .i64 j] 30) (.cells #[.int .i64 n, .string f, .string la, .int .i64 bo, .int .i64 z, .bool c1, .bool c2, .bool c3, .int .i64 j] 30))
  have HR1 := Lib.hid (hR.below HW1.out)
  have hcs := atD_box ((w.alloc (.cells #[.int .i64 y, .int .i64 l, .int .i64 m, .slice za zl zc, .slice ja jl jc] 26)).alloc (.cells #[.int .i64 n, .string f, .string la, .int .i64 bo, .int .i64 z, .bool c1, .bool c2, .bool c3, .int .i64 j] 30)) n f la bo z c1 c2 c3 j 30
  have hx : ((w.alloc (.cells #[.int .i64 y, .int .i64 l, .int .i64 m, .slice za zl zc, .slice ja jl jc] 26)).alloc (.cells #[.int .i64 n, .string f, .string la, .int .i64 bo, .int .i64 z, .bool c1, .bool c2, .bool c3, .int .i64 j] 30)).heap.size = w.heap.size + 1 + 1 := by simp
  rw [hx] at hcs
  clear hx
  have HC := Lib.hid (implCode6_any y l m za zl zc ja jl jc zz jj (some ⟨w.heap.size + 1 + 1, 0, none⟩) 1 1 [⟨⟨n, f, la, bo, z⟩, c1, c2, c3, j⟩] (((w.alloc (.cells #[.int .i64 y, .int .i64 l, .int .i64 m, .slice za zl zc, .slice ja jl jc] 26)).alloc (.cells #[.int .i64 n, .string f, .string la, .int .i64 bo, .int .i64 z, .bool c1, .bool c2, .bool c3, .int .i64 j] 30)).alloc (.cells #[.int .i64 n, .string f, .string la, .int .i64 bo, .int .i64 z, .bool c1, .bool c2, .bool c3, .int .i64 j] 30)) HR1.out rfl (by unfold maxLen; omega) (CandsAt.one hcs) (fits_one hf hl))
  clear hR hcs hf hl HA0 HB0 HW
  rcases codeC_cases ⟨y, l, m, zz, jj⟩ [⟨⟨n, f, la, bo, z⟩, c1, c2, c3, j⟩] with ⟨h0, hr, _, hc⟩ | h1
  · have HN := Lib.hid (show qualR ⟨y, l, m, zz, jj⟩ ⟨⟨n, f, la, bo, z⟩, c1, c2, c3, j⟩ = (qualB ⟨y, l, m, zz, jj⟩ ⟨⟨n, f, la, bo, z⟩, c1, c2, c3, j⟩, 0) by unfold qualR; rw [if_pos h0])
    have hy := year_of hr; have hbo := born_of (c := ⟨⟨n, f, la, bo, z⟩, c1, c2, c3, j⟩) (by simpa using hc)
    simp only at hy hbo
    rw [h0] at HC
    clear h0 hr hc
    go_enter Try.func14, Try.ntmps14
    go_wp2_with fail
    refine HC.out.mono ?_; rintro e w1 ⟨rfl, hB⟩
    have HW2 := Lib.hid (HW1.out.trans (hB.mono HW1.out.size))
    have HR2 := Lib.hid (HR1.out.below hB); have HA2 := Lib.hid (HA1.out.below hB); have HB2 := Lib.hid (HB1.out.below hB)
    clear hB HC HW1 HR1 HA1 HB1
    obtain ⟨a0, a1, a2, a3, a4⟩ := HA2.out
    obtain ⟨b0, b1, b2, b3, b4, b5, b6, b7, b8⟩ := HB2.out
    go_wp2_with fail
    refine (implQual_any y l m za zl zc ja jl jc zz jj n f la bo z c1 c2 c3 j w1 HR2.out hy hbo).mono ?_; rintro e w2 ⟨rfl, hB⟩
    have HW3 := Lib.hid (HW2.out.trans (hB.mono HW2.out.size)); clear hB
    go_wp2_with fail
    go_ret2
    exact ⟨ret_val (by rw [HN.out]; rfl), HW3.out⟩
  · have HN := Lib.hid (show qualR ⟨y, l, m, zz, jj⟩ ⟨⟨n, f, la, bo, z⟩, c1, c2, c3, j⟩ = (false, 1) by unfold qualR; rw [if_neg (by rw [h1]; decide)])
    rw [h1] at HC
    clear h1
    go_enter Try.func14, Try.ntmps14
    go_wp2_with fail
    refine HC.out.mono ?_; rintro e w1 ⟨rfl, hB⟩
    have HW2 := Lib.hid (HW1.out.trans (hB.mono HW1.out.size))
    have HR2 := Lib.hid (HR1.out.below hB); have HA2 := Lib.hid (HA1.out.below hB); have HB2 := Lib.hid (HB1.out.below hB)
    clear hB HC HW1 HR1 HA1 HB1
    go_wp2_with fail
    go_ret2
    exact ⟨ret_val (by rw [HN.out]; rfl), HW2.out⟩

set_option maxRecDepth 100000 in
set_option maxHeartbeats 1000000 in
theorem specIsQualified_any (y l m : Int) (za : Option Addr) (zl zc : Nat) (ja : Option Addr) (jl jc : Nat) (zz jj : List Int) (n : Int) (f la : ByteArray) (bo z : Int) (c1 c2 c3 : Bool) (j : Int) (w : World) (hR : RulesIn w za zl ja jl zz jj) (hf : f.size ≤ maxLen) (hl : la.size ≤ maxLen) :
    Calls Try.prog 15 #[.agg #[.int .i64 y, .int .i64 l, .int .i64 m, .slice za zl zc, .slice ja jl jc], .agg #[.int .i64 n, .string f, .string la, .int .i64 bo, .int .i64 z, .bool c1, .bool c2, .bool c3, .int .i64 j]] w (SaysW (boolI (qualR ⟨y, l, m, zz, jj⟩ ⟨⟨n, f, la, bo, z⟩, c1, c2, c3, j⟩)) w) := by
  have HW := Lib.hid (boxes_below w (.cells #[.int .i64 y, .int .i64 l, .int .i64 m, .slice za zl zc, .slice ja jl jc] 26) (.cells #[.int .i64 n, .string f, .string la, .int .i64 bo, .int .i64 z, .bool c1, .bool c2, .bool c3, .int .i64 j] 30))
  have HA0 := Lib.hid ((atR_box w y l m za zl zc ja jl jc 26).below (boxed _ (.cells #[.int .i64 n, .string f, .string la, .int .i64 bo, .int .i64 z, .bool c1, .bool c2, .bool c3, .int .i64 j] 30)))
  have HB0 := Lib.hid (atD_box (w.alloc (.cells #[.int .i64 y, .int .i64 l, .int .i64 m, .slice za zl zc, .slice ja jl jc] 26)) n f la bo z c1 c2 c3 j 30)
  have hx : (w.alloc (.cells #[.int .i64 y, .int .i64 l, .int .i64 m, .slice za zl zc, .slice ja jl jc] 26)).heap.size = w.heap.size + 1 := by simp
  rw [hx] at HB0
  clear hx
  have HA1 := Lib.hid (HA0.out.below (boxed _ (.cells #[.int .i64 n, .string f, .string la, .int .i64 bo, .int .i64 z, .bool c1, .bool c2, .bool c3, .int .i64 j] 30))); have HB1 := Lib.hid (HB0.out.below (boxed _ (.cells #[.int .i64 n, .string f, .string la, .int .i64 bo, .int .i64 z, .bool c1, .bool c2, .bool c3, .int .i64 j] 30)))
  have HW1 := Lib.hid (boxes3_below w (.cells #[.int .i64 y, .int .i64 l, .int .i64 m, .slice za zl zc, .slice ja jl jc] 26) (.cells #[.int .i64 n, .string f, .string la, .int .i64 bo, .int .i64 z, .bool c1, .bool c2, .bool c3, .int .i64 j] 30) (.cells #[.int .i64 n, .string f, .string la, .int .i64 bo, .int .i64 z, .bool c1, .bool c2, .bool c3, .int .i64 j] 30))
  have HR1 := Lib.hid (hR.below HW1.out)
  have hcs := atD_box ((w.alloc (.cells #[.int .i64 y, .int .i64 l, .int .i64 m, .slice za zl zc, .slice ja jl jc] 26)).alloc (.cells #[.int .i64 n, .string f, .string la, .int .i64 bo, .int .i64 z, .bool c1, .bool c2, .bool c3, .int .i64 j] 30)) n f la bo z c1 c2 c3 j 30
  have hx : ((w.alloc (.cells #[.int .i64 y, .int .i64 l, .int .i64 m, .slice za zl zc, .slice ja jl jc] 26)).alloc (.cells #[.int .i64 n, .string f, .string la, .int .i64 bo, .int .i64 z, .bool c1, .bool c2, .bool c3, .int .i64 j] 30)).heap.size = w.heap.size + 1 + 1 := by simp
  rw [hx] at hcs
  clear hx
  have HC := Lib.hid (specCode6_any y l m za zl zc ja jl jc zz jj (some ⟨w.heap.size + 1 + 1, 0, none⟩) 1 1 [⟨⟨n, f, la, bo, z⟩, c1, c2, c3, j⟩] (((w.alloc (.cells #[.int .i64 y, .int .i64 l, .int .i64 m, .slice za zl zc, .slice ja jl jc] 26)).alloc (.cells #[.int .i64 n, .string f, .string la, .int .i64 bo, .int .i64 z, .bool c1, .bool c2, .bool c3, .int .i64 j] 30)).alloc (.cells #[.int .i64 n, .string f, .string la, .int .i64 bo, .int .i64 z, .bool c1, .bool c2, .bool c3, .int .i64 j] 30)) HR1.out rfl (by unfold maxLen; omega) (CandsAt.one hcs) (fits_one hf hl))
  clear hR hcs hf hl HA0 HB0 HW
  rcases codeC_cases ⟨y, l, m, zz, jj⟩ [⟨⟨n, f, la, bo, z⟩, c1, c2, c3, j⟩] with ⟨h0, hr, _, hc⟩ | h1
  · have HN := Lib.hid (show qualR ⟨y, l, m, zz, jj⟩ ⟨⟨n, f, la, bo, z⟩, c1, c2, c3, j⟩ = (qualB ⟨y, l, m, zz, jj⟩ ⟨⟨n, f, la, bo, z⟩, c1, c2, c3, j⟩, 0) by unfold qualR; rw [if_pos h0])
    have hy := year_of hr; have hbo := born_of (c := ⟨⟨n, f, la, bo, z⟩, c1, c2, c3, j⟩) (by simpa using hc)
    simp only at hy hbo
    rw [h0] at HC
    clear h0 hr hc
    have HQ := Lib.hid (show (reasons ⟨y, l, m, zz, jj⟩ ⟨⟨n, f, la, bo, z⟩, c1, c2, c3, j⟩ == 0) = qualB ⟨y, l, m, zz, jj⟩ ⟨⟨n, f, la, bo, z⟩, c1, c2, c3, j⟩ from qual_beq _ _)
    go_enter Try.func15, Try.ntmps15
    go_wp2_with fail
    refine HC.out.mono ?_; rintro e w1 ⟨rfl, hB⟩
    have HW2 := Lib.hid (HW1.out.trans (hB.mono HW1.out.size))
    have HR2 := Lib.hid (HR1.out.below hB); have HA2 := Lib.hid (HA1.out.below hB); have HB2 := Lib.hid (HB1.out.below hB)
    clear hB HC HW1 HR1 HA1 HB1
    obtain ⟨a0, a1, a2, a3, a4⟩ := HA2.out
    obtain ⟨b0, b1, b2, b3, b4, b5, b6, b7, b8⟩ := HB2.out
    go_wp2_with fail
    refine (specReasons_any y l m za zl zc ja jl jc zz jj n f la bo z c1 c2 c3 j w1 HR2.out hy hbo).mono ?_; rintro e w2 ⟨rfl, hB⟩
    have HW3 := Lib.hid (HW2.out.trans (hB.mono HW2.out.size)); clear hB
    go_wp2_with fail
    go_ret2
    exact ⟨ret_val (by rw [HN.out]; rw [← HQ.out]; rfl), HW3.out⟩
  · have HN := Lib.hid (show qualR ⟨y, l, m, zz, jj⟩ ⟨⟨n, f, la, bo, z⟩, c1, c2, c3, j⟩ = (false, 1) by unfold qualR; rw [if_neg (by rw [h1]; decide)])
    rw [h1] at HC
    clear h1
    go_enter Try.func15, Try.ntmps15
    go_wp2_with fail
    refine HC.out.mono ?_; rintro e w1 ⟨rfl, hB⟩
    have HW2 := Lib.hid (HW1.out.trans (hB.mono HW1.out.size))
    have HR2 := Lib.hid (HR1.out.below hB); have HA2 := Lib.hid (HA1.out.below hB); have HB2 := Lib.hid (HB1.out.below hB)
    clear hB HC HW1 HR1 HA1 HB1
    go_wp2_with fail
    go_ret2
    exact ⟨ret_val (by rw [HN.out]; rfl), HW2.out⟩

/-- the year that lies in a block's first cell -/
def yearIn (rb : Nat) (w : World) : Int := match w.cell? ⟨rb, 0, none⟩ with | some v => intOf v | none => 0
theorem yearIn_eq {rb : Nat} {w : World} {x : Int} (h : w.cell? ⟨rb, 0, none⟩ = some (.int .i64 x)) : yearIn rb w = x := by unfold yearIn; rw [h]; rfl
/-- a row of five cells: rules -/
def RowR (w : World) (b : Nat) (y l m : Int) (za : Option Addr) (zl zc : Nat) (ja : Option Addr) (jl jc : Nat) : Prop := ∃ f, w.rowIs b 26 5 f ∧ f 0 = .int .i64 y ∧ f 1 = .int .i64 l ∧ f 2 = .int .i64 m ∧ f 3 = .slice za zl zc ∧ f 4 = .slice ja jl jc
theorem rowR_box (w : World) (y l m : Int) (za : Option Addr) (zl zc : Nat) (ja : Option Addr) (jl jc : Nat) : RowR (w.alloc (.cells #[.int .i64 y, .int .i64 l, .int .i64 m, .slice za zl zc, .slice ja jl jc] 26)) w.heap.size y l m za zl zc ja jl jc :=
  ⟨fun i => (#[Value.int .i64 y, .int .i64 l, .int .i64 m, .slice za zl zc, .slice ja jl jc] : Array Value)[i]?.getD undef, World.rowIs_alloc w #[.int .i64 y, .int .i64 l, .int .i64 m, .slice za zl zc, .slice ja jl jc] 26 _ (fun i hi => by rw [Array.getElem?_eq_getElem hi]; rfl), rfl, rfl, rfl, rfl, rfl⟩
theorem RowR.atR {w : World} {b : Nat} {y l m : Int} {za : Option Addr} {zl zc : Nat} {ja : Option Addr} {jl jc : Nat} (h : RowR w b y l m za zl zc ja jl jc) : AtR w b y l m za zl zc ja jl jc := by
  obtain ⟨f, hr, h0, h1, h2, h3, h4⟩ := h
  exact ⟨by rw [hr.cell (by omega), h0], by rw [hr.cell (by omega), h1], by rw [hr.cell (by omega), h2], by rw [hr.cell (by omega), h3], by rw [hr.cell (by omega), h4]⟩
theorem RowR.frozen {w : World} {b : Nat} {y l m : Int} {za : Option Addr} {zl zc : Nat} {ja : Option Addr} {jl jc : Nat} (h : RowR w b y l m za zl zc ja jl jc) (k : Nat) : w.frozen? ⟨b, k, none⟩ = false := by
  obtain ⟨f, hr, _⟩ := h; exact hr.frozen k
theorem RowR.lt {w : World} {b : Nat} {y l m : Int} {za : Option Addr} {zl zc : Nat} {ja : Option Addr} {jl jc : Nat} (h : RowR w b y l m za zl zc ja jl jc) : b < w.heap.size := by
  obtain ⟨f, hr, _⟩ := h; exact hr.lt
theorem RowR.below {w w' : World} {b : Nat} {y l m : Int} {za : Option Addr} {zl zc : Nat} {ja : Option Addr} {jl jc : Nat} (h : RowR w b y l m za zl zc ja jl jc) (hb : Below w.heap.size w w') : RowR w' b y l m za zl zc ja jl jc := by
  obtain ⟨f, hr, hf⟩ := h; exact ⟨f, hr.of_block (hb.block b hr.lt), hf⟩
theorem RowR.year {w : World} {b : Nat} {y l m : Int} {za : Option Addr} {zl zc : Nat} {ja : Option Addr} {jl jc : Nat} (h : RowR w b y l m za zl zc ja jl jc) (x : Int) : RowR (w.setCell ⟨b, 0, none⟩ (.int .i64 x)) b x l m za zl zc ja jl jc := by
  obtain ⟨f, hr, h0, h1, h2, h3, h4⟩ := h
  exact ⟨_, hr.set 0 (.int .i64 x), rfl, h1, h2, h3, h4⟩
theorem atD_other {w : World} {b cb : Nat} {c : Cand} (h : AtD w cb c) (hne : b ≠ cb) (o : Nat) (v : Value) : AtD (w.setCell ⟨b, o, none⟩ v) cb c := by
  have key : ∀ k u, w.cell? ⟨cb, k, none⟩ = some u → (w.setCell ⟨b, o, none⟩ v).cell? ⟨cb, k, none⟩ = some u := fun k u hk => by
    rw [← hk]; exact World.cell?_of_block (w := w) (Below.heap_setCell _ _ _ _ (fun e => hne e.symm))
  obtain ⟨h0, h1, h2, h3, h4, h5, h6, h7, h8⟩ := h
  exact ⟨key _ _ h0, key _ _ h1, key _ _ h2, key _ _ h3, key _ _ h4, key _ _ h5, key _ _ h6, key _ _ h7, key _ _ h8⟩
theorem keeps_from {B B' : Nat} {w w1 w2 : World} (h : Below B w w1) (h' : Below B' w1 w2) (hb : B ≤ B') : Below B w w2 :=
  ⟨h'.os.trans h.os, h'.tape.trans h.tape, h'.output.trans h.output, Nat.le_trans h.size h'.size, fun k hk => (h'.block k (Nat.lt_of_lt_of_le hk hb)).trans (h.block k hk)⟩

set_option maxRecDepth 100000 in
set_option maxHeartbeats 2000000 in
theorem implQualifiedFrom_any (y l m : Int) (za : Option Addr) (zl zc : Nat) (ja : Option Addr) (jl jc : Nat) (zz jj : List Int) (n : Int) (f la : ByteArray) (bo z : Int) (c1 c2 c3 : Bool) (j : Int) (w : World) (hR : RulesIn w za zl ja jl zz jj) (hf : f.size ≤ maxLen) (hl : la.size ≤ maxLen) :
    Calls Try.prog 22 #[.agg #[.int .i64 y, .int .i64 l, .int .i64 m, .slice za zl zc, .slice ja jl jc], .agg #[.int .i64 n, .string f, .string la, .int .i64 bo, .int .i64 z, .bool c1, .bool c2, .bool c3, .int .i64 j]] w (SaysW (twoI (fromR ⟨y, l, m, zz, jj⟩ ⟨⟨n, f, la, bo, z⟩, c1, c2, c3, j⟩)) w) := by
  have HW := Lib.hid (boxes_below w (.cells #[.int .i64 y, .int .i64 l, .int .i64 m, .slice za zl zc, .slice ja jl jc] 26) (.cells #[.int .i64 n, .string f, .string la, .int .i64 bo, .int .i64 z, .bool c1, .bool c2, .bool c3, .int .i64 j] 30))
  have HA0 := Lib.hid ((atR_box w y l m za zl zc ja jl jc 26).below (boxed _ (.cells #[.int .i64 n, .string f, .string la, .int .i64 bo, .int .i64 z, .bool c1, .bool c2, .bool c3, .int .i64 j] 30)))
  have HB0 := Lib.hid (atD_box (w.alloc (.cells #[.int .i64 y, .int .i64 l, .int .i64 m, .slice za zl zc, .slice ja jl jc] 26)) n f la bo z c1 c2 c3 j 30)
  have hx : (w.alloc (.cells #[.int .i64 y, .int .i64 l, .int .i64 m, .slice za zl zc, .slice ja jl jc] 26)).heap.size = w.heap.size + 1 := by simp
  rw [hx] at HB0
  clear hx
  have HX0 := Lib.hid (((rowR_box w y l m za zl zc ja jl jc).below (boxed _ (.cells #[.int .i64 n, .string f, .string la, .int .i64 bo, .int .i64 z, .bool c1, .bool c2, .bool c3, .int .i64 j] 30))).below (boxed _ (.cells #[.int .i64 n, .string f, .string la, .int .i64 bo, .int .i64 z, .bool c1, .bool c2, .bool c3, .int .i64 j] 30)))
  have HRW := Lib.hid hR
  have HA1 := Lib.hid (HA0.out.below (boxed _ (.cells #[.int .i64 n, .string f, .string la, .int .i64 bo, .int .i64 z, .bool c1, .bool c2, .bool c3, .int .i64 j] 30))); have HB1 := Lib.hid (HB0.out.below (boxed _ (.cells #[.int .i64 n, .string f, .string la, .int .i64 bo, .int .i64 z, .bool c1, .bool c2, .bool c3, .int .i64 j] 30)))
  have HW1 := Lib.hid (boxes3_below w (.cells #[.int .i64 y, .int .i64 l, .int .i64 m, .slice za zl zc, .slice ja jl jc] 26) (.cells #[.int .i64 n, .string f, .string la, .int .i64 bo, .int .i64 z, .bool c1, .bool c2, .bool c3, .int .i64 j] 30) (.cells #[.int .i64 n, .string f, .string la, .int .i64 bo, .int .i64 z, .bool c1, .bool c2, .bool c3, .int .i64 j] 30))
  have HR1 := Lib.hid (hR.below HW1.out)
  have hcs := atD_box ((w.alloc (.cells #[.int .i64 y, .int .i64 l, .int .i64 m, .slice za zl zc, .slice ja jl jc] 26)).alloc (.cells #[.int .i64 n, .string f, .string la, .int .i64 bo, .int .i64 z, .bool c1, .bool c2, .bool c3, .int .i64 j] 30)) n f la bo z c1 c2 c3 j 30
  have hx : ((w.alloc (.cells #[.int .i64 y, .int .i64 l, .int .i64 m, .slice za zl zc, .slice ja jl jc] 26)).alloc (.cells #[.int .i64 n, .string f, .string la, .int .i64 bo, .int .i64 z, .bool c1, .bool c2, .bool c3, .int .i64 j] 30)).heap.size = w.heap.size + 1 + 1 := by simp
  rw [hx] at hcs
  clear hx
  have HC := Lib.hid (implCode6_any y l m za zl zc ja jl jc zz jj (some ⟨w.heap.size + 1 + 1, 0, none⟩) 1 1 [⟨⟨n, f, la, bo, z⟩, c1, c2, c3, j⟩] (((w.alloc (.cells #[.int .i64 y, .int .i64 l, .int .i64 m, .slice za zl zc, .slice ja jl jc] 26)).alloc (.cells #[.int .i64 n, .string f, .string la, .int .i64 bo, .int .i64 z, .bool c1, .bool c2, .bool c3, .int .i64 j] 30)).alloc (.cells #[.int .i64 n, .string f, .string la, .int .i64 bo, .int .i64 z, .bool c1, .bool c2, .bool c3, .int .i64 j] 30)) HR1.out rfl (by unfold maxLen; omega) (CandsAt.one hcs) (fits_one hf hl))
  clear hR hcs hf hl HA0 HB0 HW
  rcases codeC_cases ⟨y, l, m, zz, jj⟩ [⟨⟨n, f, la, bo, z⟩, c1, c2, c3, j⟩] with ⟨h0, hr, _, hc⟩ | h1
  · have HN := Lib.hid (show fromR ⟨y, l, m, zz, jj⟩ ⟨⟨n, f, la, bo, z⟩, c1, c2, c3, j⟩ = fromY ⟨y, l, m, zz, jj⟩ ⟨⟨n, f, la, bo, z⟩, c1, c2, c3, j⟩ by unfold fromR; rw [if_pos h0])
    have hy := year_of hr; have hbo := born_of (c := ⟨⟨n, f, la, bo, z⟩, c1, c2, c3, j⟩) (by simpa using hc)
    simp only at hy hbo
    rw [h0] at HC
    clear h0 hr hc
    go_enter Try.func22, Try.ntmps22
    go_wp2_with fail
    refine HC.out.mono ?_; rintro e w1 ⟨rfl, hB⟩
    have HW2 := Lib.hid (HW1.out.trans (hB.mono HW1.out.size))
    have HR2 := Lib.hid (HR1.out.below hB); have HA2 := Lib.hid (HA1.out.below hB); have HB2 := Lib.hid (HB1.out.below hB)
    have HX2 := Lib.hid (HX0.out.below hB)
    clear hB HC HW1 HR1 HA1 HB1 HX0
    go_wp2_with fail
    obtain ⟨rb, hrb⟩ : ∃ rb, w.heap.size = rb := ⟨_, rfl⟩
    have HRB := Lib.hid hrb
    obtain ⟨cb, hcb⟩ : ∃ cb, rb + 1 = cb := ⟨_, rfl⟩
    have hne : rb ≠ cb := by omega
    rw [hrb] at HX2 HB2 HW2 ⊢
    rw [hcb] at HB2 ⊢
    clear hrb hcb
    go_loopw [4] (fun k wr => ∃ x : Int, y ≤ x ∧ x ≤ 2201 ∧ (∀ u, y ≤ u → u < x → qualB ⟨u, l, m, zz, jj⟩ ⟨⟨n, f, la, bo, z⟩, c1, c2, c3, j⟩ = false) ∧ RowR wr rb x l m za zl zc ja jl jc ∧ AtD wr cb ⟨⟨n, f, la, bo, z⟩, c1, c2, c3, j⟩ ∧ Below rb w wr) (fun _ wr => (2201 - yearIn rb wr).toNat)
    case atStart => exact ⟨y, Int.le_refl _, by omega, (fun u h1 h2 => by omega), HX2.out, HB2.out, HW2.out⟩
    case round =>
      obtain ⟨x, hx0, hx1, hno, hrow, hat, hB⟩ := hrel
      have HNO := Lib.hid hno; have HX := Lib.hid hrow; have HD := Lib.hid hat; have HB := Lib.hid hB; clear hno hrow hat hB
      have hrl := HX.out.lt
      obtain ⟨a0, a1, a2, a3, a4⟩ := HX.out.atR
      obtain ⟨b0, b1, b2, b3, b4, b5, b6, b7, b8⟩ := HD.out
      have HY := Lib.hid (yearIn_eq a0)
      by_cases hlt : x ≤ 2200
      · have HQ := Lib.hid (implQual_any x l m za zl zc ja jl jc zz jj n f la bo z c1 c2 c3 j wr (HRW.out.below (by rw [HRB.out]; exact HB.out)) ⟨by omega, hlt⟩ hbo)
        cases hq : qualB ⟨x, l, m, zz, jj⟩ ⟨⟨n, f, la, bo, z⟩, c1, c2, c3, j⟩
        · rw [hq] at HQ
          have HM := Lib.hid (no_next (r := ⟨y, l, m, zz, jj⟩) HNO.out hq)
          clear hq
          go_wp2_with fail
          refine HQ.out.mono ?_; rintro e w3 ⟨rfl, hB⟩
          have HX3 := Lib.hid (HX.out.below hB); have HD3 := Lib.hid (HD.out.below hB); have HB3 := Lib.hid (HB.out.trans (hB.mono (Nat.le_of_lt hrl)))
          clear a0 a1 a2 a3 a4 b0 b1 b2 b3 b4 b5 b6 b7 b8 hB
          obtain ⟨a0, a1, a2, a3, a4⟩ := HX3.out.atR
          have f0 := HX3.out.frozen 0
          go_wp2_with fail
          go_roundw
          case rel => exact ⟨x + 1, by omega, by omega, HM.out, HX3.out.year (x + 1), atD_other HD3.out hne _ _, HB3.out.setCell (Nat.le_refl _) _⟩
          case measure => rw [yearIn_eq (HX3.out.year (x + 1)).atR.1, HY.out]; omega
        · rw [hq] at HQ
          have HM := Lib.hid (fromY_found (r := ⟨y, l, m, zz, jj⟩) (c := ⟨⟨n, f, la, bo, z⟩, c1, c2, c3, j⟩) hx0 hlt HNO.out hq)
          clear hq
          go_wp2_with fail
          refine HQ.out.mono ?_; rintro e w3 ⟨rfl, hB⟩
          have HX3 := Lib.hid (HX.out.below hB); have HB3 := Lib.hid (HB.out.trans (hB.mono (Nat.le_of_lt hrl)))
          clear a0 a1 a2 a3 a4 b0 b1 b2 b3 b4 b5 b6 b7 b8 hB
          obtain ⟨a0, a1, a2, a3, a4⟩ := HX3.out.atR
          go_wp2_with fail
          go_ret2
          exact ⟨ret_val (by rw [HN.out, HM.out]; rfl), by rw [HRB.out]; exact HB3.out⟩
      · have HM := Lib.hid (fromY_end (r := ⟨y, l, m, zz, jj⟩) (c := ⟨⟨n, f, la, bo, z⟩, c1, c2, c3, j⟩) (y := x) (by omega) HNO.out)
        go_wp2_with fail
        go_ret2
        exact ⟨ret_val (by rw [HN.out, HM.out]; rfl), by rw [HRB.out]; exact HB.out⟩
  · have HN := Lib.hid (show fromR ⟨y, l, m, zz, jj⟩ ⟨⟨n, f, la, bo, z⟩, c1, c2, c3, j⟩ = (0, 1) by unfold fromR; rw [if_neg (by rw [h1]; decide)])
    rw [h1] at HC
    clear h1
    go_enter Try.func22, Try.ntmps22
    go_wp2_with fail
    refine HC.out.mono ?_; rintro e w1 ⟨rfl, hB⟩
    have HW2 := Lib.hid (HW1.out.trans (hB.mono HW1.out.size))
    have HR2 := Lib.hid (HR1.out.below hB); have HA2 := Lib.hid (HA1.out.below hB); have HB2 := Lib.hid (HB1.out.below hB)
    clear hB HC HW1 HR1 HA1 HB1
    go_wp2_with fail
    go_ret2
    exact ⟨ret_val (by rw [HN.out]; rfl), HW2.out⟩

set_option maxRecDepth 100000 in
set_option maxHeartbeats 2000000 in
theorem specQualifiedFrom_any (y l m : Int) (za : Option Addr) (zl zc : Nat) (ja : Option Addr) (jl jc : Nat) (zz jj : List Int) (n : Int) (f la : ByteArray) (bo z : Int) (c1 c2 c3 : Bool) (j : Int) (w : World) (hR : RulesIn w za zl ja jl zz jj) (hf : f.size ≤ maxLen) (hl : la.size ≤ maxLen) :
    Calls Try.prog 23 #[.agg #[.int .i64 y, .int .i64 l, .int .i64 m, .slice za zl zc, .slice ja jl jc], .agg #[.int .i64 n, .string f, .string la, .int .i64 bo, .int .i64 z, .bool c1, .bool c2, .bool c3, .int .i64 j]] w (SaysW (twoI (fromR ⟨y, l, m, zz, jj⟩ ⟨⟨n, f, la, bo, z⟩, c1, c2, c3, j⟩)) w) := by
  have HW := Lib.hid (boxes_below w (.cells #[.int .i64 y, .int .i64 l, .int .i64 m, .slice za zl zc, .slice ja jl jc] 26) (.cells #[.int .i64 n, .string f, .string la, .int .i64 bo, .int .i64 z, .bool c1, .bool c2, .bool c3, .int .i64 j] 30))
  have HA0 := Lib.hid ((atR_box w y l m za zl zc ja jl jc 26).below (boxed _ (.cells #[.int .i64 n, .string f, .string la, .int .i64 bo, .int .i64 z, .bool c1, .bool c2, .bool c3, .int .i64 j] 30)))
  have HB0 := Lib.hid (atD_box (w.alloc (.cells #[.int .i64 y, .int .i64 l, .int .i64 m, .slice za zl zc, .slice ja jl jc] 26)) n f la bo z c1 c2 c3 j 30)
  have hx : (w.alloc (.cells #[.int .i64 y, .int .i64 l, .int .i64 m, .slice za zl zc, .slice ja jl jc] 26)).heap.size = w.heap.size + 1 := by simp
  rw [hx] at HB0
  clear hx
  have HX0 := Lib.hid (((rowR_box w y l m za zl zc ja jl jc).below (boxed _ (.cells #[.int .i64 n, .string f, .string la, .int .i64 bo, .int .i64 z, .bool c1, .bool c2, .bool c3, .int .i64 j] 30))).below (boxed _ (.cells #[.int .i64 n, .string f, .string la, .int .i64 bo, .int .i64 z, .bool c1, .bool c2, .bool c3, .int .i64 j] 30)))
  have HRW := Lib.hid hR
  have HA1 := Lib.hid (HA0.out.below (boxed _ (.cells #[.int .i64 n, .string f, .string la, .int .i64 bo, .int .i64 z, .bool c1, .bool c2, .bool c3, .int .i64 j] 30))); have HB1 := Lib.hid (HB0.out.below (boxed _ (.cells #[.int .i64 n, .string f, .string la, .int .i64 bo, .int .i64 z, .bool c1, .bool c2, .bool c3, .int .i64 j] 30)))
  have HW1 := Lib.hid (boxes3_below w (.cells #[.int .i64 y, .int .i64 l, .int .i64 m, .slice za zl zc, .slice ja jl jc] 26) (.cells #[.int .i64 n, .string f, .string la, .int .i64 bo, .int .i64 z, .bool c1, .bool c2, .bool c3, .int .i64 j] 30) (.cells #[.int .i64 n, .string f, .string la, .int .i64 bo, .int .i64 z, .bool c1, .bool c2, .bool c3, .int .i64 j] 30))
  have HR1 := Lib.hid (hR.below HW1.out)
  have hcs := atD_box ((w.alloc (.cells #[.int .i64 y, .int .i64 l, .int .i64 m, .slice za zl zc, .slice ja jl jc] 26)).alloc (.cells #[.int .i64 n, .string f, .string la, .int .i64 bo, .int .i64 z, .bool c1, .bool c2, .bool c3, .int .i64 j] 30)) n f la bo z c1 c2 c3 j 30
  have hx : ((w.alloc (.cells #[.int .i64 y, .int .i64 l, .int .i64 m, .slice za zl zc, .slice ja jl jc] 26)).alloc (.cells #[.int .i64 n, .string f, .string la, .int .i64 bo, .int .i64 z, .bool c1, .bool c2, .bool c3, .int .i64 j] 30)).heap.size = w.heap.size + 1 + 1 := by simp
  rw [hx] at hcs
  clear hx
  have HC := Lib.hid (specCode6_any y l m za zl zc ja jl jc zz jj (some ⟨w.heap.size + 1 + 1, 0, none⟩) 1 1 [⟨⟨n, f, la, bo, z⟩, c1, c2, c3, j⟩] (((w.alloc (.cells #[.int .i64 y, .int .i64 l, .int .i64 m, .slice za zl zc, .slice ja jl jc] 26)).alloc (.cells #[.int .i64 n, .string f, .string la, .int .i64 bo, .int .i64 z, .bool c1, .bool c2, .bool c3, .int .i64 j] 30)).alloc (.cells #[.int .i64 n, .string f, .string la, .int .i64 bo, .int .i64 z, .bool c1, .bool c2, .bool c3, .int .i64 j] 30)) HR1.out rfl (by unfold maxLen; omega) (CandsAt.one hcs) (fits_one hf hl))
  clear hR hcs hf hl HA0 HB0 HW
  rcases codeC_cases ⟨y, l, m, zz, jj⟩ [⟨⟨n, f, la, bo, z⟩, c1, c2, c3, j⟩] with ⟨h0, hr, _, hc⟩ | h1
  · have HN := Lib.hid (show fromR ⟨y, l, m, zz, jj⟩ ⟨⟨n, f, la, bo, z⟩, c1, c2, c3, j⟩ = fromY ⟨y, l, m, zz, jj⟩ ⟨⟨n, f, la, bo, z⟩, c1, c2, c3, j⟩ by unfold fromR; rw [if_pos h0])
    have hy := year_of hr; have hbo := born_of (c := ⟨⟨n, f, la, bo, z⟩, c1, c2, c3, j⟩) (by simpa using hc)
    simp only at hy hbo
    rw [h0] at HC
    clear h0 hr hc
    go_enter Try.func23, Try.ntmps23
    go_wp2_with fail
    refine HC.out.mono ?_; rintro e w1 ⟨rfl, hB⟩
    have HW2 := Lib.hid (HW1.out.trans (hB.mono HW1.out.size))
    have HR2 := Lib.hid (HR1.out.below hB); have HA2 := Lib.hid (HA1.out.below hB); have HB2 := Lib.hid (HB1.out.below hB)
    have HX2 := Lib.hid (HX0.out.below hB)
    clear hB HC HW1 HR1 HA1 HB1 HX0
    obtain ⟨a0, a1, a2, a3, a4⟩ := HX2.out.atR
    go_wp2_with fail
    clear a0 a1 a2 a3 a4
    obtain ⟨rb, hrb⟩ : ∃ rb, w.heap.size = rb := ⟨_, rfl⟩
    have HRB := Lib.hid hrb
    obtain ⟨cb, hcb⟩ : ∃ cb, rb + 1 = cb := ⟨_, rfl⟩
    have hne : rb ≠ cb := by omega
    rw [hrb] at HX2 HB2 HW2 ⊢
    rw [hcb] at HB2 ⊢
    clear hrb hcb
    go_loopw [7] (fun k wr => ∃ x x0 : Int, y ≤ x ∧ x ≤ 2201 ∧ k = .int .i64 x ∧ (∀ u, y ≤ u → u < x → qualB ⟨u, l, m, zz, jj⟩ ⟨⟨n, f, la, bo, z⟩, c1, c2, c3, j⟩ = false) ∧ RowR wr rb x0 l m za zl zc ja jl jc ∧ AtD wr cb ⟨⟨n, f, la, bo, z⟩, c1, c2, c3, j⟩ ∧ Below rb w wr) (fun k _ => (2201 - intOf k).toNat)
    case atStart => exact ⟨y, y, Int.le_refl _, by omega, rfl, (fun u h1 h2 => by omega), HX2.out, HB2.out, HW2.out⟩
    case round =>
      obtain ⟨x, x0, hx0, hx1, hk, hno, hrow, hat, hB⟩ := hrel
      have HNO := Lib.hid hno; have HX := Lib.hid hrow; have HD := Lib.hid hat; have HB := Lib.hid hB; clear hno hrow hat hB
      have hrl := HX.out.lt
      subst hk
      by_cases hlt : x ≤ 2200
      · have HX1 := Lib.hid (HX.out.year x); have HD1 := Lib.hid (atD_other HD.out hne 0 (.int .i64 x)); have HB1 := Lib.hid (HB.out.setCell (show rb ≤ (⟨rb, 0, none⟩ : Addr).block from Nat.le_refl _) (.int .i64 x))
        have HQ := Lib.hid (specReasons_any x l m za zl zc ja jl jc zz jj n f la bo z c1 c2 c3 j (wr.setCell ⟨rb, 0, none⟩ (.int .i64 x)) (HRW.out.below (by rw [HRB.out]; exact HB1.out)) ⟨by omega, hlt⟩ hbo)
        have hrl1 := HX1.out.lt
        obtain ⟨e0, e1, e2, e3, e4⟩ := HX.out.atR
        have f0 := HX.out.frozen 0
        obtain ⟨a0, a1, a2, a3, a4⟩ := HX1.out.atR
        obtain ⟨b0, b1, b2, b3, b4, b5, b6, b7, b8⟩ := HD1.out
        cases hq : qualB ⟨x, l, m, zz, jj⟩ ⟨⟨n, f, la, bo, z⟩, c1, c2, c3, j⟩
        · have HM := Lib.hid (no_next (r := ⟨y, l, m, zz, jj⟩) HNO.out hq)
          have HE := Lib.hid (show (reasons ⟨x, l, m, zz, jj⟩ ⟨⟨n, f, la, bo, z⟩, c1, c2, c3, j⟩ == 0) = false from (by rw [← hq]; exact qual_beq _ _))
          clear hq
          go_wp2_with fail
          refine HQ.out.mono ?_; rintro e w3 ⟨rfl, hB⟩
          have HX3 := Lib.hid (HX1.out.below hB); have HD3 := Lib.hid (HD1.out.below hB); have HB3 := Lib.hid (HB1.out.trans (hB.mono (Nat.le_of_lt hrl1)))
          clear a0 a1 a2 a3 a4 b0 b1 b2 b3 b4 b5 b6 b7 b8 e0 e1 e2 e3 e4 f0 hB
          have he := HE.out
          generalize reasons ⟨x, l, m, zz, jj⟩ ⟨⟨n, f, la, bo, z⟩, c1, c2, c3, j⟩ = rs at he ⊢
          go_wp2_with fail
          go_roundw
          case rel => exact ⟨x + 1, x, by omega, by omega, rfl, HM.out, HX3.out, HD3.out, HB3.out⟩
          case measure => simp [intOf]; omega
        · have HM := Lib.hid (fromY_found (r := ⟨y, l, m, zz, jj⟩) (c := ⟨⟨n, f, la, bo, z⟩, c1, c2, c3, j⟩) hx0 hlt HNO.out hq)
          have HE := Lib.hid (show (reasons ⟨x, l, m, zz, jj⟩ ⟨⟨n, f, la, bo, z⟩, c1, c2, c3, j⟩ == 0) = true from (by rw [← hq]; exact qual_beq _ _))
          clear hq
          go_wp2_with fail
          refine HQ.out.mono ?_; rintro e w3 ⟨rfl, hB⟩
          have HB3 := Lib.hid (HB1.out.trans (hB.mono (Nat.le_of_lt hrl1)))
          clear a0 a1 a2 a3 a4 b0 b1 b2 b3 b4 b5 b6 b7 b8 e0 e1 e2 e3 e4 f0 hB
          have he := HE.out
          generalize reasons ⟨x, l, m, zz, jj⟩ ⟨⟨n, f, la, bo, z⟩, c1, c2, c3, j⟩ = rs at he ⊢
          go_wp2_with fail
          go_ret2
          exact ⟨ret_val (by rw [HN.out, HM.out]; rfl), by rw [HRB.out]; exact HB3.out⟩
      · have HM := Lib.hid (fromY_end (r := ⟨y, l, m, zz, jj⟩) (c := ⟨⟨n, f, la, bo, z⟩, c1, c2, c3, j⟩) (y := x) (by omega) HNO.out)
        go_wp2_with fail
        go_ret2
        exact ⟨ret_val (by rw [HN.out, HM.out]; rfl), by rw [HRB.out]; exact HB.out⟩
  · have HN := Lib.hid (show fromR ⟨y, l, m, zz, jj⟩ ⟨⟨n, f, la, bo, z⟩, c1, c2, c3, j⟩ = (0, 1) by unfold fromR; rw [if_neg (by rw [h1]; decide)])
    rw [h1] at HC
    clear h1
    go_enter Try.func23, Try.ntmps23
    go_wp2_with fail
    refine HC.out.mono ?_; rintro e w1 ⟨rfl, hB⟩
    have HW2 := Lib.hid (HW1.out.trans (hB.mono HW1.out.size))
    have HR2 := Lib.hid (HR1.out.below hB); have HA2 := Lib.hid (HA1.out.below hB); have HB2 := Lib.hid (HB1.out.below hB)
    clear hB HC HW1 HR1 HA1 HB1
    go_wp2_with fail
    go_ret2
    exact ⟨ret_val (by rw [HN.out]; rfl), HW2.out⟩

end Go.Proofs.Ytjnjmoiilapbiaa
