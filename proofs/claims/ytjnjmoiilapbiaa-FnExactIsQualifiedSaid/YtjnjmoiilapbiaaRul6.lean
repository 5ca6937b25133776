/- Contracts: AreRules, IsCandidate and the code of rules and candidates, of the program and of its model. -/
import Derived.Test.YtjnjmoiilapbiaaChecked
import Derived.Test.YtjnjmoiilapbiaaBase
import Derived.Test.YtjnjmoiilapbiaaPure61
import Derived.Test.YtjnjmoiilapbiaaIsPers
import Derived.Test.YtjnjmoiilapbiaaPersLaw
import Derived.Test.YtjnjmoiilapbiaaIncr
import Derived.Test.YtjnjmoiilapbiaaHas6
import Derived.Test.YtjnjmoiilapbiaaTruth6
import Derived.WalkKit
import Derived.WalkSpells
import Derived.WalkLawsBesides
import Derived.Lib.Hide
import Derived.Lib.QuietBelow
import Derived.IntWalk
import Derived.Deep.QuietTactic
import Derived.BigQuiet
import Derived.Outline
namespace Go.Proofs.Ytjnjmoiilapbiaa
open Go.RowKit Go.Sort Pure1 Pure2 Pure40 Pure60 Pure61

theorem areRul_eq (y l m : Int) (zz jj : List Int) : areRul ⟨y, l, m, zz, jj⟩ = (inR y 1900 2200 && (inR l 0 150 && (inR m l 150 && (rises 20 0 99 zz && rises 20 0 20 jj)))) := rfl
theorem areRul_long1 (y l m : Int) (zz jj : List Int) (h : 20 < zz.length) : areRul ⟨y, l, m, zz, jj⟩ = false := by rw [areRul_eq, rises_long (zs := zz) h]; simp
theorem areRul_long2 (y l m : Int) (zz jj : List Int) (h : 20 < jj.length) : areRul ⟨y, l, m, zz, jj⟩ = false := by rw [areRul_eq, rises_long (zs := jj) h]; simp
theorem rises_short {c : Nat} {lo hi : Int} {zs : List Int} (h : zs.length ≤ c) : rises c lo hi zs = rises zs.length lo hi zs := by rw [rises_len, decide_eq_true h, Bool.true_and]
theorem isCand_eq (n : Int) (f la : ByteArray) (bo z : Int) (c1 c2 c3 : Bool) (j : Int) : isCand ⟨⟨n, f, la, bo, z⟩, c1, c2, c3, j⟩ = (isPers ⟨n, f, la, bo, z⟩ && inR j 0 20) := rfl

set_option maxRecDepth 100000 in
set_option maxHeartbeats 1000000 in
theorem implAreRules_any (y l m : Int) (za : Option Addr) (zl zc : Nat) (ja : Option Addr) (jl jc : Nat) (zz jj : List Int) (w : World) (hR : RulesIn w za zl ja jl zz jj) :
    Calls Try.prog 28 #[.agg #[.int .i64 y, .int .i64 l, .int .i64 m, .slice za zl zc, .slice ja jl jc]] w (SaysBB (areRul ⟨y, l, m, zz, jj⟩) w) := by
  have hRB := hR.below (boxed w (.cells #[.int .i64 y, .int .i64 l, .int .i64 m, .slice za zl zc, .slice ja jl jc] 26))
  obtain ⟨hz1, hz2, hz3, hj1, hj2, hj3⟩ := hRB
  have HZ := Lib.hid (implIncr_any 20 20 0 99 rfl za zl zc zz (w.alloc (.cells #[.int .i64 y, .int .i64 l, .int .i64 m, .slice za zl zc, .slice ja jl jc] 26)) hz1 hz2 hz3)
  have HJ := Lib.hid (implIncr_any 20 20 0 20 rfl ja jl jc jj (w.alloc (.cells #[.int .i64 y, .int .i64 l, .int .i64 m, .slice za zl zc, .slice ja jl jc] 26)) hj1 hj2 hj3)
  clear hR hz1 hz2 hz3 hj1 hj2 hj3
  cases h0 : inR y 1900 2200
  · have HN := Lib.hid (show areRul ⟨y, l, m, zz, jj⟩ = false by rw [areRul_eq]; simp [*])
    go_enter Try.func28, Try.ntmps28
    go_wp2_with fail
    refine (implWithin_any y 1900 2200 _).mono ?_; rintro e w' ⟨rfl, rfl⟩
    go_wp2_with fail
    go_ret
    exact ⟨ret_bool' HN.out.symm, (Below.refl _ _).alloc (Nat.le_refl _) _⟩
  · skip
    cases h1 : inR l 0 150
    · have HN := Lib.hid (show areRul ⟨y, l, m, zz, jj⟩ = false by rw [areRul_eq]; simp [*])
      go_enter Try.func28, Try.ntmps28
      go_wp2_with fail
      refine (implWithin_any y 1900 2200 _).mono ?_; rintro e w' ⟨rfl, rfl⟩
      go_wp2_with fail
      refine (implWithin_any l 0 150 _).mono ?_; rintro e w' ⟨rfl, rfl⟩
      go_wp2_with fail
      go_ret
      exact ⟨ret_bool' HN.out.symm, (Below.refl _ _).alloc (Nat.le_refl _) _⟩
    · skip
      cases h2 : inR m l 150
      · have HN := Lib.hid (show areRul ⟨y, l, m, zz, jj⟩ = false by rw [areRul_eq]; simp [*])
        go_enter Try.func28, Try.ntmps28
        go_wp2_with fail
        refine (implWithin_any y 1900 2200 _).mono ?_; rintro e w' ⟨rfl, rfl⟩
        go_wp2_with fail
        refine (implWithin_any l 0 150 _).mono ?_; rintro e w' ⟨rfl, rfl⟩
        go_wp2_with fail
        refine (implWithin_any m l 150 _).mono ?_; rintro e w' ⟨rfl, rfl⟩
        go_wp2_with fail
        go_ret
        exact ⟨ret_bool' HN.out.symm, (Below.refl _ _).alloc (Nat.le_refl _) _⟩
      · skip
        cases h3 : rises 20 0 99 zz
        · have HN := Lib.hid (show areRul ⟨y, l, m, zz, jj⟩ = false by rw [areRul_eq]; simp [*])
          rw [h3] at HZ
          go_enter Try.func28, Try.ntmps28
          go_wp2_with fail
          refine (implWithin_any y 1900 2200 _).mono ?_; rintro e w' ⟨rfl, rfl⟩
          go_wp2_with fail
          refine (implWithin_any l 0 150 _).mono ?_; rintro e w' ⟨rfl, rfl⟩
          go_wp2_with fail
          refine (implWithin_any m l 150 _).mono ?_; rintro e w' ⟨rfl, rfl⟩
          go_wp2_with fail
          refine HZ.out.mono ?_; rintro e w' ⟨rfl, rfl⟩
          go_wp2_with fail
          go_ret
          exact ⟨ret_bool' HN.out.symm, (Below.refl _ _).alloc (Nat.le_refl _) _⟩
        · skip
          rw [h3] at HZ
          have HN := Lib.hid (show areRul ⟨y, l, m, zz, jj⟩ = rises 20 0 20 jj by rw [areRul_eq, h0, h1, h2, h3]; rfl)
          go_enter Try.func28, Try.ntmps28
          go_wp2_with fail
          refine (implWithin_any y 1900 2200 _).mono ?_; rintro e w' ⟨rfl, rfl⟩
          go_wp2_with fail
          refine (implWithin_any l 0 150 _).mono ?_; rintro e w' ⟨rfl, rfl⟩
          go_wp2_with fail
          refine (implWithin_any m l 150 _).mono ?_; rintro e w' ⟨rfl, rfl⟩
          go_wp2_with fail
          refine HZ.out.mono ?_; rintro e w' ⟨rfl, rfl⟩
          go_wp2_with fail
          refine HJ.out.mono ?_; rintro e w' ⟨rfl, rfl⟩
          go_wp2_with fail
          go_ret
          exact ⟨ret_bool' HN.out.symm, (Below.refl _ _).alloc (Nat.le_refl _) _⟩

set_option maxRecDepth 100000 in
set_option maxHeartbeats 1000000 in
theorem specAreRules_any (y l m : Int) (za : Option Addr) (zl zc : Nat) (ja : Option Addr) (jl jc : Nat) (zz jj : List Int) (w : World) (hR : RulesIn w za zl ja jl zz jj) :
    Calls Try.prog 29 #[.agg #[.int .i64 y, .int .i64 l, .int .i64 m, .slice za zl zc, .slice ja jl jc]] w (SaysBB (areRul ⟨y, l, m, zz, jj⟩) w) := by
  have hRB := hR.below (boxed w (.cells #[.int .i64 y, .int .i64 l, .int .i64 m, .slice za zl zc, .slice ja jl jc] 26))
  obtain ⟨hz1, hz2, hz3, hj1, hj2, hj3⟩ := hRB
  have HZ := Lib.hid (specRises_any 100 za zl zc zz (w.alloc (.cells #[.int .i64 y, .int .i64 l, .int .i64 m, .slice za zl zc, .slice ja jl jc] 26)) (by omega) hz1 hz2 hz3)
  have HJ := Lib.hid (fun k => specRises_any 21 ja jl jc jj ((w.alloc (.cells #[.int .i64 y, .int .i64 l, .int .i64 m, .slice za zl zc, .slice ja jl jc] 26)).drewN k) (by omega) hj1 hj2 (hj3.below (below_drewN (Below.refl _ _) _)))
  have HZ1 := Lib.hid hz1; have HJ1 := Lib.hid hj1
  simp only [show (100 : Int) - 1 = 99 from rfl, show (21 : Int) - 1 = 20 from rfl] at HZ HJ
  clear hR hz1 hz2 hz3 hj1 hj2 hj3
  cases h0 : inR y 1900 2200
  · have HN := Lib.hid (show areRul ⟨y, l, m, zz, jj⟩ = false by rw [areRul_eq]; simp [*])
    go_enter Try.func29, Try.ntmps29
    go_wp2_with fail
    refine (specIn_any y 1900 2200 _).mono ?_; rintro e w' ⟨rfl, rfl⟩
    go_wp2_with fail
    go_ret
    exact ⟨ret_bool' HN.out.symm, (Below.refl _ _).alloc (Nat.le_refl _) _⟩
  · skip
    cases h1 : inR l 0 150
    · have HN := Lib.hid (show areRul ⟨y, l, m, zz, jj⟩ = false by rw [areRul_eq]; simp [*])
      go_enter Try.func29, Try.ntmps29
      go_wp2_with fail
      refine (specIn_any y 1900 2200 _).mono ?_; rintro e w' ⟨rfl, rfl⟩
      go_wp2_with fail
      refine (specIn_any l 0 150 _).mono ?_; rintro e w' ⟨rfl, rfl⟩
      go_wp2_with fail
      go_ret
      exact ⟨ret_bool' HN.out.symm, (Below.refl _ _).alloc (Nat.le_refl _) _⟩
    · skip
      cases h2 : inR m l 150
      · have HN := Lib.hid (show areRul ⟨y, l, m, zz, jj⟩ = false by rw [areRul_eq]; simp [*])
        go_enter Try.func29, Try.ntmps29
        go_wp2_with fail
        refine (specIn_any y 1900 2200 _).mono ?_; rintro e w' ⟨rfl, rfl⟩
        go_wp2_with fail
        refine (specIn_any l 0 150 _).mono ?_; rintro e w' ⟨rfl, rfl⟩
        go_wp2_with fail
        refine (specIn_any m l 150 _).mono ?_; rintro e w' ⟨rfl, rfl⟩
        go_wp2_with fail
        go_ret
        exact ⟨ret_bool' HN.out.symm, (Below.refl _ _).alloc (Nat.le_refl _) _⟩
      · skip
        by_cases hz : zl ≤ 20
        · by_cases hj : jl ≤ 20
          · have hrz := rises_short (c := 20) (lo := 0) (hi := 99) (zs := zz) (by rw [HZ1.out]; exact hz)
            have hrj := rises_short (c := 20) (lo := 0) (hi := 20) (zs := jj) (by rw [HJ1.out]; exact hj)
            rw [← hrz] at HZ
            rw [← hrj] at HJ
            clear hrz hrj
            cases h3 : rises 20 0 99 zz
            · have HN := Lib.hid (show areRul ⟨y, l, m, zz, jj⟩ = false by rw [areRul_eq, h3]; simp)
              rw [h3] at HZ
              go_enter Try.func29, Try.ntmps29
              go_wp2_with fail
              refine (specIn_any y 1900 2200 _).mono ?_; rintro e w' ⟨rfl, rfl⟩
              go_wp2_with fail
              refine (specIn_any l 0 150 _).mono ?_; rintro e w' ⟨rfl, rfl⟩
              go_wp2_with fail
              refine (specIn_any m l 150 _).mono ?_; rintro e w' ⟨rfl, rfl⟩
              go_wp2_with fail
              refine HZ.out.mono ?_; rintro e w' ⟨rfl, n, rfl⟩
              go_wp2_with fail
              go_ret
              exact ⟨ret_bool' HN.out.symm, below_drewN ((Below.refl _ _).alloc (Nat.le_refl _) _) _⟩
            · rw [h3] at HZ
              have HN := Lib.hid (show areRul ⟨y, l, m, zz, jj⟩ = rises 20 0 20 jj by rw [areRul_eq, h0, h1, h2, h3]; rfl)
              go_enter Try.func29, Try.ntmps29
              go_wp2_with fail
              refine (specIn_any y 1900 2200 _).mono ?_; rintro e w' ⟨rfl, rfl⟩
              go_wp2_with fail
              refine (specIn_any l 0 150 _).mono ?_; rintro e w' ⟨rfl, rfl⟩
              go_wp2_with fail
              refine (specIn_any m l 150 _).mono ?_; rintro e w' ⟨rfl, rfl⟩
              go_wp2_with fail
              refine HZ.out.mono ?_; rintro e w' ⟨rfl, n, rfl⟩
              go_wp2_with fail
              refine (HJ.out n).mono ?_; rintro e w' ⟨rfl, n2, rfl⟩
              go_wp2_with fail
              go_ret
              exact ⟨ret_bool' HN.out.symm, below_drewN ((Below.refl _ _).alloc (Nat.le_refl _) _) _⟩
          · have HN := Lib.hid (areRul_long2 y l m zz jj (by rw [HJ1.out]; omega))
            go_enter Try.func29, Try.ntmps29
            go_wp2_with fail
            refine (specIn_any y 1900 2200 _).mono ?_; rintro e w' ⟨rfl, rfl⟩
            go_wp2_with fail
            refine (specIn_any l 0 150 _).mono ?_; rintro e w' ⟨rfl, rfl⟩
            go_wp2_with fail
            refine (specIn_any m l 150 _).mono ?_; rintro e w' ⟨rfl, rfl⟩
            go_wp2_with fail
            go_ret
            exact ⟨ret_bool' HN.out.symm, (Below.refl _ _).alloc (Nat.le_refl _) _⟩
        · have HN := Lib.hid (areRul_long1 y l m zz jj (by rw [HZ1.out]; omega))
          go_enter Try.func29, Try.ntmps29
          go_wp2_with fail
          refine (specIn_any y 1900 2200 _).mono ?_; rintro e w' ⟨rfl, rfl⟩
          go_wp2_with fail
          refine (specIn_any l 0 150 _).mono ?_; rintro e w' ⟨rfl, rfl⟩
          go_wp2_with fail
          refine (specIn_any m l 150 _).mono ?_; rintro e w' ⟨rfl, rfl⟩
          go_wp2_with fail
          go_ret
          exact ⟨ret_bool' HN.out.symm, (Below.refl _ _).alloc (Nat.le_refl _) _⟩

set_option maxRecDepth 100000 in
set_option maxHeartbeats 1000000 in
theorem implIsCand_any (n : Int) (f la : ByteArray) (bo z : Int) (c1 c2 c3 : Bool) (j : Int) (w : World) (hf : f.size ≤ maxLen) (hl : la.size ≤ maxLen) :
    Calls Try.prog 30 #[.agg #[.int .i64 n, .string f, .string la, .int .i64 bo, .int .i64 z, .bool c1, .bool c2, .bool c3, .int .i64 j]] w (SaysBB (isCand ⟨⟨n, f, la, bo, z⟩, c1, c2, c3, j⟩) w) := by
  have HA := Lib.hid (atD_box w n f la bo z c1 c2 c3 j 30)
  have HW := Lib.hid (boxed w (.cells #[.int .i64 n, .string f, .string la, .int .i64 bo, .int .i64 z, .bool c1, .bool c2, .bool c3, .int .i64 j] 30))
  have HP := Lib.hid (implIsPerson_any n f la bo z (w.alloc (.cells #[.int .i64 n, .string f, .string la, .int .i64 bo, .int .i64 z, .bool c1, .bool c2, .bool c3, .int .i64 j] 30)) hf hl)
  cases hp : isPers ⟨n, f, la, bo, z⟩
  · have HN := Lib.hid (show isCand ⟨⟨n, f, la, bo, z⟩, c1, c2, c3, j⟩ = false by rw [isCand_eq, hp]; rfl)
    rw [hp] at HP
    go_enter Try.func30, Try.ntmps30
    go_wp2_with fail
    refine HP.out.mono ?_; rintro e w1 ⟨rfl, hB⟩
    have HB1 := Lib.hid (HW.out.trans (hB.mono HW.out.size)); clear hB
    go_wp2_with fail
    go_ret
    exact ⟨ret_bool' HN.out.symm, HB1.out⟩
  · have HN := Lib.hid (show isCand ⟨⟨n, f, la, bo, z⟩, c1, c2, c3, j⟩ = inR j 0 20 by rw [isCand_eq, hp]; rfl)
    rw [hp] at HP
    go_enter Try.func30, Try.ntmps30
    go_wp2_with fail
    refine HP.out.mono ?_; rintro e w1 ⟨rfl, hB⟩
    have HB1 := Lib.hid (HW.out.trans (hB.mono HW.out.size))
    have hc8 := cell_later hB HA.out.2.2.2.2.2.2.2.2
    clear hB
    go_wp2_with fail
    refine (implWithin_any j 0 20 _).mono ?_; rintro e w2 ⟨rfl, rfl⟩
    go_wp2_with fail
    go_ret
    exact ⟨ret_bool' HN.out.symm, HB1.out⟩

set_option maxRecDepth 100000 in
set_option maxHeartbeats 1000000 in
theorem specIsCand_any (n : Int) (f la : ByteArray) (bo z : Int) (c1 c2 c3 : Bool) (j : Int) (w : World) (hf : f.size ≤ maxLen) (hl : la.size ≤ maxLen) :
    Calls Try.prog 31 #[.agg #[.int .i64 n, .string f, .string la, .int .i64 bo, .int .i64 z, .bool c1, .bool c2, .bool c3, .int .i64 j]] w (SaysBB (isCand ⟨⟨n, f, la, bo, z⟩, c1, c2, c3, j⟩) w) := by
  have HA := Lib.hid (atD_box w n f la bo z c1 c2 c3 j 30)
  have HW := Lib.hid (boxed w (.cells #[.int .i64 n, .string f, .string la, .int .i64 bo, .int .i64 z, .bool c1, .bool c2, .bool c3, .int .i64 j] 30))
  have HP := Lib.hid (specIsPerson_any n f la bo z (w.alloc (.cells #[.int .i64 n, .string f, .string la, .int .i64 bo, .int .i64 z, .bool c1, .bool c2, .bool c3, .int .i64 j] 30)) hf hl)
  cases hp : isPers ⟨n, f, la, bo, z⟩
  · have HN := Lib.hid (show isCand ⟨⟨n, f, la, bo, z⟩, c1, c2, c3, j⟩ = false by rw [isCand_eq, hp]; rfl)
    rw [hp] at HP
    go_enter Try.func31, Try.ntmps31
    go_wp2_with fail
    refine HP.out.mono ?_; rintro e w1 ⟨rfl, hB⟩
    have HB1 := Lib.hid (HW.out.trans (hB.mono HW.out.size)); clear hB
    go_wp2_with fail
    go_ret
    exact ⟨ret_bool' HN.out.symm, HB1.out⟩
  · have HN := Lib.hid (show isCand ⟨⟨n, f, la, bo, z⟩, c1, c2, c3, j⟩ = inR j 0 20 by rw [isCand_eq, hp]; rfl)
    rw [hp] at HP
    go_enter Try.func31, Try.ntmps31
    go_wp2_with fail
    refine HP.out.mono ?_; rintro e w1 ⟨rfl, hB⟩
    have HB1 := Lib.hid (HW.out.trans (hB.mono HW.out.size))
    have hc8 := cell_later hB HA.out.2.2.2.2.2.2.2.2
    clear hB
    go_wp2_with fail
    refine (specIn_any j 0 20 _).mono ?_; rintro e w2 ⟨rfl, rfl⟩
    go_wp2_with fail
    go_ret
    exact ⟨ret_bool' HN.out.symm, HB1.out⟩

set_option maxRecDepth 100000 in
set_option maxHeartbeats 1000000 in
theorem implCode6_any (y l m : Int) (za : Option Addr) (zl zc : Nat) (ja : Option Addr) (jl jc : Nat) (zz jj : List Int) (a : Option Addr) (len cap : Nat) (cs : List Cand) (w : World) (hR : RulesIn w za zl ja jl zz jj) (hl : cs.length = len) (hm : len ≤ maxLen) (hI : CandsAt w a cs) (hF : FitsC cs) :
    Calls Try.prog 48 #[.agg #[.int .i64 y, .int .i64 l, .int .i64 m, .slice za zl zc, .slice ja jl jc], .slice a len cap] w fun e w' => e = .returned (.int .i64 (codeC ⟨y, l, m, zz, jj⟩ cs)) ∧ Below w.heap.size w w' := by
  unfold maxLen at hm
  have HW := Lib.hid (boxed w (.cells #[.int .i64 y, .int .i64 l, .int .i64 m, .slice za zl zc, .slice ja jl jc] 26))
  have HC := Lib.hid (implAreRules_any y l m za zl zc ja jl jc zz jj (w.alloc (.cells #[.int .i64 y, .int .i64 l, .int .i64 m, .slice za zl zc, .slice ja jl jc] 26)) (hR.below HW.out))
  have HL := Lib.hid hl; have HI := Lib.hid (hI.below HW.out); have HF := Lib.hid hF
  clear hR hl hI hF
  cases hr : areRul ⟨y, l, m, zz, jj⟩
  · have HN := Lib.hid (codeC_rul (cs := cs) hr)
    rw [hr] at HC
    go_enter Try.func48, Try.ntmps48
    go_wp2_with fail
    refine HC.out.mono ?_; rintro e w1 ⟨rfl, hB⟩
    have HB1 := Lib.hid (HW.out.trans (hB.mono HW.out.size)); clear hB
    go_wp2_with fail
    go_ret
    exact ⟨ret_i64 HN.out.symm, HB1.out⟩
  · rw [hr] at HC
    have HR := Lib.hid hr; clear hr
    by_cases h60 : (len : Int) ≤ 60
    · go_enter Try.func48, Try.ntmps48
      go_wp2_with fail
      refine HC.out.mono ?_; rintro e w1 ⟨rfl, hB⟩
      have HB1 := Lib.hid (HW.out.trans (hB.mono HW.out.size)); have HI1 := Lib.hid (HI.out.below hB); clear hB
      go_wp2_with fail
      go_loopw [6, 17] (fun _ k wr => ∃ i : Nat, i ≤ len ∧ k = .int .i64 i ∧ (∀ q c, q < i → cs[q]? = some c → isCand c = true) ∧ Below w1.heap.size w1 wr) (fun _ k _ => len - (intOf k).toNat)
      case atStart => exact ⟨0, Nat.zero_le _, rfl, fun q c hq => by omega, Below.refl _ _⟩
      case round =>
        obtain ⟨i, hi, rfl, hall, hB⟩ := hrel
        have HA := Lib.hid hall; have HB := Lib.hid hB; clear hall hB
        by_cases hlt : i < len
        · obtain ⟨b, off, c, ha, hc, hp⟩ := (HI1.out.below HB.out).at HL.out hlt
          have hfit := HF.out.at hp
          have HP := Lib.hid hp; clear hp
          subst ha
          obtain ⟨k0, k1, k2, k3, k4, k5, k6, k7, k8⟩ := hc
          have HB2 := Lib.hid (HB.out.alloc HB.out.size (.cells #[.int .i64 c.p.num, .string c.p.fst, .string c.p.lst, .int .i64 c.p.born, .int .i64 c.p.zone, .bool c.cit, .bool c.con, .bool c.flu, .int .i64 c.job] 30))
          have HD := Lib.hid (implIsCand_any c.p.num c.p.fst c.p.lst c.p.born c.p.zone c.cit c.con c.flu c.job (wr.alloc (.cells #[.int .i64 c.p.num, .string c.p.fst, .string c.p.lst, .int .i64 c.p.born, .int .i64 c.p.zone, .bool c.cit, .bool c.con, .bool c.flu, .int .i64 c.job] 30)) hfit.1 hfit.2)
          rw [show isCand ⟨⟨c.p.num, c.p.fst, c.p.lst, c.p.born, c.p.zone⟩, c.cit, c.con, c.flu, c.job⟩ = isCand c from rfl] at HD
          clear hfit
          cases hd : isCand c
          · have HN := Lib.hid (codeC_cand (r := ⟨y, l, m, zz, jj⟩) HP.out hd)
            rw [hd] at HD; clear hd
            go_wp2_with fail
            refine HD.out.mono ?_; rintro e w2 ⟨rfl, hB⟩
            have HB3 := Lib.hid (HB2.out.trans (hB.mono HB2.out.size)); clear hB k0 k1 k2 k3 k4 k5 k6 k7 k8
            go_wp2_with fail
            go_ret
            exact ⟨ret_i64 HN.out.symm, HB1.out.trans (HB3.out.mono HB1.out.size)⟩
          · have HN := Lib.hid (all_next HA.out HP.out hd)
            rw [hd] at HD; clear hd
            go_wp2_with fail
            refine HD.out.mono ?_; rintro e w2 ⟨rfl, hB⟩
            have HB3 := Lib.hid (HB2.out.trans (hB.mono HB2.out.size)); clear hB k0 k1 k2 k3 k4 k5 k6 k7 k8
            go_wp2_with fail
            go_roundw
            case rel => exact ⟨i + 1, by omega, by go_num, HN.out, HB3.out⟩
            case measure => simp [intOf]; omega
        · have HN := Lib.hid (codeC_end (r := ⟨y, l, m, zz, jj⟩) (cs := cs) HA.out (by rw [HL.out]; omega) HR.out (by rw [HL.out]; omega))
          go_wp2_with fail
          go_ret
          exact ⟨ret_i64 HN.out.symm, HB1.out.trans (HB.out.mono HB1.out.size)⟩
    · have HN := Lib.hid (codeC_long (r := ⟨y, l, m, zz, jj⟩) (cs := cs) (by rw [HL.out]; omega))
      go_enter Try.func48, Try.ntmps48
      go_wp2_with fail
      refine HC.out.mono ?_; rintro e w1 ⟨rfl, hB⟩
      have HB1 := Lib.hid (HW.out.trans (hB.mono HW.out.size)); clear hB
      go_wp2_with fail
      go_ret
      exact ⟨ret_i64 HN.out.symm, HB1.out⟩

set_option maxRecDepth 100000 in
set_option maxHeartbeats 1000000 in
theorem specCode6_any (y l m : Int) (za : Option Addr) (zl zc : Nat) (ja : Option Addr) (jl jc : Nat) (zz jj : List Int) (a : Option Addr) (len cap : Nat) (cs : List Cand) (w : World) (hR : RulesIn w za zl ja jl zz jj) (hl : cs.length = len) (hm : len ≤ maxLen) (hI : CandsAt w a cs) (hF : FitsC cs) :
    Calls Try.prog 50 #[.agg #[.int .i64 y, .int .i64 l, .int .i64 m, .slice za zl zc, .slice ja jl jc], .slice a len cap] w fun e w' => e = .returned (.int .i64 (codeC ⟨y, l, m, zz, jj⟩ cs)) ∧ Below w.heap.size w w' := by
  unfold maxLen at hm
  have HW := Lib.hid (boxed w (.cells #[.int .i64 y, .int .i64 l, .int .i64 m, .slice za zl zc, .slice ja jl jc] 26))
  have HA0 := Lib.hid (atR_box w y l m za zl zc ja jl jc 26)
  have HR0 := Lib.hid (hR.below HW.out)
  have HL := Lib.hid hl; have HI := Lib.hid (hI.below HW.out); have HF := Lib.hid hF
  clear hR hl hI hF
  go_enter Try.func50, Try.ntmps50
  go_wp2_with fail
  generalize (w.alloc (.cells #[.int .i64 y, .int .i64 l, .int .i64 m, .slice za zl zc, .slice ja jl jc] 26)) = w1 at HW HA0 HR0 HI ⊢
  obtain ⟨rb, hrb⟩ : ∃ rb, w.heap.size = rb := ⟨_, rfl⟩
  have HRB := Lib.hid hrb
  have hsz := HW.out.size
  rw [hrb] at HA0 HW hsz ⊢
  clear hrb
  go_loopw [5] (fun k wr => ∃ i : Nat, i ≤ len ∧ k = .int .i64 i ∧ (∀ q c, q < i → cs[q]? = some c → isCand c = true) ∧ Below w1.heap.size w1 wr) (fun k _ => len - (intOf k).toNat)
  case atStart => exact ⟨0, Nat.zero_le _, rfl, fun q c hq => by omega, Below.refl _ _⟩
  case round =>
    obtain ⟨i, hi, rfl, hall, hB⟩ := hrel
    have HA := Lib.hid hall; have HB := Lib.hid hB; clear hall hB
    by_cases hlt : i < len
    · obtain ⟨b, off, c, ha, hc, hp⟩ := (HI.out.below HB.out).at HL.out hlt
      have hfit := HF.out.at hp
      have HP := Lib.hid hp; clear hp
      subst ha
      obtain ⟨k0, k1, k2, k3, k4, k5, k6, k7, k8⟩ := hc
      have HD := Lib.hid (specIsCand_any c.p.num c.p.fst c.p.lst c.p.born c.p.zone c.cit c.con c.flu c.job wr hfit.1 hfit.2)
      rw [show isCand ⟨⟨c.p.num, c.p.fst, c.p.lst, c.p.born, c.p.zone⟩, c.cit, c.con, c.flu, c.job⟩ = isCand c from rfl] at HD
      clear hfit
      cases hd : isCand c
      · have HN := Lib.hid (codeC_cand (r := ⟨y, l, m, zz, jj⟩) HP.out hd)
        rw [hd] at HD; clear hd
        go_wp2_with fail
        refine HD.out.mono ?_; rintro e w2 ⟨rfl, hB⟩
        have HB3 := Lib.hid (HB.out.trans (hB.mono HB.out.size)); clear hB k0 k1 k2 k3 k4 k5 k6 k7 k8
        go_wp2_with fail
        go_ret
        exact ⟨ret_i64 HN.out.symm, by rw [HRB.out]; exact HW.out.trans (HB3.out.mono hsz)⟩
      · have HN := Lib.hid (all_next HA.out HP.out hd)
        rw [hd] at HD; clear hd
        go_wp2_with fail
        refine HD.out.mono ?_; rintro e w2 ⟨rfl, hB⟩
        have HB3 := Lib.hid (HB.out.trans (hB.mono HB.out.size)); clear hB k0 k1 k2 k3 k4 k5 k6 k7 k8
        go_wp2_with fail
        go_roundw
        case rel => exact ⟨i + 1, by omega, by go_num, HN.out, HB3.out⟩
        case measure => simp [intOf]; omega
    · obtain ⟨k0, k1, k2, k3, k4⟩ := HA0.out.below HB.out
      have HC := Lib.hid (specAreRules_any y l m za zl zc ja jl jc zz jj wr (HR0.out.below HB.out))
      cases hr : areRul ⟨y, l, m, zz, jj⟩
      · have HN := Lib.hid (codeC_rul (cs := cs) hr)
        rw [hr] at HC; clear hr
        go_wp2_with fail
        refine HC.out.mono ?_; rintro e w2 ⟨rfl, hB⟩
        have HB3 := Lib.hid (HB.out.trans (hB.mono HB.out.size)); clear hB k0 k1 k2 k3 k4
        go_wp2_with fail
        go_ret
        exact ⟨ret_i64 HN.out.symm, by rw [HRB.out]; exact HW.out.trans (HB3.out.mono hsz)⟩
      · rw [hr] at HC
        by_cases h60 : (len : Int) ≤ 60
        · have HN := Lib.hid (codeC_end (r := ⟨y, l, m, zz, jj⟩) (cs := cs) HA.out (by rw [HL.out]; omega) hr (by rw [HL.out]; omega))
          clear hr
          go_wp2_with fail
          refine HC.out.mono ?_; rintro e w2 ⟨rfl, hB⟩
          have HB3 := Lib.hid (HB.out.trans (hB.mono HB.out.size)); clear hB k0 k1 k2 k3 k4
          go_wp2_with fail
          go_ret
          exact ⟨ret_i64 HN.out.symm, by rw [HRB.out]; exact HW.out.trans (HB3.out.mono hsz)⟩
        · have HN := Lib.hid (codeC_long (r := ⟨y, l, m, zz, jj⟩) (cs := cs) (by rw [HL.out]; omega))
          clear hr
          go_wp2_with fail
          refine HC.out.mono ?_; rintro e w2 ⟨rfl, hB⟩
          have HB3 := Lib.hid (HB.out.trans (hB.mono HB.out.size)); clear hB k0 k1 k2 k3 k4
          go_wp2_with fail
          go_ret
          exact ⟨ret_i64 HN.out.symm, by rw [HRB.out]; exact HW.out.trans (HB3.out.mono hsz)⟩

end Go.Proofs.Ytjnjmoiilapbiaa
