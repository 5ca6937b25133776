/- Contracts: impl.MostAlike, spec.MostAlike. -/
import Derived.Test.YtlaeceglcmnhbaaChecked
import Derived.Test.YtlaeceglcmnhbaaBase
import Derived.Test.YtlaeceglcmnhbaaPure41
import Derived.Test.YtlaeceglcmnhbaaArePers
import Derived.Test.YtlaeceglcmnhbaaLike
import Derived.Test.YtlaeceglcmnhbaaAns4
import Derived.Test.YtlaeceglcmnhbaaMapK
import Derived.Test.YtlaeceglcmnhbaaMost
import Derived.WalkKit
import Derived.WalkSpells
import Derived.WalkLawsBesides
import Derived.Lib.Hide
import Derived.Lib.QuietBelow
import Derived.IntWalk
import Derived.Deep.QuietTactic
import Derived.BigQuiet
import Derived.Outline
namespace Go.Proofs.Ytlaeceglcmnhbaa
open Go.RowKit Go.Sort Pure1 Pure40 Pure41

/-- the likeness of the person at an index -/
def likeAt (ps : List Pers) (p : Pers) (i : Nat) : Int := match ps[i]? with | some q => likeP q p | none => 0
theorem likeAt_eq {ps : List Pers} {p q : Pers} {i : Nat} (h : ps[i]? = some q) : likeAt ps p i = likeP q p := by simp [likeAt, h]
/-- the index of the greatest of the first k values, the least one of several -/
def bestUp (f : Nat → Int) : Nat → Nat
  | 0 => 0
  | k + 1 => if f (bestUp f k) < f k then k else bestUp f k
theorem bestUp_yes {f : Nat → Int} {k m : Nat} (hm : m = bestUp f k) (h : f m < f k) : k = bestUp f (k + 1) := by simp [bestUp, ← hm, h]
theorem bestUp_no {f : Nat → Int} {k m : Nat} (hm : m = bestUp f k) (h : ¬ f m < f k) : m = bestUp f (k + 1) := by simp only [bestUp, ← hm]; rw [if_neg h]
/-- MostAlike's answer -/
def mostP (ps : List Pers) (p : Pers) : Int × Int := if arePers ps = true ∧ isPers p = true then (if ps.length = 0 then (0, 4) else ((bestUp (likeAt ps p) ps.length : Int), 0)) else (0, 1)

set_option maxRecDepth 100000 in
set_option maxHeartbeats 4000000 in
theorem specMostAlike_any (a : Option Addr) (len cap : Nat) (ps : List Pers) (n0 : Int) (f0 l0 : ByteArray) (b0 z0 : Int) (w : World) (hl : ps.length = len) (hm : len ≤ maxLen) (hI : PersAt w a ps) (hF : Fits ps) (hf0 : f0.size ≤ maxLen) (hl0 : l0.size ≤ maxLen) :
    Calls Try.prog 16 #[.slice a len cap, .agg #[.int .i64 n0, .string f0, .string l0, .int .i64 b0, .int .i64 z0]] w (SaysV (two (mostP ps ⟨n0, f0, l0, b0, z0⟩)) w) := by
  have HW := Lib.hid (boxed w (.cells #[.int .i64 n0, .string f0, .string l0, .int .i64 b0, .int .i64 z0] 25))
  have HA := Lib.hid (atB_box w n0 f0 l0 b0 z0 25)
  have HP := Lib.hid (specArePersons_any a len cap ps (w.alloc (.cells #[.int .i64 n0, .string f0, .string l0, .int .i64 b0, .int .i64 z0] 25)) hl hm (hI.below HW.out) hF)
  have HI := Lib.hid (hI.below HW.out); have HL := Lib.hid hl
  clear hI hl hF
  cases har : arePers ps
  · have HN := Lib.hid (show two (mostP ps ⟨n0, f0, l0, b0, z0⟩) = .tuple #[.int .i64 0, .int .i64 1] by rw [mostP, if_neg (by rw [har]; simp)]; rfl)
    go_enter Try.func16, Try.ntmps16
    go_wp2_with fail
    refine HP.out.mono ?_; rintro e w1 ⟨rfl, hB⟩; have HB1 := Lib.hid hB; clear hB
    go_wp2_with fail
    go_ret2
    exact ⟨ret_of HN.out.symm, HW.out.trans (HB1.out.mono HW.out.size)⟩
  · cases hip : isPers ⟨n0, f0, l0, b0, z0⟩
    · have HN := Lib.hid (show two (mostP ps ⟨n0, f0, l0, b0, z0⟩) = .tuple #[.int .i64 0, .int .i64 1] by rw [mostP, if_neg (by rw [hip]; simp)]; rfl)
      go_enter Try.func16, Try.ntmps16
      go_wp2_with fail
      refine HP.out.mono ?_; rintro e w1 ⟨rfl, hB⟩; have HB1 := Lib.hid hB; clear hB
      obtain ⟨c0, c1, c2, c3, c4⟩ := HA.out.below HB1.out
      go_wp2_with fail
      clear c0 c1 c2 c3 c4
      refine (specIsPerson_any n0 f0 l0 b0 z0 w1 hf0 hl0).mono ?_; rintro e w2 ⟨rfl, hB⟩; have HB2 := Lib.hid (HB1.out.trans (hB.mono HB1.out.size)); clear hB
      go_wp2_with fail
      go_ret2
      exact ⟨ret_of HN.out.symm, HW.out.trans (HB2.out.mono HW.out.size)⟩
    · have HN := Lib.hid (show mostP ps ⟨n0, f0, l0, b0, z0⟩ = if ps.length = 0 then (0, 4) else ((bestUp (likeAt ps ⟨n0, f0, l0, b0, z0⟩) ps.length : Int), 0) by rw [mostP, if_pos ⟨har, hip⟩])
      have HG := Lib.hid (fun (i : Nat) (q : Pers) (h : ps[i]? = some q) => arePers_at har h)
      have h12 : len ≤ 12 := by have := arePers_len har; rw [HL.out] at this; exact this
      go_enter Try.func16, Try.ntmps16
      go_wp2_with fail
      refine HP.out.mono ?_; rintro e w1 ⟨rfl, hB⟩; have HB1 := Lib.hid hB; clear hB
      obtain ⟨c0, c1, c2, c3, c4⟩ := HA.out.below HB1.out
      go_wp2_with fail
      clear c0 c1 c2 c3 c4
      refine (specIsPerson_any n0 f0 l0 b0 z0 w1 hf0 hl0).mono ?_; rintro e w2 ⟨rfl, hB⟩; have HB2 := Lib.hid (HB1.out.trans (hB.mono HB1.out.size)); clear hB
      by_cases hz : len = 0
      · have HN2 := Lib.hid (show two (mostP ps ⟨n0, f0, l0, b0, z0⟩) = .tuple #[.int .i64 0, .int .i64 4] by rw [HN.out, if_pos (by rw [HL.out]; exact hz)]; rfl)
        have hz2 : ((len : Int) == 0) = true := beq_iff_eq.2 (by omega)
        clear hz
        go_wp2_with fail
        go_ret2
        exact ⟨ret_of HN2.out.symm, HW.out.trans (HB2.out.mono HW.out.size)⟩
      · have HN2 := Lib.hid (show mostP ps ⟨n0, f0, l0, b0, z0⟩ = ((bestUp (likeAt ps ⟨n0, f0, l0, b0, z0⟩) len : Int), 0) by rw [HN.out, HL.out, if_neg hz])
        have hz2 : ((len : Int) == 0) = false := beq_eq_false_iff_ne.2 (by omega)
        have hpos : 0 < len := by omega
        clear hz
        go_wp2_with fail
        go_loopw [6, 7] (fun bst i wr => ∃ k m : Nat, k ≤ len ∧ i = .int .i64 k ∧ bst = .int .i64 m ∧ m < len ∧ m = bestUp (likeAt ps ⟨n0, f0, l0, b0, z0⟩) k ∧ Below (w.alloc (.cells #[.int .i64 n0, .string f0, .string l0, .int .i64 b0, .int .i64 z0] 25)).heap.size (w.alloc (.cells #[.int .i64 n0, .string f0, .string l0, .int .i64 b0, .int .i64 z0] 25)) wr) (fun _ i _ => len - (intOf i).toNat)
        case atStart => exact ⟨0, 0, Nat.zero_le _, rfl, rfl, hpos, rfl, HB2.out⟩
        case round =>
          obtain ⟨k, m, hk, rfl, rfl, hml, hme, hB⟩ := hrel
          have HM := Lib.hid hme; have HB := Lib.hid hB; clear hme hB
          by_cases hlt : k < len
          · obtain ⟨b, off, q, rfl, hc, hq⟩ := (HI.out.below HB.out).at HL.out hlt
            obtain ⟨b', off', r, e, hc', hr⟩ := (HI.out.below HB.out).at HL.out hml
            cases e
            obtain ⟨g0, g1, g2, g3, g4⟩ := HA.out.below HB.out
            obtain ⟨c0, c1, c2, c3, c4⟩ := hc
            obtain ⟨d0, d1, d2, d3, d4⟩ := hc'
            have hiq := HG.out k q hq
            have hir := HG.out m r hr
            have HE := Lib.hid (show likeAt ps ⟨n0, f0, l0, b0, z0⟩ k = likeP q ⟨n0, f0, l0, b0, z0⟩ from likeAt_eq hq)
            have HE' := Lib.hid (show likeAt ps ⟨n0, f0, l0, b0, z0⟩ m = likeP r ⟨n0, f0, l0, b0, z0⟩ from likeAt_eq hr)
            have HC1 := Lib.hid (fun W => show Calls Try.prog 32 #[.agg #[.int .i64 q.num, .string q.fst, .string q.lst, .int .i64 q.born, .int .i64 q.zone], .agg #[.int .i64 n0, .string f0, .string l0, .int .i64 b0, .int .i64 z0]] W (SaysIB (likeP q ⟨n0, f0, l0, b0, z0⟩) W) from specLike_any q.num q.fst q.lst q.born q.zone n0 f0 l0 b0 z0 W hiq hip)
            have HC2 := Lib.hid (fun W => show Calls Try.prog 32 #[.agg #[.int .i64 r.num, .string r.fst, .string r.lst, .int .i64 r.born, .int .i64 r.zone], .agg #[.int .i64 n0, .string f0, .string l0, .int .i64 b0, .int .i64 z0]] W (SaysIB (likeP r ⟨n0, f0, l0, b0, z0⟩) W) from specLike_any r.num r.fst r.lst r.born r.zone n0 f0 l0 b0 z0 W hir hip)
            have hcmp : likeP r ⟨n0, f0, l0, b0, z0⟩ < likeP q ⟨n0, f0, l0, b0, z0⟩ ∨ ¬ likeP r ⟨n0, f0, l0, b0, z0⟩ < likeP q ⟨n0, f0, l0, b0, z0⟩ := by omega
            generalize likeP q ⟨n0, f0, l0, b0, z0⟩ = vq at HE HC1 hcmp
            generalize likeP r ⟨n0, f0, l0, b0, z0⟩ = vr at HE' HC2 hcmp
            clear hiq hir hq hr
            go_wp2_with fail
            have k0 := cell_regrown c0; have k1 := cell_regrown c1; have k2 := cell_regrown c2; have k3 := cell_regrown c3; have k4 := cell_regrown c4
            have e0 := cell_regrown d0; have e1 := cell_regrown d1; have e2 := cell_regrown d2; have e3 := cell_regrown d3; have e4 := cell_regrown d4
            have j0 := cell_regrown g0; have j1 := cell_regrown g1; have j2 := cell_regrown g2; have j3 := cell_regrown g3; have j4 := cell_regrown g4
            clear c0 c1 c2 c3 c4 d0 d1 d2 d3 d4 g0 g1 g2 g3 g4
            have hcall := regr_call (w := wr) (fun W _ => HC1.out W)
            have hcall2 := regr_call (w := wr) (fun W _ => HC2.out W)
            rcases hcmp with hlt2 | hlt2
            · have HN3 := Lib.hid (bestUp_yes HM.out (by rw [HE.out, HE'.out]; omega))
              refine wp_region_quiet_below (by kernel_rfl) (by kernel_rfl) ?_
              iterate 6 (go_big_quiet_step (exact hcall _ _))
              iterate 7 (go_big_quiet_step (exact hcall2 _ _))
              refine wpQuiet_nil ?_
              intro _ hw'
              obtain ⟨⟨dq, osq⟩, hw''⟩ := hw'
              subst hw''
              have HB5 := Lib.hid (HB.out.trans ((below_regrown wr dq osq).mono HB.out.size))
              clear hcall hcall2 k0 k1 k2 k3 k4 e0 e1 e2 e3 e4 j0 j1 j2 j3 j4
              generalize grow (redrawn wr dq) osq = w5 at HB5 ⊢
              go_wp2_with fail
              go_roundw
              case rel => exact ⟨k + 1, k, by omega, by go_num, rfl, hlt, HN3.out, HB5.out⟩
              case measure => simp [intOf]; omega
            · have HN3 := Lib.hid (bestUp_no HM.out (by rw [HE.out, HE'.out]; omega))
              refine wp_region_quiet_below (by kernel_rfl) (by kernel_rfl) ?_
              iterate 6 (go_big_quiet_step (exact hcall _ _))
              iterate 7 (go_big_quiet_step (exact hcall2 _ _))
              refine wpQuiet_nil ?_
              intro _ hw'
              obtain ⟨⟨dq, osq⟩, hw''⟩ := hw'
              subst hw''
              have HB5 := Lib.hid (HB.out.trans ((below_regrown wr dq osq).mono HB.out.size))
              clear hcall hcall2 k0 k1 k2 k3 k4 e0 e1 e2 e3 e4 j0 j1 j2 j3 j4
              generalize grow (redrawn wr dq) osq = w5 at HB5 ⊢
              go_wp2_with fail
              go_roundw
              case rel => exact ⟨k + 1, m, by omega, by go_num, rfl, hml, HN3.out, HB5.out⟩
              case measure => simp [intOf]; omega
          · obtain rfl : k = len := by omega
            go_wp2_with fail
            go_ret2
            exact ⟨ret_of (by rw [HN2.out, ← HM.out]; rfl), HW.out.trans (HB.out.mono HW.out.size)⟩

set_option maxRecDepth 100000 in
set_option maxHeartbeats 4000000 in
theorem implMostAlike_any (a : Option Addr) (len cap : Nat) (ps : List Pers) (n0 : Int) (f0 l0 : ByteArray) (b0 z0 : Int) (w : World) (hl : ps.length = len) (hm : len ≤ maxLen) (hI : PersAt w a ps) (hF : Fits ps) (hf0 : f0.size ≤ maxLen) (hl0 : l0.size ≤ maxLen) :
    Calls Try.prog 15 #[.slice a len cap, .agg #[.int .i64 n0, .string f0, .string l0, .int .i64 b0, .int .i64 z0]] w (SaysV (two (mostP ps ⟨n0, f0, l0, b0, z0⟩)) w) := by
  have HW := Lib.hid (boxed w (.cells #[.int .i64 n0, .string f0, .string l0, .int .i64 b0, .int .i64 z0] 25))
  have HA := Lib.hid (atB_box w n0 f0 l0 b0 z0 25)
  have HP := Lib.hid (implArePersons_any a len cap ps (w.alloc (.cells #[.int .i64 n0, .string f0, .string l0, .int .i64 b0, .int .i64 z0] 25)) hl hm (hI.below HW.out) hF)
  have HI := Lib.hid (hI.below HW.out); have HL := Lib.hid hl
  clear hI hl hF
  cases har : arePers ps
  · have HN := Lib.hid (show two (mostP ps ⟨n0, f0, l0, b0, z0⟩) = .tuple #[.int .i64 0, .int .i64 1] by rw [mostP, if_neg (by rw [har]; simp)]; rfl)
    go_enter Try.func15, Try.ntmps15
    go_wp2_with fail
    refine HP.out.mono ?_; rintro e w1 ⟨rfl, hB⟩; have HB1 := Lib.hid hB; clear hB
    go_wp2_with fail
    go_ret2
    exact ⟨ret_of HN.out.symm, HW.out.trans (HB1.out.mono HW.out.size)⟩
  · cases hip : isPers ⟨n0, f0, l0, b0, z0⟩
    · have HN := Lib.hid (show two (mostP ps ⟨n0, f0, l0, b0, z0⟩) = .tuple #[.int .i64 0, .int .i64 1] by rw [mostP, if_neg (by rw [hip]; simp)]; rfl)
      go_enter Try.func15, Try.ntmps15
      go_wp2_with fail
      refine HP.out.mono ?_; rintro e w1 ⟨rfl, hB⟩; have HB1 := Lib.hid hB; clear hB
      obtain ⟨c0, c1, c2, c3, c4⟩ := HA.out.below HB1.out
      go_wp2_with fail
      clear c0 c1 c2 c3 c4
      refine (implIsPerson_any n0 f0 l0 b0 z0 w1 hf0 hl0).mono ?_; rintro e w2 ⟨rfl, hB⟩; have HB2 := Lib.hid (HB1.out.trans (hB.mono HB1.out.size)); clear hB
      go_wp2_with fail
      go_ret2
      exact ⟨ret_of HN.out.symm, HW.out.trans (HB2.out.mono HW.out.size)⟩
    · have HN := Lib.hid (show mostP ps ⟨n0, f0, l0, b0, z0⟩ = if ps.length = 0 then (0, 4) else ((bestUp (likeAt ps ⟨n0, f0, l0, b0, z0⟩) ps.length : Int), 0) by rw [mostP, if_pos ⟨har, hip⟩])
      have HG := Lib.hid (fun (i : Nat) (q : Pers) (h : ps[i]? = some q) => arePers_at har h)
      have h12 : len ≤ 12 := by have := arePers_len har; rw [HL.out] at this; exact this
      go_enter Try.func15, Try.ntmps15
      go_wp2_with fail
      refine HP.out.mono ?_; rintro e w1 ⟨rfl, hB⟩; have HB1 := Lib.hid hB; clear hB
      obtain ⟨c0, c1, c2, c3, c4⟩ := HA.out.below HB1.out
      go_wp2_with fail
      clear c0 c1 c2 c3 c4
      refine (implIsPerson_any n0 f0 l0 b0 z0 w1 hf0 hl0).mono ?_; rintro e w2 ⟨rfl, hB⟩; have HB2 := Lib.hid (HB1.out.trans (hB.mono HB1.out.size)); clear hB
      by_cases hz : len = 0
      · have HN2 := Lib.hid (show two (mostP ps ⟨n0, f0, l0, b0, z0⟩) = .tuple #[.int .i64 0, .int .i64 4] by rw [HN.out, if_pos (by rw [HL.out]; exact hz)]; rfl)
        have hz2 : ((len : Int) == 0) = true := beq_iff_eq.2 (by omega)
        clear hz
        go_wp2_with fail
        go_ret2
        exact ⟨ret_of HN2.out.symm, HW.out.trans (HB2.out.mono HW.out.size)⟩
      · have HN2 := Lib.hid (show mostP ps ⟨n0, f0, l0, b0, z0⟩ = ((bestUp (likeAt ps ⟨n0, f0, l0, b0, z0⟩) len : Int), 0) by rw [HN.out, HL.out, if_neg hz])
        have hz2 : ((len : Int) == 0) = false := beq_eq_false_iff_ne.2 (by omega)
        have hpos : 0 < len := by omega
        clear hz
        obtain ⟨c0, c1, c2, c3, c4⟩ := HA.out.below HB2.out
        go_wp2_with fail
        clear c0 c1 c2 c3 c4
        refine (implLikenesses_any n0 f0 l0 b0 z0 a len cap ps w2 hip HL.out hm (HI.out.below HB2.out) HG.out).mono ?_
        rintro e w3 ⟨B, rfl, hBB, hMp, hB⟩
        have HMp := Lib.hid hMp; have HB3 := Lib.hid (HB2.out.trans (hB.mono HB2.out.size)); clear hMp hB
        go_wp2_with fail
        go_loopw [7, 26] (fun bst i wr => ∃ k m : Nat, k ≤ len ∧ i = .int .i64 k ∧ bst = .int .i64 m ∧ m < len ∧ m = bestUp (likeAt ps ⟨n0, f0, l0, b0, z0⟩) k ∧ MapLike wr B ⟨n0, f0, l0, b0, z0⟩ ps len ∧ Below (w.alloc (.cells #[.int .i64 n0, .string f0, .string l0, .int .i64 b0, .int .i64 z0] 25)).heap.size (w.alloc (.cells #[.int .i64 n0, .string f0, .string l0, .int .i64 b0, .int .i64 z0] 25)) wr) (fun _ i _ => len - (intOf i).toNat)
        case atStart => exact ⟨0, 0, Nat.zero_le _, rfl, rfl, hpos, rfl, by have := HMp.out; rw [HL.out] at this; exact this, HB3.out⟩
        case round =>
          obtain ⟨k, m, hk, rfl, rfl, hml, hme, hMp, hB⟩ := hrel
          have HM := Lib.hid hme; have HB := Lib.hid hB; have HMp2 := Lib.hid hMp; clear hme hB hMp
          by_cases hlt : k < len
          · obtain ⟨b, off, q, rfl, hc, hq⟩ := (HI.out.below HB.out).at HL.out hlt
            obtain ⟨b', off', r, e, hc', hr⟩ := (HI.out.below HB.out).at HL.out hml
            cases e
            have HC' := Lib.hid hc'
            obtain ⟨c0, c1, c2, c3, c4⟩ := hc
            have HE := Lib.hid (show likeAt ps ⟨n0, f0, l0, b0, z0⟩ k = likeP q ⟨n0, f0, l0, b0, z0⟩ from likeAt_eq hq)
            have HE' := Lib.hid (show likeAt ps ⟨n0, f0, l0, b0, z0⟩ m = likeP r ⟨n0, f0, l0, b0, z0⟩ from likeAt_eq hr)
            have HQ := Lib.hid hq; have HR := Lib.hid hr
            have HGq := Lib.hid (good_of (HG.out k q hq)); have HGr := Lib.hid (good_of (HG.out m r hr))
            clear hc' hq hr
            go_wp2_with fail
            have hw1 := boxed wr (.cells #[.int .i64 q.num, .string q.fst, .string q.lst, .int .i64 q.born, .int .i64 q.zone] 25)
            have HCB := Lib.hid (atB_box wr q.num q.fst q.lst q.born q.zone 25)
            have HB4 := Lib.hid (HB.out.trans (hw1.mono HB.out.size))
            have HMp4 := Lib.hid (HMp2.out.below hw1)
            have HD := Lib.hid (HC'.out.below hw1)
            have hlook1 : ∀ n, (Instr.lookup 61 (.map (some B)) (.agg #[.int .i64 q.num, .string q.fst, .string q.lst, .int .i64 q.born, .int .i64 q.zone]) false).run Try.prog ((wr.alloc (.cells #[.int .i64 q.num, .string q.fst, .string q.lst, .int .i64 q.born, .int .i64 q.zone] 25)).drewN n) = .ok (.int .i64 (likeP q ⟨n0, f0, l0, b0, z0⟩)) ((wr.alloc (.cells #[.int .i64 q.num, .string q.fst, .string q.lst, .int .i64 q.born, .int .i64 q.zone] 25)).drewN n) := fun n => (HMp4.out.below (Go.below_drewN (Below.refl _ _) n)).look hlt HGq.out HQ.out
            have hlook2 : ∀ n, (Instr.lookup 61 (.map (some B)) (.agg #[.int .i64 r.num, .string r.fst, .string r.lst, .int .i64 r.born, .int .i64 r.zone]) false).run Try.prog ((wr.alloc (.cells #[.int .i64 q.num, .string q.fst, .string q.lst, .int .i64 q.born, .int .i64 q.zone] 25)).drewN n) = .ok (.int .i64 (likeP r ⟨n0, f0, l0, b0, z0⟩)) ((wr.alloc (.cells #[.int .i64 q.num, .string q.fst, .string q.lst, .int .i64 q.born, .int .i64 q.zone] 25)).drewN n) := fun n => (HMp4.out.below (Go.below_drewN (Below.refl _ _) n)).look hml HGr.out HR.out
            have hcmp : likeP r ⟨n0, f0, l0, b0, z0⟩ < likeP q ⟨n0, f0, l0, b0, z0⟩ ∨ ¬ likeP r ⟨n0, f0, l0, b0, z0⟩ < likeP q ⟨n0, f0, l0, b0, z0⟩ := by omega
            generalize likeP q ⟨n0, f0, l0, b0, z0⟩ = vq at HE hlook1 hcmp
            generalize likeP r ⟨n0, f0, l0, b0, z0⟩ = vr at HE' hlook2 hcmp
            generalize wr.alloc (.cells #[.int .i64 q.num, .string q.fst, .string q.lst, .int .i64 q.born, .int .i64 q.zone] 25) = wq at HCB HB4 HMp4 HD hlook1 hlook2 ⊢
            clear c0 c1 c2 c3 c4 hw1
            generalize wr.heap.size = bq at HCB ⊢
            obtain ⟨k0, k1, k2, k3, k4⟩ := HCB.out
            obtain ⟨d0, d1, d2, d3, d4⟩ := HD.out
            rcases hcmp with hlt2 | hlt2
            · have HN3 := Lib.hid (bestUp_yes HM.out (by rw [HE.out, HE'.out]; omega))
              go_quiet (fail)
              have HB5 := Lib.hid (Go.below_drewN HB4.out nq)
              have HX := Lib.hid (HMp4.out.below (Go.below_drewN (Below.refl _ _) nq))
              clear k0 k1 k2 k3 k4 d0 d1 d2 d3 d4 hlook1 hlook2
              generalize wq.drewN nq = w5 at HB5 HX ⊢
              go_wp2_with fail
              go_roundw
              case rel => exact ⟨k + 1, k, by omega, by go_num, rfl, hlt, HN3.out, HX.out, HB5.out⟩
              case measure => simp [intOf]; omega
            · have HN3 := Lib.hid (bestUp_no HM.out (by rw [HE.out, HE'.out]; omega))
              go_quiet (fail)
              have HB5 := Lib.hid (Go.below_drewN HB4.out nq)
              have HX := Lib.hid (HMp4.out.below (Go.below_drewN (Below.refl _ _) nq))
              clear k0 k1 k2 k3 k4 d0 d1 d2 d3 d4 hlook1 hlook2
              generalize wq.drewN nq = w5 at HB5 HX ⊢
              go_wp2_with fail
              go_roundw
              case rel => exact ⟨k + 1, m, by omega, by go_num, rfl, hml, HN3.out, HX.out, HB5.out⟩
              case measure => simp [intOf]; omega
          · obtain rfl : k = len := by omega
            go_wp2_with fail
            go_ret2
            exact ⟨ret_of (by rw [HN2.out, ← HM.out]; rfl), HW.out.trans (HB.out.mono HW.out.size)⟩

end Go.Proofs.Ytlaeceglcmnhbaa
