/- Contracts: QualifiedOf, of the program and of its model. -/
import Derived.Test.YtjnjmoiilapbiaaChecked
import Derived.Test.YtjnjmoiilapbiaaBase
import Derived.Test.YtjnjmoiilapbiaaInfo
import Derived.Test.YtjnjmoiilapbiaaPure61
import Derived.Test.YtjnjmoiilapbiaaMarkI
import Derived.Test.YtjnjmoiilapbiaaBuild6
import Derived.Test.YtjnjmoiilapbiaaHas6
import Derived.Test.YtjnjmoiilapbiaaTruth6
import Derived.Test.YtjnjmoiilapbiaaRul6
import Derived.Test.YtjnjmoiilapbiaaAns6
import Derived.WalkKit
import Derived.WalkSpells
import Derived.WalkLawsBesides
import Derived.Lib.Hide
import Derived.Lib.QuietBelow
import Derived.IntWalk
import Derived.Deep.OwnRows
import Derived.Deep.QuietTactic
import Derived.BigQuiet
import Derived.OwnWalk
import Derived.RegionTactic
import Derived.Outline
namespace Go.Proofs.Ytjnjmoiilapbiaa
open Go.RowKit Go.Sort Pure1 Pure2 Pure3 Pure40 Pure60 Pure61

set_option maxRecDepth 100000 in
set_option maxHeartbeats 4000000 in
theorem implQualifiedOf_any (y l m : Int) (za : Option Addr) (zl zc : Nat) (ja : Option Addr) (jl jc : Nat) (zz jj : List Int) (a : Option Addr) (len cap : Nat) (cs : List Cand) (w : World) (hR : RulesIn w za zl ja jl zz jj) (hl : cs.length = len) (hm : len ≤ maxLen) (hI : CandsAt w a cs) (hF : FitsC cs) :
    Calls Try.prog 17 #[.agg #[.int .i64 y, .int .i64 l, .int .i64 m, .slice za zl zc, .slice ja jl jc], .slice a len cap] w (SaysNewI (qualOfR ⟨y, l, m, zz, jj⟩ cs).1 (qualOfR ⟨y, l, m, zz, jj⟩ cs).2 w) := by
  have HW := Lib.hid (boxed w (.cells #[.int .i64 y, .int .i64 l, .int .i64 m, .slice za zl zc, .slice ja jl jc] 26))
  have HC := Lib.hid (implCode6_any y l m za zl zc ja jl jc zz jj a len cap cs (w.alloc (.cells #[.int .i64 y, .int .i64 l, .int .i64 m, .slice za zl zc, .slice ja jl jc] 26)) (hR.below HW.out) hl hm (hI.below HW.out) hF)
  have HA0 := Lib.hid (atR_box w y l m za zl zc ja jl jc 26)
  have HL := Lib.hid hl; have HI := Lib.hid hI; have HRW := Lib.hid hR
  unfold maxLen at hm
  clear hR hl hI hF
  rcases codeC_cases ⟨y, l, m, zz, jj⟩ cs with ⟨h0, hr, h60, hall⟩ | h1
  · have HN := Lib.hid (show qualOfR ⟨y, l, m, zz, jj⟩ cs = (qualTo ⟨y, l, m, zz, jj⟩ cs cs.length, 0) by unfold qualOfR; rw [if_pos h0])
    have hy := year_of hr
    have HAL := Lib.hid (show ∀ (k : Nat) c, cs[k]? = some c → 1900 ≤ c.p.born ∧ c.p.born ≤ 2100 from fun k c hc => born_of (List.all_eq_true.1 hall c (List.mem_of_getElem? hc)))
    simp only at hy
    rw [HL.out] at h60
    rw [h0] at HC
    clear h0 hr hall
    go_enter Try.func17, Try.ntmps17
    go_wp2_with fail
    refine HC.out.mono ?_; rintro e w1 ⟨rfl, hB⟩
    have HW1 := Lib.hid (HW.out.trans (hB.mono HW.out.size)); have HA1 := Lib.hid (HA0.out.below hB)
    clear hB HC HW HA0
    go_wp2_with fail
    have HO0 := Lib.hid (BuildI.nil w1.heap.size w1)
    go_loopw [7, 8, 9, 18] (fun v _ _ c wr => ∃ k : Nat, k ≤ len ∧ c = .int .i64 k ∧ BuildI w1.heap.size wr v (qualTo ⟨y, l, m, zz, jj⟩ cs k) ∧ Below w1.heap.size w1 wr) (fun _ _ _ c _ => len - (intOf c).toNat)
    case atStart => exact ⟨0, Nat.zero_le _, rfl, HO0.out, Below.refl _ _⟩
    case round =>
      obtain ⟨k, hk, rfl, ho, hB⟩ := hrel
      have HO := Lib.hid ho; have HB := Lib.hid hB; clear ho hB HO0
      by_cases hlt : k < len
      · obtain ⟨b, off, c, ha, hc, hp⟩ := (HI.out.below (HW1.out.trans (HB.out.mono HW1.out.size))).at HL.out hlt
        have hbo := HAL.out k c hp
        have HP := Lib.hid hp; clear hp
        subst ha
        obtain ⟨k0, k1, k2, k3, k4, k5, k6, k7, k8⟩ := hc
        have hsz := HB.out.size
        have HB2 := Lib.hid (HB.out.alloc hsz (.cells #[.int .i64 c.p.num, .string c.p.fst, .string c.p.lst, .int .i64 c.p.born, .int .i64 c.p.zone, .bool c.cit, .bool c.con, .bool c.flu, .int .i64 c.job] 30))
        obtain ⟨a0, a1, a2, a3, a4⟩ := HA1.out.below HB2.out
        have HQ := Lib.hid (implQual_any y l m za zl zc ja jl jc zz jj c.p.num c.p.fst c.p.lst c.p.born c.p.zone c.cit c.con c.flu c.job (wr.alloc (.cells #[.int .i64 c.p.num, .string c.p.fst, .string c.p.lst, .int .i64 c.p.born, .int .i64 c.p.zone, .bool c.cit, .bool c.con, .bool c.flu, .int .i64 c.job] 30)) (HRW.out.below (HW1.out.trans (HB2.out.mono HW1.out.size))) hy hbo)
        rw [show qualB ⟨y, l, m, zz, jj⟩ ⟨⟨c.p.num, c.p.fst, c.p.lst, c.p.born, c.p.zone⟩, c.cit, c.con, c.flu, c.job⟩ = qualB ⟨y, l, m, zz, jj⟩ c from rfl] at HQ
        have HLe := Lib.hid (qualTo_len ⟨y, l, m, zz, jj⟩ cs k)
        cases hq : qualB ⟨y, l, m, zz, jj⟩ c
        · have HX := Lib.hid (qualTo_no HP.out hq)
          rw [hq] at HQ; clear hq
          go_wp2_with fail
          refine HQ.out.mono ?_; rintro e w3 ⟨rfl, hB⟩
          have HB3 := Lib.hid (HB2.out.trans (hB.mono HB2.out.size)); have HO3 := Lib.hid ((HO.out.alloc (.cells #[.int .i64 c.p.num, .string c.p.fst, .string c.p.lst, .int .i64 c.p.born, .int .i64 c.p.zone, .bool c.cit, .bool c.con, .bool c.flu, .int .i64 c.job] 30)).below hB)
          clear hB k0 k1 k2 k3 k4 k5 k6 k7 k8 a0 a1 a2 a3 a4
          go_wp2_with fail
          go_roundw
          case rel => exact ⟨k + 1, by omega, by go_num, by rw [HX.out]; exact HO3.out, HB3.out⟩
          case measure => simp [intOf]; omega
        · have HX := Lib.hid (qualTo_yes HP.out hq)
          rw [hq] at HQ; clear hq
          go_wp2_with fail
          refine HQ.out.mono ?_; rintro e w3 ⟨rfl, hB⟩
          have HB3 := Lib.hid (HB2.out.trans (hB.mono HB2.out.size)); have HO3 := Lib.hid ((HO.out.alloc (.cells #[.int .i64 c.p.num, .string c.p.fst, .string c.p.lst, .int .i64 c.p.born, .int .i64 c.p.zone, .bool c.cit, .bool c.con, .bool c.flu, .int .i64 c.job] 30)).below hB)
          have hsz3 := HB3.out.size
          have HO4 := Lib.hid (HO3.out.alloc (.cells #[.int .i64 k] 2))
          have HB4 := Lib.hid (HB3.out.alloc hsz3 (.cells #[.int .i64 k] 2))
          clear hB k0 k1 k2 k3 k4 k5 k6 k7 k8 a0 a1 a2 a3 a4
          go_wp2_with (at_builtin; refine wpList_int_append rfl _ _ rfl _ _ rfl HO4.out _ k rfl (cell_one _ _ _) ?c2 ?c3 ?_)
          case c2 => have := HLe.out; omega
          case c3 => first | omega | (simp; omega)
          intro v' w5 ho5 hg5
          have HO5 := Lib.hid (show BuildI w1.heap.size w5 v' (qualTo ⟨y, l, m, zz, jj⟩ cs (k + 1)) by rw [HX.out]; exact ho5)
          have HB5 := Lib.hid (HO4.out.grew HB4.out (Nat.le_refl _) (by simp; omega) hg5)
          clear ho5 hg5
          go_wp2_with fail
          go_roundw
          case rel => exact ⟨k + 1, by omega, by go_num, HO5.out, HB5.out⟩
          case measure => simp [intOf]; omega
      · have HN2 := Lib.hid (show k = cs.length by rw [HL.out]; omega)
        obtain ⟨a', cap', hv, hc', hown⟩ := (HO.out.mono HW1.out.size).own
        have HOW := Lib.hid hown
        subst hv
        clear hown
        go_wp2_with fail
        go_ret2
        rw [HN.out]
        rw [← HN2.out]
        exact ⟨a', cap', rfl, HOW.out, HW1.out.trans (HB.out.mono HW1.out.size)⟩
  · have HN := Lib.hid (show qualOfR ⟨y, l, m, zz, jj⟩ cs = ([], 1) by unfold qualOfR; rw [if_neg (by rw [h1]; decide)])
    rw [h1] at HC
    clear h1
    go_enter Try.func17, Try.ntmps17
    go_wp2_with fail
    refine HC.out.mono ?_; rintro e w1 ⟨rfl, hB⟩
    have HB1 := Lib.hid (HW.out.trans (hB.mono HW.out.size))
    clear hB
    go_wp2_with fail
    go_ret2
    rw [HN.out]
    exact ⟨none, 0, rfl, .inl rfl, HB1.out⟩

set_option maxRecDepth 100000 in
set_option maxHeartbeats 4000000 in
theorem specQualifiedOf_any (y l m : Int) (za : Option Addr) (zl zc : Nat) (ja : Option Addr) (jl jc : Nat) (zz jj : List Int) (a : Option Addr) (len cap : Nat) (cs : List Cand) (w : World) (hR : RulesIn w za zl ja jl zz jj) (hl : cs.length = len) (hm : len ≤ maxLen) (hI : CandsAt w a cs) (hF : FitsC cs) :
    Calls Try.prog 18 #[.agg #[.int .i64 y, .int .i64 l, .int .i64 m, .slice za zl zc, .slice ja jl jc], .slice a len cap] w (SaysNewI (qualOfR ⟨y, l, m, zz, jj⟩ cs).1 (qualOfR ⟨y, l, m, zz, jj⟩ cs).2 w) := by
  have HW := Lib.hid (boxed w (.cells #[.int .i64 y, .int .i64 l, .int .i64 m, .slice za zl zc, .slice ja jl jc] 26))
  have HC := Lib.hid (specCode6_any y l m za zl zc ja jl jc zz jj a len cap cs (w.alloc (.cells #[.int .i64 y, .int .i64 l, .int .i64 m, .slice za zl zc, .slice ja jl jc] 26)) (hR.below HW.out) hl hm (hI.below HW.out) hF)
  have HA0 := Lib.hid (atR_box w y l m za zl zc ja jl jc 26)
  have HL := Lib.hid hl; have HI := Lib.hid hI; have HRW := Lib.hid hR
  unfold maxLen at hm
  clear hR hl hI hF
  rcases codeC_cases ⟨y, l, m, zz, jj⟩ cs with ⟨h0, hr, h60, hall⟩ | h1
  · have HN := Lib.hid (show qualOfR ⟨y, l, m, zz, jj⟩ cs = (qualTo ⟨y, l, m, zz, jj⟩ cs cs.length, 0) by unfold qualOfR; rw [if_pos h0])
    have hy := year_of hr
    have HAL := Lib.hid (show ∀ (k : Nat) c, cs[k]? = some c → 1900 ≤ c.p.born ∧ c.p.born ≤ 2100 from fun k c hc => born_of (List.all_eq_true.1 hall c (List.mem_of_getElem? hc)))
    simp only at hy
    rw [HL.out] at h60
    rw [h0] at HC
    clear h0 hr hall
    go_enter Try.func18, Try.ntmps18
    go_wp2_with fail
    refine HC.out.mono ?_; rintro e w1 ⟨rfl, hB⟩
    have HW1 := Lib.hid (HW.out.trans (hB.mono HW.out.size)); have HA1 := Lib.hid (HA0.out.below hB)
    clear hB HC HW HA0
    have HO0 := Lib.hid (BuildI.empty (B := w1.heap.size) (w := w1) (Nat.le_refl _))
    have HB0 := Lib.hid (boxed w1 (.cells #[] 2))
    go_wp2_with fail
    go_loopw [7, 8] (fun v c wr => ∃ k : Nat, k ≤ len ∧ c = .int .i64 k ∧ BuildI w1.heap.size wr v (qualTo ⟨y, l, m, zz, jj⟩ cs k) ∧ Below w1.heap.size w1 wr) (fun _ c _ => len - (intOf c).toNat)
    case atStart => exact ⟨0, Nat.zero_le _, rfl, HO0.out, HB0.out⟩
    case round =>
      obtain ⟨k, hk, rfl, ho, hB⟩ := hrel
      have HO := Lib.hid ho; have HB := Lib.hid hB; clear ho hB HO0 HB0
      by_cases hlt : k < len
      · obtain ⟨b, off, c, ha, hc, hp⟩ := (HI.out.below (HW1.out.trans (HB.out.mono HW1.out.size))).at HL.out hlt
        have hbo := HAL.out k c hp
        have HP := Lib.hid hp; clear hp
        subst ha
        have hsz := HB.out.size
        obtain ⟨d0, d1, d2, d3, d4, d5, d6, d7, d8⟩ := hc
        obtain ⟨e0, e1, e2, e3, e4⟩ := HA1.out.below HB.out
        have HRr := Lib.hid (HRW.out.below (HW1.out.trans (HB.out.mono HW1.out.size)))
        have HLe := Lib.hid (qualTo_len ⟨y, l, m, zz, jj⟩ cs k)
        go_wp2_with fail
        have hcall := regr_call (w := wr) (fun W hBW => show Calls Try.prog 51 #[.agg #[.int .i64 y, .int .i64 l, .int .i64 m, .slice za zl zc, .slice ja jl jc], .agg #[.int .i64 c.p.num, .string c.p.fst, .string c.p.lst, .int .i64 c.p.born, .int .i64 c.p.zone, .bool c.cit, .bool c.con, .bool c.flu, .int .i64 c.job]] W _ from specReasons_any y l m za zl zc ja jl jc zz jj c.p.num c.p.fst c.p.lst c.p.born c.p.zone c.cit c.con c.flu c.job W (HRr.out.below hBW) hy hbo)
        rw [show reasons ⟨y, l, m, zz, jj⟩ ⟨⟨c.p.num, c.p.fst, c.p.lst, c.p.born, c.p.zone⟩, c.cit, c.con, c.flu, c.job⟩ = reasons ⟨y, l, m, zz, jj⟩ c from rfl] at hcall
        have hqb := qual_beq ⟨y, l, m, zz, jj⟩ c
        have k0 := cell_regrown d0; have k1 := cell_regrown d1; have k2 := cell_regrown d2; have k3 := cell_regrown d3; have k4 := cell_regrown d4; have k5 := cell_regrown d5; have k6 := cell_regrown d6; have k7 := cell_regrown d7; have k8 := cell_regrown d8
        have a0 := cell_regrown e0; have a1 := cell_regrown e1; have a2 := cell_regrown e2; have a3 := cell_regrown e3; have a4 := cell_regrown e4
        clear d0 d1 d2 d3 d4 d5 d6 d7 d8 e0 e1 e2 e3 e4
        cases hq : qualB ⟨y, l, m, zz, jj⟩ c
        · have HX := Lib.hid (qualTo_no HP.out hq)
          rw [hq] at hqb; clear hq
          generalize reasons ⟨y, l, m, zz, jj⟩ c = rs at hcall hqb
          cases k with
          | zero =>
            simp only [Nat.zero_mul, Nat.add_zero] at k0 k1 k2 k3 k4 k5 k6 k7 k8
            refine wp_region_quiet_below (by kernel_rfl) (by kernel_rfl) ?_
            iterate 7 (go_big_quiet_step (exact hcall _ _))
            refine wpQuiet_nil ?_
            intro _ hw'
            obtain ⟨⟨dq, osq⟩, hw''⟩ := hw'
            subst hw''
            have hbel := below_regrown wr dq osq
            have HB3 := Lib.hid (HB.out.trans (hbel.mono HB.out.size)); have HO3 := Lib.hid (HO.out.below hbel)
            clear hcall k0 k1 k2 k3 k4 k5 k6 k7 k8 a0 a1 a2 a3 a4 hbel
            generalize grow (redrawn wr dq) osq = w3 at HB3 HO3 ⊢
            go_wp2_with fail
            go_roundw
            case rel => exact ⟨1, by omega, by go_num, by rw [HX.out]; exact HO3.out, HB3.out⟩
            case measure => simp [intOf]; omega
          | succ j =>
            refine wp_region_quiet_below (by kernel_rfl) (by kernel_rfl) ?_
            iterate 7 (go_big_quiet_step (exact hcall _ _))
            refine wpQuiet_nil ?_
            intro _ hw'
            obtain ⟨⟨dq, osq⟩, hw''⟩ := hw'
            subst hw''
            have hbel := below_regrown wr dq osq
            have HB3 := Lib.hid (HB.out.trans (hbel.mono HB.out.size)); have HO3 := Lib.hid (HO.out.below hbel)
            clear hcall k0 k1 k2 k3 k4 k5 k6 k7 k8 a0 a1 a2 a3 a4 hbel
            generalize grow (redrawn wr dq) osq = w3 at HB3 HO3 ⊢
            go_wp2_with fail
            go_roundw
            case rel => exact ⟨j + 1 + 1, by omega, by go_num, by rw [HX.out]; exact HO3.out, HB3.out⟩
            case measure => simp [intOf]; omega
        · have HX := Lib.hid (qualTo_yes HP.out hq)
          rw [hq] at hqb; clear hq
          generalize reasons ⟨y, l, m, zz, jj⟩ c = rs at hcall hqb
          cases k with
          | zero =>
            simp only [Nat.zero_mul, Nat.add_zero] at k0 k1 k2 k3 k4 k5 k6 k7 k8
            refine wp_region_quiet_below (by kernel_rfl) (by kernel_rfl) ?_
            iterate 7 (go_big_quiet_step (exact hcall _ _))
            refine wpQuiet_nil ?_
            intro _ hw'
            obtain ⟨⟨dq, osq⟩, hw''⟩ := hw'
            subst hw''
            have hbel := below_regrown wr dq osq
            have HB3 := Lib.hid (HB.out.trans (hbel.mono HB.out.size)); have HO3 := Lib.hid (HO.out.below hbel)
            clear hcall k0 k1 k2 k3 k4 k5 k6 k7 k8 a0 a1 a2 a3 a4 hbel
            generalize grow (redrawn wr dq) osq = w3 at HB3 HO3 ⊢
            have hsz3 := HB3.out.size
            have HO4 := Lib.hid (HO3.out.alloc (.cells #[.int .i64 (0 : Int)] 2))
            have HB4 := Lib.hid (HB3.out.alloc hsz3 (.cells #[.int .i64 (0 : Int)] 2))
            go_wp2_with (at_builtin; refine wpList_int_append rfl _ _ rfl _ _ rfl HO4.out _ (0 : Int) rfl (cell_one _ _ _) ?c2 ?c3 ?_)
            case c2 => have := HLe.out; omega
            case c3 => first | omega | (simp; omega)
            intro v' w5 ho5 hg5
            have HO5 := Lib.hid (show BuildI w1.heap.size w5 v' (qualTo ⟨y, l, m, zz, jj⟩ cs (0 + 1)) by rw [HX.out]; exact ho5)
            have HB5 := Lib.hid (HO4.out.grew HB4.out (Nat.le_refl _) (by simp; omega) hg5)
            clear ho5 hg5
            go_wp2_with fail
            go_roundw
            case rel => exact ⟨(0 + 1), by omega, by go_num, HO5.out, HB5.out⟩
            case measure => simp [intOf]; omega
          | succ j =>
            refine wp_region_quiet_below (by kernel_rfl) (by kernel_rfl) ?_
            iterate 7 (go_big_quiet_step (exact hcall _ _))
            refine wpQuiet_nil ?_
            intro _ hw'
            obtain ⟨⟨dq, osq⟩, hw''⟩ := hw'
            subst hw''
            have hbel := below_regrown wr dq osq
            have HB3 := Lib.hid (HB.out.trans (hbel.mono HB.out.size)); have HO3 := Lib.hid (HO.out.below hbel)
            clear hcall k0 k1 k2 k3 k4 k5 k6 k7 k8 a0 a1 a2 a3 a4 hbel
            generalize grow (redrawn wr dq) osq = w3 at HB3 HO3 ⊢
            have hsz3 := HB3.out.size
            have HO4 := Lib.hid (HO3.out.alloc (.cells #[.int .i64 ((j : Int) + 1)] 2))
            have HB4 := Lib.hid (HB3.out.alloc hsz3 (.cells #[.int .i64 ((j : Int) + 1)] 2))
            go_wp2_with (at_builtin; refine wpList_int_append rfl _ _ rfl _ _ rfl HO4.out _ ((j : Int) + 1) rfl (cell_one _ _ _) ?c2 ?c3 ?_)
            case c2 => have := HLe.out; omega
            case c3 => first | omega | (simp; omega)
            intro v' w5 ho5 hg5
            have HO5 := Lib.hid (show BuildI w1.heap.size w5 v' (qualTo ⟨y, l, m, zz, jj⟩ cs (j + 1 + 1)) by rw [HX.out]; exact ho5)
            have HB5 := Lib.hid (HO4.out.grew HB4.out (Nat.le_refl _) (by simp; omega) hg5)
            clear ho5 hg5
            go_wp2_with fail
            go_roundw
            case rel => exact ⟨(j + 1 + 1), by omega, by go_num, HO5.out, HB5.out⟩
            case measure => simp [intOf]; omega
      · have HN2 := Lib.hid (show k = cs.length by rw [HL.out]; omega)
        obtain ⟨a', cap', hv, hc', hown⟩ := (HO.out.mono HW1.out.size).own
        have HOW := Lib.hid hown
        subst hv
        clear hown
        go_wp2_with fail
        go_ret2
        rw [HN.out]
        rw [← HN2.out]
        exact ⟨a', cap', rfl, HOW.out, HW1.out.trans (HB.out.mono HW1.out.size)⟩
  · have HN := Lib.hid (show qualOfR ⟨y, l, m, zz, jj⟩ cs = ([], 1) by unfold qualOfR; rw [if_neg (by rw [h1]; decide)])
    rw [h1] at HC
    clear h1
    go_enter Try.func18, Try.ntmps18
    go_wp2_with fail
    refine HC.out.mono ?_; rintro e w1 ⟨rfl, hB⟩
    have HB1 := Lib.hid (HW.out.trans (hB.mono HW.out.size))
    clear hB
    go_wp2_with fail
    go_ret2
    rw [HN.out]
    exact ⟨none, 0, rfl, .inl rfl, HB1.out⟩

end Go.Proofs.Ytjnjmoiilapbiaa
