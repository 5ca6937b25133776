/- Contracts: IsTight, of the program and of its model. -/
import Derived.Test.YtdeiillfdjebdaaChecked
import Derived.Test.YtdeiillfdjebdaaBase
import Derived.Test.YtdeiillfdjebdaaPure41
import Derived.Test.YtdeiillfdjebdaaPure51
import Derived.Test.YtdeiillfdjebdaaPersSlice
import Derived.Test.YtdeiillfdjebdaaArePers
import Derived.Test.YtdeiillfdjebdaaLike
import Derived.Test.YtdeiillfdjebdaaCode5
import Derived.Test.YtdeiillfdjebdaaTabB
import Derived.Test.YtdeiillfdjebdaaSteps5
import Derived.Test.YtdeiillfdjebdaaGroups5
import Derived.Test.YtdeiillfdjebdaaUf5
import Derived.Test.YtdeiillfdjebdaaUf6
import Derived.Test.YtdeiillfdjebdaaUf7
import Derived.Test.YtdeiillfdjebdaaGrp5
import Derived.WalkKit
import Derived.WalkSpells
import Derived.WalkLawsBesides
import Derived.Lib.Hide
import Derived.Lib.QuietBelow
import Derived.IntWalk
import Derived.Deep.OwnRows
import Derived.Deep.QuietTactic
import Derived.BigQuiet
import Derived.Outline
namespace Go.Proofs.Ytdeiillfdjebdaa
open Go.RowKit Go.Sort Pure1 Pure2 Pure40 Pure41 Pure50 Pure51

/-- each two of a list are alike -/
def tightP (A : Nat → Nat → Bool) (l : List Nat) : Prop := ∀ (i k x y : Nat), k < i → l[i]? = some x → l[k]? = some y → A x y = true
/-- those seen so far -/
def TightTo (A : Nat → Nat → Bool) (l : List Nat) (i k : Nat) : Prop := ∀ (i' k' x y : Nat), (i' < i ∨ (i' = i ∧ k' < k)) → k' < i' → l[i']? = some x → l[k']? = some y → A x y = true
theorem TightTo.turn {A : Nat → Nat → Bool} {l : List Nat} {i : Nat} (h : TightTo A l i i) : TightTo A l (i + 1) 0 := fun i' k' x y h1 h2 hx hy => h i' k' x y (by omega) h2 hx hy
theorem TightTo.step {A : Nat → Nat → Bool} {l : List Nat} {i k x y : Nat} (h : TightTo A l i k) (hx : l[i]? = some x) (hy : l[k]? = some y) (ha : A x y = true) : TightTo A l i (k + 1) := fun i' k' x' y' h1 h2 hx' hy' => by
  by_cases e : i' = i ∧ k' = k
  · obtain ⟨rfl, rfl⟩ := e
    rw [hx] at hx'; rw [hy] at hy'; cases hx'; cases hy'; exact ha
  · exact h i' k' x' y' (by omega) h2 hx' hy'
theorem TightTo.done {A : Nat → Nat → Bool} {l : List Nat} {i k : Nat} (h : TightTo A l i k) (hi : l.length ≤ i) : tightP A l := fun i' k' x y h2 hx hy => h i' k' x y (.inl (by have := (List.getElem?_eq_some_iff.1 hx).1; omega)) h2 hx hy
def two5 (r : Bool × Int) : Value := .tuple #[.bool r.1, .int .i64 r.2]
open Classical in
/-- the answer of IsTight -/
noncomputable def tightR (ps : List Pers) (m x : Int) : Bool × Int := if code5 ps m [x] = 0 then (decide (tightP (adj ps m) (grpL (adj ps m) ps.length x.toNat)), 0) else (false, code5 ps m [x])
theorem grp_keep {A : Nat → Nat → Bool} {n : Nat} (hs : ∀ i j, A i j = A j i) (z : Nat) : sel (fun i => decide (keep A i = keep A z)) n = grpL A n z :=
  sel_congr (fun i _ => by
    rw [decide_eq_decide, dist_nonneg]
    exact ⟨fun h => conn_of_keep hs h.symm, fun h => (keep_same hs h).symm⟩)
theorem BuildI.cap {B : Nat} {w : World} {a : Option Addr} {n cap : Nat} {zs : List Int} (h : BuildI B w (.slice a n cap) zs) : cap ≤ maxLen := by
  rcases h.2 with ⟨e, _⟩ | ⟨g, c, cur, e, _, _, _, hc, _⟩
  · cases e; unfold maxLen; omega
  · cases e; exact hc

open Classical in
set_option maxRecDepth 100000 in
set_option maxHeartbeats 4000000 in
theorem implTight_any (a : Option Addr) (len cap : Nat) (ps : List Pers) (m x : Int) (w : World) (hl : ps.length = len) (hm : len ≤ maxLen) (hI : PersAt w a ps) (hF : Fits ps) :
    Calls Try.prog 35 #[.slice a len cap, .int .i64 m, .int .i64 x] w (SaysV (two5 (tightR ps m x)) w) := by
  have HB0 := Lib.hid (boxed w (.cells #[.int .i64 x] 2))
  have HE := Lib.hid (implJoiningError_any a len cap ps m (some ⟨w.heap.size, 0, none⟩) 1 1 [x] (w.alloc (.cells #[.int .i64 x] 2)) hl hm (hI.below HB0.out) hF rfl (by unfold maxLen; omega) (ownI_reads (BuildI.one (B := w.heap.size) x (Nat.le_refl _) |>.own |> fun ⟨_, _, e, _, h⟩ => by cases e; exact h)))
  rcases code5_cases ps m [x] with h | h | h
  · obtain ⟨hP, _, hx⟩ := code5_zero h
    have hx := hx x (by simp)
    have hm12 : len ≤ 12 := by have := arePers_len hP; omega
    have HRR := Lib.hid (show tightR ps m x = (decide (tightP (adj ps m) (grpL (adj ps m) len x.toNat)), 0) by unfold tightR; rw [if_pos h, hl])
    rw [h] at HE
    rw [hl] at hx
    obtain ⟨z, rfl⟩ : ∃ z : Nat, x = z := ⟨x.toNat, by omega⟩
    rw [Int.toNat_natCast] at HRR
    have hz : z < len := by omega
    have HL := Lib.hid hl; have HI := Lib.hid hI; have HP := Lib.hid hP
    have HM := Lib.hid (show ∀ y ∈ grpL (adj ps m) len z, y < len from fun y hy => (sel_mem.1 hy).1)
    have HLe := Lib.hid (show (grpL (adj ps m) len z).length ≤ 12 by have := sel_le (fun j => decide (0 ≤ dist (adj ps m) z j)) len; unfold grpL; omega)
    have HC := Lib.hid (fun W (hB : Below w.heap.size w W) => implGroups_any a len cap ps m W hl (hI.below hB) hP)
    have HA := Lib.hid (show ∀ i j, adj ps m i j = true → i < len ∧ j < len from fun i j h => by have := adj_lt h; omega)
    have HS := Lib.hid (adj_comm ps m)
    obtain ⟨A, hAA⟩ : ∃ A, A = adj ps m := ⟨_, rfl⟩
    have HAA := Lib.hid hAA
    rw [← hAA] at HRR HM HLe HC HA HS
    clear hl hm hI hF h hP hAA
    go_enter Try.func35, Try.ntmps35
    go_wp2_with fail
    refine HE.out.mono ?_; rintro e w1 ⟨rfl, hB⟩
    have HB1 := Lib.hid (HB0.out.trans (hB.mono HB0.out.size)); clear hB HE
    go_wp2_with fail
    refine (HC.out w1 HB1.out).mono ?_; rintro e w2 ⟨b, par, rfl, hb, hp, hj, hB⟩
    have HB2 := Lib.hid (HB1.out.trans (hB.mono HB1.out.size)); have HP2 := Lib.hid hp; have HJ := Lib.hid hj; clear hB hp hj HC
    have HR := Lib.hid (fun i => HJ.out.done HS.out HA.out i)
    have HK := Lib.hid (implKeeperOf_any b len par z (keep A z) w2 HP2.out (by omega) HJ.out.less (HR.out z) (by have := keep_le_self (A := A) z; omega))
    go_wp2_with fail
    refine HK.out.mono ?_; rintro e w' ⟨rfl, rfl⟩
    have HG := Lib.hid (implGroupOf_any A b len par (keep A z) _ HP2.out hm12 HJ.out.less HR.out)
    rw [grp_keep HS.out] at HG
    go_wp2_with fail
    refine HG.out.mono ?_; rintro e w4 ⟨v4, rfl, hb4, hB4⟩
    obtain ⟨aG, capG, rfl, hcapG, ho4⟩ := hb4.own
    have hcapM := hb4.cap
    unfold maxLen at hcapM
    have HB4 := Lib.hid (HB2.out.trans (hB4.mono HB2.out.size)); have HO := Lib.hid ho4
    clear hb4 ho4 hB4 HG HK HP2 HJ HR
    rw [toI_length] at HO hcapG ⊢
    generalize grpL A len z = l at HRR HM HLe HO hcapG ⊢
    have hl12 := HLe.out
    go_wp2_with fail
    go_loopw [33] (fun c wr => ∃ i : Nat, i ≤ l.length ∧ c = .int .i64 i ∧ TightTo A l i 0 ∧ Below w4.heap.size w4 wr) (fun c _ => l.length - (intOf c).toNat)
    case atStart => exact ⟨0, Nat.zero_le _, rfl, fun i' k' x y h hk => by omega, Below.refl _ _⟩
    case round =>
      obtain ⟨i, hi, rfl, hT, hB⟩ := hrel
      have HT := Lib.hid hT; have HB := Lib.hid hB; clear hT hB
      by_cases hlt : i < l.length
      · have hx : l[i]? = some l[i] := List.getElem?_eq_getElem hlt
        generalize l[i] = x at hx
        have HX := Lib.hid hx
        have hxn := HM.out x (List.mem_of_getElem? hx)
        obtain ⟨bg, e, hcx⟩ := (HO.out.below HB.out).at hlt
        subst e
        rw [show (toI l).getD i 0 = (x : Int) by simp [List.getD, toI_at hx]] at hcx
        have hicap : i ≤ capG := by omega
        clear hx
        go_wp2_with fail
        clear hcx
        go_loopw [42] (fun c w5 => ∃ k : Nat, k ≤ i ∧ c = .int .i64 k ∧ TightTo A l i k ∧ Below w4.heap.size w4 w5) (fun c _ => i - (intOf c).toNat)
        case atStart => exact ⟨0, Nat.zero_le _, rfl, HT.out, HB.out⟩
        case round =>
          obtain ⟨k, hk, rfl, hT, hB⟩ := hrel
          clear HT HB
          have HT := Lib.hid hT; have HB := Lib.hid hB; clear hT hB
          by_cases hlk : k < i
          · have hkl : k < l.length := by omega
            have hy : l[k]? = some l[k] := List.getElem?_eq_getElem hkl
            generalize l[k] = y at hy
            have hyn := HM.out y (List.mem_of_getElem? hy)
            obtain ⟨bg2, e, hcy⟩ := (HO.out.below HB.out).at hkl
            cases e
            rw [show (toI l).getD k 0 = (y : Int) by simp [List.getD, toI_at hy]] at hcy
            obtain ⟨bg3, e, hcx⟩ := (HO.out.below HB.out).at hlt
            cases e
            rw [show (toI l).getD i 0 = (x : Int) by simp [List.getD, toI_at HX.out]] at hcx
            have HY := Lib.hid hy; clear hy
            obtain ⟨b1, off, p, rfl, hc, hp⟩ := (HI.out.below (HB4.out.trans (HB.out.mono HB4.out.size))).at HL.out hxn
            obtain ⟨b', off', q, e, hc2, hq⟩ := (HI.out.below (HB4.out.trans (HB.out.mono HB4.out.size))).at HL.out hyn
            cases e
            have hpp := arePers_at HP.out hp; have hqq := arePers_at HP.out hq
            skip
            obtain ⟨d0, d1, d2, d3, d4⟩ := hc
            obtain ⟨g0, g1, g2, g3, g4⟩ := hc2
            have k0 := cell_regrown d0; have k1 := cell_regrown d1; have k2 := cell_regrown d2; have k3 := cell_regrown d3; have k4 := cell_regrown d4
            have l0 := cell_regrown g0; have l1 := cell_regrown g1; have l2 := cell_regrown g2; have l3 := cell_regrown g3; have l4 := cell_regrown g4
            have kx := cell_regrown hcx; have ky := cell_regrown hcy
            go_wp2_with fail
            clear d0 d1 d2 d3 d4 g0 g1 g2 g3 g4 hcx hcy
            have hcall := regr_call (w := wr) (fun W _ => show Calls Try.prog 72 #[.agg #[.int .i64 p.num, .string p.fst, .string p.lst, .int .i64 p.born, .int .i64 p.zone], .agg #[.int .i64 q.num, .string q.fst, .string q.lst, .int .i64 q.born, .int .i64 q.zone], .int .i64 m] W _ from implIsAlike_any p.num p.fst p.lst p.born p.zone q.num q.fst q.lst q.born q.zone m W hpp hqq)
            have heta : likeP ⟨p.num, p.fst, p.lst, p.born, p.zone⟩ ⟨q.num, q.fst, q.lst, q.born, q.zone⟩ = likeP p q := rfl
            rw [heta] at hcall
            clear heta hpp hqq
            have HAd := Lib.hid (show A x y = decide (m ≤ likeP p q) by rw [HAA.out]; exact adj_at hp hq)
            clear hp hq
            cases hd : decide (m ≤ likeP p q)
            · rw [hd] at HAd hcall
              clear hd
              skip
              skip
              refine wp_region_quiet_below (by kernel_rfl) (by kernel_rfl) ?_
              iterate 11 (go_big_quiet_step (exact hcall _ _))
              refine wpQuiet_nil ?_
              intro _ hw'
              obtain ⟨⟨dq, osq⟩, hw''⟩ := hw'
              subst hw''
              have HB5 := Lib.hid (HB.out.trans ((below_regrown wr dq osq).mono HB.out.size))
              clear hcall k0 k1 k2 k3 k4 l0 l1 l2 l3 l4 kx ky
              generalize grow (redrawn wr dq) osq = w5 at HB5 ⊢
              have HD := Lib.hid (show two5 (decide (tightP A l), 0) = .tuple #[.bool false, .int .i64 0] by rw [decide_eq_false (fun h => by have := h i k x y hlk HX.out HY.out; rw [HAd.out] at this; cases this)]; rfl)
              go_wp2_with fail
              go_ret2
              rw [HRR.out]
              exact ⟨ret_of HD.out.symm, HB4.out.trans (HB5.out.mono HB4.out.size)⟩
            · rw [hd] at HAd hcall
              clear hd
              skip
              skip
              refine wp_region_quiet_below (by kernel_rfl) (by kernel_rfl) ?_
              iterate 11 (go_big_quiet_step (exact hcall _ _))
              refine wpQuiet_nil ?_
              intro _ hw'
              obtain ⟨⟨dq, osq⟩, hw''⟩ := hw'
              subst hw''
              have HB5 := Lib.hid (HB.out.trans ((below_regrown wr dq osq).mono HB.out.size))
              clear hcall k0 k1 k2 k3 k4 l0 l1 l2 l3 l4 kx ky
              generalize grow (redrawn wr dq) osq = w5 at HB5 ⊢
              go_wp2_with fail
              go_roundw
              case rel => exact ⟨k + 1, by omega, by go_num, HT.out.step HX.out HY.out HAd.out, HB5.out⟩
              case measure => simp [intOf]; omega
          · obtain rfl : k = i := by omega
            go_wp2_with fail
            go_roundw
            case rel => exact ⟨k + 1, by omega, by go_num, HT.out.turn, HB.out⟩
            case measure => simp [intOf]; omega
      · have HD := Lib.hid (show two5 (decide (tightP A l), 0) = .tuple #[.bool true, .int .i64 0] by rw [decide_eq_true (HT.out.done (by omega))]; rfl)
        go_wp2_with fail
        go_ret2
        rw [HRR.out]
        exact ⟨ret_of HD.out.symm, HB4.out.trans (HB.out.mono HB4.out.size)⟩
  all_goals
    rw [show tightR ps m x = (false, code5 ps m [x]) by unfold tightR; rw [if_neg (by omega)]]
    rw [h] at HE ⊢
    clear hl hm hI hF
    go_enter Try.func35, Try.ntmps35
    go_wp2_with fail
    refine HE.out.mono ?_; rintro e w1 ⟨rfl, hB⟩
    have HB := Lib.hid (HB0.out.trans (hB.mono HB0.out.size)); clear hB
    go_wp2_with fail
    go_ret2
    exact ⟨rfl, HB.out⟩

open Classical in
set_option maxRecDepth 100000 in
set_option maxHeartbeats 4000000 in
theorem specTight_any (a : Option Addr) (len cap : Nat) (ps : List Pers) (m x : Int) (w : World) (hl : ps.length = len) (hm : len ≤ maxLen) (hI : PersAt w a ps) (hF : Fits ps) :
    Calls Try.prog 36 #[.slice a len cap, .int .i64 m, .int .i64 x] w (SaysV (two5 (tightR ps m x)) w) := by
  have HB0 := Lib.hid (Below.refl w.heap.size w)
  have HE := Lib.hid (specL05Code_any a len cap ps m x x w hl hm hI hF)
  rw [code5_two] at HE
  rcases code5_cases ps m [x] with h | h | h
  · obtain ⟨hP, _, hx⟩ := code5_zero h
    have hx := hx x (by simp)
    have hm12 : len ≤ 12 := by have := arePers_len hP; omega
    have HRR := Lib.hid (show tightR ps m x = (decide (tightP (adj ps m) (grpL (adj ps m) len x.toNat)), 0) by unfold tightR; rw [if_pos h, hl])
    rw [h] at HE
    rw [hl] at hx
    obtain ⟨z, rfl⟩ : ∃ z : Nat, x = z := ⟨x.toNat, by omega⟩
    rw [Int.toNat_natCast] at HRR
    have hz : z < len := by omega
    have HL := Lib.hid hl; have HI := Lib.hid hI; have HP := Lib.hid hP
    have HM := Lib.hid (show ∀ y ∈ grpL (adj ps m) len z, y < len from fun y hy => (sel_mem.1 hy).1)
    have HLe := Lib.hid (show (grpL (adj ps m) len z).length ≤ 12 by have := sel_le (fun j => decide (0 ≤ dist (adj ps m) z j)) len; unfold grpL; omega)
    have HC := Lib.hid (fun W (hB : Below w.heap.size w W) => specGroup_any a len cap ps m z W hl (hI.below hB) hP hz)
    obtain ⟨A, hAA⟩ : ∃ A, A = adj ps m := ⟨_, rfl⟩
    have HAA := Lib.hid hAA
    rw [← hAA] at HRR HM HLe HC
    clear hl hm hI hF h hP hAA
    go_enter Try.func36, Try.ntmps36
    go_wp2_with fail
    refine HE.out.mono ?_; rintro e w1 ⟨rfl, hB⟩
    have HB1 := Lib.hid hB; clear hB HE
    go_wp2_with fail
    refine (HC.out w1 HB1.out).mono ?_; rintro e w4 ⟨v4, rfl, hb4, hB4⟩
    obtain ⟨aG, capG, rfl, hcapG, ho4⟩ := hb4.own
    have HB4 := Lib.hid (HB1.out.trans (hB4.mono HB1.out.size)); have HO := Lib.hid ho4
    clear hb4 ho4 hB4 HC
    rw [toI_length] at HO hcapG ⊢
    generalize grpL A len z = l at HRR HM HLe HO hcapG ⊢
    have hl12 := HLe.out
    go_wp2_with fail
    go_loopw [10] (fun c wr => ∃ i : Nat, i ≤ l.length ∧ c = .int .i64 i ∧ TightTo A l i 0 ∧ Below w4.heap.size w4 wr) (fun c _ => l.length - (intOf c).toNat)
    case atStart => exact ⟨0, Nat.zero_le _, rfl, fun i' k' x y h hk => by omega, Below.refl _ _⟩
    case round =>
      obtain ⟨i, hi, rfl, hT, hB⟩ := hrel
      have HT := Lib.hid hT; have HB := Lib.hid hB; clear hT hB
      by_cases hlt : i < l.length
      · have hx : l[i]? = some l[i] := List.getElem?_eq_getElem hlt
        generalize l[i] = x at hx
        have HX := Lib.hid hx
        have hxn := HM.out x (List.mem_of_getElem? hx)
        obtain ⟨bg, e, hcx⟩ := (HO.out.below HB.out).at hlt
        subst e
        rw [show (toI l).getD i 0 = (x : Int) by simp [List.getD, toI_at hx]] at hcx
        have hicap : i ≤ capG := by omega
        clear hx
        go_wp2_with fail
        clear hcx
        go_loopw [11] (fun c w5 => ∃ k : Nat, k ≤ i ∧ c = .int .i64 k ∧ TightTo A l i k ∧ Below w4.heap.size w4 w5) (fun c _ => i - (intOf c).toNat)
        case atStart => exact ⟨0, Nat.zero_le _, rfl, HT.out, HB.out⟩
        case round =>
          obtain ⟨k, hk, rfl, hT, hB⟩ := hrel
          clear HT HB
          have HT := Lib.hid hT; have HB := Lib.hid hB; clear hT hB
          by_cases hlk : k < i
          · have hkl : k < l.length := by omega
            have hy : l[k]? = some l[k] := List.getElem?_eq_getElem hkl
            generalize l[k] = y at hy
            have hyn := HM.out y (List.mem_of_getElem? hy)
            obtain ⟨bg2, e, hcy⟩ := (HO.out.below HB.out).at hkl
            cases e
            rw [show (toI l).getD k 0 = (y : Int) by simp [List.getD, toI_at hy]] at hcy
            obtain ⟨bg3, e, hcx⟩ := (HO.out.below HB.out).at hlt
            cases e
            rw [show (toI l).getD i 0 = (x : Int) by simp [List.getD, toI_at HX.out]] at hcx
            have HY := Lib.hid hy; clear hy
            obtain ⟨b1, off, p, rfl, hc, hp⟩ := (HI.out.below (HB4.out.trans (HB.out.mono HB4.out.size))).at HL.out hxn
            obtain ⟨b', off', q, e, hc2, hq⟩ := (HI.out.below (HB4.out.trans (HB.out.mono HB4.out.size))).at HL.out hyn
            cases e
            have hpp := arePers_at HP.out hp; have hqq := arePers_at HP.out hq
            go_wp2_with fail
            obtain ⟨d0, d1, d2, d3, d4⟩ := hc
            obtain ⟨g0, g1, g2, g3, g4⟩ := hc2
            have k0 := cell_regrown d0; have k1 := cell_regrown d1; have k2 := cell_regrown d2; have k3 := cell_regrown d3; have k4 := cell_regrown d4
            have l0 := cell_regrown g0; have l1 := cell_regrown g1; have l2 := cell_regrown g2; have l3 := cell_regrown g3; have l4 := cell_regrown g4
            have kx := cell_regrown hcx; have ky := cell_regrown hcy
            skip
            clear d0 d1 d2 d3 d4 g0 g1 g2 g3 g4 hcx hcy
            have hcall := regr_call (w := wr) (fun W _ => show Calls Try.prog 59 #[.agg #[.int .i64 p.num, .string p.fst, .string p.lst, .int .i64 p.born, .int .i64 p.zone], .agg #[.int .i64 q.num, .string q.fst, .string q.lst, .int .i64 q.born, .int .i64 q.zone]] W _ from specLike_any p.num p.fst p.lst p.born p.zone q.num q.fst q.lst q.born q.zone W hpp hqq)
            have heta : likeP ⟨p.num, p.fst, p.lst, p.born, p.zone⟩ ⟨q.num, q.fst, q.lst, q.born, q.zone⟩ = likeP p q := rfl
            rw [heta] at hcall
            clear heta hpp hqq
            have HAd := Lib.hid (show A x y = decide (m ≤ likeP p q) by rw [HAA.out]; exact adj_at hp hq)
            clear hp hq
            cases hd : decide (m ≤ likeP p q)
            · rw [hd] at HAd
              have hd2 : ¬ m ≤ likeP p q := of_decide_eq_false hd
              have hd3 : decide (likeP p q < m) = true := decide_eq_true (by omega)
              generalize likeP p q = LL at hcall hd hd2 hd3
              refine wp_region_quiet_below (by kernel_rfl) (by kernel_rfl) ?_
              iterate 17 (go_big_quiet_step (exact hcall _ _))
              refine wpQuiet_nil ?_
              intro _ hw'
              obtain ⟨⟨dq, osq⟩, hw''⟩ := hw'
              subst hw''
              have HB5 := Lib.hid (HB.out.trans ((below_regrown wr dq osq).mono HB.out.size))
              clear hcall k0 k1 k2 k3 k4 l0 l1 l2 l3 l4 kx ky
              generalize grow (redrawn wr dq) osq = w5 at HB5 ⊢
              have HD := Lib.hid (show two5 (decide (tightP A l), 0) = .tuple #[.bool false, .int .i64 0] by rw [decide_eq_false (fun h => by have := h i k x y hlk HX.out HY.out; rw [HAd.out] at this; cases this)]; rfl)
              go_wp2_with fail
              go_ret2
              rw [HRR.out]
              exact ⟨ret_of HD.out.symm, HB4.out.trans (HB5.out.mono HB4.out.size)⟩
            · rw [hd] at HAd
              have hd2 : m ≤ likeP p q := of_decide_eq_true hd
              have hd3 : decide (likeP p q < m) = false := decide_eq_false (by omega)
              generalize likeP p q = LL at hcall hd hd2 hd3
              refine wp_region_quiet_below (by kernel_rfl) (by kernel_rfl) ?_
              iterate 17 (go_big_quiet_step (exact hcall _ _))
              refine wpQuiet_nil ?_
              intro _ hw'
              obtain ⟨⟨dq, osq⟩, hw''⟩ := hw'
              subst hw''
              have HB5 := Lib.hid (HB.out.trans ((below_regrown wr dq osq).mono HB.out.size))
              clear hcall k0 k1 k2 k3 k4 l0 l1 l2 l3 l4 kx ky
              generalize grow (redrawn wr dq) osq = w5 at HB5 ⊢
              go_wp2_with fail
              go_roundw
              case rel => exact ⟨k + 1, by omega, by go_num, HT.out.step HX.out HY.out HAd.out, HB5.out⟩
              case measure => simp [intOf]; omega
          · obtain rfl : k = i := by omega
            go_wp2_with fail
            go_roundw
            case rel => exact ⟨k + 1, by omega, by go_num, HT.out.turn, HB.out⟩
            case measure => simp [intOf]; omega
      · have HD := Lib.hid (show two5 (decide (tightP A l), 0) = .tuple #[.bool true, .int .i64 0] by rw [decide_eq_true (HT.out.done (by omega))]; rfl)
        go_wp2_with fail
        go_ret2
        rw [HRR.out]
        exact ⟨ret_of HD.out.symm, HB4.out.trans (HB.out.mono HB4.out.size)⟩
  all_goals
    rw [show tightR ps m x = (false, code5 ps m [x]) by unfold tightR; rw [if_neg (by omega)]]
    rw [h] at HE ⊢
    clear hl hm hI hF
    go_enter Try.func36, Try.ntmps36
    go_wp2_with fail
    refine HE.out.mono ?_; rintro e w1 ⟨rfl, hB⟩
    have HB := Lib.hid (HB0.out.trans (hB.mono HB0.out.size)); clear hB
    go_wp2_with fail
    go_ret2
    exact ⟨rfl, HB.out⟩

end Go.Proofs.Ytdeiillfdjebdaa
