/- Contracts: CountReasons, of the program and of its model. -/
import Derived.Test.YtjnjmoiilapbiaaChecked
import Derived.Test.YtjnjmoiilapbiaaBase
import Derived.Test.YtjnjmoiilapbiaaInfo
import Derived.Test.YtjnjmoiilapbiaaPure61
import Derived.Test.YtjnjmoiilapbiaaMarkI
import Derived.Test.YtjnjmoiilapbiaaBuild6
import Derived.Test.YtjnjmoiilapbiaaHas6
import Derived.Test.YtjnjmoiilapbiaaTruth6
import Derived.Test.YtjnjmoiilapbiaaRul6
import Derived.Test.YtjnjmoiilapbiaaAns6
import Derived.WalkKit
import Derived.WalkSpells
import Derived.WalkLawsBesides
import Derived.Lib.Hide
import Derived.Lib.QuietBelow
import Derived.IntWalk
import Derived.Deep.OwnRows
import Derived.Deep.QuietTactic
import Derived.BigQuiet
import Derived.OwnWalk
import Derived.RegionTactic
import Derived.Deep.RegionHeld
import Derived.BigRegion
import Derived.Outline
namespace Go.Proofs.Ytjnjmoiilapbiaa
open Go.RowKit Go.Sort Pure1 Pure2 Pure3 Pure40 Pure60 Pure61

/-- seven numbers lie in block b -/
def Row7 (b : Nat) (w : World) (g : Nat → Int) : Prop := ∃ f, w.rowIs b 2 7 f ∧ ∀ j, j < 7 → f j = .int .i64 (g j)
theorem Row7.cell {b : Nat} {w : World} {g : Nat → Int} (h : Row7 b w g) {j : Nat} (hj : j < 7) : w.cell? ⟨b, j, none⟩ = some (.int .i64 (g j)) := by
  obtain ⟨f, hr, hf⟩ := h; rw [hr.cell hj, hf j hj]
theorem Row7.frozen {b : Nat} {w : World} {g : Nat → Int} (h : Row7 b w g) (j : Nat) : w.frozen? ⟨b, j, none⟩ = false := by
  obtain ⟨f, hr, hf⟩ := h; exact hr.frozen j
theorem Row7.lt {b : Nat} {w : World} {g : Nat → Int} (h : Row7 b w g) : b < w.heap.size := by
  obtain ⟨f, hr, hf⟩ := h; exact hr.lt
theorem Row7.below {b : Nat} {w w' : World} {g : Nat → Int} (h : Row7 b w g) (hb : Below w.heap.size w w') : Row7 b w' g := by
  obtain ⟨f, hr, hf⟩ := h; exact ⟨f, hr.of_block (hb.block b hr.lt), hf⟩
theorem Row7.set {b : Nat} {w : World} {g g' : Nat → Int} (h : Row7 b w g) (k : Nat) (v : Int) (hg : ∀ j, j < 7 → g' j = if j = k then v else g j) : Row7 b (w.setCell ⟨b, k, none⟩ (.int .i64 v)) g' := by
  obtain ⟨f, hr, hf⟩ := h
  refine ⟨_, hr.set k (.int .i64 v), fun j hj => ?_⟩
  rw [hg j hj]
  by_cases e : j = k
  · subst e; simp
  · simp only [if_neg e]; exact hf j hj
theorem Row7.congr {b : Nat} {w : World} {g g' : Nat → Int} (h : Row7 b w g) (hg : ∀ j, j < 7 → g' j = g j) : Row7 b w g' := by
  obtain ⟨f, hr, hf⟩ := h; exact ⟨f, hr, fun j hj => by rw [hg j hj]; exact hf j hj⟩
theorem row7_made (w : World) : Row7 w.heap.size (w.alloc (.cells (madeCells #[.int .i64 0] 7) 2)) (fun _ => 0) := ⟨_, World.rowIs_made _ _ _ _, fun _ _ => rfl⟩
theorem row7_own {b B : Nat} {w : World} {zs : List Int} (h : Row7 b w (fun j => zs.getD j 0)) (hl : zs.length = 7) (hB : B ≤ b) : OwnI B w (some ⟨b, 0, none⟩) zs.length (fun j => zs.getD j 0) := by
  obtain ⟨f, hr, hf⟩ := h
  exact .inr ⟨b, f, 7, rfl, hB, by omega, hr, fun i hi => hf i (by omega)⟩
theorem boolsAt_other {w : World} {b g : Nat} {ts : List Bool} (h : BoolsAt w b ts) (hne : g ≠ b) (o : Nat) (v : Value) : BoolsAt (w.setCell ⟨g, o, none⟩ v) b ts := fun i t ht => by
  rw [← h i t ht]; exact World.cell?_of_block (w := w) (Below.heap_setCell _ _ _ _ (fun e => hne e.symm))
theorem countL_len (r : Rul) (cs : List Cand) : (countL r cs).length = 7 := by unfold countL; simp
theorem countL_at (r : Rul) (cs : List Cand) {j : Nat} (hj : j < 7) : (countL r cs).getD j 0 = cntTo r cs cs.length j := by
  unfold countL; rw [List.getD_eq_getElem?_getD, List.getElem?_map, List.getElem?_range hj]; rfl
/-- the first j counts are those with one candidate more -/
def mixN (r : Rul) (cs : List Cand) (i j q : Nat) : Int := if q < j then cntTo r cs (i + 1) q else cntTo r cs i q
theorem bit_all : ∀ t0 t1 t2 t3 t4 t5 t6 : Bool, ∀ k : Fin 7, bits .and .i64 (mask [t0, t1, t2, t3, t4, t5, t6] / 2 ^ k.val) 1 = bitI [t0, t1, t2, t3, t4, t5, t6] k.val := by decide +kernel
theorem bit_of (r : Rul) (c : Cand) (k : Nat) (hk : k < 7) : bits .and .i64 (reasons r c / 2 ^ k) 1 = bitI (truths r c) k := bit_all _ _ _ _ _ _ _ ⟨k, hk⟩
theorem mix_zero (r : Rul) (cs : List Cand) (i q : Nat) : mixN r cs i 0 q = cntTo r cs i q := by unfold mixN; rw [if_neg (by omega)]
theorem mix_full (r : Rul) (cs : List Cand) (i q : Nat) (hq : q < 7) : cntTo r cs (i + 1) q = mixN r cs i 7 q := by unfold mixN; rw [if_pos hq]
theorem mix_at (r : Rul) (cs : List Cand) (i j : Nat) : mixN r cs i j j = cntTo r cs i j := by unfold mixN; rw [if_neg (by omega)]
theorem mix_step {r : Rul} {cs : List Cand} {i : Nat} {c : Cand} (hc : cs[i]? = some c) (j : Nat) (B : Int) (hB : B = bitI (truths r c) j) : ∀ q, q < 7 → mixN r cs i (j + 1) q = if q = j then cntTo r cs i j + B else mixN r cs i j q := by
  intro q _
  unfold mixN
  by_cases e : q = j
  · subst e; rw [if_pos (by omega), if_pos rfl, cntTo_step hc, hB]
  · rw [if_neg e]
    by_cases h : q < j
    · rw [if_pos (by omega), if_pos h]
    · rw [if_neg (by omega), if_neg h]
theorem mix_skip {r : Rul} {cs : List Cand} {i : Nat} {c : Cand} (hc : cs[i]? = some c) (j : Nat) (hB : bitI (truths r c) j = 0) : ∀ q, q < 7 → mixN r cs i (j + 1) q = mixN r cs i j q := by
  intro q hq
  rw [mix_step hc j 0 hB.symm q hq]
  by_cases e : q = j
  · subst e; rw [if_pos rfl, mix_at]; omega
  · rw [if_neg e]

set_option maxRecDepth 100000 in
set_option maxHeartbeats 4000000 in
theorem implCountReasons_any (y l m : Int) (za : Option Addr) (zl zc : Nat) (ja : Option Addr) (jl jc : Nat) (zz jj : List Int) (a : Option Addr) (len cap : Nat) (cs : List Cand) (w : World) (hR : RulesIn w za zl ja jl zz jj) (hl : cs.length = len) (hm : len ≤ maxLen) (hI : CandsAt w a cs) (hF : FitsC cs) :
    Calls Try.prog 19 #[.agg #[.int .i64 y, .int .i64 l, .int .i64 m, .slice za zl zc, .slice ja jl jc], .slice a len cap] w (SaysNewI (countR ⟨y, l, m, zz, jj⟩ cs).1 (countR ⟨y, l, m, zz, jj⟩ cs).2 w) := by
  have HW := Lib.hid (boxed w (.cells #[.int .i64 y, .int .i64 l, .int .i64 m, .slice za zl zc, .slice ja jl jc] 26))
  have HC := Lib.hid (implCode6_any y l m za zl zc ja jl jc zz jj a len cap cs (w.alloc (.cells #[.int .i64 y, .int .i64 l, .int .i64 m, .slice za zl zc, .slice ja jl jc] 26)) (hR.below HW.out) hl hm (hI.below HW.out) hF)
  have HA0 := Lib.hid (atR_box w y l m za zl zc ja jl jc 26)
  have HL := Lib.hid hl; have HI := Lib.hid hI; have HRW := Lib.hid hR
  unfold maxLen at hm
  clear hR hl hI hF
  rcases codeC_cases ⟨y, l, m, zz, jj⟩ cs with ⟨h0, hr, h60, hall⟩ | h1
  · have HN := Lib.hid (show countR ⟨y, l, m, zz, jj⟩ cs = (countL ⟨y, l, m, zz, jj⟩ cs, 0) by unfold countR; rw [if_pos h0])
    have hy := year_of hr
    have HAL := Lib.hid (show ∀ (k : Nat) c, cs[k]? = some c → 1900 ≤ c.p.born ∧ c.p.born ≤ 2100 from fun k c hc => born_of (List.all_eq_true.1 hall c (List.mem_of_getElem? hc)))
    simp only at hy
    rw [HL.out] at h60
    rw [h0] at HC
    clear h0 hr hall
    go_enter Try.func19, Try.ntmps19
    go_wp2_with fail
    refine HC.out.mono ?_; rintro e w1 ⟨rfl, hB⟩
    have HW1 := Lib.hid (HW.out.trans (hB.mono HW.out.size)); have HA1 := Lib.hid (HA0.out.below hB)
    clear hB HC HW HA0
    have hmk := fun W : World => run_make_row' (P := Try.prog) 24 2 (.int .i64 0) 8 Try.underlying24 Try.info_i64 rfl .i64 .i64 7 (by omega) (by omega) W
    have hmk0 : ∀ W : World, (Instr.makeSlice 24 (.int .i64 7) (.int .i64 7)).run Try.prog W = .ok (.slice (some ⟨W.heap.size, 0, none⟩) 7 7) (W.alloc (.cells (madeCells #[.int .i64 0] 7) 2)) := hmk
    have HR0 := Lib.hid ((row7_made w1).congr (fun j _ => cntTo_zero ⟨y, l, m, zz, jj⟩ cs j))
    have HB0 := Lib.hid (boxed w1 (.cells (madeCells #[.int .i64 0] 7) 2))
    clear hmk
    go_wp2_with fail
    clear hmk0
    go_loopw [9, 10, 11, 21, 30] (fun _ _ _ c _ wr => ∃ k : Nat, k ≤ len ∧ c = .int .i64 k ∧ Row7 w1.heap.size wr (cntTo ⟨y, l, m, zz, jj⟩ cs k) ∧ Below w1.heap.size w1 wr) (fun _ _ _ c _ _ => len - (intOf c).toNat)
    case atStart => exact ⟨0, Nat.zero_le _, rfl, HR0.out, HB0.out⟩
    case round =>
      obtain ⟨k, hk, rfl, hr, hB⟩ := hrel
      have HR := Lib.hid hr; have HB := Lib.hid hB; clear hr hB HR0 HB0
      by_cases hlt : k < len
      · obtain ⟨b, off, c, ha, hc, hp⟩ := (HI.out.below (HW1.out.trans (HB.out.mono HW1.out.size))).at HL.out hlt
        have hbo := HAL.out k c hp
        have HP := Lib.hid hp; clear hp
        subst ha
        obtain ⟨k0, k1, k2, k3, k4, k5, k6, k7, k8⟩ := hc
        have hsz := HB.out.size
        have HB2 := Lib.hid (HB.out.alloc hsz (.cells #[.int .i64 c.p.num, .string c.p.fst, .string c.p.lst, .int .i64 c.p.born, .int .i64 c.p.zone, .bool c.cit, .bool c.con, .bool c.flu, .int .i64 c.job] 30))
        obtain ⟨a0, a1, a2, a3, a4⟩ := HA1.out.below HB2.out
        have HQ := Lib.hid (implReasons_any y l m za zl zc ja jl jc zz jj c.p.num c.p.fst c.p.lst c.p.born c.p.zone c.cit c.con c.flu c.job (wr.alloc (.cells #[.int .i64 c.p.num, .string c.p.fst, .string c.p.lst, .int .i64 c.p.born, .int .i64 c.p.zone, .bool c.cit, .bool c.con, .bool c.flu, .int .i64 c.job] 30)) (HRW.out.below (HW1.out.trans (HB2.out.mono HW1.out.size))) hy hbo)
        rw [show reasons ⟨y, l, m, zz, jj⟩ ⟨⟨c.p.num, c.p.fst, c.p.lst, c.p.born, c.p.zone⟩, c.cit, c.con, c.flu, c.job⟩ = reasons ⟨y, l, m, zz, jj⟩ c from rfl] at HQ
        have HBT := Lib.hid (bit_of ⟨y, l, m, zz, jj⟩ c)
        have hrb := reasons_bounds ⟨y, l, m, zz, jj⟩ c
        generalize reasons ⟨y, l, m, zz, jj⟩ c = M at HQ HBT hrb
        go_wp2_with fail
        refine HQ.out.mono ?_; rintro e w3 ⟨rfl, hB⟩
        have HB3 := Lib.hid (HB2.out.trans (hB.mono HB2.out.size)); have HR3 := Lib.hid ((HR.out.below (boxed wr (.cells #[.int .i64 c.p.num, .string c.p.fst, .string c.p.lst, .int .i64 c.p.born, .int .i64 c.p.zone, .bool c.cit, .bool c.con, .bool c.flu, .int .i64 c.job] 30))).below hB)
        clear hB k0 k1 k2 k3 k4 k5 k6 k7 k8 a0 a1 a2 a3 a4
        go_wp2_with fail
        go_loopw [11, 30] (fun _ d wv => ∃ j : Nat, j ≤ 7 ∧ d = .int .i64 j ∧ Row7 w1.heap.size wv (mixN ⟨y, l, m, zz, jj⟩ cs k j) ∧ Below w1.heap.size w1 wv) (fun _ d _ => 7 - (intOf d).toNat)
        case atStart => exact ⟨0, Nat.zero_le _, rfl, HR3.out.congr (fun j _ => mix_zero ⟨y, l, m, zz, jj⟩ cs k j), HB3.out⟩
        case round =>
          obtain ⟨j, hj, rfl, hr, hB⟩ := hrel
          have HR5 := Lib.hid hr; have HB5 := Lib.hid hB; clear hr hB
          have hc8 : j = 0 ∨ j = 1 ∨ j = 2 ∨ j = 3 ∨ j = 4 ∨ j = 5 ∨ j = 6 ∨ j = 7 := by omega
          rcases hc8 with rfl | rfl | rfl | rfl | rfl | rfl | rfl | rfl
          · have hc0 := HR5.out.cell (show 0 < 7 by omega)
            rw [mix_at] at hc0
            have hf0 := HR5.out.frozen 0
            have hb0 := HBT.out 0 (by omega)
            have hbb := bitI_bounds (truths ⟨y, l, m, zz, jj⟩ c) 0
            have hcb := cntTo_bounds ⟨y, l, m, zz, jj⟩ cs k 0
            have HST := Lib.hid (mix_step HP.out 0 _ (rfl : _ = bitI (truths ⟨y, l, m, zz, jj⟩ c) 0))
            generalize bitI (truths ⟨y, l, m, zz, jj⟩ c) 0 = B at hb0 hbb HST
            generalize cntTo ⟨y, l, m, zz, jj⟩ cs k 0 = N at hc0 hcb HST
            have hand : bits .and .i64 (M / 1) 1 = B := hb0
            have hand0 : bits .and .i64 M 1 = B := by have := hand; simpa using this
            have q1 : IntKind.i64.wrap (N + B) = N + B := IntWalk.i64_in _ (by omega)
            clear hb0
            go_wp2_with fail
            go_region
            all_goals
              go_wp2_with fail
              go_roundw
              case rel => exact ⟨1, by omega, by go_num, (HR5.out.below (Below.drew (Below.refl _ _))).set 0 (N + B) HST.out, (HB5.out.drew).setCell (Nat.le_refl _) _⟩
              case measure => simp [intOf]
          · have hc0 := HR5.out.cell (show 1 < 7 by omega)
            rw [mix_at] at hc0
            have hf0 := HR5.out.frozen 1
            have hb0 := HBT.out 1 (by omega)
            have hbb := bitI_bounds (truths ⟨y, l, m, zz, jj⟩ c) 1
            have hcb := cntTo_bounds ⟨y, l, m, zz, jj⟩ cs k 1
            have HST := Lib.hid (mix_step HP.out 1 _ (rfl : _ = bitI (truths ⟨y, l, m, zz, jj⟩ c) 1))
            generalize bitI (truths ⟨y, l, m, zz, jj⟩ c) 1 = B at hb0 hbb HST
            generalize cntTo ⟨y, l, m, zz, jj⟩ cs k 1 = N at hc0 hcb HST
            have hand : bits .and .i64 (M / 2) 1 = B := hb0
            have q1 : IntKind.i64.wrap (N + B) = N + B := IntWalk.i64_in _ (by omega)
            clear hb0
            go_wp2_with fail
            go_region
            all_goals
              go_wp2_with fail
              go_roundw
              case rel => exact ⟨2, by omega, by go_num, (HR5.out.below (Below.drew (Below.refl _ _))).set 1 (N + B) HST.out, (HB5.out.drew).setCell (Nat.le_refl _) _⟩
              case measure => simp [intOf]
          · have hc0 := HR5.out.cell (show 2 < 7 by omega)
            rw [mix_at] at hc0
            have hf0 := HR5.out.frozen 2
            have hb0 := HBT.out 2 (by omega)
            have hbb := bitI_bounds (truths ⟨y, l, m, zz, jj⟩ c) 2
            have hcb := cntTo_bounds ⟨y, l, m, zz, jj⟩ cs k 2
            have HST := Lib.hid (mix_step HP.out 2 _ (rfl : _ = bitI (truths ⟨y, l, m, zz, jj⟩ c) 2))
            generalize bitI (truths ⟨y, l, m, zz, jj⟩ c) 2 = B at hb0 hbb HST
            generalize cntTo ⟨y, l, m, zz, jj⟩ cs k 2 = N at hc0 hcb HST
            have hand : bits .and .i64 (M / 4) 1 = B := hb0
            have q1 : IntKind.i64.wrap (N + B) = N + B := IntWalk.i64_in _ (by omega)
            clear hb0
            go_wp2_with fail
            go_region
            all_goals
              go_wp2_with fail
              go_roundw
              case rel => exact ⟨3, by omega, by go_num, (HR5.out.below (Below.drew (Below.refl _ _))).set 2 (N + B) HST.out, (HB5.out.drew).setCell (Nat.le_refl _) _⟩
              case measure => simp [intOf]
          · have hc0 := HR5.out.cell (show 3 < 7 by omega)
            rw [mix_at] at hc0
            have hf0 := HR5.out.frozen 3
            have hb0 := HBT.out 3 (by omega)
            have hbb := bitI_bounds (truths ⟨y, l, m, zz, jj⟩ c) 3
            have hcb := cntTo_bounds ⟨y, l, m, zz, jj⟩ cs k 3
            have HST := Lib.hid (mix_step HP.out 3 _ (rfl : _ = bitI (truths ⟨y, l, m, zz, jj⟩ c) 3))
            generalize bitI (truths ⟨y, l, m, zz, jj⟩ c) 3 = B at hb0 hbb HST
            generalize cntTo ⟨y, l, m, zz, jj⟩ cs k 3 = N at hc0 hcb HST
            have hand : bits .and .i64 (M / 8) 1 = B := hb0
            have q1 : IntKind.i64.wrap (N + B) = N + B := IntWalk.i64_in _ (by omega)
            clear hb0
            go_wp2_with fail
            go_region
            all_goals
              go_wp2_with fail
              go_roundw
              case rel => exact ⟨4, by omega, by go_num, (HR5.out.below (Below.drew (Below.refl _ _))).set 3 (N + B) HST.out, (HB5.out.drew).setCell (Nat.le_refl _) _⟩
              case measure => simp [intOf]
          · have hc0 := HR5.out.cell (show 4 < 7 by omega)
            rw [mix_at] at hc0
            have hf0 := HR5.out.frozen 4
            have hb0 := HBT.out 4 (by omega)
            have hbb := bitI_bounds (truths ⟨y, l, m, zz, jj⟩ c) 4
            have hcb := cntTo_bounds ⟨y, l, m, zz, jj⟩ cs k 4
            have HST := Lib.hid (mix_step HP.out 4 _ (rfl : _ = bitI (truths ⟨y, l, m, zz, jj⟩ c) 4))
            generalize bitI (truths ⟨y, l, m, zz, jj⟩ c) 4 = B at hb0 hbb HST
            generalize cntTo ⟨y, l, m, zz, jj⟩ cs k 4 = N at hc0 hcb HST
            have hand : bits .and .i64 (M / 16) 1 = B := hb0
            have q1 : IntKind.i64.wrap (N + B) = N + B := IntWalk.i64_in _ (by omega)
            clear hb0
            go_wp2_with fail
            go_region
            all_goals
              go_wp2_with fail
              go_roundw
              case rel => exact ⟨5, by omega, by go_num, (HR5.out.below (Below.drew (Below.refl _ _))).set 4 (N + B) HST.out, (HB5.out.drew).setCell (Nat.le_refl _) _⟩
              case measure => simp [intOf]
          · have hc0 := HR5.out.cell (show 5 < 7 by omega)
            rw [mix_at] at hc0
            have hf0 := HR5.out.frozen 5
            have hb0 := HBT.out 5 (by omega)
            have hbb := bitI_bounds (truths ⟨y, l, m, zz, jj⟩ c) 5
            have hcb := cntTo_bounds ⟨y, l, m, zz, jj⟩ cs k 5
            have HST := Lib.hid (mix_step HP.out 5 _ (rfl : _ = bitI (truths ⟨y, l, m, zz, jj⟩ c) 5))
            generalize bitI (truths ⟨y, l, m, zz, jj⟩ c) 5 = B at hb0 hbb HST
            generalize cntTo ⟨y, l, m, zz, jj⟩ cs k 5 = N at hc0 hcb HST
            have hand : bits .and .i64 (M / 32) 1 = B := hb0
            have q1 : IntKind.i64.wrap (N + B) = N + B := IntWalk.i64_in _ (by omega)
            clear hb0
            go_wp2_with fail
            go_region
            all_goals
              go_wp2_with fail
              go_roundw
              case rel => exact ⟨6, by omega, by go_num, (HR5.out.below (Below.drew (Below.refl _ _))).set 5 (N + B) HST.out, (HB5.out.drew).setCell (Nat.le_refl _) _⟩
              case measure => simp [intOf]
          · have hc0 := HR5.out.cell (show 6 < 7 by omega)
            rw [mix_at] at hc0
            have hf0 := HR5.out.frozen 6
            have hb0 := HBT.out 6 (by omega)
            have hbb := bitI_bounds (truths ⟨y, l, m, zz, jj⟩ c) 6
            have hcb := cntTo_bounds ⟨y, l, m, zz, jj⟩ cs k 6
            have HST := Lib.hid (mix_step HP.out 6 _ (rfl : _ = bitI (truths ⟨y, l, m, zz, jj⟩ c) 6))
            generalize bitI (truths ⟨y, l, m, zz, jj⟩ c) 6 = B at hb0 hbb HST
            generalize cntTo ⟨y, l, m, zz, jj⟩ cs k 6 = N at hc0 hcb HST
            have hand : bits .and .i64 (M / 64) 1 = B := hb0
            have q1 : IntKind.i64.wrap (N + B) = N + B := IntWalk.i64_in _ (by omega)
            clear hb0
            go_wp2_with fail
            go_region
            all_goals
              go_wp2_with fail
              go_roundw
              case rel => exact ⟨7, by omega, by go_num, (HR5.out.below (Below.drew (Below.refl _ _))).set 6 (N + B) HST.out, (HB5.out.drew).setCell (Nat.le_refl _) _⟩
              case measure => simp [intOf]
          · have HR6 := Lib.hid (HR5.out.congr (fun q hq => mix_full ⟨y, l, m, zz, jj⟩ cs k q hq))
            go_wp2_with fail
            go_roundw
            case rel => exact ⟨k + 1, by omega, by go_num, HR6.out, HB5.out⟩
            case measure => simp [intOf]; omega
      · obtain rfl : k = len := by omega
        have HZ := Lib.hid (HR.out.congr (g' := fun j => (countL ⟨y, l, m, zz, jj⟩ cs).getD j 0) (fun j hj => by rw [countL_at ⟨y, l, m, zz, jj⟩ cs hj, HL.out]))
        have HLL := Lib.hid (countL_len ⟨y, l, m, zz, jj⟩ cs)
        go_wp2_with fail
        go_ret2
        rw [HN.out]
        refine ⟨some ⟨w1.heap.size, 0, none⟩, 7, by rw [HLL.out]; rfl, row7_own HZ.out HLL.out HW1.out.size, HW1.out.trans (HB.out.mono HW1.out.size)⟩
  · have HN := Lib.hid (show countR ⟨y, l, m, zz, jj⟩ cs = ([], 1) by unfold countR; rw [if_neg (by rw [h1]; decide)])
    rw [h1] at HC
    clear h1
    go_enter Try.func19, Try.ntmps19
    go_wp2_with fail
    refine HC.out.mono ?_; rintro e w1 ⟨rfl, hB⟩
    have HB1 := Lib.hid (HW.out.trans (hB.mono HW.out.size))
    clear hB
    go_wp2_with fail
    go_ret2
    rw [HN.out]
    exact ⟨none, 0, rfl, .inl rfl, HB1.out⟩

set_option maxRecDepth 100000 in
set_option maxHeartbeats 4000000 in
theorem specCountReasons_any (y l m : Int) (za : Option Addr) (zl zc : Nat) (ja : Option Addr) (jl jc : Nat) (zz jj : List Int) (a : Option Addr) (len cap : Nat) (cs : List Cand) (w : World) (hR : RulesIn w za zl ja jl zz jj) (hl : cs.length = len) (hm : len ≤ maxLen) (hI : CandsAt w a cs) (hF : FitsC cs) :
    Calls Try.prog 20 #[.agg #[.int .i64 y, .int .i64 l, .int .i64 m, .slice za zl zc, .slice ja jl jc], .slice a len cap] w (SaysNewI (countR ⟨y, l, m, zz, jj⟩ cs).1 (countR ⟨y, l, m, zz, jj⟩ cs).2 w) := by
  have HW := Lib.hid (boxed w (.cells #[.int .i64 y, .int .i64 l, .int .i64 m, .slice za zl zc, .slice ja jl jc] 26))
  have HC := Lib.hid (specCode6_any y l m za zl zc ja jl jc zz jj a len cap cs (w.alloc (.cells #[.int .i64 y, .int .i64 l, .int .i64 m, .slice za zl zc, .slice ja jl jc] 26)) (hR.below HW.out) hl hm (hI.below HW.out) hF)
  have HA0 := Lib.hid (atR_box w y l m za zl zc ja jl jc 26)
  have HL := Lib.hid hl; have HI := Lib.hid hI; have HRW := Lib.hid hR
  unfold maxLen at hm
  clear hR hl hI hF
  rcases codeC_cases ⟨y, l, m, zz, jj⟩ cs with ⟨h0, hr, h60, hall⟩ | h1
  · have HN := Lib.hid (show countR ⟨y, l, m, zz, jj⟩ cs = (countL ⟨y, l, m, zz, jj⟩ cs, 0) by unfold countR; rw [if_pos h0])
    have hy := year_of hr
    have HAL := Lib.hid (show ∀ (k : Nat) c, cs[k]? = some c → 1900 ≤ c.p.born ∧ c.p.born ≤ 2100 from fun k c hc => born_of (List.all_eq_true.1 hall c (List.mem_of_getElem? hc)))
    simp only at hy
    rw [HL.out] at h60
    rw [h0] at HC
    clear h0 hr hall
    go_enter Try.func20, Try.ntmps20
    go_wp2_with fail
    refine HC.out.mono ?_; rintro e w1 ⟨rfl, hB⟩
    have HW1 := Lib.hid (HW.out.trans (hB.mono HW.out.size)); have HA1 := Lib.hid (HA0.out.below hB)
    clear hB HC HW HA0
    have hmk := fun W : World => run_make_row' (P := Try.prog) 24 2 (.int .i64 0) 8 Try.underlying24 Try.info_i64 rfl .i64 .i64 7 (by omega) (by omega) W
    have hmk0 : ∀ W : World, (Instr.makeSlice 24 (.int .i64 7) (.int .i64 7)).run Try.prog W = .ok (.slice (some ⟨W.heap.size, 0, none⟩) 7 7) (W.alloc (.cells (madeCells #[.int .i64 0] 7) 2)) := hmk
    have HR0 := Lib.hid ((row7_made w1).congr (fun j _ => cntTo_zero ⟨y, l, m, zz, jj⟩ cs j))
    have HB0 := Lib.hid (boxed w1 (.cells (madeCells #[.int .i64 0] 7) 2))
    clear hmk
    go_wp2_with fail
    clear hmk0
    go_loopw [8, 9, 10] (fun c _ _ wr => ∃ k : Nat, k ≤ len ∧ c = .int .i64 k ∧ Row7 w1.heap.size wr (cntTo ⟨y, l, m, zz, jj⟩ cs k) ∧ Below w1.heap.size w1 wr) (fun c _ _ _ => len - (intOf c).toNat)
    case atStart => exact ⟨0, Nat.zero_le _, rfl, HR0.out, HB0.out⟩
    case round =>
      obtain ⟨k, hk, rfl, hr, hB⟩ := hrel
      have HR := Lib.hid hr; have HB := Lib.hid hB; clear hr hB HR0 HB0
      by_cases hlt : k < len
      · obtain ⟨b, off, c, ha, hc, hp⟩ := (HI.out.below (HW1.out.trans (HB.out.mono HW1.out.size))).at HL.out hlt
        have hbo := HAL.out k c hp
        have HP := Lib.hid hp; clear hp
        subst ha
        obtain ⟨k0, k1, k2, k3, k4, k5, k6, k7, k8⟩ := hc
        have hsz := HB.out.size
        obtain ⟨a0, a1, a2, a3, a4⟩ := HA1.out.below HB.out
        have HK := Lib.hid (show Calls Try.prog 54 #[.agg #[.int .i64 y, .int .i64 l, .int .i64 m, .slice za zl zc, .slice ja jl jc], .agg #[.int .i64 c.p.num, .string c.p.fst, .string c.p.lst, .int .i64 c.p.born, .int .i64 c.p.zone, .bool c.cit, .bool c.con, .bool c.flu, .int .i64 c.job]] wr.drew (SaysBools (truths ⟨y, l, m, zz, jj⟩ c) wr.drew) from specTruths_any y l m za zl zc ja jl jc zz jj c.p.num c.p.fst c.p.lst c.p.born c.p.zone c.cit c.con c.flu c.job wr.drew (HRW.out.below (HW1.out.trans ((HB.out.drew).mono HW1.out.size))) hy hbo)
        cases k with
        | zero =>
          simp only [Nat.zero_mul, Nat.add_zero] at k0 k1 k2 k3 k4 k5 k6 k7 k8
          go_wp2_with fail
          go_region_held (fun W => W.cell? ⟨w.heap.size, 0, none⟩ = some (.int .i64 y) ∧ W.cell? ⟨w.heap.size, 1, none⟩ = some (.int .i64 l) ∧ W.cell? ⟨w.heap.size, 2, none⟩ = some (.int .i64 m) ∧ W.cell? ⟨w.heap.size, 3, none⟩ = some (.slice za zl zc) ∧ W.cell? ⟨w.heap.size, 4, none⟩ = some (.slice ja jl jc) ∧ W.cell? ⟨b, off, none⟩ = some (.int .i64 c.p.num) ∧ W.cell? ⟨b, off + 1, none⟩ = some (.string c.p.fst) ∧ W.cell? ⟨b, off + 2, none⟩ = some (.string c.p.lst) ∧ W.cell? ⟨b, off + 3, none⟩ = some (.int .i64 c.p.born) ∧ W.cell? ⟨b, off + 4, none⟩ = some (.int .i64 c.p.zone) ∧ W.cell? ⟨b, off + 5, none⟩ = some (.bool c.cit) ∧ W.cell? ⟨b, off + 6, none⟩ = some (.bool c.con) ∧ W.cell? ⟨b, off + 7, none⟩ = some (.bool c.flu) ∧ W.cell? ⟨b, off + 8, none⟩ = some (.int .i64 c.job)) (first | exact ⟨a0, a1, a2, a3, a4, k0, k1, k2, k3, k4, k5, k6, k7, k8⟩ | exact ⟨cell_later (w := wr.drew) hB3 a0, cell_later (w := wr.drew) hB3 a1, cell_later (w := wr.drew) hB3 a2, cell_later (w := wr.drew) hB3 a3, cell_later (w := wr.drew) hB3 a4, cell_later (w := wr.drew) hB3 k0, cell_later (w := wr.drew) hB3 k1, cell_later (w := wr.drew) hB3 k2, cell_later (w := wr.drew) hB3 k3, cell_later (w := wr.drew) hB3 k4, cell_later (w := wr.drew) hB3 k5, cell_later (w := wr.drew) hB3 k6, cell_later (w := wr.drew) hB3 k7, cell_later (w := wr.drew) hB3 k8⟩) ((go_at_call 54; refine HK.out.mono ?_; rintro e w3 ⟨b3, rfl, hb3, hbs, hB3⟩))
          all_goals
            have HBS := Lib.hid hbs
            have hb30 : w1.heap.size < b3 := Nat.lt_of_lt_of_le HR.out.lt hb3
            have hBd := Below.drew (Below.refl wr.heap.size wr)
            have HB3 := Lib.hid (HB.out.trans ((hBd.trans hB3).mono HB.out.size)); have HR3 := Lib.hid (HR.out.below (hBd.trans hB3))
            clear hbs hb3 hB3 hBd k0 k1 k2 k3 k4 k5 k6 k7 k8 a0 a1 a2 a3 a4
            go_wp2_with fail
            go_loopw [10] (fun d wv => ∃ j : Nat, j ≤ 7 ∧ d = .int .i64 j ∧ Row7 w1.heap.size wv (mixN ⟨y, l, m, zz, jj⟩ cs 0 j) ∧ BoolsAt wv b3 (truths ⟨y, l, m, zz, jj⟩ c) ∧ w1.heap.size < b3 ∧ Below w1.heap.size w1 wv) (fun d _ => 7 - (intOf d).toNat)
            case atStart => exact ⟨0, Nat.zero_le _, rfl, HR3.out.congr (fun j _ => mix_zero ⟨y, l, m, zz, jj⟩ cs 0 j), HBS.out, hb30, HB3.out⟩
            case round =>
              obtain ⟨j, hj, rfl, hr, hbs, hb3, hB⟩ := hrel
              have HR5 := Lib.hid hr; have HBS5 := Lib.hid hbs; have HB5 := Lib.hid hB; clear hr hB hbs
              by_cases hl7 : j < 7
              · have hx : (truths ⟨y, l, m, zz, jj⟩ c)[j]? = some ((truths ⟨y, l, m, zz, jj⟩ c)[j]'hl7) := List.getElem?_eq_getElem hl7
                generalize (truths ⟨y, l, m, zz, jj⟩ c)[j]'hl7 = v at hx
                have hcv := HBS5.out j v hx
                have hbit := bitI_of hx
                cases v
                · have HS := Lib.hid (mix_skip HP.out j (by rw [hbit]; rfl))
                  clear hx hbit
                  go_wp2_with fail
                  go_roundw
                  case rel => exact ⟨j + 1, by omega, by go_num, HR5.out.congr HS.out, HBS5.out, hb3, HB5.out⟩
                  case measure => simp [intOf]; omega
                · have HS := Lib.hid (mix_step HP.out j 1 (by rw [hbit]; rfl))
                  have hc0 := HR5.out.cell hl7
                  rw [mix_at] at hc0
                  have hf0 := HR5.out.frozen j
                  have hcb := cntTo_bounds ⟨y, l, m, zz, jj⟩ cs 0 j
                  generalize cntTo ⟨y, l, m, zz, jj⟩ cs 0 j = N at hc0 hcb HS
                  clear hx hbit
                  go_wp2_with fail
                  go_roundw
                  case rel => exact ⟨j + 1, by omega, by go_num, HR5.out.set j (N + 1) HS.out, boolsAt_other HBS5.out (by omega) _ _, hb3, HB5.out.setCell (Nat.le_refl _) _⟩
                  case measure => simp [intOf]; omega
              · obtain rfl : j = 7 := by omega
                have HR6 := Lib.hid (HR5.out.congr (fun q hq => mix_full ⟨y, l, m, zz, jj⟩ cs 0 q hq))
                go_wp2_with fail
                go_roundw
                case rel => exact ⟨1, by omega, by go_num, HR6.out, HB5.out⟩
                case measure => simp [intOf]; omega
        | succ i =>
          go_wp2_with fail
          go_region_held (fun W => W.cell? ⟨w.heap.size, 0, none⟩ = some (.int .i64 y) ∧ W.cell? ⟨w.heap.size, 1, none⟩ = some (.int .i64 l) ∧ W.cell? ⟨w.heap.size, 2, none⟩ = some (.int .i64 m) ∧ W.cell? ⟨w.heap.size, 3, none⟩ = some (.slice za zl zc) ∧ W.cell? ⟨w.heap.size, 4, none⟩ = some (.slice ja jl jc) ∧ W.cell? ⟨b, (off + (i + 1) * 9), none⟩ = some (.int .i64 c.p.num) ∧ W.cell? ⟨b, (off + (i + 1) * 9) + 1, none⟩ = some (.string c.p.fst) ∧ W.cell? ⟨b, (off + (i + 1) * 9) + 2, none⟩ = some (.string c.p.lst) ∧ W.cell? ⟨b, (off + (i + 1) * 9) + 3, none⟩ = some (.int .i64 c.p.born) ∧ W.cell? ⟨b, (off + (i + 1) * 9) + 4, none⟩ = some (.int .i64 c.p.zone) ∧ W.cell? ⟨b, (off + (i + 1) * 9) + 5, none⟩ = some (.bool c.cit) ∧ W.cell? ⟨b, (off + (i + 1) * 9) + 6, none⟩ = some (.bool c.con) ∧ W.cell? ⟨b, (off + (i + 1) * 9) + 7, none⟩ = some (.bool c.flu) ∧ W.cell? ⟨b, (off + (i + 1) * 9) + 8, none⟩ = some (.int .i64 c.job)) (first | exact ⟨a0, a1, a2, a3, a4, k0, k1, k2, k3, k4, k5, k6, k7, k8⟩ | exact ⟨cell_later (w := wr.drew) hB3 a0, cell_later (w := wr.drew) hB3 a1, cell_later (w := wr.drew) hB3 a2, cell_later (w := wr.drew) hB3 a3, cell_later (w := wr.drew) hB3 a4, cell_later (w := wr.drew) hB3 k0, cell_later (w := wr.drew) hB3 k1, cell_later (w := wr.drew) hB3 k2, cell_later (w := wr.drew) hB3 k3, cell_later (w := wr.drew) hB3 k4, cell_later (w := wr.drew) hB3 k5, cell_later (w := wr.drew) hB3 k6, cell_later (w := wr.drew) hB3 k7, cell_later (w := wr.drew) hB3 k8⟩) ((go_at_call 54; refine HK.out.mono ?_; rintro e w3 ⟨b3, rfl, hb3, hbs, hB3⟩))
          all_goals
            have HBS := Lib.hid hbs
            have hb30 : w1.heap.size < b3 := Nat.lt_of_lt_of_le HR.out.lt hb3
            have hBd := Below.drew (Below.refl wr.heap.size wr)
            have HB3 := Lib.hid (HB.out.trans ((hBd.trans hB3).mono HB.out.size)); have HR3 := Lib.hid (HR.out.below (hBd.trans hB3))
            clear hbs hb3 hB3 hBd k0 k1 k2 k3 k4 k5 k6 k7 k8 a0 a1 a2 a3 a4
            go_wp2_with fail
            go_loopw [10] (fun d wv => ∃ j : Nat, j ≤ 7 ∧ d = .int .i64 j ∧ Row7 w1.heap.size wv (mixN ⟨y, l, m, zz, jj⟩ cs (i + 1) j) ∧ BoolsAt wv b3 (truths ⟨y, l, m, zz, jj⟩ c) ∧ w1.heap.size < b3 ∧ Below w1.heap.size w1 wv) (fun d _ => 7 - (intOf d).toNat)
            case atStart => exact ⟨0, Nat.zero_le _, rfl, HR3.out.congr (fun j _ => mix_zero ⟨y, l, m, zz, jj⟩ cs (i + 1) j), HBS.out, hb30, HB3.out⟩
            case round =>
              obtain ⟨j, hj, rfl, hr, hbs, hb3, hB⟩ := hrel
              have HR5 := Lib.hid hr; have HBS5 := Lib.hid hbs; have HB5 := Lib.hid hB; clear hr hB hbs
              by_cases hl7 : j < 7
              · have hx : (truths ⟨y, l, m, zz, jj⟩ c)[j]? = some ((truths ⟨y, l, m, zz, jj⟩ c)[j]'hl7) := List.getElem?_eq_getElem hl7
                generalize (truths ⟨y, l, m, zz, jj⟩ c)[j]'hl7 = v at hx
                have hcv := HBS5.out j v hx
                have hbit := bitI_of hx
                cases v
                · have HS := Lib.hid (mix_skip HP.out j (by rw [hbit]; rfl))
                  clear hx hbit
                  go_wp2_with fail
                  go_roundw
                  case rel => exact ⟨j + 1, by omega, by go_num, HR5.out.congr HS.out, HBS5.out, hb3, HB5.out⟩
                  case measure => simp [intOf]; omega
                · have HS := Lib.hid (mix_step HP.out j 1 (by rw [hbit]; rfl))
                  have hc0 := HR5.out.cell hl7
                  rw [mix_at] at hc0
                  have hf0 := HR5.out.frozen j
                  have hcb := cntTo_bounds ⟨y, l, m, zz, jj⟩ cs (i + 1) j
                  generalize cntTo ⟨y, l, m, zz, jj⟩ cs (i + 1) j = N at hc0 hcb HS
                  clear hx hbit
                  go_wp2_with fail
                  go_roundw
                  case rel => exact ⟨j + 1, by omega, by go_num, HR5.out.set j (N + 1) HS.out, boolsAt_other HBS5.out (by omega) _ _, hb3, HB5.out.setCell (Nat.le_refl _) _⟩
                  case measure => simp [intOf]; omega
              · obtain rfl : j = 7 := by omega
                have HR6 := Lib.hid (HR5.out.congr (fun q hq => mix_full ⟨y, l, m, zz, jj⟩ cs (i + 1) q hq))
                go_wp2_with fail
                go_roundw
                case rel => exact ⟨i + 1 + 1, by omega, by go_num, HR6.out, HB5.out⟩
                case measure => simp [intOf]; omega
      · obtain rfl : k = len := by omega
        have HZ := Lib.hid (HR.out.congr (g' := fun j => (countL ⟨y, l, m, zz, jj⟩ cs).getD j 0) (fun j hj => by rw [countL_at ⟨y, l, m, zz, jj⟩ cs hj, HL.out]))
        have HLL := Lib.hid (countL_len ⟨y, l, m, zz, jj⟩ cs)
        go_wp2_with fail
        go_ret2
        rw [HN.out]
        refine ⟨some ⟨w1.heap.size, 0, none⟩, 7, by rw [HLL.out]; rfl, row7_own HZ.out HLL.out HW1.out.size, HW1.out.trans (HB.out.mono HW1.out.size)⟩
  · have HN := Lib.hid (show countR ⟨y, l, m, zz, jj⟩ cs = ([], 1) by unfold countR; rw [if_neg (by rw [h1]; decide)])
    rw [h1] at HC
    clear h1
    go_enter Try.func20, Try.ntmps20
    go_wp2_with fail
    refine HC.out.mono ?_; rintro e w1 ⟨rfl, hB⟩
    have HB1 := Lib.hid (HW.out.trans (hB.mono HW.out.size))
    clear hB
    go_wp2_with fail
    go_ret2
    rw [HN.out]
    exact ⟨none, 0, rfl, .inl rfl, HB1.out⟩

end Go.Proofs.Ytjnjmoiilapbiaa
