/- Contracts of the program's chapter 9: answers counted, the next reminder. (written by impl9.py) -/
import Derived.Test.YtchffaohmeaccaaDoorChecked
import Derived.Test.YtchffaohmeaccaaDoorBase
import Derived.Test.YtchffaohmeaccaaDoorInfo
import Derived.Test.YtchffaohmeaccaaDoorPure2
import Derived.Test.YtchffaohmeaccaaDoorPure20
import Derived.Test.YtchffaohmeaccaaDoorPure40
import Derived.Test.YtchffaohmeaccaaDoorMarkI
import Derived.Test.YtchffaohmeaccaaDoorIntL
import Derived.Test.YtchffaohmeaccaaDoorBuildI
import Derived.Test.YtchffaohmeaccaaDoorRowG
import Derived.Test.YtchffaohmeaccaaDoorSummonsA
import Derived.Test.YtchffaohmeaccaaDoorSummonsB
import Derived.Test.YtchffaohmeaccaaDoorPure90
import Derived.Test.YtchffaohmeaccaaDoorAsR
import Derived.Test.YtchffaohmeaccaaDoorAreDays
import Derived.Test.YtchffaohmeaccaaDoorSpec93
import Derived.Test.YtchffaohmeaccaaDoorImpl9a
import Derived.Test.YtchffaohmeaccaaDoorImpl9b
import Derived.Test.YtchffaohmeaccaaDoorImpl9c
import Derived.WalkKit
import Derived.WalkSpells
import Derived.WalkLawsBesides
import Derived.Lib.Hide
import Derived.Lib.QuietBelow
import Derived.IntWalk
import Derived.Deep.QuietTactic
import Derived.BigQuiet
import Derived.BigRegion
import Derived.OwnWalk
import Derived.RegionTactic
import Derived.Outline
namespace Go.Proofs.YtchffaohmeaccaaDoor
open Go.RowKit Go.Sort Pure1 Pure2 Pure20 Pure40


set_option maxRecDepth 100000 in
set_option maxHeartbeats 4000000 in
theorem implCountAnswers_any (a : Option Addr) (len cap : Nat) (ts : List Summons) (d : Int) (w : World) (hl : ts.length = len) (hm : len ≤ maxLen) (h : Summons.ListAt w a ts) (hg : TypeAt w) :
    Calls Tryd.prog 15 #[.slice a len cap, .int .i64 d] w (SaysNew9 (countR9 ts d).1 (countR9 ts d).2 w) := by
  have HC := Lib.hid (implCheck9_any a len cap ts d w hl hm h)
  rcases codeM_cases ts d with ⟨hc, hA, hd⟩ | hc | hc
  · have HF := Lib.hid (countR9_ok hc)
    have HK := Lib.hid (fun (i : Nat) c (hp : ts[i]? = some c) => areM_at hA hp)
    have hlen : len ≤ 20 := by rw [← hl]; exact areM_len hA
    have HL := Lib.hid hl; have HI := Lib.hid h; clear hl h hm hg
    rw [hc, errV_0] at HC; clear hc hA
    generalize countR9 ts d = v at HF ⊢
    go_enter Tryd.func15, Tryd.ntmps15
    go_wp2_with fail
    refine HC.out.mono ?_; rintro e w1 ⟨rfl, hB⟩
    have HB1 := Lib.hid hB; have HR1 := Lib.hid (RowG.made w1 4); have HB2 := Lib.hid ((Below.refl w1.heap.size w1).alloc (Nat.le_refl _) (.cells (madeCells #[.int .i64 0] 4) 2)); clear hB HC
    have hmk : ∀ W : World, (Instr.makeSlice 27 (.int .i64 4) (.int .i64 4)).run Tryd.prog W = .ok (.slice (some ⟨W.heap.size, 0, none⟩) 4 4) (W.alloc (.cells (madeCells #[.int .i64 0] 4) 2)) := fun W => run_make_row' (P := Tryd.prog) 27 2 (.int .i64 0) 8 Tryd.underlying27 Tryd.info_i64 rfl .i64 .i64 4 (by omega) (by omega) W
    go_wp2_with fail
    clear hmk
    go_loopw [9, 20] (fun _ i wr => ∃ k : Nat, k ≤ len ∧ i = .int .i64 k ∧ RowG w1.heap.size w1.heap.size 4 4 w1 wr (fun j => cntM ts d k j) ∧ Below w1.heap.size w1 wr) (fun _ i _ => len - (intOf i).toNat)
    case atStart => exact ⟨0, Nat.zero_le _, rfl, HR1.out, HB2.out⟩
    case round =>
      obtain ⟨k, hk, rfl, hr, hB⟩ := hrel
      have HR := Lib.hid hr; have HB := Lib.hid hB; clear hr hB HR1 HB2
      by_cases hlt : k < len
      · obtain ⟨b, off, c, ha, hc, hp⟩ := (HI.out.below (HB1.out.trans (HB.out.mono HB1.out.size))).at HL.out hlt
        have HP := Lib.hid hp; clear hp
        subst ha
        obtain ⟨c0, c1, c2, c3, c4⟩ := hc
        have HB2 := Lib.hid (HB.out.alloc HB.out.size (.cells #[.int .i64 c.num, .int .i64 c.sent, .int .i64 c.due, .int .i64 c.ans, .int .i64 c.done] 53))
        have HR2 := Lib.hid (HR.out.grow (Summons.bx wr (.cells #[.int .i64 c.num, .int .i64 c.sent, .int .i64 c.due, .int .i64 c.ans, .int .i64 c.done] 53)) HB.out.size)
        have HX := Lib.hid (Summons.boxed wr c 53)
        obtain ⟨x0, x1, x2, x3, x4⟩ := HX.out
        have HT := Lib.hid (fun W => implSentBy_any c d W)
        have HU := Lib.hid (fun W => implAnswerBy_any c d W)
        by_cases hs : c.sent ≤ d
        · have HS := Lib.hid hs
          have hby := byM_cases (HK.out k c HP.out) d
          rw [decide_eq_true hs] at HT
          clear hs
          have hby : byM d c = ((0 : Nat) : Int) ∨ byM d c = ((1 : Nat) : Int) ∨ byM d c = ((2 : Nat) : Int) ∨ byM d c = ((3 : Nat) : Int) := by omega
          go_wp2_with fail
          refine (HT.out _).mono ?_; rintro e w3 ⟨rfl, hB⟩
          have HR3 := Lib.hid (HR2.out.grow hB HB2.out.size); have HB3 := Lib.hid (HB2.out.trans (hB.mono HB2.out.size)); have HX3 := Lib.hid (HX.out.below hB)
          clear hB c0 c1 c2 c3 c4 x0 x1 x2 x3 x4
          obtain ⟨x0, x1, x2, x3, x4⟩ := HX3.out
          go_wp2_with fail
          refine (HU.out _).mono ?_; rintro e w4 ⟨rfl, hB⟩
          have HR4 := Lib.hid (HR3.out.grow hB HB3.out.size); have HB4 := Lib.hid (HB3.out.trans (hB.mono HB3.out.size))
          clear hB x0 x1 x2 x3 x4
          rcases hby with hz | hz | hz | hz
          · have hzz : byM d c = 0 := hz
            rw [hzz]
            clear hzz
            have hc0 := HR4.out.cell (Nat.le_refl _) (show 0 < 4 by omega)
            have hf0 := HR4.out.frozen 0
            have hcb := cntM_bd ts d k (0 : Nat)
            have HST := Lib.hid (cntRow_add (z := 0) HP.out HS.out hz)
            have hsz4 := HB4.out.size
            (try simp only at hc0)
            generalize cntM ts d k ((0 : Nat) : Int) = N at hc0 hcb HST
            have q1 : IntKind.i64.wrap (N + 1) = N + 1 := IntWalk.i64_in _ (by omega)
            clear hz
            go_wp2_with fail
            go_roundw
            case rel => exact ⟨k + 1, by omega, by go_num, (HR4.out.set (Nat.le_refl _) 0 (N + 1)).congr HST.out, HB4.out.setCell (Nat.le_refl _) _⟩
            case measure => simp [intOf]; omega
          · have hzz : byM d c = 1 := hz
            rw [hzz]
            clear hzz
            have hc0 := HR4.out.cell (Nat.le_refl _) (show 1 < 4 by omega)
            have hf0 := HR4.out.frozen 1
            have hcb := cntM_bd ts d k (1 : Nat)
            have HST := Lib.hid (cntRow_add (z := 1) HP.out HS.out hz)
            have hsz4 := HB4.out.size
            (try simp only at hc0)
            generalize cntM ts d k ((1 : Nat) : Int) = N at hc0 hcb HST
            have q1 : IntKind.i64.wrap (N + 1) = N + 1 := IntWalk.i64_in _ (by omega)
            clear hz
            go_wp2_with fail
            go_roundw
            case rel => exact ⟨k + 1, by omega, by go_num, (HR4.out.set (Nat.le_refl _) 1 (N + 1)).congr HST.out, HB4.out.setCell (Nat.le_refl _) _⟩
            case measure => simp [intOf]; omega
          · have hzz : byM d c = 2 := hz
            rw [hzz]
            clear hzz
            have hc0 := HR4.out.cell (Nat.le_refl _) (show 2 < 4 by omega)
            have hf0 := HR4.out.frozen 2
            have hcb := cntM_bd ts d k (2 : Nat)
            have HST := Lib.hid (cntRow_add (z := 2) HP.out HS.out hz)
            have hsz4 := HB4.out.size
            (try simp only at hc0)
            generalize cntM ts d k ((2 : Nat) : Int) = N at hc0 hcb HST
            have q1 : IntKind.i64.wrap (N + 1) = N + 1 := IntWalk.i64_in _ (by omega)
            clear hz
            go_wp2_with fail
            go_roundw
            case rel => exact ⟨k + 1, by omega, by go_num, (HR4.out.set (Nat.le_refl _) 2 (N + 1)).congr HST.out, HB4.out.setCell (Nat.le_refl _) _⟩
            case measure => simp [intOf]; omega
          · have hzz : byM d c = 3 := hz
            rw [hzz]
            clear hzz
            have hc0 := HR4.out.cell (Nat.le_refl _) (show 3 < 4 by omega)
            have hf0 := HR4.out.frozen 3
            have hcb := cntM_bd ts d k (3 : Nat)
            have HST := Lib.hid (cntRow_add (z := 3) HP.out HS.out hz)
            have hsz4 := HB4.out.size
            (try simp only at hc0)
            generalize cntM ts d k ((3 : Nat) : Int) = N at hc0 hcb HST
            have q1 : IntKind.i64.wrap (N + 1) = N + 1 := IntWalk.i64_in _ (by omega)
            clear hz
            go_wp2_with fail
            go_roundw
            case rel => exact ⟨k + 1, by omega, by go_num, (HR4.out.set (Nat.le_refl _) 3 (N + 1)).congr HST.out, HB4.out.setCell (Nat.le_refl _) _⟩
            case measure => simp [intOf]; omega
        · have hsb : decide (c.sent ≤ d) = false := decide_eq_false hs
          rw [hsb] at HT
          have HN := Lib.hid (cntRow_skip HP.out hs)
          clear hs hsb
          go_wp2_with fail
          refine (HT.out _).mono ?_; rintro e w3 ⟨rfl, hB⟩
          have HR3 := Lib.hid (HR2.out.grow hB HB2.out.size); have HB3 := Lib.hid (HB2.out.trans (hB.mono HB2.out.size))
          clear hB c0 c1 c2 c3 c4 x0 x1 x2 x3 x4
          go_wp2_with fail
          go_roundw
          case rel => exact ⟨k + 1, by omega, by go_num, HR3.out.congr HN.out, HB3.out⟩
          case measure => simp [intOf]; omega
      · have HO := Lib.hid (cntRow_own (show ts.length ≤ k by rw [HL.out]; omega) (show k ≤ ts.length by rw [HL.out]; exact hk) (Nat.le_refl _) HR.out)
        go_wp2_with fail
        go_ret2
        rw [HF.out]
        exact ⟨_, _, rfl, ownI_base9 HO.out HB1.out.size, HB1.out.trans (HB.out.mono HB1.out.size)⟩
  · have HF := Lib.hid (countR9_bad hc (by omega))
    have HT := Lib.hid (fun (W : World) (hB : Below w.heap.size w W) => implCodeHit 1 W (hg.below hB))
    rw [hc, errV_ne (by omega)] at HC; clear hc
    generalize countR9 ts d = v at HF ⊢
    go_enter Tryd.func15, Tryd.ntmps15
    go_wp2_with fail
    refine HC.out.mono ?_; rintro e w1 ⟨rfl, hB⟩
    have HB := Lib.hid hB; have HT1 := Lib.hid (HT.out w1 hB); clear hB
    go_wp2_with fail
    refine HT1.out.mono ?_; rintro e w2 ⟨rfl, hB⟩
    have HB2 := Lib.hid (HB.out.trans (hB.mono HB.out.size)); clear hB
    go_wp2_with fail
    go_ret2
    rw [HF.out]
    exact ⟨_, _, rfl, .inl rfl, HB2.out⟩
  · have HF := Lib.hid (countR9_bad hc (by omega))
    have HT := Lib.hid (fun (W : World) (hB : Below w.heap.size w W) => implCodeHit 2 W (hg.below hB))
    rw [hc, errV_ne (by omega)] at HC; clear hc
    generalize countR9 ts d = v at HF ⊢
    go_enter Tryd.func15, Tryd.ntmps15
    go_wp2_with fail
    refine HC.out.mono ?_; rintro e w1 ⟨rfl, hB⟩
    have HB := Lib.hid hB; have HT1 := Lib.hid (HT.out w1 hB); clear hB
    go_wp2_with fail
    refine HT1.out.mono ?_; rintro e w2 ⟨rfl, hB⟩
    have HB2 := Lib.hid (HB.out.trans (hB.mono HB.out.size)); clear hB
    go_wp2_with fail
    go_ret2
    rw [HF.out]
    exact ⟨_, _, rfl, .inl rfl, HB2.out⟩

def SaysNE9 (x c : Int) (w : World) (e : Ending) (w' : World) : Prop := e = .returned (.tuple #[.int .i64 x, errV c]) ∧ Below w.heap.size w w'
theorem rems_get (c : Summons) {j : Nat} (hj : j < 3) : (remsL c)[j]? = some (c.due + 1 + (j : Int) * 14) := by
  have hc : j = 0 ∨ j = 1 ∨ j = 2 := by omega
  rcases hc with rfl | rfl | rfl
  · show some (c.due + 1) = _; congr 1; omega
  · show some (c.due + 15) = _; congr 1; omega
  · show some (c.due + 29) = _; congr 1; omega
set_option maxRecDepth 100000 in
set_option maxHeartbeats 4000000 in
theorem implNextRem_any (a : Option Addr) (len cap : Nat) (ts : List Summons) (d : Int) (w : World) (hl : ts.length = len) (hm : len ≤ maxLen) (h : Summons.ListAt w a ts) :
    Calls Tryd.prog 54 #[.slice a len cap, .int .i64 d] w (SaysNE9 (nextR9 ts d).1 (nextR9 ts d).2 w) := by
  have HC := Lib.hid (implCheck9_any a len cap ts d w hl hm h)
  rcases codeM_cases ts d with ⟨hc, hA, hd⟩ | hc | hc
  · have HF := Lib.hid (nextR9_ok hc)
    have HK := Lib.hid (fun (i : Nat) c (hp : ts[i]? = some c) => okM_parts (areM_at hA hp))
    have hlen : len ≤ 20 := by rw [← hl]; exact areM_len hA
    have HL := Lib.hid hl; have HI := Lib.hid h; clear hl h hm
    rw [hc, errV_0] at HC; clear hc hA
    generalize nextR9 ts d = v at HF ⊢
    go_enter Tryd.func54, Tryd.ntmps54
    go_wp2_with fail
    refine HC.out.mono ?_; rintro e w1 ⟨rfl, hB⟩
    have HB1 := Lib.hid hB; clear hB HC
    go_wp2_with fail
    go_loopw [7, 9, 11, 20, 27] (fun n _ _ i _ wr => ∃ (k : Nat) (m : Int), k ≤ len ∧ i = .int .i64 k ∧ n = .int .i64 m ∧ MinRem ts d k 0 m ∧ Below w.heap.size w wr) (fun _ _ _ i _ _ => len - (intOf i).toNat)
    case atStart => exact ⟨0, 20001, Nat.zero_le _, rfl, rfl, minRem_zero ts d, HB1.out⟩
    case round =>
      obtain ⟨k, m, hk, rfl, rfl, hM, hB⟩ := hrel
      have HM := Lib.hid hM; have HB := Lib.hid hB; clear hM hB HB1
      by_cases hlt : k < len
      · obtain ⟨b, off, c, ha, hc, hp⟩ := (HI.out.below HB.out).at HL.out hlt
        have HP := Lib.hid hp; clear hp
        subst ha
        obtain ⟨c0, c1, c2, c3, c4⟩ := hc
        have hdue := HK.out k c HP.out
        have HB2 := Lib.hid (HB.out.alloc HB.out.size (.cells #[.int .i64 c.num, .int .i64 c.sent, .int .i64 c.due, .int .i64 c.ans, .int .i64 c.done] 53))
        have HX := Lib.hid (Summons.boxed wr c 53)
        obtain ⟨x0, x1, x2, x3, x4⟩ := HX.out
        have HT := Lib.hid (fun W => implRems_any c W (by omega) (by omega))
        have hd0 : 0 ≤ c.due ∧ c.due ≤ 20000 := by omega
        clear hdue
        go_wp2_with fail
        refine (HT.out _).mono ?_; rintro e w3 ⟨br, rfl, hI, hB⟩
        have HI3 := Lib.hid hI; have HB3 := Lib.hid (HB2.out.trans (hB.mono HB2.out.size)); have HX3 := Lib.hid (HX.out.below hB)
        clear hI hB c0 c1 c2 c3 c4 x0 x1 x2 x3 x4
        obtain ⟨bw, hbw⟩ : ∃ bw, wr.heap.size = bw := ⟨_, rfl⟩
        rw [hbw] at HX3
        (try rw [hbw])
        clear hbw HX
        go_wp2_with fail
        go_loopw [7, 11, 27] (fun n _ i wv => ∃ (j : Nat) (q : Int), j ≤ 3 ∧ i = .int .i64 j ∧ n = .int .i64 q ∧ MinRem ts d k j q ∧ wv = w3) (fun _ _ i _ => 3 - (intOf i).toNat)
        case atStart => exact ⟨0, m, by omega, rfl, rfl, HM.out, rfl⟩
        case round =>
          obtain ⟨j, q, hj, rfl, rfl, hM, rfl⟩ := hrel
          have HM2 := Lib.hid hM; clear hM
          obtain ⟨x0, x1, x2, x3, x4⟩ := HX3.out
          by_cases hj3 : j < 3
          · obtain ⟨b', off', y, e', hcy, _, hy⟩ := HI3.out.at (len := 3) rfl hj3
            cases e'
            rw [Nat.zero_add] at hcy
            have hy : y = c.due + 1 + (j : Int) * 14 := by rw [rems_get c hj3] at hy; exact (Option.some.inj hy).symm
            have HY := Lib.hid hy; clear hy
            by_cases h0 : c.ans = 0
            · have h0b : (c.ans == 0) = true := beq_iff_eq.2 h0
              by_cases hdy : d < y
              · have HN := Lib.hid (minRem_take HM2.out HP.out hj3 h0 (by rw [← HY.out]; exact hdy))
                rw [← HY.out] at HN
                have hqm : q ≤ y ∨ y < q := by omega
                clear h0
                rcases hqm with hqm | hqm
                · have hmn : min q y = q := by omega
                  rw [hmn] at HN
                  clear hmn
                  go_wp2_with fail
                  go_roundw
                  case rel => exact ⟨j + 1, q, by omega, by go_num, by rfl, HN.out, trivial⟩
                  case measure => simp [intOf]; omega
                · have hmn : min q y = y := by omega
                  rw [hmn] at HN
                  clear hmn
                  go_wp2_with fail
                  go_roundw
                  case rel => exact ⟨j + 1, y, by omega, by go_num, by rfl, HN.out, trivial⟩
                  case measure => simp [intOf]; omega
              · have HN := Lib.hid (minRem_skip HM2.out HP.out (fun h => hdy (by rw [HY.out]; exact h.2)))
                have hdb : decide (d < y) = false := decide_eq_false hdy
                clear h0
                go_wp2_with fail
                go_roundw
                case rel => exact ⟨j + 1, q, by omega, by go_num, rfl, HN.out, trivial⟩
                case measure => simp [intOf]; omega
            · have h0b : (c.ans == 0) = false := beq_eq_false_iff_ne.2 h0
              have HN := Lib.hid (minRem_skip HM2.out HP.out (fun h => h0 h.1))
              clear h0
              go_wp2_with fail
              go_roundw
              case rel => exact ⟨j + 1, q, by omega, by go_num, rfl, HN.out, trivial⟩
              case measure => simp [intOf]; omega
          · obtain rfl : j = 3 := by omega
            have HN := Lib.hid (minRem_next HM2.out)
            go_wp2_with fail
            go_roundw
            case rel => exact ⟨k + 1, q, by omega, by go_num, rfl, HN.out, HB3.out⟩
            case measure => simp [intOf]; omega
      · have HN := Lib.hid (minRem_end HM.out (show ts.length ≤ k by rw [HL.out]; omega))
        by_cases hbig : 20000 < m
        · rw [if_pos hbig] at HN
          go_wp2_with fail
          go_ret2
          rw [HF.out, HN.out]
          exact ⟨by rw [errV_ne (by omega)]; rfl, HB.out⟩
        · rw [if_neg hbig] at HN
          have hbb : decide (20000 < m) = false := decide_eq_false hbig
          go_wp2_with fail
          go_ret2
          rw [HF.out, HN.out]
          exact ⟨by rw [errV_0]; rfl, HB.out⟩
  · have HF := Lib.hid (nextR9_bad hc (by omega))
    rw [hc, errV_ne (by omega)] at HC; clear hc
    generalize nextR9 ts d = v at HF ⊢
    go_enter Tryd.func54, Tryd.ntmps54
    go_wp2_with fail
    refine HC.out.mono ?_; rintro e w1 ⟨rfl, hB⟩
    have HB := Lib.hid hB; clear hB
    go_wp2_with fail
    go_ret2
    rw [HF.out]
    exact ⟨by rw [errV_ne (by omega)]; rfl, HB.out⟩
  · have HF := Lib.hid (nextR9_bad hc (by omega))
    rw [hc, errV_ne (by omega)] at HC; clear hc
    generalize nextR9 ts d = v at HF ⊢
    go_enter Tryd.func54, Tryd.ntmps54
    go_wp2_with fail
    refine HC.out.mono ?_; rintro e w1 ⟨rfl, hB⟩
    have HB := Lib.hid hB; clear hB
    go_wp2_with fail
    go_ret2
    rw [HF.out]
    exact ⟨by rw [errV_ne (by omega)]; rfl, HB.out⟩

set_option maxHeartbeats 1000000 in
theorem implNextReminder_any (a : Option Addr) (len cap : Nat) (ts : List Summons) (d : Int) (w : World) (hl : ts.length = len) (hm : len ≤ maxLen) (h : Summons.ListAt w a ts) (hg : TypeAt w) :
    Calls Tryd.prog 18 #[.slice a len cap, .int .i64 d] w (SaysN9 (nextR9 ts d).1 (nextR9 ts d).2 w) := by
  have HC := Lib.hid (implNextRem_any a len cap ts d w hl hm h)
  have HT := Lib.hid (fun (W : World) (hB : Below w.heap.size w W) => implCode9 (nextR9 ts d).2 W (hg.below hB))
  clear h hg
  obtain ⟨x, c, hr⟩ : ∃ x c, nextR9 ts d = (x, c) := ⟨_, _, rfl⟩
  rw [hr] at HC HT ⊢
  clear hr
  go_enter Tryd.func18, Tryd.ntmps18
  go_wp2_with fail
  refine HC.out.mono ?_; rintro e w1 ⟨rfl, hB⟩
  have HB := Lib.hid hB
  have HT1 := Lib.hid (HT.out w1 hB); clear hB
  (try simp only at HT1)
  go_wp2_with fail
  refine HT1.out.mono ?_; rintro e w2 ⟨rfl, hB⟩
  have HB2 := Lib.hid (HB.out.trans (hB.mono HB.out.size)); clear hB
  go_wp2_with fail
  go_ret2
  exact ⟨rfl, HB2.out⟩
end Go.Proofs.YtchffaohmeaccaaDoor
