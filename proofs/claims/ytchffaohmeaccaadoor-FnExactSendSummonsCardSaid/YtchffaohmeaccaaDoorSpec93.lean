/- Contracts of chapter 9's model: answers counted, the next reminder. (written by impl9.py) -/
import Derived.Test.YtchffaohmeaccaaDoorChecked
import Derived.Test.YtchffaohmeaccaaDoorBase0
import Derived.Test.YtchffaohmeaccaaDoorInfo
import Derived.Test.YtchffaohmeaccaaDoorMarkI
import Derived.Test.YtchffaohmeaccaaDoorIntL
import Derived.Test.YtchffaohmeaccaaDoorBuildI
import Derived.Test.YtchffaohmeaccaaDoorRowG
import Derived.Test.YtchffaohmeaccaaDoorSummonsB
import Derived.Test.YtchffaohmeaccaaDoorSpec90
import Derived.Test.YtchffaohmeaccaaDoorSpec91
import Derived.Test.YtchffaohmeaccaaDoorSpec92
import Derived.WalkKit
import Derived.WalkSpells
import Derived.WalkLawsBesides
import Derived.Lib.Hide
import Derived.Lib.QuietBelow
import Derived.IntWalk
import Derived.Deep.QuietTactic
import Derived.BigQuiet
import Derived.BigRegion
import Derived.OwnWalk
import Derived.RegionTactic
import Derived.Outline
namespace Go.Proofs.YtchffaohmeaccaaDoor
open Go.RowKit Go.Sort Pure1 Pure2 Pure20 Pure40

/-- numbers of our own and a code -/
def SaysNew9 (zs : List Int) (n : Int) (w : World) (e : Ending) (w' : World) : Prop :=
  ∃ a cap, e = .returned (.tuple #[.slice a zs.length cap, .int .i64 n]) ∧ OwnI w.heap.size w' a zs.length (fun i => zs.getD i 0) ∧ Below w.heap.size w w'
theorem cntRow_skip {ts : List Summons} {k : Nat} {s : Summons} (hs : ts[k]? = some s) {d : Int} (h : ¬ s.sent ≤ d) : ∀ j : Nat, j < 4 → cntM ts d k j = cntM ts d (k + 1) j := by
  intro j _
  rw [cntM_step hs, if_neg (fun hh => h hh.1)]; omega
theorem cntRow_add {ts : List Summons} {k : Nat} {s : Summons} (hs : ts[k]? = some s) {d : Int} (h : s.sent ≤ d) {z : Nat} (he : byM d s = z) : ∀ j : Nat, j < 4 → (if j = z then cntM ts d k z + 1 else cntM ts d k j) = cntM ts d (k + 1) j := by
  intro j _
  rw [cntM_step hs]
  by_cases e : j = z
  · subst e; rw [if_pos rfl, if_pos ⟨h, he⟩]
  · rw [if_neg e, if_neg (fun hh => e (by have := hh.2; rw [he] at this; omega))]; omega
theorem cntRow_own {ts : List Summons} {d : Int} {k B b : Nat} {w0 w : World} (hk : ts.length ≤ k) (hk' : k ≤ ts.length) (hB : B ≤ b) (h : RowG B b 4 4 w0 w (fun j => cntM ts d k j)) : OwnI B w (some ⟨b, 0, none⟩) (countL ts d ts.length).length (fun i => (countL ts d ts.length).getD i 0) := by
  obtain rfl : k = ts.length := by omega
  refine RowG.own (N := 4) (w0 := w0) (h.congr fun x hx => ?_) (Nat.le_refl _) hB
  have hc : x = 0 ∨ x = 1 ∨ x = 2 ∨ x = 3 := by omega
  rcases hc with rfl | rfl | rfl | rfl <;> rfl
theorem byM_open {d : Int} {s : Summons} (h1 : s.sent ≤ d) (h : openM d s = true) : byM d s = 0 := by
  rw [openM_by, decide_eq_true h1] at h; simpa using h
theorem byM_shut {d : Int} {s : Summons} (h0 : okM s = true) (h1 : s.sent ≤ d) (h : openM d s = false) : byM d s = s.ans ∧ (s.ans = 1 ∨ s.ans = 2 ∨ s.ans = 3) := by
  obtain ⟨_, _, _, h4⟩ := okM_parts h0
  rw [openM_by, decide_eq_true h1] at h
  have h : byM d s ≠ 0 := by simpa using h
  unfold byM at h ⊢
  split at h
  · exact absurd rfl h
  · rename_i hn
    rw [if_neg hn]
    exact ⟨rfl, by omega⟩
theorem ownI_base9 {B C : Nat} {w : World} {a : Option Addr} {len : Nat} {g : Nat → Int} (h : OwnI C w a len g) (hBC : B ≤ C) : OwnI B w a len g := by
  rcases h with h | ⟨b, f, N, e, hB, h2⟩
  · exact .inl h
  · exact .inr ⟨b, f, N, e, by omega, h2⟩

set_option maxRecDepth 100000 in
set_option maxHeartbeats 4000000 in
theorem specCountAnswers_any (a : Option Addr) (len cap : Nat) (ts : List Summons) (d : Int) (w : World) (hl : ts.length = len) (hm : len ≤ maxLen) (h : Summons.ListAt w a ts) :
    Calls Tryd.prog 16 #[.slice a len cap, .int .i64 d] w (SaysNew9 (countR9 ts d).1 (countR9 ts d).2 w) := by
  have HC := Lib.hid (specDay9_any a len cap ts d w hl hm h)
  rcases codeM_cases ts d with ⟨hc, hA, hd⟩ | hc | hc
  · have HF := Lib.hid (countR9_ok hc)
    have HK := Lib.hid (fun (i : Nat) c (hp : ts[i]? = some c) => areM_at hA hp)
    have hlen : len ≤ 20 := by rw [← hl]; exact areM_len hA
    have HL := Lib.hid hl; have HI := Lib.hid h; clear hl h hm
    rw [hc] at HC; clear hc hA
    generalize countR9 ts d = v at HF ⊢
    go_enter Tryd.func16, Tryd.ntmps16
    go_wp2_with fail
    refine HC.out.mono ?_; rintro e w1 ⟨rfl, hB⟩
    have HB1 := Lib.hid hB; have HR1 := Lib.hid (RowG.made w1 4); have HB2 := Lib.hid ((Below.refl w1.heap.size w1).alloc (Nat.le_refl _) (.cells (madeCells #[.int .i64 0] 4) 2)); clear hB HC
    have hmk : ∀ W : World, (Instr.makeSlice 27 (.int .i64 4) (.int .i64 4)).run Tryd.prog W = .ok (.slice (some ⟨W.heap.size, 0, none⟩) 4 4) (W.alloc (.cells (madeCells #[.int .i64 0] 4) 2)) := fun W => run_make_row' (P := Tryd.prog) 27 2 (.int .i64 0) 8 Tryd.underlying27 Tryd.info_i64 rfl .i64 .i64 4 (by omega) (by omega) W
    go_wp2_with fail
    clear hmk
    go_loopw [8, 20, 21, 22, 23, 24, 25, 26, 27, 28, 29, 30, 31, 32, 33, 34, 35, 36, 37, 38, 39, 40] (fun i _ _ _ _ _ _ _ _ _ _ _ _ _ _ _ _ _ _ _ _ _ wr => ∃ k : Nat, k ≤ len ∧ i = .int .i64 k ∧ RowG w1.heap.size w1.heap.size 4 4 w1 wr (fun j => cntM ts d k j) ∧ Below w1.heap.size w1 wr) (fun i _ _ _ _ _ _ _ _ _ _ _ _ _ _ _ _ _ _ _ _ _ _ => len - (intOf i).toNat)
    case atStart => exact ⟨0, Nat.zero_le _, rfl, HR1.out, HB2.out⟩
    case round =>
      obtain ⟨k, hk, rfl, hr, hB⟩ := hrel
      have HR := Lib.hid hr; have HB := Lib.hid hB; clear hr hB HR1 HB2
      by_cases hlt : k < len
      · obtain ⟨b, off, c, ha, hc, hp⟩ := (HI.out.below (HB1.out.trans (HB.out.mono HB1.out.size))).at HL.out hlt
        have HP := Lib.hid hp; clear hp
        subst ha
        have HX := Lib.hid hc
        obtain ⟨c0, c1, c2, c3, c4⟩ := hc
        by_cases hs : c.sent ≤ d
        · have hsb : decide (d < c.sent) = false := decide_eq_false (by omega)
          have HS := Lib.hid hs
          have HT := Lib.hid (specOpen9_any c d wr)
          cases hv : openM d c
          · have hsh := byM_shut (HK.out k c HP.out) hs hv
            rw [hv] at HT; clear hv
            go_wp2_with fail
            refine HT.out.mono ?_; rintro e w3 ⟨rfl, hB⟩
            have HR3 := Lib.hid (HR.out.grow hB HB.out.size); have HB3 := Lib.hid (HB.out.trans (hB.mono HB.out.size))
            obtain ⟨c0', c1', c2', c3', c4'⟩ := HX.out.below hB
            clear hB c0 c1 c2 c3 c4
            obtain ⟨hby, ha⟩ := hsh
            rcases ha with ha | ha | ha
            · rw [ha] at c3'
              have hc0 := HR3.out.cell (Nat.le_refl _) (show 1 < 4 by omega)
              have hf0 := HR3.out.frozen 1
              have hcb := cntM_bd ts d k (1 : Nat)
              have HST := Lib.hid (cntRow_add (z := 1) HP.out HS.out (hby.trans ha))
              have hsz3 := HB3.out.size
              (try simp only at hc0)
              generalize cntM ts d k ((1 : Nat) : Int) = N at hc0 hcb HST
              have q1 : IntKind.i64.wrap (N + 1) = N + 1 := IntWalk.i64_in _ (by omega)
              go_wp2_with fail
              go_roundw
              case rel => exact ⟨k + 1, by omega, by go_num, (HR3.out.set (Nat.le_refl _) 1 (N + 1)).congr HST.out, HB3.out.setCell (Nat.le_refl _) _⟩
              case measure => simp [intOf]; omega
            · rw [ha] at c3'
              have hc0 := HR3.out.cell (Nat.le_refl _) (show 2 < 4 by omega)
              have hf0 := HR3.out.frozen 2
              have hcb := cntM_bd ts d k (2 : Nat)
              have HST := Lib.hid (cntRow_add (z := 2) HP.out HS.out (hby.trans ha))
              have hsz3 := HB3.out.size
              (try simp only at hc0)
              generalize cntM ts d k ((2 : Nat) : Int) = N at hc0 hcb HST
              have q1 : IntKind.i64.wrap (N + 1) = N + 1 := IntWalk.i64_in _ (by omega)
              go_wp2_with fail
              go_roundw
              case rel => exact ⟨k + 1, by omega, by go_num, (HR3.out.set (Nat.le_refl _) 2 (N + 1)).congr HST.out, HB3.out.setCell (Nat.le_refl _) _⟩
              case measure => simp [intOf]; omega
            · rw [ha] at c3'
              have hc0 := HR3.out.cell (Nat.le_refl _) (show 3 < 4 by omega)
              have hf0 := HR3.out.frozen 3
              have hcb := cntM_bd ts d k (3 : Nat)
              have HST := Lib.hid (cntRow_add (z := 3) HP.out HS.out (hby.trans ha))
              have hsz3 := HB3.out.size
              (try simp only at hc0)
              generalize cntM ts d k ((3 : Nat) : Int) = N at hc0 hcb HST
              have q1 : IntKind.i64.wrap (N + 1) = N + 1 := IntWalk.i64_in _ (by omega)
              go_wp2_with fail
              go_roundw
              case rel => exact ⟨k + 1, by omega, by go_num, (HR3.out.set (Nat.le_refl _) 3 (N + 1)).congr HST.out, HB3.out.setCell (Nat.le_refl _) _⟩
              case measure => simp [intOf]; omega
          · have hby := byM_open hs hv
            rw [hv] at HT; clear hv
            go_wp2_with fail
            refine HT.out.mono ?_; rintro e w3 ⟨rfl, hB⟩
            have HR3 := Lib.hid (HR.out.grow hB HB.out.size); have HB3 := Lib.hid (HB.out.trans (hB.mono HB.out.size))
            clear hB c0 c1 c2 c3 c4
            have hc0 := HR3.out.cell (Nat.le_refl _) (show 0 < 4 by omega)
            have hf0 := HR3.out.frozen 0
            have hcb := cntM_bd ts d k (0 : Nat)
            have HST := Lib.hid (cntRow_add (z := 0) HP.out HS.out hby)
            have hsz3 := HB3.out.size
            (try simp only at hc0)
            generalize cntM ts d k ((0 : Nat) : Int) = N at hc0 hcb HST
            have q1 : IntKind.i64.wrap (N + 1) = N + 1 := IntWalk.i64_in _ (by omega)
            go_wp2_with fail
            go_roundw
            case rel => exact ⟨k + 1, by omega, by go_num, (HR3.out.set (Nat.le_refl _) 0 (N + 1)).congr HST.out, HB3.out.setCell (Nat.le_refl _) _⟩
            case measure => simp [intOf]; omega
        · have hsb : d < c.sent := by omega
          have HN := Lib.hid (cntRow_skip HP.out hs)
          go_wp2_with fail
          go_roundw
          case rel => exact ⟨k + 1, by omega, by go_num, HR.out.congr HN.out, HB.out⟩
          case measure => simp [intOf]; omega
      · have HO := Lib.hid (cntRow_own (show ts.length ≤ k by rw [HL.out]; omega) (show k ≤ ts.length by rw [HL.out]; exact hk) (Nat.le_refl _) HR.out)
        go_wp2_with fail
        go_ret2
        rw [HF.out]
        exact ⟨_, _, rfl, ownI_base9 HO.out HB1.out.size, HB1.out.trans (HB.out.mono HB1.out.size)⟩
  · have HF := Lib.hid (countR9_bad hc (by omega))
    rw [hc] at HC; clear hc
    generalize countR9 ts d = v at HF ⊢
    go_enter Tryd.func16, Tryd.ntmps16
    go_wp2_with fail
    refine HC.out.mono ?_; rintro e w1 ⟨rfl, hB⟩
    have HB := Lib.hid hB; clear hB
    go_wp2_with fail
    go_ret2
    rw [HF.out]
    exact ⟨_, _, rfl, .inl rfl, HB.out⟩
  · have HF := Lib.hid (countR9_bad hc (by omega))
    rw [hc] at HC; clear hc
    generalize countR9 ts d = v at HF ⊢
    go_enter Tryd.func16, Tryd.ntmps16
    go_wp2_with fail
    refine HC.out.mono ?_; rintro e w1 ⟨rfl, hB⟩
    have HB := Lib.hid hB; clear hB
    go_wp2_with fail
    go_ret2
    rw [HF.out]
    exact ⟨_, _, rfl, .inl rfl, HB.out⟩

theorem anyRem_yes {ts : List Summons} {n : Int} {i : Nat} {s : Summons} (h1 : ts[i]? = some s) (h2 : s.ans = 0) (h3 : remD n s = true) : anyRem ts n := ⟨i, s, h1, h2, h3⟩
theorem noRem_more {ts : List Summons} {n : Int} {k : Nat} {c : Summons} (h : ∀ (i : Nat) s, i < k → ts[i]? = some s → s.ans = 0 → remD n s = false) (hc : ts[k]? = some c) (h' : c.ans = 0 → remD n c = false) : ∀ (i : Nat) s, i < k + 1 → ts[i]? = some s → s.ans = 0 → remD n s = false := by
  intro i s hi hs
  by_cases e : i = k
  · subst e; rw [hc] at hs; cases hs; exact h'
  · exact h i s (by omega) hs
set_option maxRecDepth 100000 in
set_option maxHeartbeats 4000000 in
theorem specNextReminder_any (a : Option Addr) (len cap : Nat) (ts : List Summons) (d : Int) (w : World) (hl : ts.length = len) (hm : len ≤ maxLen) (h : Summons.ListAt w a ts) :
    Calls Tryd.prog 19 #[.slice a len cap, .int .i64 d] w (SaysN9 (nextR9 ts d).1 (nextR9 ts d).2 w) := by
  have HC := Lib.hid (specDay9_any a len cap ts d w hl hm h)
  rcases codeM_cases ts d with ⟨hc, hA, hd⟩ | hc | hc
  · have HF := Lib.hid (nextR9_ok hc)
    have HK := Lib.hid (fun (i : Nat) c (hp : ts[i]? = some c) => okM_parts (areM_at hA hp))
    have hlen : len ≤ 20 := by rw [← hl]; exact areM_len hA
    have HL := Lib.hid hl; have HI := Lib.hid h; clear hl h hm
    rw [hc] at HC; clear hc hA
    generalize nextR9 ts d = v at HF ⊢
    go_enter Tryd.func19, Tryd.ntmps19
    go_wp2_with fail
    refine HC.out.mono ?_; rintro e w1 ⟨rfl, hB⟩
    have HB1 := Lib.hid hB; clear hB HC
    go_wp2_with fail
    go_loopw [7, 8] (fun n _ wr => ∃ m : Int, d < m ∧ m ≤ 20001 ∧ n = .int .i64 m ∧ (∀ x, d < x → x < m → ¬ anyRem ts x) ∧ Below w.heap.size w wr) (fun n _ _ => (20001 - intOf n).toNat)
    case atStart => exact ⟨d + 1, by omega, by omega, rfl, fun x h1 h2 => by omega, HB1.out⟩
    case round =>
      obtain ⟨m, hm1, hm2, rfl, hno, hB⟩ := hrel
      have HN := Lib.hid hno; have HB := Lib.hid hB; clear hno hB HB1
      by_cases hlt : m ≤ 20000
      · go_wp2_with fail
        go_loopw [8] (fun i wv => ∃ k : Nat, k ≤ len ∧ i = .int .i64 k ∧ (∀ (i : Nat) s, i < k → ts[i]? = some s → s.ans = 0 → remD m s = false) ∧ Below w.heap.size w wv) (fun i _ => len - (intOf i).toNat)
        case atStart => exact ⟨0, Nat.zero_le _, rfl, fun i s hi => by omega, HB.out⟩
        case round =>
          obtain ⟨k, hk, rfl, hn, hB⟩ := hrel
          have HM := Lib.hid hn; have HB2 := Lib.hid hB; clear hn hB
          by_cases hkl : k < len
          · obtain ⟨b, off, c, ha, hc, hp⟩ := (HI.out.below HB2.out).at HL.out hkl
            have HP := Lib.hid hp; clear hp
            subst ha
            obtain ⟨c0, c1, c2, c3, c4⟩ := hc
            by_cases h0 : c.ans = 0
            · have h0b : (c.ans == 0) = true := beq_iff_eq.2 h0
              have HT := Lib.hid (fun W => specRem9_any c m W (by omega) (by omega) (by have := HK.out _ _ HP.out; omega) (by have := HK.out _ _ HP.out; omega))
              have H0 := Lib.hid h0
              clear h0
              cases hv : remD m c
              · have HQ := Lib.hid (noRem_more HM.out HP.out (fun _ => hv))
                rw [hv] at HT; clear hv
                go_wp2_with fail
                refine (HT.out _).mono ?_; rintro e w3 ⟨rfl, hB⟩
                have HB3 := Lib.hid (HB2.out.trans (hB.mono HB2.out.size)); clear hB c0 c1 c2 c3 c4
                go_wp2_with fail
                go_roundw
                case rel => exact ⟨k + 1, by omega, by go_num, HQ.out, HB3.out⟩
                case measure => simp [intOf]; omega
              · have HQ := Lib.hid (remL_found hm1 hlt HN.out (anyRem_yes HP.out H0.out hv))
                rw [hv] at HT; clear hv
                go_wp2_with fail
                refine (HT.out _).mono ?_; rintro e w3 ⟨rfl, hB⟩
                have HB3 := Lib.hid (HB2.out.trans (hB.mono HB2.out.size)); clear hB c0 c1 c2 c3 c4
                go_wp2_with fail
                go_ret2
                rw [HF.out, HQ.out]
                exact ⟨rfl, HB3.out⟩
            · have h0b : (c.ans == 0) = false := beq_eq_false_iff_ne.2 h0
              have HQ := Lib.hid (noRem_more HM.out HP.out (fun e => absurd e h0))
              clear h0
              go_wp2_with fail
              go_roundw
              case rel => exact ⟨k + 1, by omega, by go_num, HQ.out, HB2.out⟩
              case measure => simp [intOf]; omega
          · have HQ := Lib.hid (noRem_next HN.out (anyRem_no HM.out (show ts.length ≤ k by rw [HL.out]; omega)))
            go_wp2_with fail
            go_roundw
            case rel => exact ⟨m + 1, by omega, by omega, by go_num, HQ.out, HB2.out⟩
            case measure => simp [intOf]; omega
      · have HQ := Lib.hid (remL_end (show 20000 < m by omega) HN.out)
        have hltb : decide (m ≤ 20000) = false := decide_eq_false hlt
        go_wp2_with fail
        go_ret2
        rw [HF.out, HQ.out]
        exact ⟨rfl, HB.out⟩
  · have HF := Lib.hid (nextR9_bad hc (by omega))
    rw [hc] at HC; clear hc
    generalize nextR9 ts d = v at HF ⊢
    go_enter Tryd.func19, Tryd.ntmps19
    go_wp2_with fail
    refine HC.out.mono ?_; rintro e w1 ⟨rfl, hB⟩
    have HB := Lib.hid hB; clear hB
    go_wp2_with fail
    go_ret2
    rw [HF.out]
    exact ⟨rfl, HB.out⟩
  · have HF := Lib.hid (nextR9_bad hc (by omega))
    rw [hc] at HC; clear hc
    generalize nextR9 ts d = v at HF ⊢
    go_enter Tryd.func19, Tryd.ntmps19
    go_wp2_with fail
    refine HC.out.mono ?_; rintro e w1 ⟨rfl, hB⟩
    have HB := Lib.hid hB; clear hB
    go_wp2_with fail
    go_ret2
    rw [HF.out]
    exact ⟨rfl, HB.out⟩

end Go.Proofs.YtchffaohmeaccaaDoor
