/- Contracts: the exported functions of chapter 3, as the model has them. -/
import Derived.Test.YtfblkggfdmnpmaaChecked
import Derived.Test.YtfblkggfdmnpmaaBase
import Derived.Test.YtfblkggfdmnpmaaInfo
import Derived.Test.YtfblkggfdmnpmaaPure31
import Derived.Test.YtfblkggfdmnpmaaMarkI
import Derived.Test.YtfblkggfdmnpmaaShuf1
import Derived.Test.YtfblkggfdmnpmaaShuf2
import Derived.Test.YtfblkggfdmnpmaaShuf7
import Derived.Test.YtfblkggfdmnpmaaShuf6
import Derived.WalkKit
import Derived.WalkSpells
import Derived.WalkLawsBesides
import Derived.Lib.Hide
import Derived.IntWalk
import Derived.Deep.OwnRows
import Derived.Outline
namespace Go.Proofs.Ytfblkggfdmnpmaa
open Go.RowKit Pure2 Pure6 Pure30 Pure31

/-- the code of a state and a number of things -/
def codeR (s n : Int) : Int := if (1 ≤ s ∧ s ≤ 2147483646) ∧ 0 ≤ n ∧ n ≤ 200 then 0 else 2

set_option maxRecDepth 100000 in
set_option maxHeartbeats 400000 in
theorem specL03Code_any (s n : Int) (w : World) :
    Calls Try.prog 51 #[.int .i64 s, .int .i64 n] w fun e w' => e = .returned (.int .i64 (codeR s n)) ∧ w = w' := by
  have HC1 := Lib.hid (specL03Is_any s w)
  have HC2 := Lib.hid (specIn_any n 0 200 w)
  by_cases h1 : 1 ≤ s ∧ s ≤ 2147483646
  · rw [(isState_iff s).2 h1] at HC1
    by_cases h2 : 0 ≤ n ∧ n ≤ 200
    · rw [decide_eq_true h2] at HC2
      have hR : codeR s n = 0 := if_pos ⟨h1, h2⟩
      rw [hR]
      go_enter Try.func51, Try.ntmps51
      go_wp2_with (first
          | (go_at_call 58; refine HC1.out.mono ?_; rintro e w' ⟨rfl, rfl⟩)
          | (go_at_call 52; refine HC2.out.mono ?_; rintro e w' ⟨rfl, rfl⟩))
      go_ret
      exact ⟨rfl, rfl⟩
    · rw [decide_eq_false h2] at HC2
      have hR : codeR s n = 2 := if_neg (by omega)
      rw [hR]
      go_enter Try.func51, Try.ntmps51
      go_wp2_with (first
          | (go_at_call 58; refine HC1.out.mono ?_; rintro e w' ⟨rfl, rfl⟩)
          | (go_at_call 52; refine HC2.out.mono ?_; rintro e w' ⟨rfl, rfl⟩))
      go_ret
      exact ⟨rfl, rfl⟩
  · rw [(isState_no s).2 (by omega)] at HC1
    have hR : codeR s n = 2 := if_neg (by omega)
    rw [hR]
    go_enter Try.func51, Try.ntmps51
    go_wp2_with (first
        | (go_at_call 58; refine HC1.out.mono ?_; rintro e w' ⟨rfl, rfl⟩)
        | (go_at_call 52; refine HC2.out.mono ?_; rintro e w' ⟨rfl, rfl⟩))
    go_ret
    exact ⟨rfl, rfl⟩

set_option maxRecDepth 100000 in
set_option maxHeartbeats 400000 in
theorem specNextState_any (s : Int) (w : World) :
    Calls Try.prog 34 #[.int .i64 s] w fun e w' => e = .returned (.tuple #[.int .i64 (nextR s).1, .int .i64 (nextR s).2]) ∧ w = w' := by
  have HC1 := Lib.hid (specL03Is_any s w)
  by_cases h1 : 1 ≤ s ∧ s ≤ 2147483646
  · rw [(isState_iff s).2 h1] at HC1
    have hR : nextR s = (nx s, 0) := if_pos h1
    rw [hR]
    have HC4 := Lib.hid (specL03Next_any s w ⟨by omega, h1.2⟩)
    go_enter Try.func34, Try.ntmps34
    go_wp2_with (first
        | (go_at_call 58; refine HC1.out.mono ?_; rintro e w' ⟨rfl, rfl⟩)
        | (go_at_call 59; refine HC4.out.mono ?_; rintro e w' ⟨rfl, rfl⟩))
    go_ret2
    exact ⟨rfl, rfl⟩
  · rw [(isState_no s).2 (by omega)] at HC1
    have hR : nextR s = (0, 2) := if_neg (by omega)
    rw [hR]
    go_enter Try.func34, Try.ntmps34
    go_wp2_with ((go_at_call 58; refine HC1.out.mono ?_; rintro e w' ⟨rfl, rfl⟩))
    go_ret2
    exact ⟨rfl, rfl⟩

set_option maxRecDepth 100000 in
set_option maxHeartbeats 400000 in
theorem specNumberBelow_any (s n : Int) (w : World) :
    Calls Try.prog 28 #[.int .i64 s, .int .i64 n] w fun e w' => e = .returned (.tuple #[.int .i64 (numR s n).1, .int .i64 (numR s n).2.1, .int .i64 (numR s n).2.2]) ∧ w = w' := by
  have HC1 := Lib.hid (specL03Is_any s w)
  have HC2 := Lib.hid (specIn_any n 1 1000000 w)
  by_cases h1 : 1 ≤ s ∧ s ≤ 2147483646
  · rw [(isState_iff s).2 h1] at HC1
    by_cases h2 : 1 ≤ n ∧ n ≤ 1000000
    · rw [decide_eq_true h2] at HC2
      have hR : numR s n = (below (nx s) n, nx s, 0) := if_pos ⟨h1, h2⟩
      rw [hR]
      have hst := nx_state h1
      have HC4 := Lib.hid (specL03Next_any s w ⟨by omega, h1.2⟩)
      obtain ⟨hp0, hp1⟩ := prod_bd (s := nx s) (n := n) ⟨by omega, hst.2⟩ ⟨by omega, h2.2⟩
      have hb : below (nx s) n = nx s * n / 2147483647 := rfl
      rw [hb]
      generalize nx s = y at *
      have q1 : IntKind.i64.wrap (y * n) = y * n := IntWalk.i64_in _ (by omega)
      clear hb hR
      go_enter Try.func28, Try.ntmps28
      go_wp2_with (first
          | (go_at_call 58; refine HC1.out.mono ?_; rintro e w' ⟨rfl, rfl⟩)
          | (go_at_call 52; refine HC2.out.mono ?_; rintro e w' ⟨rfl, rfl⟩)
          | (go_at_call 59; refine HC4.out.mono ?_; rintro e w' ⟨rfl, rfl⟩))
      go_ret3
      exact ⟨rfl, rfl⟩
    · rw [decide_eq_false h2] at HC2
      have hR : numR s n = (0, 0, 2) := if_neg (by omega)
      rw [hR]
      go_enter Try.func28, Try.ntmps28
      go_wp2_with (first
          | (go_at_call 58; refine HC1.out.mono ?_; rintro e w' ⟨rfl, rfl⟩)
          | (go_at_call 52; refine HC2.out.mono ?_; rintro e w' ⟨rfl, rfl⟩))
      go_ret3
      exact ⟨rfl, rfl⟩
  · rw [(isState_no s).2 (by omega)] at HC1
    have hR : numR s n = (0, 0, 2) := if_neg (by omega)
    rw [hR]
    go_enter Try.func28, Try.ntmps28
    go_wp2_with (first
        | (go_at_call 58; refine HC1.out.mono ?_; rintro e w' ⟨rfl, rfl⟩)
        | (go_at_call 52; refine HC2.out.mono ?_; rintro e w' ⟨rfl, rfl⟩))
    go_ret3
    exact ⟨rfl, rfl⟩

set_option maxRecDepth 100000 in
set_option maxHeartbeats 400000 in
theorem specCommitmentOf_any (s t : Int) (w : World) :
    Calls Try.prog 40 #[.int .i64 s, .int .i64 t] w fun e w' => e = .returned (.tuple #[.int .i64 (comR s t).1, .int .i64 (comR s t).2]) ∧ w = w' := by
  have HC1 := Lib.hid (specL03Is_any s w)
  have HC2 := Lib.hid (specIn_any t 0 2147483646 w)
  by_cases h1 : 1 ≤ s ∧ s ≤ 2147483646
  · rw [(isState_iff s).2 h1] at HC1
    by_cases h2 : 0 ≤ t ∧ t ≤ 2147483646
    · rw [decide_eq_true h2] at HC2
      have hR : comR s t = (commit s t, 0) := if_pos ⟨h1, h2⟩
      rw [hR]
      have HC4 := Lib.hid (specL03Commit_any s t w ⟨by omega, h1.2⟩ h2)
      go_enter Try.func40, Try.ntmps40
      go_wp2_with (first
          | (go_at_call 58; refine HC1.out.mono ?_; rintro e w' ⟨rfl, rfl⟩)
          | (go_at_call 52; refine HC2.out.mono ?_; rintro e w' ⟨rfl, rfl⟩)
          | (go_at_call 64; refine HC4.out.mono ?_; rintro e w' ⟨rfl, rfl⟩))
      go_ret2
      exact ⟨rfl, rfl⟩
    · rw [decide_eq_false h2] at HC2
      have hR : comR s t = (0, 2) := if_neg (by omega)
      rw [hR]
      go_enter Try.func40, Try.ntmps40
      go_wp2_with (first
          | (go_at_call 58; refine HC1.out.mono ?_; rintro e w' ⟨rfl, rfl⟩)
          | (go_at_call 52; refine HC2.out.mono ?_; rintro e w' ⟨rfl, rfl⟩))
      go_ret2
      exact ⟨rfl, rfl⟩
  · rw [(isState_no s).2 (by omega)] at HC1
    have hR : comR s t = (0, 2) := if_neg (by omega)
    rw [hR]
    go_enter Try.func40, Try.ntmps40
    go_wp2_with (first
        | (go_at_call 58; refine HC1.out.mono ?_; rintro e w' ⟨rfl, rfl⟩)
        | (go_at_call 52; refine HC2.out.mono ?_; rintro e w' ⟨rfl, rfl⟩))
    go_ret2
    exact ⟨rfl, rfl⟩

set_option maxRecDepth 100000 in
set_option maxHeartbeats 800000 in
theorem specShuffleNumbers_any (s n : Int) (w : World) :
    Calls Try.prog 20 #[.int .i64 s, .int .i64 n] w (SaysNewI (shufR s n).1 (shufR s n).2 w) := by
  have HCC := Lib.hid (specL03Code_any s n w)
  by_cases h12 : (1 ≤ s ∧ s ≤ 2147483646) ∧ 0 ≤ n ∧ n ≤ 200
  · rw [show codeR s n = 0 from if_pos h12] at HCC
    obtain ⟨h1, h2⟩ := h12
    obtain ⟨N, rfl⟩ : ∃ N : Nat, n = N := ⟨n.toNat, by omega⟩
    have hN : N ≤ 200 := by omega
    have hR : shufR s N = (shuf s N, 0) := if_pos ⟨h1, h2⟩
    rw [hR]
    go_enter Try.func20, Try.ntmps20
    go_wp2_with ((go_at_call 51; refine HCC.out.mono ?_; rintro e w' ⟨rfl, rfl⟩))
    refine (specL03Shuffle_any s N w h1 hN).mono ?_
    rintro e w1 ⟨a, cap, rfl, hcap, hO, hB⟩
    have HO := Lib.hid hO; have HB := Lib.hid hB; clear hO hB
    go_wp2_with fail
    go_ret2
    exact ⟨a, cap, rfl, HO.out, HB.out⟩
  · rw [show codeR s n = 2 from if_neg h12] at HCC
    have hR : shufR s n = ([], 2) := if_neg (by omega)
    rw [hR]
    go_enter Try.func20, Try.ntmps20
    go_wp2_with ((go_at_call 51; refine HCC.out.mono ?_; rintro e w' ⟨rfl, rfl⟩))
    go_ret2
    exact ⟨none, 0, rfl, .inl rfl, Below.refl _ _⟩

set_option maxRecDepth 100000 in
set_option maxHeartbeats 800000 in
theorem specSampleOf_any (s n k : Int) (w : World) :
    Calls Try.prog 17 #[.int .i64 s, .int .i64 n, .int .i64 k] w (SaysNewI (sampR s n k).1 (sampR s n k).2 w) := by
  have HCC := Lib.hid (specL03Code_any s n w)
  have HC2 := Lib.hid (specIn_any k 0 n w)
  by_cases h12 : (1 ≤ s ∧ s ≤ 2147483646) ∧ 0 ≤ n ∧ n ≤ 200
  · rw [show codeR s n = 0 from if_pos h12] at HCC
    obtain ⟨h1, h2⟩ := h12
    by_cases h4 : 0 ≤ k ∧ k ≤ n
    · rw [decide_eq_true h4] at HC2
      obtain ⟨N, rfl⟩ : ∃ N : Nat, n = N := ⟨n.toNat, by omega⟩
      have hN : N ≤ 200 := by omega
      obtain ⟨K, rfl⟩ : ∃ K : Nat, k = K := ⟨k.toNat, by omega⟩
      have hR : sampR s N K = ((shuf s N).take K, 0) := if_pos ⟨⟨h1, h2⟩, h4⟩
      rw [hR]
      have HL := Lib.hid (shuf_length s N)
      have hK : K ≤ N := by omega
      go_enter Try.func17, Try.ntmps17
      go_wp2_with (first
          | (go_at_call 51; refine HCC.out.mono ?_; rintro e w' ⟨rfl, rfl⟩)
          | (go_at_call 52; refine HC2.out.mono ?_; rintro e w' ⟨rfl, rfl⟩))
      refine (specL03Shuffle_any s N w h1 hN).mono ?_
      rintro e w1 ⟨a, cap, rfl, hcap, hO, hB⟩
      have HO := Lib.hid hO; have HB := Lib.hid hB; clear hO hB
      rw [HL.out] at hcap ⊢
      go_wp2_with fail
      go_ret2
      exact saysNew_of (by rw [List.length_take, HL.out, Nat.min_eq_left hK]) (ownI_take HO.out (by rw [HL.out]; exact hK)) HB.out
    · rw [decide_eq_false h4] at HC2
      have hR : sampR s n k = ([], 2) := if_neg (by omega)
      rw [hR]
      go_enter Try.func17, Try.ntmps17
      go_wp2_with (first
          | (go_at_call 51; refine HCC.out.mono ?_; rintro e w' ⟨rfl, rfl⟩)
          | (go_at_call 52; refine HC2.out.mono ?_; rintro e w' ⟨rfl, rfl⟩))
      go_ret2
      exact ⟨none, 0, rfl, .inl rfl, Below.refl _ _⟩
  · rw [show codeR s n = 2 from if_neg h12] at HCC
    have hR : sampR s n k = ([], 2) := if_neg (by omega)
    rw [hR]
    go_enter Try.func17, Try.ntmps17
    go_wp2_with (first
        | (go_at_call 51; refine HCC.out.mono ?_; rintro e w' ⟨rfl, rfl⟩)
        | (go_at_call 52; refine HC2.out.mono ?_; rintro e w' ⟨rfl, rfl⟩))
    go_ret2
    exact ⟨none, 0, rfl, .inl rfl, Below.refl _ _⟩

set_option maxRecDepth 100000 in
set_option maxHeartbeats 800000 in
theorem specPlaceInShuffle_any (s n x : Int) (w : World) :
    Calls Try.prog 23 #[.int .i64 s, .int .i64 n, .int .i64 x] w fun e w' => e = .returned (.tuple #[.int .i64 (placeR s n x).1, .int .i64 (placeR s n x).2]) ∧ Below w.heap.size w w' := by
  have HCC := Lib.hid (specL03Code_any s n w)
  have HC2 := Lib.hid (fun h : -9223372036854775808 ≤ n - 1 => specIn_any x 0 (n - 1) w)
  by_cases h12 : (1 ≤ s ∧ s ≤ 2147483646) ∧ 0 ≤ n ∧ n ≤ 200
  · rw [show codeR s n = 0 from if_pos h12] at HCC
    obtain ⟨h1, h2⟩ := h12
    by_cases h4 : 0 ≤ x ∧ x ≤ n - 1
    · have HC2 := Lib.hid (HC2.out (by omega))
      rw [decide_eq_true h4] at HC2
      obtain ⟨N, rfl⟩ : ∃ N : Nat, n = N := ⟨n.toNat, by omega⟩
      have hN : N ≤ 200 := by omega
      have hR : placeR s N x = (((idx (shuf s N) x : Nat) : Int), (0 : Int)) := if_pos ⟨⟨h1, h2⟩, h4.1, by omega⟩
      rw [hR]
      have HL := Lib.hid (shuf_length s N)
      have HF := Lib.hid (first_at h1 h4.1 (show x < N by omega))
      have hkn := (idx_at h1 h4.1 (show x < N by omega)).1
      generalize idx (shuf s N) x = K at *
      go_enter Try.func23, Try.ntmps23
      go_wp2_with (first
          | (go_at_call 51; refine HCC.out.mono ?_; rintro e w' ⟨rfl, rfl⟩)
          | (go_at_call 52; refine HC2.out.mono ?_; rintro e w' ⟨rfl, rfl⟩))
      refine (specL03Shuffle_any s N w h1 hN).mono ?_
      rintro e w1 ⟨a, cap, rfl, hcap, hO, hB⟩
      have HO := Lib.hid hO; have HB := Lib.hid hB; clear hO hB
      have HI := Lib.hid (ownI_reads HO.out)
      rw [HL.out] at hcap ⊢
      go_wp2_with fail
      go_loop [10] (fun i => ∃ j : Nat, j ≤ K ∧ i = .int .i64 j) (fun i => N - (intOf i).toNat)
      case atStart => exact ⟨0, Nat.zero_le _, rfl⟩
      case round =>
        obtain ⟨j, hj, rfl⟩ := hrel
        obtain ⟨b, off, y, ha, hc, ht, hy⟩ := HI.out.at HL.out (show j < N by omega)
        subst ha
        have hjn : (j : Int) < (N : Int) := by omega
        by_cases hjk : j = K
        · subst hjk
          obtain rfl : x = y := by have := HF.out.1; rw [this] at hy; exact Option.some.inj hy
          clear ht hy hj
          go_wp2_with fail
          go_ret2
          exact ⟨rfl, HB.out⟩
        · have hxy : (y != x) = true := by
            rw [bne_iff_ne]; intro e; subst e; exact HF.out.2 j (by omega) hy
          clear ht hy
          go_wp2_with fail
          go_round
          case rel => exact ⟨j + 1, by omega, by go_num⟩
          case measure => simp [intOf]; omega
    · have HC2 := Lib.hid (HC2.out (by omega))
      rw [decide_eq_false h4] at HC2
      have hR : placeR s n x = (0, 2) := if_neg (by omega)
      rw [hR]
      go_enter Try.func23, Try.ntmps23
      go_wp2_with (first
          | (go_at_call 51; refine HCC.out.mono ?_; rintro e w' ⟨rfl, rfl⟩)
          | (go_at_call 52; refine HC2.out.mono ?_; rintro e w' ⟨rfl, rfl⟩))
      go_ret2
      exact ⟨rfl, Below.refl _ _⟩
  · rw [show codeR s n = 2 from if_neg h12] at HCC
    have hR : placeR s n x = (0, 2) := if_neg (by omega)
    rw [hR]
    go_enter Try.func23, Try.ntmps23
    go_wp2_with (first
        | (go_at_call 51; refine HCC.out.mono ?_; rintro e w' ⟨rfl, rfl⟩)
        | (go_at_call 52; refine HC2.out.mono ?_; rintro e w' ⟨rfl, rfl⟩))
    go_ret2
    exact ⟨rfl, Below.refl _ _⟩

set_option maxRecDepth 100000 in
set_option maxHeartbeats 1600000 in
theorem specStatesAfter_any (s n : Int) (w : World) :
    Calls Try.prog 31 #[.int .i64 s, .int .i64 n] w (SaysNewI (statesR s n).1 (statesR s n).2 w) := by
  have HCC := Lib.hid (specL03Code_any s n w)
  by_cases h12 : (1 ≤ s ∧ s ≤ 2147483646) ∧ 0 ≤ n ∧ n ≤ 200
  · rw [show codeR s n = 0 from if_pos h12] at HCC
    obtain ⟨h1, h2⟩ := h12
    obtain ⟨i0, hi, hz0, hz1, hz2⟩ := info_parts Try.info_i64
    obtain ⟨N, rfl⟩ : ∃ N : Nat, n = N := ⟨n.toNat, by omega⟩
    have hN : N ≤ 200 := by omega
    have hR : statesR s N = (statesTo s N, 0) := if_pos ⟨h1, h2⟩
    rw [hR]
    have HO0 := Lib.hid (World.ownsRow_lit (base := w.heap.size) (size := 1) (e := 2) w #[] 0 (by omega) (by decide) rfl)
    go_enter Try.func31, Try.ntmps31
    go_wp2_with ((go_at_call 51; refine HCC.out.mono ?_; rintro e w' ⟨rfl, rfl⟩))
    go_loopw [0, 1, 7] (fun st c v wr => ∃ j : Nat, j ≤ N ∧ c = .int .i64 ((N : Int) - j) ∧ st = .int .i64 (nxs s j) ∧ wr.ownsRow w.heap.size 2 1 v j ((statesTo s j).map (Value.int .i64)) ∧ Below w.heap.size w wr) (fun _ c _ _ => (intOf c).toNat)
    case atStart => exact ⟨0, Nat.zero_le _, by simp, rfl, HO0.out, (Below.refl _ _).alloc (Nat.le_refl _) _⟩
    case round =>
      obtain ⟨j, hj, rfl, rfl, ho, hB⟩ := hrel
      have HO := Lib.hid ho; have HB := Lib.hid hB; clear ho hB HO0
      by_cases hlt : j < N
      · have hst := nxs_state h1 j
        have HC := Lib.hid (specL03Next_any (nxs s j) wr ⟨by omega, hst.2⟩)
        rw [← nxs_succ] at HC
        have hown := HO.out.alloc (.cells #[.int .i64 (nxs s (j + 1))] 2)
        have hcnt : 0 < (N : Int) - j := by omega
        go_wp2_with (first
          | (go_at_call 59; refine HC.out.mono ?_; rintro e w' ⟨rfl, rfl⟩)
          | (at_builtin; refine wpList_append_own _ rfl _ _ 26 rfl w.heap.size 2 i0 (.int .i64 0) 1 8 Try.underlying26 hi hz0 hz1 hz2 rfl (by decide) _ _ _ rfl hown ⟨wr.heap.size, 0, none⟩ 1 1 [.int .i64 (nxs s (j + 1))] rfl rfl ?c1 ?c2 ?c3 ?c4 ?c5 ?_))
        case c1 => exact cell_one_new _ _ _
        case c2 => intro u hu; simp at hu; subst hu; rfl
        case c3 => unfold maxLen; omega
        case c4 => omega
        case c5 => have := HB.out.size; simp; omega
        intro v' w5 hown' hgrow _
        have HO5 := Lib.hid (show w5.ownsRow w.heap.size 2 1 v' (j + 1) ((statesTo s (j + 1)).map (Value.int .i64)) by rw [statesTo_succ, List.map_append]; exact hown')
        have HB5 := Lib.hid ((HB.out.alloc HB.out.size _).grown hgrow (by have := HB.out.size; simp; omega) (fun j hj => (hown.lt j hj).1))
        clear hown hown' hgrow
        go_wp2_with fail
        go_roundw
        case rel => exact ⟨j + 1, by omega, by first | rfl | (congr 1; omega), rfl, HO5.out, HB5.out⟩
        case measure => simp [intOf]; omega
      · obtain rfl : j = N := by omega
        obtain ⟨a, cap, rfl, hcap, hown⟩ := owns_ownI HO.out
        have HO2 := Lib.hid hown; clear hown HO
        go_wp2_with fail
        go_ret2
        exact saysNew_of (statesTo_length s j) (by rw [statesTo_length]; exact HO2.out) HB.out
  · rw [show codeR s n = 2 from if_neg h12] at HCC
    have hR : statesR s n = ([], 2) := if_neg (by omega)
    rw [hR]
    go_enter Try.func31, Try.ntmps31
    go_wp2_with ((go_at_call 51; refine HCC.out.mono ?_; rintro e w' ⟨rfl, rfl⟩))
    go_ret2
    exact ⟨none, 0, rfl, .inl rfl, Below.refl _ _⟩

theorem sameL_comm (xs ys : List Int) : sameL xs ys = sameL ys xs := by simp only [sameL]; exact decide_eq_decide.2 ⟨Eq.symm, Eq.symm⟩

set_option maxRecDepth 100000 in
set_option maxHeartbeats 1600000 in
theorem specIsRightDraw_any (c s t n : Int) (a : Option Addr) (len cap : Nat) (zs : List Int) (w : World) (hl : zs.length = len) (hm : len ≤ maxLen) (hI : IntsAt w a zs) :
    Calls Try.prog 37 #[.int .i64 c, .int .i64 s, .int .i64 t, .int .i64 n, .slice a len cap] w fun e w' => e = .returned (.tuple #[.bool (rightR c s t n zs).1, .int .i64 (rightR c s t n zs).2]) ∧ Below w.heap.size w w' := by
  have hm2 : (len : Int) ≤ 9223372036854775807 := by unfold maxLen at hm; omega
  have HCC := Lib.hid (specL03Code_any s n w)
  have HC2 := Lib.hid (specIn_any t 0 2147483646 w)
  by_cases h12 : (1 ≤ s ∧ s ≤ 2147483646) ∧ 0 ≤ n ∧ n ≤ 200
  · rw [show codeR s n = 0 from if_pos h12] at HCC
    obtain ⟨h1, h2⟩ := h12
    by_cases h3 : 0 ≤ t ∧ t ≤ 2147483646
    · rw [decide_eq_true h3] at HC2
      by_cases h4 : (zs.length : Int) ≤ n
      · obtain ⟨N, rfl⟩ : ∃ N : Nat, n = N := ⟨n.toNat, by omega⟩
        have hN : N ≤ 200 := by omega
        subst hl
        have HC4 := Lib.hid (specL03Commit_any s t w ⟨by omega, h1.2⟩ h3)
        by_cases hc : commit s t = c
        · subst hc
          have hR : rightR (commit s t) s t N zs = (sameL ((shuf s N).take zs.length) zs, 0) := by rw [rightR, if_pos ⟨h1, h3, h2, h4⟩, decide_eq_true rfl, Bool.true_and, sameL_comm]; rfl
          rw [hR]
          have HL := Lib.hid (shuf_length s N)
          have hK : zs.length ≤ N := by omega
          have HI := Lib.hid hI; clear hI
          generalize hcc : commit s t = c at *
          clear hcc
          go_enter Try.func37, Try.ntmps37
          go_wp2_with (first
              | (go_at_call 51; refine HCC.out.mono ?_; rintro e w' ⟨rfl, rfl⟩)
              | (go_at_call 52; refine HC2.out.mono ?_; rintro e w' ⟨rfl, rfl⟩)
              | (go_at_call 64; refine HC4.out.mono ?_; rintro e w' ⟨rfl, rfl⟩))
          refine (specL03Shuffle_any s N w h1 hN).mono ?_
          rintro e w1 ⟨a', cap', rfl, hcap, hO, hB⟩
          have HO := Lib.hid hO; have HI1 := Lib.hid (HI.out.below hB); have HB := Lib.hid hB; clear hO hB
          rw [HL.out] at hcap ⊢
          go_wp2_with fail
          refine (specL01Same_any a' a zs.length cap' zs.length cap ((shuf s N).take zs.length) zs w1 (by rw [List.length_take, HL.out, Nat.min_eq_left hK]) rfl hm hm (ownI_reads (ownI_take HO.out (by rw [HL.out]; exact hK))) HI1.out).mono ?_
          rintro e w' ⟨rfl, n1, rfl⟩
          go_wp2_with fail
          go_ret2
          exact ⟨rfl, below_drewN HB.out _⟩
        · have hR : rightR c s t N zs = (false, 0) := by rw [rightR, if_pos ⟨h1, h3, h2, h4⟩, decide_eq_false hc, Bool.false_and]
          rw [hR]
          have hc2 : (commit s t == c) = false := beq_eq_false_iff_ne.2 hc
          clear hI hc
          go_enter Try.func37, Try.ntmps37
          go_wp2_with (first
              | (go_at_call 51; refine HCC.out.mono ?_; rintro e w' ⟨rfl, rfl⟩)
              | (go_at_call 52; refine HC2.out.mono ?_; rintro e w' ⟨rfl, rfl⟩)
              | (go_at_call 64; refine HC4.out.mono ?_; rintro e w' ⟨rfl, rfl⟩))
          go_ret2
          exact ⟨rfl, Below.refl _ _⟩
      · subst hl
        have hR : rightR c s t n zs = (false, 2) := if_neg (by omega)
        rw [hR]
        clear hI
        go_enter Try.func37, Try.ntmps37
        go_wp2_with (first
            | (go_at_call 51; refine HCC.out.mono ?_; rintro e w' ⟨rfl, rfl⟩)
            | (go_at_call 52; refine HC2.out.mono ?_; rintro e w' ⟨rfl, rfl⟩))
        go_ret2
        exact ⟨rfl, Below.refl _ _⟩
    · rw [decide_eq_false h3] at HC2
      subst hl
      have hR : rightR c s t n zs = (false, 2) := if_neg (by omega)
      rw [hR]
      clear hI
      go_enter Try.func37, Try.ntmps37
      go_wp2_with (first
          | (go_at_call 51; refine HCC.out.mono ?_; rintro e w' ⟨rfl, rfl⟩)
          | (go_at_call 52; refine HC2.out.mono ?_; rintro e w' ⟨rfl, rfl⟩))
      go_ret2
      exact ⟨rfl, Below.refl _ _⟩
  · rw [show codeR s n = 2 from if_neg h12] at HCC
    subst hl
    have hR : rightR c s t n zs = (false, 2) := if_neg (by omega)
    rw [hR]
    clear hI
    go_enter Try.func37, Try.ntmps37
    go_wp2_with (first
        | (go_at_call 51; refine HCC.out.mono ?_; rintro e w' ⟨rfl, rfl⟩)
        | (go_at_call 52; refine HC2.out.mono ?_; rintro e w' ⟨rfl, rfl⟩))
    go_ret2
    exact ⟨rfl, Below.refl _ _⟩

end Go.Proofs.Ytfblkggfdmnpmaa
