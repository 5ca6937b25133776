/- Contracts: the exported functions of chapter 3, as the program has them. -/
import Derived.Test.YtfblkggfdmnpmaaChecked
import Derived.Test.YtfblkggfdmnpmaaBase
import Derived.Test.YtfblkggfdmnpmaaInfo
import Derived.Test.YtfblkggfdmnpmaaPure31
import Derived.Test.YtfblkggfdmnpmaaMarkI
import Derived.Test.YtfblkggfdmnpmaaShuf1
import Derived.Test.YtfblkggfdmnpmaaShuf2
import Derived.Test.YtfblkggfdmnpmaaShuf4
import Derived.Test.YtfblkggfdmnpmaaShuf5
import Derived.Test.YtfblkggfdmnpmaaShuf6
import Derived.WalkKit
import Derived.WalkSpells
import Derived.WalkLawsBesides
import Derived.Lib.Hide
import Derived.IntWalk
import Derived.Deep.OwnRows
import Derived.Outline
namespace Go.Proofs.Ytfblkggfdmnpmaa
open Go.RowKit Pure2 Pure6 Pure30 Pure31

theorem ownI_take {B : Nat} {w : World} {a : Option Addr} {zs : List Int} {k : Nat} (h : OwnI B w a zs.length (fun i => zs.getD i 0)) (hk : k ≤ zs.length) : OwnI B w a (zs.take k).length (fun i => (zs.take k).getD i 0) := by
  rw [List.length_take, Nat.min_eq_left hk]
  rcases h with h | ⟨b, f, N, rfl, hb, hN, hr, hf⟩
  · exact .inl (by omega)
  · exact .inr ⟨b, f, N, rfl, hb, by omega, hr, fun i hi => by rw [hf i (by omega)]; simp [List.getD_eq_getElem?_getD, List.getElem?_take_of_lt hi]⟩
theorem saysNew_of {zs : List Int} {w w' : World} {a : Option Addr} {n cap : Nat} {c : Int} (hl : zs.length = n) (h : OwnI w.heap.size w' a zs.length (fun i => zs.getD i 0)) (hB : Below w.heap.size w w') : SaysNewI zs c w (.returned (.tuple #[.slice a n cap, .int .i64 c])) w' := by
  subst hl; exact ⟨a, cap, rfl, h, hB⟩

set_option maxRecDepth 100000 in
set_option maxHeartbeats 400000 in
theorem implNextState_any (s : Int) (w : World) :
    Calls Try.prog 33 #[.int .i64 s] w fun e w' => e = .returned (.tuple #[.int .i64 (nextR s).1, .int .i64 (nextR s).2]) ∧ w = w' := by
  have HC1 := Lib.hid (implIsState_any s w)
  by_cases h1 : 1 ≤ s ∧ s ≤ 2147483646
  · rw [(isState_iff s).2 h1] at HC1
    have hR : nextR s = (nx s, 0) := if_pos h1
    rw [hR]
    have HC4 := Lib.hid (implStateBehind_any s w ⟨by omega, h1.2⟩)
    go_enter Try.func33, Try.ntmps33
    go_wp2_with (first
        | (go_at_call 48; refine HC1.out.mono ?_; rintro e w' ⟨rfl, rfl⟩)
        | (go_at_call 56; refine HC4.out.mono ?_; rintro e w' ⟨rfl, rfl⟩))
    go_ret2
    exact ⟨rfl, rfl⟩
  · rw [(isState_no s).2 (by omega)] at HC1
    have hR : nextR s = (0, 2) := if_neg (by omega)
    rw [hR]
    go_enter Try.func33, Try.ntmps33
    go_wp2_with ((go_at_call 48; refine HC1.out.mono ?_; rintro e w' ⟨rfl, rfl⟩))
    go_ret2
    exact ⟨rfl, rfl⟩

set_option maxRecDepth 100000 in
set_option maxHeartbeats 400000 in
theorem implNumberBelow_any (s n : Int) (w : World) :
    Calls Try.prog 27 #[.int .i64 s, .int .i64 n] w fun e w' => e = .returned (.tuple #[.int .i64 (numR s n).1, .int .i64 (numR s n).2.1, .int .i64 (numR s n).2.2]) ∧ w = w' := by
  have HC1 := Lib.hid (implIsState_any s w)
  by_cases h1 : 1 ≤ s ∧ s ≤ 2147483646
  · rw [(isState_iff s).2 h1] at HC1
    by_cases h2 : 1 ≤ n
    · by_cases h3 : n ≤ 1000000
      · have hR : numR s n = (below (nx s) n, nx s, 0) := if_pos ⟨h1, h2, h3⟩
        rw [hR]
        have hst := nx_state h1
        have HC4 := Lib.hid (implStateBehind_any s w ⟨by omega, h1.2⟩)
        have HC5 := Lib.hid (implNumberOf_any (nx s) n w ⟨by omega, hst.2⟩ ⟨by omega, h3⟩)
        go_enter Try.func27, Try.ntmps27
        go_wp2_with (first
            | (go_at_call 48; refine HC1.out.mono ?_; rintro e w' ⟨rfl, rfl⟩)
            | (go_at_call 56; refine HC4.out.mono ?_; rintro e w' ⟨rfl, rfl⟩)
            | (go_at_call 57; refine HC5.out.mono ?_; rintro e w' ⟨rfl, rfl⟩))
        go_ret3
        exact ⟨rfl, rfl⟩
      · have hR : numR s n = (0, 0, 2) := if_neg (by omega)
        rw [hR]
        go_enter Try.func27, Try.ntmps27
        go_wp2_with ((go_at_call 48; refine HC1.out.mono ?_; rintro e w' ⟨rfl, rfl⟩))
        go_ret3
        exact ⟨rfl, rfl⟩
    · have hR : numR s n = (0, 0, 2) := if_neg (by omega)
      rw [hR]
      go_enter Try.func27, Try.ntmps27
      go_wp2_with ((go_at_call 48; refine HC1.out.mono ?_; rintro e w' ⟨rfl, rfl⟩))
      go_ret3
      exact ⟨rfl, rfl⟩
  · rw [(isState_no s).2 (by omega)] at HC1
    have hR : numR s n = (0, 0, 2) := if_neg (by omega)
    rw [hR]
    go_enter Try.func27, Try.ntmps27
    go_wp2_with ((go_at_call 48; refine HC1.out.mono ?_; rintro e w' ⟨rfl, rfl⟩))
    go_ret3
    exact ⟨rfl, rfl⟩

set_option maxRecDepth 100000 in
set_option maxHeartbeats 400000 in
theorem implCommitmentOf_any (s t : Int) (w : World) :
    Calls Try.prog 39 #[.int .i64 s, .int .i64 t] w fun e w' => e = .returned (.tuple #[.int .i64 (comR s t).1, .int .i64 (comR s t).2]) ∧ w = w' := by
  have HC1 := Lib.hid (implIsState_any s w)
  have HC3 := Lib.hid (implIsSalt_any t w)
  by_cases h1 : 1 ≤ s ∧ s ≤ 2147483646
  · rw [(isState_iff s).2 h1] at HC1
    by_cases h3 : 0 ≤ t ∧ t ≤ 2147483646
    · rw [(isSalt_iff t).2 h3] at HC3
      have hR : comR s t = (commit s t, 0) := if_pos ⟨h1, h3⟩
      rw [hR]
      have HC4 := Lib.hid (implCommitmentTo_any s t w ⟨by omega, h1.2⟩ h3)
      go_enter Try.func39, Try.ntmps39
      go_wp2_with (first
          | (go_at_call 48; refine HC1.out.mono ?_; rintro e w' ⟨rfl, rfl⟩)
          | (go_at_call 61; refine HC3.out.mono ?_; rintro e w' ⟨rfl, rfl⟩)
          | (go_at_call 62; refine HC4.out.mono ?_; rintro e w' ⟨rfl, rfl⟩))
      go_ret2
      exact ⟨rfl, rfl⟩
    · rw [(isSalt_no t).2 (by omega)] at HC3
      have hR : comR s t = (0, 2) := if_neg (by omega)
      rw [hR]
      go_enter Try.func39, Try.ntmps39
      go_wp2_with (first
          | (go_at_call 48; refine HC1.out.mono ?_; rintro e w' ⟨rfl, rfl⟩)
          | (go_at_call 61; refine HC3.out.mono ?_; rintro e w' ⟨rfl, rfl⟩))
      go_ret2
      exact ⟨rfl, rfl⟩
  · rw [(isState_no s).2 (by omega)] at HC1
    have hR : comR s t = (0, 2) := if_neg (by omega)
    rw [hR]
    go_enter Try.func39, Try.ntmps39
    go_wp2_with (first
        | (go_at_call 48; refine HC1.out.mono ?_; rintro e w' ⟨rfl, rfl⟩)
        | (go_at_call 61; refine HC3.out.mono ?_; rintro e w' ⟨rfl, rfl⟩))
    go_ret2
    exact ⟨rfl, rfl⟩

set_option maxRecDepth 100000 in
set_option maxHeartbeats 800000 in
theorem implShuffleNumbers_any (s n : Int) (w : World) :
    Calls Try.prog 19 #[.int .i64 s, .int .i64 n] w (SaysNewI (shufR s n).1 (shufR s n).2 w) := by
  have HC1 := Lib.hid (implIsState_any s w)
  have HC2 := Lib.hid (implIsDrawn_any n w)
  by_cases h1 : 1 ≤ s ∧ s ≤ 2147483646
  · rw [(isState_iff s).2 h1] at HC1
    by_cases h2 : 0 ≤ n ∧ n ≤ 200
    · rw [(isDrawn_iff n).2 h2] at HC2
      obtain ⟨N, rfl⟩ : ∃ N : Nat, n = N := ⟨n.toNat, by omega⟩
      have hN : N ≤ 200 := by omega
      have hR : shufR s N = (shuf s N, 0) := if_pos ⟨h1, h2⟩
      rw [hR]
      go_enter Try.func19, Try.ntmps19
      go_wp2_with (first
          | (go_at_call 48; refine HC1.out.mono ?_; rintro e w' ⟨rfl, rfl⟩)
          | (go_at_call 49; refine HC2.out.mono ?_; rintro e w' ⟨rfl, rfl⟩))
      refine (implShuffled_any s N w h1 hN).mono ?_
      rintro e w1 ⟨a, cap, rfl, hcap, hO, hB⟩
      have HO := Lib.hid hO; have HB := Lib.hid hB; clear hO hB
      go_wp2_with fail
      go_ret2
      exact ⟨a, cap, rfl, HO.out, HB.out⟩
    · rw [(isDrawn_no n).2 (by omega)] at HC2
      have hR : shufR s n = ([], 2) := if_neg (by omega)
      rw [hR]
      go_enter Try.func19, Try.ntmps19
      go_wp2_with (first
          | (go_at_call 48; refine HC1.out.mono ?_; rintro e w' ⟨rfl, rfl⟩)
          | (go_at_call 49; refine HC2.out.mono ?_; rintro e w' ⟨rfl, rfl⟩))
      go_ret2
      exact ⟨none, 0, rfl, .inl rfl, Below.refl _ _⟩
  · rw [(isState_no s).2 (by omega)] at HC1
    have hR : shufR s n = ([], 2) := if_neg (by omega)
    rw [hR]
    go_enter Try.func19, Try.ntmps19
    go_wp2_with (first
        | (go_at_call 48; refine HC1.out.mono ?_; rintro e w' ⟨rfl, rfl⟩)
        | (go_at_call 49; refine HC2.out.mono ?_; rintro e w' ⟨rfl, rfl⟩))
    go_ret2
    exact ⟨none, 0, rfl, .inl rfl, Below.refl _ _⟩

set_option maxRecDepth 100000 in
set_option maxHeartbeats 800000 in
theorem implSampleOf_any (s n k : Int) (w : World) :
    Calls Try.prog 16 #[.int .i64 s, .int .i64 n, .int .i64 k] w (SaysNewI (sampR s n k).1 (sampR s n k).2 w) := by
  have HC1 := Lib.hid (implIsState_any s w)
  have HC2 := Lib.hid (implIsDrawn_any n w)
  by_cases h1 : 1 ≤ s ∧ s ≤ 2147483646
  · rw [(isState_iff s).2 h1] at HC1
    by_cases h2 : 0 ≤ n ∧ n ≤ 200
    · rw [(isDrawn_iff n).2 h2] at HC2
      by_cases h4 : 0 ≤ k
      · by_cases h5 : k ≤ n
        · obtain ⟨N, rfl⟩ : ∃ N : Nat, n = N := ⟨n.toNat, by omega⟩
          have hN : N ≤ 200 := by omega
          obtain ⟨K, rfl⟩ : ∃ K : Nat, k = K := ⟨k.toNat, by omega⟩
          have hR : sampR s N K = ((shuf s N).take K, 0) := if_pos ⟨⟨h1, h2⟩, h4, h5⟩
          rw [hR]
          have HL := Lib.hid (shuf_length s N)
          have hK : K ≤ N := by omega
          go_enter Try.func16, Try.ntmps16
          go_wp2_with (first
              | (go_at_call 48; refine HC1.out.mono ?_; rintro e w' ⟨rfl, rfl⟩)
              | (go_at_call 49; refine HC2.out.mono ?_; rintro e w' ⟨rfl, rfl⟩))
          refine (implShuffled_any s N w h1 hN).mono ?_
          rintro e w1 ⟨a, cap, rfl, hcap, hO, hB⟩
          have HO := Lib.hid hO; have HB := Lib.hid hB; clear hO hB
          rw [HL.out] at hcap ⊢
          go_wp2_with fail
          go_ret2
          exact saysNew_of (by rw [List.length_take, HL.out, Nat.min_eq_left hK]) (ownI_take HO.out (by rw [HL.out]; exact hK)) HB.out
        · have hR : sampR s n k = ([], 2) := if_neg (by omega)
          rw [hR]
          go_enter Try.func16, Try.ntmps16
          go_wp2_with (first
              | (go_at_call 48; refine HC1.out.mono ?_; rintro e w' ⟨rfl, rfl⟩)
              | (go_at_call 49; refine HC2.out.mono ?_; rintro e w' ⟨rfl, rfl⟩))
          go_ret2
          exact ⟨none, 0, rfl, .inl rfl, Below.refl _ _⟩
      · have hR : sampR s n k = ([], 2) := if_neg (by omega)
        rw [hR]
        go_enter Try.func16, Try.ntmps16
        go_wp2_with (first
            | (go_at_call 48; refine HC1.out.mono ?_; rintro e w' ⟨rfl, rfl⟩)
            | (go_at_call 49; refine HC2.out.mono ?_; rintro e w' ⟨rfl, rfl⟩))
        go_ret2
        exact ⟨none, 0, rfl, .inl rfl, Below.refl _ _⟩
    · rw [(isDrawn_no n).2 (by omega)] at HC2
      have hR : sampR s n k = ([], 2) := if_neg (by omega)
      rw [hR]
      go_enter Try.func16, Try.ntmps16
      go_wp2_with (first
          | (go_at_call 48; refine HC1.out.mono ?_; rintro e w' ⟨rfl, rfl⟩)
          | (go_at_call 49; refine HC2.out.mono ?_; rintro e w' ⟨rfl, rfl⟩))
      go_ret2
      exact ⟨none, 0, rfl, .inl rfl, Below.refl _ _⟩
  · rw [(isState_no s).2 (by omega)] at HC1
    have hR : sampR s n k = ([], 2) := if_neg (by omega)
    rw [hR]
    go_enter Try.func16, Try.ntmps16
    go_wp2_with (first
        | (go_at_call 48; refine HC1.out.mono ?_; rintro e w' ⟨rfl, rfl⟩)
        | (go_at_call 49; refine HC2.out.mono ?_; rintro e w' ⟨rfl, rfl⟩))
    go_ret2
    exact ⟨none, 0, rfl, .inl rfl, Below.refl _ _⟩

set_option maxRecDepth 100000 in
set_option maxHeartbeats 800000 in
theorem implStatesAfter_any (s n : Int) (w : World) :
    Calls Try.prog 30 #[.int .i64 s, .int .i64 n] w (SaysNewI (statesR s n).1 (statesR s n).2 w) := by
  have HC1 := Lib.hid (implIsState_any s w)
  have HC2 := Lib.hid (implIsDrawn_any n w)
  by_cases h1 : 1 ≤ s ∧ s ≤ 2147483646
  · rw [(isState_iff s).2 h1] at HC1
    by_cases h2 : 0 ≤ n ∧ n ≤ 200
    · rw [(isDrawn_iff n).2 h2] at HC2
      obtain ⟨N, rfl⟩ : ∃ N : Nat, n = N := ⟨n.toNat, by omega⟩
      have hN : N ≤ 200 := by omega
      have hR : statesR s N = (statesTo s N, 0) := if_pos ⟨h1, h2⟩
      rw [hR]
      exact implStatesAfter_ok s N w h1 hN
    · rw [(isDrawn_no n).2 (by omega)] at HC2
      have hR : statesR s n = ([], 2) := if_neg (by omega)
      rw [hR]
      go_enter Try.func30, Try.ntmps30
      go_wp2_with (first
          | (go_at_call 48; refine HC1.out.mono ?_; rintro e w' ⟨rfl, rfl⟩)
          | (go_at_call 49; refine HC2.out.mono ?_; rintro e w' ⟨rfl, rfl⟩))
      go_ret2
      exact ⟨none, 0, rfl, .inl rfl, Below.refl _ _⟩
  · rw [(isState_no s).2 (by omega)] at HC1
    have hR : statesR s n = ([], 2) := if_neg (by omega)
    rw [hR]
    go_enter Try.func30, Try.ntmps30
    go_wp2_with (first
        | (go_at_call 48; refine HC1.out.mono ?_; rintro e w' ⟨rfl, rfl⟩)
        | (go_at_call 49; refine HC2.out.mono ?_; rintro e w' ⟨rfl, rfl⟩))
    go_ret2
    exact ⟨none, 0, rfl, .inl rfl, Below.refl _ _⟩

theorem first_at {s : Int} (h : 1 ≤ s ∧ s ≤ 2147483646) {n : Nat} {x : Int} (h0 : 0 ≤ x) (h1 : x < n) : FirstAt (shuf s n) x (idx (shuf s n) x) := by
  have hx := (idx_at h h0 h1).2
  exact ⟨hx, fun i hi e => by have := shuf_one h e hx; omega⟩

set_option maxRecDepth 100000 in
set_option maxHeartbeats 800000 in
theorem implPlaceInShuffle_any (s n x : Int) (w : World) :
    Calls Try.prog 22 #[.int .i64 s, .int .i64 n, .int .i64 x] w fun e w' => e = .returned (.tuple #[.int .i64 (placeR s n x).1, .int .i64 (placeR s n x).2]) ∧ Below w.heap.size w w' := by
  have HC1 := Lib.hid (implIsState_any s w)
  have HC2 := Lib.hid (implIsDrawn_any n w)
  by_cases h1 : 1 ≤ s ∧ s ≤ 2147483646
  · rw [(isState_iff s).2 h1] at HC1
    by_cases h2 : 0 ≤ n ∧ n ≤ 200
    · rw [(isDrawn_iff n).2 h2] at HC2
      by_cases h4 : 0 ≤ x
      · by_cases h5 : x < n
        · obtain ⟨N, rfl⟩ : ∃ N : Nat, n = N := ⟨n.toNat, by omega⟩
          have hN : N ≤ 200 := by omega
          have hR : placeR s N x = (((idx (shuf s N) x : Nat) : Int), (0 : Int)) := if_pos ⟨⟨h1, h2⟩, h4, h5⟩
          rw [hR]
          have HL := Lib.hid (shuf_length s N)
          have HF := Lib.hid (first_at h1 h4 h5)
          go_enter Try.func22, Try.ntmps22
          go_wp2_with (first
              | (go_at_call 48; refine HC1.out.mono ?_; rintro e w' ⟨rfl, rfl⟩)
              | (go_at_call 49; refine HC2.out.mono ?_; rintro e w' ⟨rfl, rfl⟩))
          refine (implShuffled_any s N w h1 hN).mono ?_
          rintro e w1 ⟨a, cap, rfl, hcap, hO, hB⟩
          have HO := Lib.hid hO; have HB := Lib.hid hB; clear hO hB
          go_wp2_with fail
          refine (slicesIndex_any a _ cap (shuf s N) x _ w1 rfl (by rw [HL.out]; unfold maxLen; omega) (ownI_reads HO.out) HF.out).mono ?_
          rintro e w' ⟨rfl, rfl⟩
          go_wp2_with fail
          go_ret2
          exact ⟨rfl, HB.out⟩
        · have hR : placeR s n x = (0, 2) := if_neg (by omega)
          rw [hR]
          go_enter Try.func22, Try.ntmps22
          go_wp2_with (first
              | (go_at_call 48; refine HC1.out.mono ?_; rintro e w' ⟨rfl, rfl⟩)
              | (go_at_call 49; refine HC2.out.mono ?_; rintro e w' ⟨rfl, rfl⟩))
          go_ret2
          exact ⟨rfl, Below.refl _ _⟩
      · have hR : placeR s n x = (0, 2) := if_neg (by omega)
        rw [hR]
        go_enter Try.func22, Try.ntmps22
        go_wp2_with (first
            | (go_at_call 48; refine HC1.out.mono ?_; rintro e w' ⟨rfl, rfl⟩)
            | (go_at_call 49; refine HC2.out.mono ?_; rintro e w' ⟨rfl, rfl⟩))
        go_ret2
        exact ⟨rfl, Below.refl _ _⟩
    · rw [(isDrawn_no n).2 (by omega)] at HC2
      have hR : placeR s n x = (0, 2) := if_neg (by omega)
      rw [hR]
      go_enter Try.func22, Try.ntmps22
      go_wp2_with (first
          | (go_at_call 48; refine HC1.out.mono ?_; rintro e w' ⟨rfl, rfl⟩)
          | (go_at_call 49; refine HC2.out.mono ?_; rintro e w' ⟨rfl, rfl⟩))
      go_ret2
      exact ⟨rfl, Below.refl _ _⟩
  · rw [(isState_no s).2 (by omega)] at HC1
    have hR : placeR s n x = (0, 2) := if_neg (by omega)
    rw [hR]
    go_enter Try.func22, Try.ntmps22
    go_wp2_with (first
        | (go_at_call 48; refine HC1.out.mono ?_; rintro e w' ⟨rfl, rfl⟩)
        | (go_at_call 49; refine HC2.out.mono ?_; rintro e w' ⟨rfl, rfl⟩))
    go_ret2
    exact ⟨rfl, Below.refl _ _⟩

set_option maxRecDepth 100000 in
set_option maxHeartbeats 1600000 in
theorem implIsRightDraw_any (c s t n : Int) (a : Option Addr) (len cap : Nat) (zs : List Int) (w : World) (hl : zs.length = len) (hm : len ≤ maxLen) (hI : IntsAt w a zs) :
    Calls Try.prog 36 #[.int .i64 c, .int .i64 s, .int .i64 t, .int .i64 n, .slice a len cap] w fun e w' => e = .returned (.tuple #[.bool (rightR c s t n zs).1, .int .i64 (rightR c s t n zs).2]) ∧ Below w.heap.size w w' := by
  have hm2 : (len : Int) ≤ 9223372036854775807 := by unfold maxLen at hm; omega
  have HC1 := Lib.hid (implIsState_any s w)
  have HC2 := Lib.hid (implIsDrawn_any n w)
  have HC3 := Lib.hid (implIsSalt_any t w)
  by_cases h1 : 1 ≤ s ∧ s ≤ 2147483646
  · rw [(isState_iff s).2 h1] at HC1
    by_cases h3 : 0 ≤ t ∧ t ≤ 2147483646
    · rw [(isSalt_iff t).2 h3] at HC3
      by_cases h2 : 0 ≤ n ∧ n ≤ 200
      · rw [(isDrawn_iff n).2 h2] at HC2
        by_cases h4 : (zs.length : Int) ≤ n
        · obtain ⟨N, rfl⟩ : ∃ N : Nat, n = N := ⟨n.toNat, by omega⟩
          have hN : N ≤ 200 := by omega
          subst hl
          have HC4 := Lib.hid (implCommitmentTo_any s t w ⟨by omega, h1.2⟩ h3)
          by_cases hc : commit s t = c
          · subst hc
            have hR : rightR (commit s t) s t N zs = (sameL zs ((shuf s N).take zs.length), 0) := by rw [rightR, if_pos ⟨h1, h3, h2, h4⟩, decide_eq_true rfl, Bool.true_and]; rfl
            rw [hR]
            have HL := Lib.hid (shuf_length s N)
            have hK : zs.length ≤ N := by omega
            have HI := Lib.hid hI; clear hI
            generalize hcc : commit s t = c at *
            clear hcc
            go_enter Try.func36, Try.ntmps36
            go_wp2_with (first
                | (go_at_call 48; refine HC1.out.mono ?_; rintro e w' ⟨rfl, rfl⟩)
                | (go_at_call 49; refine HC2.out.mono ?_; rintro e w' ⟨rfl, rfl⟩)
                | (go_at_call 61; refine HC3.out.mono ?_; rintro e w' ⟨rfl, rfl⟩)
                | (go_at_call 62; refine HC4.out.mono ?_; rintro e w' ⟨rfl, rfl⟩))
            refine (implShuffled_any s N w h1 hN).mono ?_
            rintro e w1 ⟨a', cap', rfl, hcap, hO, hB⟩
            have HO := Lib.hid hO; have HI1 := Lib.hid (HI.out.below hB); have HB := Lib.hid hB; clear hO hB
            rw [HL.out] at hcap ⊢
            go_wp2_with fail
            refine (slicesEqual_any a a' zs.length cap zs.length cap' zs ((shuf s N).take zs.length) w1 rfl (by rw [List.length_take, HL.out, Nat.min_eq_left hK]) hm hm HI1.out (ownI_reads (ownI_take HO.out (by rw [HL.out]; exact hK)))).mono ?_
            rintro e w' ⟨rfl, n1, rfl⟩
            go_wp2_with fail
            go_ret2
            exact ⟨rfl, below_drewN HB.out _⟩
          · have hR : rightR c s t N zs = (false, 0) := by rw [rightR, if_pos ⟨h1, h3, h2, h4⟩, decide_eq_false hc, Bool.false_and]
            rw [hR]
            have hc2 : (commit s t != c) = true := bne_iff_ne.2 hc
            clear hI hc
            go_enter Try.func36, Try.ntmps36
            go_wp2_with (first
                | (go_at_call 48; refine HC1.out.mono ?_; rintro e w' ⟨rfl, rfl⟩)
                | (go_at_call 49; refine HC2.out.mono ?_; rintro e w' ⟨rfl, rfl⟩)
                | (go_at_call 61; refine HC3.out.mono ?_; rintro e w' ⟨rfl, rfl⟩)
                | (go_at_call 62; refine HC4.out.mono ?_; rintro e w' ⟨rfl, rfl⟩))
            go_ret2
            exact ⟨rfl, Below.refl _ _⟩
        · subst hl
          have hR : rightR c s t n zs = (false, 2) := if_neg (by omega)
          rw [hR]
          clear hI
          go_enter Try.func36, Try.ntmps36
          go_wp2_with (first
              | (go_at_call 48; refine HC1.out.mono ?_; rintro e w' ⟨rfl, rfl⟩)
              | (go_at_call 49; refine HC2.out.mono ?_; rintro e w' ⟨rfl, rfl⟩)
              | (go_at_call 61; refine HC3.out.mono ?_; rintro e w' ⟨rfl, rfl⟩))
          go_ret2
          exact ⟨rfl, Below.refl _ _⟩
      · rw [(isDrawn_no n).2 (by omega)] at HC2
        subst hl
        have hR : rightR c s t n zs = (false, 2) := if_neg (by omega)
        rw [hR]
        clear hI
        go_enter Try.func36, Try.ntmps36
        go_wp2_with (first
            | (go_at_call 48; refine HC1.out.mono ?_; rintro e w' ⟨rfl, rfl⟩)
            | (go_at_call 49; refine HC2.out.mono ?_; rintro e w' ⟨rfl, rfl⟩)
            | (go_at_call 61; refine HC3.out.mono ?_; rintro e w' ⟨rfl, rfl⟩))
        go_ret2
        exact ⟨rfl, Below.refl _ _⟩
    · rw [(isSalt_no t).2 (by omega)] at HC3
      subst hl
      have hR : rightR c s t n zs = (false, 2) := if_neg (by omega)
      rw [hR]
      clear hI
      go_enter Try.func36, Try.ntmps36
      go_wp2_with (first
          | (go_at_call 48; refine HC1.out.mono ?_; rintro e w' ⟨rfl, rfl⟩)
          | (go_at_call 49; refine HC2.out.mono ?_; rintro e w' ⟨rfl, rfl⟩)
          | (go_at_call 61; refine HC3.out.mono ?_; rintro e w' ⟨rfl, rfl⟩))
      go_ret2
      exact ⟨rfl, Below.refl _ _⟩
  · rw [(isState_no s).2 (by omega)] at HC1
    subst hl
    have hR : rightR c s t n zs = (false, 2) := if_neg (by omega)
    rw [hR]
    clear hI
    go_enter Try.func36, Try.ntmps36
    go_wp2_with (first
        | (go_at_call 48; refine HC1.out.mono ?_; rintro e w' ⟨rfl, rfl⟩)
        | (go_at_call 49; refine HC2.out.mono ?_; rintro e w' ⟨rfl, rfl⟩)
        | (go_at_call 61; refine HC3.out.mono ?_; rintro e w' ⟨rfl, rfl⟩))
    go_ret2
    exact ⟨rfl, Below.refl _ _⟩

end Go.Proofs.Ytfblkggfdmnpmaa
