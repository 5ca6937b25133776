/- The contracts of chapter 3 at a known answer, and plain facts on the answers. -/
import Derived.Test.YtfblkggfdmnpmaaChecked
import Derived.Test.YtfblkggfdmnpmaaBase
import Derived.Test.YtfblkggfdmnpmaaMarkI
import Derived.Test.YtfblkggfdmnpmaaPure31
import Derived.Test.YtfblkggfdmnpmaaShuf2
import Derived.Test.YtfblkggfdmnpmaaShuf5
import Derived.Test.YtfblkggfdmnpmaaShuf6
import Derived.Test.YtfblkggfdmnpmaaShuf7
import Derived.Test.YtfblkggfdmnpmaaShuf8
import Derived.WalkKit
import Derived.WalkSpells
import Derived.WalkLawsBesides
import Derived.Lib.Hide
import Derived.Outline
namespace Go.Proofs.Ytfblkggfdmnpmaa
open Go.RowKit Pure2 Pure6 Pure30 Pure31

theorem num_facts {s n k y q : Int} (h : numR s n = (k, y, q)) : q ≠ 0 ∨ (q = 0 ∧ nextR s = (y, 0) ∧ 0 ≤ k ∧ k < n) := by
  unfold numR at h
  split at h
  · rename_i hc
    simp only [Prod.mk.injEq] at h
    obtain ⟨rfl, rfl, rfl⟩ := h
    have hst := nx_state hc.1
    have hb := below_bd (s := nx s) (n := n) ⟨by omega, hst.2⟩ (by omega)
    exact .inr ⟨rfl, if_pos hc.1, hb.1, hb.2 (by omega)⟩
  · simp only [Prod.mk.injEq] at h; exact .inl (by omega)
theorem states_facts {s c q : Int} {zs : List Int} (h : statesR s c = (zs, q)) : zs.length ≤ 200 ∧ (q ≠ 0 ∨ (q = 0 ∧ ∀ (i : Nat) (x y : Int), zs[i]? = some x → zs[i + 1]? = some y → nextR x = (y, 0))) := by
  have hl := statesR_len s c
  rw [h] at hl
  refine ⟨hl, ?_⟩
  unfold statesR at h
  split at h
  · rename_i hc
    simp only [Prod.mk.injEq] at h
    obtain ⟨rfl, rfl⟩ := h
    refine .inr ⟨rfl, fun i x y hx hy => ?_⟩
    have h1 := (List.getElem?_eq_some_iff.1 hx).1
    have h2 := (List.getElem?_eq_some_iff.1 hy).1
    rw [statesTo_length] at h1 h2
    rw [statesTo_at s _ i h1] at hx
    rw [statesTo_at s _ (i + 1) h2] at hy
    cases hx; cases hy
    rw [nxs_succ s (i + 1)]
    exact if_pos (nxs_state hc.1 (i + 1))
  · simp only [Prod.mk.injEq] at h; exact .inl (by omega)
theorem shuf_facts {s n q : Int} {zs : List Int} (h : shufR s n = (zs, q)) : zs.length ≤ 200 ∧ (q ≠ 0 ∨ (q = 0 ∧ (zs.length : Int) = n ∧ ∀ i : Nat, i < zs.length → ∃ k, FirstAt zs i k)) := by
  have hl := shufR_len s n
  rw [h] at hl
  refine ⟨hl, ?_⟩
  unfold shufR at h
  split at h
  · rename_i hc
    simp only [Prod.mk.injEq] at h
    obtain ⟨rfl, rfl⟩ := h
    refine .inr ⟨rfl, by rw [shuf_length]; omega, fun i hi => ?_⟩
    rw [shuf_length] at hi
    exact ⟨_, first_at hc.1 (by omega) (by omega)⟩
  · simp only [Prod.mk.injEq] at h; exact .inl (by omega)
theorem place_facts {s n x p q : Int} (h : placeR s n x = (p, q)) : q ≠ 0 ∨ (q = 0 ∧ ∃ (zs : List Int) (k : Nat), shufR s n = (zs, 0) ∧ p = k ∧ zs[k]? = some x) := by
  unfold placeR at h
  split at h
  · rename_i hc
    simp only [Prod.mk.injEq] at h
    obtain ⟨rfl, rfl⟩ := h
    exact .inr ⟨rfl, _, _, if_pos hc.1, rfl, (idx_at hc.1.1 hc.2.1 (by omega)).2⟩
  · simp only [Prod.mk.injEq] at h; exact .inl (by omega)
theorem samp_facts {s n k q : Int} {zs : List Int} (h : sampR s n k = (zs, q)) : zs.length ≤ 200 ∧ (q ≠ 0 ∨ (q = 0 ∧ ∃ (l : List Int) (N K : Nat), n = N ∧ k = K ∧ K ≤ N ∧ N ≤ 200 ∧ (1 ≤ s ∧ s ≤ 2147483646) ∧ l = shuf s N ∧ l.length = N ∧ zs = l.take K)) := by
  have hl := sampR_len s n k
  rw [h] at hl
  refine ⟨hl, ?_⟩
  unfold sampR at h
  split at h
  · rename_i hc
    simp only [Prod.mk.injEq] at h
    obtain ⟨rfl, rfl⟩ := h
    exact .inr ⟨rfl, _, n.toNat, k.toNat, by omega, by omega, by omega, by omega, hc.1.1, rfl, shuf_length _ _, rfl⟩
  · simp only [Prod.mk.injEq] at h; exact .inl (by omega)
theorem right_facts {c s t n q : Int} {r : Bool} {zs : List Int} (h : rightR c s t n zs = (r, q)) : q ≠ 0 ∨ (q = 0 ∧ ∃ (d : Int) (l : List Int), comR s t = (d, 0) ∧ sampR s n zs.length = (l, 0) ∧ l.length = zs.length ∧ ((d = c ∧ r = sameL l zs) ∨ (d ≠ c ∧ r = false))) := by
  unfold rightR at h
  split at h
  · rename_i hc
    simp only [Prod.mk.injEq] at h
    obtain ⟨rfl, rfl⟩ := h
    refine .inr ⟨rfl, commit s t, (shuf s n.toNat).take zs.length, if_pos ⟨hc.1, hc.2.1⟩, ?_, ?_, ?_⟩
    · rw [sampR, if_pos ⟨⟨hc.1, hc.2.2.1⟩, by omega, hc.2.2.2⟩, Int.toNat_natCast]
    · rw [List.length_take, shuf_length]; omega
    · by_cases hd : commit s t = c
      · exact .inl ⟨hd, by rw [decide_eq_true hd, Bool.true_and, sameL_comm]⟩
      · exact .inr ⟨hd, by rw [decide_eq_false hd, Bool.false_and]⟩
  · simp only [Prod.mk.injEq] at h; exact .inl (by omega)
theorem ints_take {w : World} {a : Option Addr} {l : List Int} {K : Nat} (h : IntsAt w a l) : IntsAt w a (l.take K) := by
  rcases h with rfl | ⟨b, off, rfl, hc⟩
  · exact .inl (by simp)
  · refine .inr ⟨b, off, rfl, fun i x hx => hc i x ?_⟩
    rw [List.getElem?_take] at hx
    split at hx
    · exact hx
    · cases hx
theorem implNextState_is (s : Int) (y q : Int) (w : World) (h : nextR s = (y, q)) :
    Calls Try.prog 33 #[.int .i64 s] w fun e w' => e = .returned (.tuple #[.int .i64 y, .int .i64 q]) ∧ w = w' := by
  have := implNextState_any s w
  rw [h] at this; exact this
theorem implNumberBelow_is (s n : Int) (k y q : Int) (w : World) (h : numR s n = (k, y, q)) :
    Calls Try.prog 27 #[.int .i64 s, .int .i64 n] w fun e w' => e = .returned (.tuple #[.int .i64 k, .int .i64 y, .int .i64 q]) ∧ w = w' := by
  have := implNumberBelow_any s n w
  rw [h] at this; exact this
theorem implCommitmentOf_is (s t : Int) (y q : Int) (w : World) (h : comR s t = (y, q)) :
    Calls Try.prog 39 #[.int .i64 s, .int .i64 t] w fun e w' => e = .returned (.tuple #[.int .i64 y, .int .i64 q]) ∧ w = w' := by
  have := implCommitmentOf_any s t w
  rw [h] at this; exact this
theorem implShuffleNumbers_is (s n : Int) (zs : List Int) (q : Int) (w : World) (h : shufR s n = (zs, q)) :
    Calls Try.prog 19 #[.int .i64 s, .int .i64 n] w (SaysNewI zs q w) := by
  have := implShuffleNumbers_any s n w
  rw [h] at this; exact this
theorem implSampleOf_is (s n k : Int) (zs : List Int) (q : Int) (w : World) (h : sampR s n k = (zs, q)) :
    Calls Try.prog 16 #[.int .i64 s, .int .i64 n, .int .i64 k] w (SaysNewI zs q w) := by
  have := implSampleOf_any s n k w
  rw [h] at this; exact this
theorem implStatesAfter_is (s n : Int) (zs : List Int) (q : Int) (w : World) (h : statesR s n = (zs, q)) :
    Calls Try.prog 30 #[.int .i64 s, .int .i64 n] w (SaysNewI zs q w) := by
  have := implStatesAfter_any s n w
  rw [h] at this; exact this
theorem implPlaceInShuffle_is (s n x : Int) (p q : Int) (w : World) (h : placeR s n x = (p, q)) :
    Calls Try.prog 22 #[.int .i64 s, .int .i64 n, .int .i64 x] w fun e w' => e = .returned (.tuple #[.int .i64 p, .int .i64 q]) ∧ Below w.heap.size w w' := by
  have := implPlaceInShuffle_any s n x w
  rw [h] at this; exact this
theorem implIsRightDraw_is (c s t n : Int) (a : Option Addr) (len cap : Nat) (zs : List Int) (r : Bool) (q : Int) (w : World) (hl : zs.length = len) (hm : len ≤ maxLen) (hI : IntsAt w a zs) (h : rightR c s t n zs = (r, q)) :
    Calls Try.prog 36 #[.int .i64 c, .int .i64 s, .int .i64 t, .int .i64 n, .slice a len cap] w fun e w' => e = .returned (.tuple #[.bool r, .int .i64 q]) ∧ Below w.heap.size w w' := by
  have := implIsRightDraw_any c s t n a len cap zs w hl hm hI
  rw [h] at this; exact this
theorem specNextState_is (s : Int) (y q : Int) (w : World) (h : nextR s = (y, q)) :
    Calls Try.prog 34 #[.int .i64 s] w fun e w' => e = .returned (.tuple #[.int .i64 y, .int .i64 q]) ∧ w = w' := by
  have := specNextState_any s w
  rw [h] at this; exact this
theorem specNumberBelow_is (s n : Int) (k y q : Int) (w : World) (h : numR s n = (k, y, q)) :
    Calls Try.prog 28 #[.int .i64 s, .int .i64 n] w fun e w' => e = .returned (.tuple #[.int .i64 k, .int .i64 y, .int .i64 q]) ∧ w = w' := by
  have := specNumberBelow_any s n w
  rw [h] at this; exact this
theorem specCommitmentOf_is (s t : Int) (y q : Int) (w : World) (h : comR s t = (y, q)) :
    Calls Try.prog 40 #[.int .i64 s, .int .i64 t] w fun e w' => e = .returned (.tuple #[.int .i64 y, .int .i64 q]) ∧ w = w' := by
  have := specCommitmentOf_any s t w
  rw [h] at this; exact this
theorem specShuffleNumbers_is (s n : Int) (zs : List Int) (q : Int) (w : World) (h : shufR s n = (zs, q)) :
    Calls Try.prog 20 #[.int .i64 s, .int .i64 n] w (SaysNewI zs q w) := by
  have := specShuffleNumbers_any s n w
  rw [h] at this; exact this
theorem specSampleOf_is (s n k : Int) (zs : List Int) (q : Int) (w : World) (h : sampR s n k = (zs, q)) :
    Calls Try.prog 17 #[.int .i64 s, .int .i64 n, .int .i64 k] w (SaysNewI zs q w) := by
  have := specSampleOf_any s n k w
  rw [h] at this; exact this
theorem specStatesAfter_is (s n : Int) (zs : List Int) (q : Int) (w : World) (h : statesR s n = (zs, q)) :
    Calls Try.prog 31 #[.int .i64 s, .int .i64 n] w (SaysNewI zs q w) := by
  have := specStatesAfter_any s n w
  rw [h] at this; exact this
theorem specPlaceInShuffle_is (s n x : Int) (p q : Int) (w : World) (h : placeR s n x = (p, q)) :
    Calls Try.prog 23 #[.int .i64 s, .int .i64 n, .int .i64 x] w fun e w' => e = .returned (.tuple #[.int .i64 p, .int .i64 q]) ∧ Below w.heap.size w w' := by
  have := specPlaceInShuffle_any s n x w
  rw [h] at this; exact this
theorem specIsRightDraw_is (c s t n : Int) (a : Option Addr) (len cap : Nat) (zs : List Int) (r : Bool) (q : Int) (w : World) (hl : zs.length = len) (hm : len ≤ maxLen) (hI : IntsAt w a zs) (h : rightR c s t n zs = (r, q)) :
    Calls Try.prog 37 #[.int .i64 c, .int .i64 s, .int .i64 t, .int .i64 n, .slice a len cap] w fun e w' => e = .returned (.tuple #[.bool r, .int .i64 q]) ∧ Below w.heap.size w w' := by
  have := specIsRightDraw_any c s t n a len cap zs w hl hm hI
  rw [h] at this; exact this

/-- a new list with room for itself, beside a code -/
def SaysNewC (zs : List Int) (n : Int) (w : World) (e : Ending) (w' : World) : Prop :=
  ∃ a cap, e = .returned (.tuple #[.slice a zs.length cap, .int .i64 n]) ∧ zs.length ≤ cap ∧ OwnI w.heap.size w' a zs.length (fun i => zs.getD i 0) ∧ Below w.heap.size w w'
set_option maxRecDepth 100000 in
set_option maxHeartbeats 800000 in
theorem implShuffleNumbers_cap (s : Int) (N : Nat) (w : World) (h1 : 1 ≤ s ∧ s ≤ 2147483646) (hN : N ≤ 200) :
    Calls Try.prog 19 #[.int .i64 s, .int .i64 N] w (SaysNewC (shuf s N) 0 w) := by
  have HC1 := Lib.hid (implIsState_any s w)
  have HC2 := Lib.hid (implIsDrawn_any N w)
  rw [(isState_iff s).2 h1] at HC1
  rw [(isDrawn_iff N).2 ⟨by omega, by omega⟩] at HC2
  go_enter Try.func19, Try.ntmps19
  go_wp2_with (first
    | (go_at_call 48; refine HC1.out.mono ?_; rintro e w' ⟨rfl, rfl⟩)
    | (go_at_call 49; refine HC2.out.mono ?_; rintro e w' ⟨rfl, rfl⟩))
  refine (implShuffled_any s N w h1 hN).mono ?_
  rintro e w1 ⟨a, cap, rfl, hcap, hO, hB⟩
  have HO := Lib.hid hO; have HB := Lib.hid hB; clear hO hB
  go_wp2_with fail
  go_ret2
  exact ⟨a, cap, rfl, hcap, HO.out, HB.out⟩

end Go.Proofs.Ytfblkggfdmnpmaa
