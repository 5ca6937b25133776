/- Contracts: spec.l03Shuffle lays the shuffled numbers, spec.l03Code tells the code of a state and a number. -/
import Derived.Test.YtfblkggfdmnpmaaChecked
import Derived.Test.YtfblkggfdmnpmaaBase
import Derived.Test.YtfblkggfdmnpmaaInfo
import Derived.Test.YtfblkggfdmnpmaaPure31
import Derived.Test.YtfblkggfdmnpmaaPure6
import Derived.Test.YtfblkggfdmnpmaaMarkI
import Derived.Test.YtfblkggfdmnpmaaShuf1
import Derived.WalkKit
import Derived.WalkSpells
import Derived.WalkLawsBesides
import Derived.Lib.Hide
import Derived.IntWalk
import Derived.Deep.OwnRows
import Derived.Outline
namespace Go.Proofs.Ytfblkggfdmnpmaa
open Go.RowKit Pure2 Pure6 Pure30 Pure31

/-- a new list of the call's own is returned; nothing that was there has turned -/
def NewL (zs : List Int) (w : World) (e : Ending) (w' : World) : Prop :=
  ∃ a cap, e = .returned (.slice a zs.length cap) ∧ zs.length ≤ cap ∧ OwnI w.heap.size w' a zs.length (fun i => zs.getD i 0) ∧ Below w.heap.size w w'
/-- .. beside a code -/
def SaysNewI (zs : List Int) (n : Int) (w : World) (e : Ending) (w' : World) : Prop :=
  ∃ a cap, e = .returned (.tuple #[.slice a zs.length cap, .int .i64 n]) ∧ OwnI w.heap.size w' a zs.length (fun i => zs.getD i 0) ∧ Below w.heap.size w w'
theorem ret_slI {u v : Value} {a b : Int} (h : u = v) (h' : a = b) : Ending.returned (.tuple #[u, .int .i64 a]) = .returned (.tuple #[v, .int .i64 b]) := by rw [h, h']

/-- a list that was made by adding is one of our own -/
theorem owns_ownI {w : World} {base n : Nat} {v : Value} {zs : List Int} (h : w.ownsRow base 2 1 v n (zs.map (Value.int .i64))) :
    ∃ a cap, v = .slice a n cap ∧ n ≤ cap ∧ OwnI base w a n (fun i => zs.getD i 0) := by
  obtain ⟨h1, ⟨rfl, rfl⟩ | ⟨g, cap, cur, rfl, hg, hh, hn, hc, hs, hr⟩⟩ := h
  · exact ⟨none, 0, rfl, Nat.le_refl _, .inl rfl⟩
  · rw [Nat.mul_one] at hr hs
    rw [List.length_map, Nat.mul_one] at h1
    refine ⟨_, cap, rfl, hn, .inr ⟨g, fun i => cur.getD i (.int .i64 0), cap, rfl, hg, hn, ⟨cur, hh, hs, fun i hi => ?_⟩, fun i hi => ?_⟩⟩
    · simp [Array.getD, show i < cur.size by omega]
    · have hx : (zs.map (Value.int .i64))[i]? = some (.int .i64 (zs.getD i 0)) := by
        rw [List.getElem?_map, List.getElem?_eq_getElem (by omega)]; simp [List.getElem?_eq_getElem (show i < zs.length by omega)]
      rw [← hr, List.getElem?_take_of_lt hi, Array.getElem?_toList] at hx
      rw [Array.getElem?_eq_getElem (by omega)] at hx
      simp [Array.getD, show i < cur.size by omega]
      simpa using hx

/-- what two stores leave of a list of our own: two places are exchanged -/
theorem swp_row {w : World} {b N : Nat} {f : Nat → Value} {l : List Int} {i k : Nat} (hr : w.rowIs b 2 N f) (hf : ∀ j, j < l.length → f j = .int .i64 (l.getD j 0)) (hi : i < l.length) (hk : k < l.length) :
    ∃ f', ((w.setCell ⟨b, i, none⟩ (.int .i64 (l.getD k 0))).setCell ⟨b, k, none⟩ (.int .i64 (l.getD i 0))).rowIs b 2 N f' ∧ ∀ j, j < (swp l i k).length → f' j = .int .i64 ((swp l i k).getD j 0) := by
  refine ⟨_, (hr.set _ _).set _ _, fun j hj => ?_⟩
  rw [swp_length] at hj
  rw [swp_getD hi hk]
  by_cases h1 : j = k
  · simp [h1]
  · by_cases h2 : j = i
    · subst h2
      simp only [if_neg h1, if_true]
    · simp only [if_neg h1, if_neg h2]; exact hf j hj
/-- the same through one name -/
theorem swp_ownI {w : World} {B n : Nat} {b N : Nat} {f : Nat → Value} {l : List Int} {i k : Nat} {x y : Int} (hb : B ≤ b) (hN : n ≤ N) (hn : l.length = n) (hr : w.rowIs b 2 N f) (hf : ∀ j, j < n → f j = .int .i64 (l.getD j 0)) (hi : i < n) (hk : k < n)
    (hx : l.getD k 0 = x) (hy : l.getD i 0 = y) :
    OwnI B ((w.setCell ⟨b, i, none⟩ (.int .i64 x)).setCell ⟨b, k, none⟩ (.int .i64 y)) (some ⟨b, 0, none⟩) n (fun j => (swp l i k).getD j 0) := by
  subst hn hx hy
  obtain ⟨f', h1, h2⟩ := swp_row hr hf hi hk
  exact .inr ⟨b, f', N, rfl, hb, hN, h1, fun j hj => h2 j (by rw [swp_length]; exact hj)⟩
theorem newL_of {zs : List Int} {w w' : World} {a : Option Addr} {n cap : Nat} (hl : zs.length = n) (hc : n ≤ cap) (h : OwnI w.heap.size w' a n (fun i => zs.getD i 0)) (hB : Below w.heap.size w w') : NewL zs w (.returned (.slice a n cap)) w' := by
  subst hl; exact ⟨a, cap, rfl, hc, h, hB⟩

set_option maxRecDepth 100000 in
set_option maxHeartbeats 2000000 in
theorem specL03Shuffle_any (s : Int) (n : Nat) (w : World) (hs : 1 ≤ s ∧ s ≤ 2147483646) (hn : n ≤ 200) :
    Calls Try.prog 53 #[.int .i64 s, .int .i64 n] w (NewL (shuf s n) w) := by
  obtain ⟨i0, hi, hz0, hz1, hz2⟩ := info_parts Try.info_i64
  have HO0 := Lib.hid (World.ownsRow_lit (base := w.heap.size) (size := 1) (e := 2) w #[] 0 (by omega) (by decide) rfl)
  go_enter Try.func53, Try.ntmps53
  go_wp2_with fail
  go_loopw [5, 6] (fun v i wr => ∃ k : Nat, k ≤ n ∧ i = .int .i64 k ∧ wr.ownsRow w.heap.size 2 1 v k ((nums k).map (Value.int .i64)) ∧ Below w.heap.size w wr) (fun _ i _ => n - (intOf i).toNat)
  case atStart => exact ⟨0, Nat.zero_le _, rfl, HO0.out, (Below.refl _ _).alloc (Nat.le_refl _) _⟩
  case round =>
    obtain ⟨k, hk, rfl, ho, hB⟩ := hrel
    have HO := Lib.hid ho; have HB := Lib.hid hB; clear ho hB HO0
    by_cases hlt : k < n
    · have hown := HO.out.alloc (.cells #[.int .i64 k] 2)
      go_wp2_with (at_builtin; refine wpList_append_own _ rfl _ _ 26 rfl w.heap.size 2 i0 (.int .i64 0) 1 8 Try.underlying26 hi hz0 hz1 hz2 rfl (by decide) _ _ _ rfl hown ⟨wr.heap.size, 0, none⟩ 1 1 [.int .i64 k] rfl rfl ?c1 ?c2 ?c3 ?c4 ?c5 ?_)
      case c1 => exact cell_one_new _ _ _
      case c2 => intro u hu; simp at hu; subst hu; rfl
      case c3 => unfold maxLen; omega
      case c4 => omega
      case c5 => have := HB.out.size; simp; omega
      intro v' w5 hown' hgrow _
      have HO5 := Lib.hid (show w5.ownsRow w.heap.size 2 1 v' (k + 1) ((nums (k + 1)).map (Value.int .i64)) by rw [nums_snoc, List.map_append]; exact hown')
      have HB5 := Lib.hid ((HB.out.alloc HB.out.size _).grown hgrow (by have := HB.out.size; simp; omega) (fun j hj => (hown.lt j hj).1))
      clear hown hown' hgrow
      go_wp2_with fail
      go_roundw
      case rel => exact ⟨k + 1, by omega, by go_num, HO5.out, HB5.out⟩
      case measure => simp [intOf]; omega
    · obtain rfl : k = n := by omega
      obtain ⟨a, cap, rfl, hcap, hown⟩ := owns_ownI HO.out
      have HO2 := Lib.hid hown; clear hown HO
      go_wp2_with fail
      go_loopw [0, 7, 8, 9] (fun st i _ _ wr => ∃ j : Nat, j ≤ k - 1 ∧ i = .int .i64 j ∧ st = .int .i64 (shufTo s k j).1 ∧ OwnI w.heap.size wr a k (fun t => (shufTo s k j).2.getD t 0) ∧ Below w.heap.size w wr) (fun _ i _ _ _ => k - (intOf i).toNat)
      case atStart => exact ⟨0, Nat.zero_le _, rfl, rfl, HO2.out, HB.out⟩
      case round =>
        obtain ⟨j, hj, rfl, rfl, ho, hB⟩ := hrel
        have HO := Lib.hid ho; have HB3 := Lib.hid hB; clear ho hB HO2
        have hst := shufTo_state hs k j
        have HL := Lib.hid (shufTo_length s k j)
        by_cases hlt2 : j + 1 < k
        · obtain ⟨s2, hs2⟩ : ∃ s2, nx (shufTo s k j).1 = s2 := ⟨_, rfl⟩
          have HS2 := Lib.hid hs2
          have hs2b := nx_state hst
          rw [hs2] at hs2b
          have HC := Lib.hid (specL03Next_any (shufTo s k j).1 wr ⟨by omega, hst.2⟩)
          rw [hs2] at HC
          clear hs2
          obtain ⟨d, hd⟩ : ∃ d : Nat, below s2 ((k : Int) - j) = d := ⟨_, (Int.toNat_of_nonneg (below_bd (n := (k : Int) - j) ⟨by omega, hs2b.2⟩ (by omega)).1).symm⟩
          have hdb := (below_bd (s := s2) (n := (k : Int) - j) ⟨by omega, hs2b.2⟩ (by omega)).2 (by omega)
          rw [hd] at hdb
          have HP := Lib.hid (show place s2 k j = j + d by unfold place; rw [hd]; omega)
          have HN := Lib.hid (show (shufTo s k (j + 1)).1 = s2 from HS2.out)
          have HN2 := Lib.hid (show (shufTo s k (j + 1)).2 = swp (shufTo s k j).2 j (j + d) by show swp _ _ (place (nx _) _ _) = _; rw [HS2.out, HP.out])
          obtain ⟨hp0, hp1⟩ := prod_bd (s := s2) (n := (k : Int) - j) ⟨by omega, hs2b.2⟩ ⟨by omega, by omega⟩
          have q1 : IntKind.i64.wrap (s2 * ((k : Int) - j)) = s2 * ((k : Int) - j) := IntWalk.i64_in _ (by omega)
          have q2 : s2 * ((k : Int) - j) / 2147483647 = (d : Int) := hd
          clear hd
          obtain ⟨x, hx⟩ : ∃ x, (shufTo s k j).2.getD (j + d) 0 = x := ⟨_, rfl⟩
          obtain ⟨y, hy⟩ : ∃ y, (shufTo s k j).2.getD j 0 = y := ⟨_, rfl⟩
          rcases HO.out with h | ⟨b, f, N, ha, hb, hN, hr, hf⟩
          · omega
          subst ha
          have c1 : wr.cell? ⟨b, j, none⟩ = some (.int .i64 y) := by rw [hr.cell (show j < N by omega), hf j (by omega), ← hy]
          have c2 : wr.cell? ⟨b, j + d, none⟩ = some (.int .i64 x) := by rw [hr.cell (show j + d < N by omega), hf (j + d) (by omega), ← hx]
          obtain ⟨v3, c3⟩ : ∃ v3, (wr.setCell ⟨b, j, none⟩ (.int .i64 x)).cell? ⟨b, j + d, none⟩ = some v3 := ⟨_, (hr.set j (.int .i64 x)).cell (show j + d < N by omega)⟩
          have f1 := hr.frozen j
          have f2 := (hr.set j (.int .i64 x)).frozen (j + d)
          have HR := Lib.hid (swp_ownI (i := j) (k := j + d) hb hN HL.out hr hf (by omega) (by omega) hx hy)
          have hbw := hb
          clear hr hf hx hy HO
          go_wp2_with (go_at_call 59; refine HC.out.mono ?_; rintro e w' ⟨rfl, rfl⟩)
          go_roundw
          case rel => exact ⟨j + 1, by omega, by go_num, by rw [HN.out], by rw [HN2.out]; exact HR.out, (HB3.out.setCell hbw _).setCell hbw _⟩
          case measure => simp [intOf]; omega
        · have HE := Lib.hid (show j = k - 1 by omega)
          go_wp2_with fail
          go_ret
          exact newL_of (shuf_length s k) hcap (by have := HO.out; rw [HE.out] at this; exact this) HB3.out

end Go.Proofs.Ytfblkggfdmnpmaa
