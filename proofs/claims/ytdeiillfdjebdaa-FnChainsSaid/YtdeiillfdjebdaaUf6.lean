/- Contract: impl.groupsWithin joins all pairs. -/
import Derived.Test.YtdeiillfdjebdaaChecked
import Derived.Test.YtdeiillfdjebdaaBase
import Derived.Test.YtdeiillfdjebdaaPure41
import Derived.Test.YtdeiillfdjebdaaPure51
import Derived.Test.YtdeiillfdjebdaaPersSlice
import Derived.Test.YtdeiillfdjebdaaArePers
import Derived.Test.YtdeiillfdjebdaaCode5
import Derived.Test.YtdeiillfdjebdaaTabB
import Derived.Test.YtdeiillfdjebdaaSteps5
import Derived.Test.YtdeiillfdjebdaaGroups5
import Derived.Test.YtdeiillfdjebdaaPairs5
import Derived.Test.YtdeiillfdjebdaaFacts
import Derived.Test.YtdeiillfdjebdaaUf5
import Derived.Deep.RegionHeld
import Derived.WalkKit
import Derived.WalkSpells
import Derived.WalkLawsBesides
import Derived.Lib.Hide
import Derived.IntWalk
import Derived.Deep.OwnRows
import Derived.Outline
namespace Go.Proofs.Ytdeiillfdjebdaa
open Go.RowKit Go.Sort Pure1 Pure2 Pure40 Pure41 Pure50 Pure51

/-- the groups are handed out -/
def SaysPl (A : Nat → Nat → Bool) (n : Nat) (w : World) (e : Ending) (w' : World) : Prop :=
  ∃ b par, e = .returned (.pointer (some ⟨b, 0, none⟩)) ∧ w.heap.size ≤ b ∧ Places w' b n par ∧ Joins A n par (pairsL A n) ∧ Below w.heap.size w w'

/-- what is laid at the start -/
def cells25 (n : Int) : Array Value := #[.int .i64 0, .pointer none, .int .i64 0, .pointer none, .int .i64 0, .pointer none, .int .i64 0, .pointer none, .int .i64 0, .pointer none, .int .i64 0, .pointer none, .int .i64 0, .pointer none, .int .i64 0, .pointer none, .int .i64 0, .pointer none, .int .i64 0, .pointer none, .int .i64 0, .pointer none, .int .i64 0, .pointer none, .int .i64 n]
/-- the first k places bear their indices -/
def Started (w0 w : World) (b n k : Nat) : Prop :=
  Below b w0 w ∧ ∃ f, w.rowIs b 78 25 f ∧ (∀ i : Nat, i < k → f (i * 2) = .int .i64 i) ∧ (∀ i : Nat, i < 12 → f (i * 2 + 1) = .pointer none) ∧ f 24 = .int .i64 n
theorem started (w : World) (n : Nat) : Started w (w.alloc (.cells (cells25 n) 78)) w.heap.size n 0 := by
  refine ⟨boxed _ _, fun i => ((cells25 n)[i]?).getD undef, World.rowIs_alloc w (cells25 n) _ _ (fun i hi => by rw [Array.getElem?_eq_getElem hi]; rfl), fun i hi => by omega, fun i hi => ?_, rfl⟩
  match i, hi with
  | 0, _ | 1, _ | 2, _ | 3, _ | 4, _ | 5, _ | 6, _ | 7, _ | 8, _ | 9, _ | 10, _ | 11, _ => rfl
theorem Started.step {w0 w : World} {b n k : Nat} (h : Started w0 w b n k) (hk : k < 12) : Started w0 (w.setCell ⟨b, k * 2, none⟩ (.int .i64 k)) b n (k + 1) := by
  obtain ⟨h0, f, hr, h1, h2, h3⟩ := h
  refine ⟨h0.setCell (show b ≤ (⟨b, k * 2, none⟩ : Addr).block from Nat.le_refl _) _, _, hr.set _ _, fun i hi => ?_, fun i hi => ?_, ?_⟩
  · show (if i * 2 = k * 2 then _ else _) = _
    by_cases e : i = k
    · subst e; rw [if_pos rfl]
    · rw [if_neg (by omega)]; exact h1 i (by omega)
  · show (if i * 2 + 1 = k * 2 then _ else _) = _
    rw [if_neg (by omega)]; exact h2 i hi
  · show (if 24 = k * 2 then _ else _) = _
    rw [if_neg (by omega)]; exact h3
theorem Started.places {w0 w : World} {b n : Nat} (h : Started w0 w b n 12) : Places w b n (fun _ => none) := by
  obtain ⟨h0, f, hr, h1, h2, h3⟩ := h
  exact ⟨f, hr, h1, h2, h3⟩
theorem OwnTab.kept {C : Nat} {w w' : World} {a : Option Addr} {rows : List RowOf} {g : Nat → Nat → Int} {b : Nat} (h : OwnTab C w a rows g) (hg : w.grownBy w' (some b)) (hb : b < C) : OwnTab C w' a rows g := by
  have hne : ∀ k, C ≤ k → some k ≠ some b := fun k hk e => by cases e; omega
  rcases h with h | ⟨b1, f, N, e, hB, hN, hr, hv, ho, ha⟩
  · exact .inl h
  · refine .inr ⟨b1, f, N, e, hB, hN, hr.of_block (hg.block b1 hr.lt (hne _ hB)), hv, fun i r hi => ?_, ha⟩
    rcases ho i r hi with h1 | ⟨b2, f2, N2, e2, hb2, hN2, hr2, hf2⟩
    · exact .inl h1
    · exact .inr ⟨b2, f2, N2, e2, hb2, hN2, hr2.of_block (hg.block b2 hr2.lt (hne _ hb2)), hf2⟩
theorem grown_below {w w' : World} {B b : Nat} (h : w.grownBy w' (some b)) (hB : B ≤ b) (hs : B ≤ w.heap.size) : Below B w w' :=
  (Below.refl B w).grown h hs (fun k hk => by cases hk; exact hB)

set_option maxRecDepth 100000 in
set_option maxHeartbeats 4000000 in
theorem implGroups_any (a : Option Addr) (len cap : Nat) (ps : List Pers) (m : Int) (w : World) (hl : ps.length = len) (hI : PersAt w a ps) (hP : arePers ps = true) :
    Calls Try.prog 53 #[.slice a len cap, .int .i64 m] w (SaysPl (adj ps m) len w) := by
  have hm : len ≤ 12 := by have := arePers_len hP; omega
  have HA := Lib.hid (show ∀ i j, adj ps m i j = true → i < len ∧ j < len from fun i j h => by have := adj_lt h; omega)
  have HC := Lib.hid (fun W (hB : Below w.heap.size w W) => implAlikePairs_low a len cap ps m W hl (hI.below hB) hP)
  have HS0 := Lib.hid (started w len)
  clear hl hI hP
  go_enter Try.func53, Try.ntmps53
  go_wp2
  rw [show (w.alloc (.cells #[.int .i64 0, .pointer none, .int .i64 0, .pointer none, .int .i64 0, .pointer none, .int .i64 0, .pointer none, .int .i64 0, .pointer none, .int .i64 0, .pointer none, .int .i64 0, .pointer none, .int .i64 0, .pointer none, .int .i64 0, .pointer none, .int .i64 0, .pointer none, .int .i64 0, .pointer none, .int .i64 0, .pointer none, .int .i64 (len : Int)] 78)) = w.alloc (.cells (cells25 len) 78) from rfl]
  obtain ⟨b, hb⟩ : ∃ b, b = w.heap.size := ⟨_, rfl⟩
  have hsz0 : b + 1 ≤ (w.alloc (.cells (cells25 len) 78)).heap.size := by simp [hb]
  rw [← hb] at HS0 ⊢
  have HBB := Lib.hid hb; clear hb
  generalize w.alloc (.cells (cells25 len) 78) = w0 at HS0 hsz0 ⊢
  go_loopw [13] (fun c wr => ∃ k : Nat, k ≤ 12 ∧ c = .int .i64 k ∧ b + 1 ≤ wr.heap.size ∧ Started w wr b len k) (fun c _ => 12 - (intOf c).toNat)
  case atStart => exact ⟨0, by omega, rfl, hsz0, HS0.out⟩
  case round =>
    obtain ⟨k, hk, rfl, hsz, hst⟩ := hrel
    clear HS0 hsz0
    have HS := Lib.hid hst; clear hst
    by_cases hlt : k < 12
    · obtain ⟨c, hc, hf⟩ : ∃ v, wr.cell? ⟨b, k * 2, none⟩ = some v ∧ wr.frozen? ⟨b, k * 2, none⟩ = false := by
        obtain ⟨_, f, hr, _⟩ := HS.out
        exact ⟨_, hr.cell (by omega), hr.frozen _⟩
      go_wp2_with fail
      go_roundw
      case rel => exact ⟨k + 1, by omega, by go_num, by simpa using hsz, HS.out.step hlt⟩
      case measure => simp [intOf]; omega
    · obtain rfl : k = 12 := by omega
      have HP0 := Lib.hid HS.out.places
      have HB0 := Lib.hid HS.out.1
      clear HS
      go_wp2_with fail
      refine (HC.out wr (HBB.out ▸ HB0.out)).mono ?_; rintro e w2 ⟨v, rows, rfl, ht, hB⟩
      obtain ⟨a2, cap2, rfl, ho⟩ := ht.own
      have HF := Lib.hid ht.fit; have HT := Lib.hid ho
      have HP2 := Lib.hid (HP0.out.of_block (hB.block b HP0.out.lt))
      have HB2 := Lib.hid (HB0.out.trans (hB.mono (by omega)))
      obtain ⟨C, hCC⟩ : ∃ C, C = wr.heap.size := ⟨_, rfl⟩
      have hCb : b < C := by omega
      rw [← hCC] at HT
      have hsz2 : C ≤ w2.heap.size := hCC ▸ hB.size
      have HJ := Lib.hid (Joins.start (adj ps m) len)
      have hpl : (pairsL (adj ps m) len).length ≤ 144 := by
        have h1 := pairsTo_le (A := adj ps m) len len
        have h2 : len * len ≤ 12 * 12 := Nat.mul_le_mul hm hm
        unfold pairsL; omega
      clear ht hB ho HC hCC
      go_wp2_with fail
      go_loopw [28] (fun c w3 => ∃ (t : Nat) (par : Nat → Option Nat), t ≤ (pairsL (adj ps m) len).length ∧ c = .int .i64 t ∧ Joins (adj ps m) len par ((pairsL (adj ps m) len).take t) ∧ Places w3 b len par ∧ w2.grownBy w3 (some b)) (fun c _ => (pairsL (adj ps m) len).length - (intOf c).toNat)
      case atStart => exact ⟨0, _, Nat.zero_le _, rfl, HJ.out, HP2.out, grown_drewN _ 0 _⟩
      case round =>
        obtain ⟨t, par, ht, rfl, hj, hp, hg⟩ := hrel
        clear HJ HP2
        have HJ := Lib.hid hj; have HP := Lib.hid hp; have HG := Lib.hid hg; clear hj hp hg
        by_cases htl : t < (pairsL (adj ps m) len).length
        · have hx : (pairsL (adj ps m) len)[t]? = some ((pairsL (adj ps m) len)[t]) := List.getElem?_eq_getElem htl
          obtain ⟨i, k, hik, hlt1, hlt2, had⟩ := pairsTo_mem (List.mem_of_getElem? hx)
          rw [hik] at hx
          have htr : t < rows.length := by rw [HF.out.1]; exact htl
          have hrow : rows[t]? = some rows[t] := List.getElem?_eq_getElem htr
          have hlen := HF.out.2 t _ _ hrow hx
          obtain ⟨tb, e, hc, hown⟩ := (HT.out.kept HG.out hCb).at hrow
          subst e
          rw [tabG_at hx, hlen] at hown
          rw [hlen] at hc
          generalize rows[t] = r at hc hown
          obtain ⟨ra, rl, rc⟩ := r
          simp only at hc hown
          rcases hown with h0 | ⟨pb, f, N, e, hpb, hN, hr, hf⟩
          · cases h0
          subst e
          have hN2 : 2 ≤ N := hN
          have c0 : wr.cell? ⟨pb, 0, none⟩ = some (.int .i64 (i : Int)) := by rw [hr.cell (by omega), hf 0 (by simp)]; rfl
          have c1 : wr.cell? ⟨pb, 1, none⟩ = some (.int .i64 (k : Int)) := by rw [hr.cell (by omega), hf 1 (by simp)]; rfl
          have hpb2 : some pb ≠ some b := fun e => by cases e; omega
          obtain ⟨x, hx1, hx2, hx3⟩ := HJ.out.root i
          obtain ⟨y, hy1, hy2, hy3⟩ := HJ.out.root k
          have HJC := Lib.hid (fun W (hP : Places W b len par) => implJoin_any b len par i k x y W hP (by omega) (by omega) HJ.out.less hx1 hy1 (by omega) (by omega))
          have HJN := Lib.hid (show Joins (adj ps m) len (joinP par x y) ((pairsL (adj ps m) len).take (t + 1)) by
            rw [take_get hx]
            obtain ⟨q1, q2, q3⟩ := HJ.out.join (adj_comm ps m) hlt2 (by omega) had hx1 hy1
            unfold joinP
            by_cases e : x = y
            · rw [if_pos e]; exact q1 e
            · by_cases e2 : x < y
              · rw [if_neg e, if_pos e2]; exact q2 e2
              · rw [if_neg e, if_neg e2]; exact q3 (by omega))
          have hi12 : (i : Int) < 12 := by omega
          have hk12 : (k : Int) < 12 := by omega
          clear hr hf hx hik hrow hlen hx1 hx2 hx3 hy1 hy2 hy3 had
          have HJD := Lib.hid (HJC.out wr.drew (HP.out.of_block rfl))
          go_wp2_with fail
          go_region_held (fun W => W.cell? ⟨pb, 0, none⟩ = some (.int .i64 (i : Int)) ∧ W.cell? ⟨pb, 1, none⟩ = some (.int .i64 (k : Int))) (first | exact ⟨c0, c1⟩ | exact ⟨hg4.cell c0 hpb2, hg4.cell c1 hpb2⟩) ((go_at_call 79; refine HJD.out.mono ?_; rintro e w4 ⟨⟨v4, rfl⟩, hp4, hg4⟩))
          have HP4 := Lib.hid hp4
          have HG4 := Lib.hid (grown_trans HG.out (grown_trans (grown_drewN wr 1 _) hg4))
          go_wp2_with fail
          go_roundw
          case rel => exact ⟨t + 1, _, by omega, by go_num, HJN.out, HP4.out, HG4.out⟩
          case measure => simp [intOf]; omega
        · have HE := Lib.hid (show Joins (adj ps m) len par (pairsL (adj ps m) len) by have := HJ.out; rwa [List.take_of_length_le (by omega)] at this)
          go_wp2_with fail
          go_ret
          exact ⟨b, par, rfl, by rw [HBB.out]; exact Nat.le_refl _, HP.out, HE.out, HBB.out ▸ HB2.out.trans (grown_below HG.out (Nat.le_refl _) (by omega))⟩
end Go.Proofs.Ytdeiillfdjebdaa
