/- Contracts: spec.l05Group, spec.l05Groups. -/
import Derived.Test.YtdeiillfdjebdaaChecked
import Derived.Test.YtdeiillfdjebdaaBase
import Derived.Test.YtdeiillfdjebdaaPure41
import Derived.Test.YtdeiillfdjebdaaPure51
import Derived.Test.YtdeiillfdjebdaaPersSlice
import Derived.Test.YtdeiillfdjebdaaArePers
import Derived.Test.YtdeiillfdjebdaaTabB
import Derived.Test.YtdeiillfdjebdaaSteps5
import Derived.WalkKit
import Derived.WalkSpells
import Derived.WalkLawsBesides
import Derived.Lib.Hide
import Derived.IntWalk
import Derived.Deep.OwnRows
import Derived.Outline
namespace Go.Proofs.Ytdeiillfdjebdaa
open Go.RowKit Pure1 Pure2 Pure40 Pure41 Pure50 Pure51

theorem cell_one (w : World) (v : Value) (T : TypeId) : (w.alloc (.cells #[v] T)).cell? ⟨w.heap.size, 0, none⟩ = some v := by
  have h : (w.alloc (.cells #[v] T)).heap[w.heap.size]? = some (.cells #[v] T) := heap_alloc_new w _
  unfold World.cell?; rw [h]; rfl

theorem BuildI.mono {B C : Nat} {w : World} {v : Value} {zs : List Int} (h : BuildI C w v zs) (hBC : B ≤ C) : BuildI B w v zs := by
  refine ⟨h.1, ?_⟩
  rcases h.2 with hn | ⟨g, cap, cur, e, hB, hg, rest⟩
  · exact .inl hn
  · exact .inr ⟨g, cap, cur, e, by omega, hg, rest⟩
theorem BuildT.mono {B C : Nat} {w : World} {v : Value} {rows : List RowOf} {xss : List (List Int)} (h : BuildT C w v rows xss) (hBC : B ≤ C) : BuildT B w v rows xss := by
  refine ⟨⟨h.row.1, ?_⟩, fun i r hi => ?_, h.fit, h.apart⟩
  · rcases h.row.2 with hn | ⟨g, cap, cur, e, hB, hg, rest⟩
    · exact .inl hn
    · exact .inr ⟨g, cap, cur, e, by omega, hg, rest⟩
  · rcases h.each i r hi with h1 | ⟨b2, f2, N2, e2, hb2, h2⟩
    · exact .inl h1
    · exact .inr ⟨b2, f2, N2, e2, by omega, h2⟩

set_option maxRecDepth 100000 in
set_option maxHeartbeats 4000000 in
theorem specGroup_any (a : Option Addr) (len cap : Nat) (ps : List Pers) (m : Int) (z : Nat) (w : World) (hl : ps.length = len) (hI : PersAt w a ps) (hP : arePers ps = true) (hz : z < len) :
    Calls Try.prog 71 #[.slice a len cap, .int .i64 m, .int .i64 (z : Int)] w (SaysL1 (toI (grpL (adj ps m) len z)) w) := by
  have hm : len ≤ 12 := by have := arePers_len hP; omega
  have HS := Lib.hid (specSteps_any a len cap ps m z w hl hI hP hz)
  clear hl hI hP hz
  unfold grpL
  go_enter Try.func71, Try.ntmps71
  go_wp2_with fail
  refine HS.out.mono ?_; rintro e w1 ⟨a1, cap1, rfl, hO, hB⟩
  have HO0 := Lib.hid (BuildI.empty (B := w1.heap.size) (w := w1) (Nat.le_refl _))
  have HB0 := Lib.hid (boxed w1 (.cells #[] 2))
  have HG := Lib.hid hO; have HW := Lib.hid hB
  clear hO hB HS
  go_wp2_with fail
  go_loopw [8, 9] (fun v c wr => ∃ k : Nat, k ≤ len ∧ c = .int .i64 k ∧ BuildI w1.heap.size wr v (toI (sel (fun j => decide (0 ≤ dist (adj ps m) z j)) k)) ∧ Below w1.heap.size w1 wr) (fun _ c _ => len - (intOf c).toNat)
  case atStart => exact ⟨0, Nat.zero_le _, rfl, HO0.out, HB0.out⟩
  case round =>
    obtain ⟨k, hk, rfl, ho, hB⟩ := hrel
    have HO := Lib.hid ho; have HB := Lib.hid hB; clear ho hB HO0 HB0
    by_cases hlt : k < len
    · obtain ⟨b, e, hc⟩ := (HG.out.below HB.out).at hlt
      subst e
      by_cases hd : 0 ≤ dist (adj ps m) z k
      · have HD := Lib.hid (show (fun j => decide (0 ≤ dist (adj ps m) z j)) k = true from decide_eq_true hd)
        generalize dist (adj ps m) z k = d at hc hd
        have hsz := HB.out.size
        have HO1 := Lib.hid (HO.out.alloc (.cells #[.int .i64 k] 2))
        have HB1 := Lib.hid (HB.out.alloc hsz (.cells #[.int .i64 k] 2))
        have HLe := Lib.hid (sel_le (fun j => decide (0 ≤ dist (adj ps m) z j)) k)
        go_wp2_with (at_builtin; refine wpList_int_append rfl _ _ rfl _ _ rfl HO1.out wr.heap.size k rfl (cell_one _ _ _) ?c2 ?c3 ?_)
        case c2 => rw [toI_length]; have := HLe.out; omega
        case c3 => first | omega | (simp; omega)
        intro v' w5 ho5 hg5
        have HO5 := Lib.hid (show BuildI w1.heap.size w5 v' (toI (sel (fun j => decide (0 ≤ dist (adj ps m) z j)) (k + 1))) by rw [sel_yes HD.out, toI_append]; exact ho5)
        have HB5 := Lib.hid (HO1.out.grew HB1.out (Nat.le_refl _) (by simp; omega) hg5)
        clear ho5 hg5 hc
        go_wp2_with fail
        go_roundw
        case rel => exact ⟨k + 1, by omega, by go_num, HO5.out, HB5.out⟩
        case measure => simp [intOf]; omega
      · have HD := Lib.hid (show (fun j => decide (0 ≤ dist (adj ps m) z j)) k = false from decide_eq_false hd)
        generalize dist (adj ps m) z k = d at hc hd
        go_wp2_with fail
        go_roundw
        case rel => exact ⟨k + 1, by omega, by go_num, by rw [sel_no HD.out]; exact HO.out, HB.out⟩
        case measure => simp [intOf]; omega
    · obtain rfl : k = len := by omega
      go_wp2_with fail
      go_ret
      exact ⟨_, rfl, HO.out.mono HW.out.size, HW.out.trans (HB.out.mono HW.out.size)⟩

/-- the groups of the keepers below k -/
noncomputable def groupsL (A : Nat → Nat → Bool) (n k : Nat) : List (List Int) := (kpsTo A k).map (fun i => toI (grpL A n i))
theorem groupsL_yes {A : Nat → Nat → Bool} {n k : Nat} (h : keep A k = k) : groupsL A n (k + 1) = groupsL A n k ++ [toI (grpL A n k)] := by
  unfold groupsL kpsTo; rw [sel_yes (decide_eq_true h), List.map_append]; rfl
theorem groupsL_no {A : Nat → Nat → Bool} {n k : Nat} (h : keep A k ≠ k) : groupsL A n (k + 1) = groupsL A n k := by
  unfold groupsL kpsTo; rw [sel_no (decide_eq_false h)]
theorem groupsL_le (A : Nat → Nat → Bool) (n k : Nat) : (groupsL A n k).length ≤ k := by rw [groupsL, List.length_map]; exact sel_le _ _

set_option maxRecDepth 100000 in
set_option maxHeartbeats 4000000 in
theorem specGroups_any (a : Option Addr) (len cap : Nat) (ps : List Pers) (m : Int) (w : World) (hl : ps.length = len) (hI : PersAt w a ps) (hP : arePers ps = true) :
    Calls Try.prog 57 #[.slice a len cap, .int .i64 m] w (SaysT1 (groupsL (adj ps m) len len) w) := by
  have hm : len ≤ 12 := by have := arePers_len hP; omega
  have hA : ∀ i j, adj ps m i j = true → i < len ∧ j < len := fun i j h => by have := adj_lt h; omega
  have HAA := Lib.hid hA
  have HG := Lib.hid (fun W (hB : Below w.heap.size w W) (z : Nat) (hz : z < len) => specGroup_any a len cap ps m z W hl (hI.below hB) hP hz)
  have HT0 := Lib.hid (BuildT.empty (B := w.heap.size) (w := w) (Nat.le_refl _)); have HB0 := Lib.hid (boxed w (.cells #[] 37))
  clear hl hI hP hA
  go_enter Try.func57, Try.ntmps57
  go_wp2
  go_loopw [5, 6] (fun v c wr => ∃ k : Nat, k ≤ len ∧ c = .int .i64 k ∧ ∃ rows, BuildT w.heap.size wr v rows (groupsL (adj ps m) len k) ∧ Below w.heap.size w wr) (fun _ c _ => len - (intOf c).toNat)
  case atStart => exact ⟨0, Nat.zero_le _, rfl, _, HT0.out, HB0.out⟩
  case round =>
    obtain ⟨k, hk, rfl, rows, ht, hB⟩ := hrel
    have HT := Lib.hid ht; have HB := Lib.hid hB; clear ht hB HT0 HB0
    by_cases hlt : k < len
    · go_wp2_with fail
      refine (HG.out wr HB.out k hlt).mono ?_; rintro e w2 ⟨v2, rfl, hb2, hB2⟩
      obtain ⟨a2, cap2, rfl, hcap, ho⟩ := hb2.own
      have hhead := grp_head HAA.out (a := k) hlt
      have hne : 0 < (toI (grpL (adj ps m) len k)).length := by rw [toI_length]; have := (List.getElem?_eq_some_iff.1 hhead).1; exact this
      obtain ⟨b, e, hc⟩ := ho.at hne
      rw [show (toI (grpL (adj ps m) len k)).getD 0 0 = (keep (adj ps m) k : Int) by simp [List.getD, toI_at hhead]] at hc
      subst e
      have HO := Lib.hid ho
      have HT2 := Lib.hid (HT.out.below hB2)
      have HF2 := Lib.hid (HT.out.fresh (Nat.le_refl _))
      have hszr := HB.out.size
      have HB2 := Lib.hid (HB.out.trans (hB2.mono hszr))
      have hle := sel_le (fun j => decide (0 ≤ dist (adj ps m) k j)) len
      have hsm : (toI (grpL (adj ps m) len k)).length ≤ 12 := by rw [toI_length]; unfold grpL; omega
      clear hb2 hB2 ho hhead hle
      generalize hzs : toI (grpL (adj ps m) len k) = zs at HO hne hsm hcap
      have HZ := Lib.hid hzs; clear hzs
      by_cases hk2 : keep (adj ps m) k = k
      · have HK := Lib.hid hk2
        rw [hk2] at hc
        clear hk2
        have hsz2 := HB2.out.size
        have HT6 := Lib.hid (HT2.out.alloc (.cells #[rowVal (some ⟨b, 0, none⟩, zs.length, cap2)] 37))
        have HB6 := Lib.hid (HB2.out.alloc hsz2 (.cells #[rowVal (some ⟨b, 0, none⟩, zs.length, cap2)] 37))
        have HO6 := Lib.hid (HO.out.below (boxed w2 (.cells #[rowVal (some ⟨b, 0, none⟩, zs.length, cap2)] 37)))
        have HLe := Lib.hid (groupsL_le (adj ps m) len k)
        go_wp2_with (at_builtin; refine wpList_tab_append rfl _ _ rfl _ rows _ rfl HT6.out w2.heap.size (some ⟨b, 0, none⟩, zs.length, cap2) zs wr.heap.size rfl (cell_one _ _ _) HF2.out HO6.out hszr rfl (by have := HLe.out; omega) (by simp; omega) ?_)
        intro v' w7 ht7 hg7
        have HT7 := Lib.hid (show BuildT w.heap.size w7 v' _ (groupsL (adj ps m) len (k + 1)) by rw [groupsL_yes HK.out, HZ.out]; exact ht7)
        have HB7 := Lib.hid (HT6.out.grew HB6.out (Nat.le_refl _) (by simp; omega) hg7)
        clear ht7 hg7 hc
        go_wp2_with fail
        go_roundw
        case rel => exact ⟨k + 1, by omega, by go_num, _, HT7.out, HB7.out⟩
        case measure => simp [intOf]; omega
      · have HK := Lib.hid hk2
        have hkb : ((keep (adj ps m) k : Int) == (k : Int)) = false := beq_int (by omega)
        clear hk2
        generalize (keep (adj ps m) k : Int) = q at hc hkb
        go_wp2_with fail
        go_roundw
        case rel => exact ⟨k + 1, by omega, by go_num, rows, by rw [groupsL_no HK.out]; exact HT2.out, HB2.out⟩
        case measure => simp [intOf]; omega
    · obtain rfl : k = len := by omega
      go_wp2_with fail
      go_ret
      exact ⟨_, rows, rfl, HT.out, HB.out⟩

end Go.Proofs.Ytdeiillfdjebdaa
