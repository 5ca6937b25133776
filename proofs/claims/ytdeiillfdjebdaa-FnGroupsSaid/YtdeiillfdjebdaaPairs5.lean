/- Contracts: impl.alikePairs, impl.AlikePairs, spec.AlikePairs. -/
import Derived.Test.YtdeiillfdjebdaaChecked
import Derived.Test.YtdeiillfdjebdaaBase
import Derived.Test.YtdeiillfdjebdaaPure41
import Derived.Test.YtdeiillfdjebdaaPure51
import Derived.Test.YtdeiillfdjebdaaLike
import Derived.Test.YtdeiillfdjebdaaPersSlice
import Derived.Test.YtdeiillfdjebdaaArePers
import Derived.Test.YtdeiillfdjebdaaCode5
import Derived.Test.YtdeiillfdjebdaaTabB
import Derived.WalkKit
import Derived.WalkSpells
import Derived.WalkLawsBesides
import Derived.Lib.Hide
import Derived.Lib.QuietBelow
import Derived.IntWalk
import Derived.Deep.OwnRows
import Derived.Deep.QuietTactic
import Derived.BigQuiet
import Derived.Outline
namespace Go.Proofs.Ytdeiillfdjebdaa
open Go.RowKit Go.Sort Pure1 Pure2 Pure40 Pure41 Pure50 Pure51

theorem ownI_pair {B : Nat} {w : World} (i k : Int) (hB : B ≤ w.heap.size) : OwnI B (w.alloc (.cells #[.int .i64 i, .int .i64 k] 2)) (some ⟨w.heap.size, 0, none⟩) 2 (fun j => [i, k].getD j 0) :=
  .inr ⟨_, fun j => if j = 0 then .int .i64 i else .int .i64 k, 2, rfl, hB, Nat.le_refl _, World.rowIs_alloc w #[.int .i64 i, .int .i64 k] 2 _ (fun j hj => by
    have hj : j < 2 := hj
    match j, hj with
    | 0, _ => rfl
    | 1, _ => rfl), fun j hj => by
    match j, hj with
    | 0, _ => rfl
    | 1, _ => rfl⟩
theorem cell_new1 (w : World) (v : Value) (T : TypeId) : (w.alloc (.cells #[v] T)).cell? ⟨w.heap.size, 0, none⟩ = some v := by
  have h : (w.alloc (.cells #[v] T)).heap[w.heap.size]? = some (.cells #[v] T) := heap_alloc_new w _
  unfold World.cell?; rw [h]; rfl
theorem cell_new2 (w : World) (o : Obj) (v : Value) (T : TypeId) (b : Nat) (hb : b = w.heap.size + 1) : ((w.alloc o).alloc (.cells #[v] T)).cell? ⟨b, 0, none⟩ = some v := by
  have := cell_new1 (w.alloc o) v T
  rw [show (w.alloc o).heap.size = b by simp; omega] at this; exact this
theorem pairs_small {A : Nat → Nat → Bool} {n i : Nat} (hn : n ≤ 12) (hi : i ≤ n) (k : Nat) (hk : k ≤ n) : (pairsTo A n i ++ rowTo A i k).length ≤ 1000 := by
  have h1 := pairsTo_le (A := A) n i
  have h2 := rowTo_le (A := A) i k
  have : i * n ≤ 12 * 12 := Nat.mul_le_mul (by omega) hn
  rw [List.length_append]; omega

/-- the answer of AlikePairs -/
def pairsR (ps : List Pers) (m : Int) : List (List Int) × Int := if code5 ps m [] = 0 then (pairsL (adj ps m) ps.length, 0) else ([], code5 ps m [])
theorem ownTab_mono {B C : Nat} {w : World} {a : Option Addr} {rows : List RowOf} {g : Nat → Nat → Int} (h : OwnTab C w a rows g) (hBC : B ≤ C) : OwnTab B w a rows g := by
  rcases h with h | ⟨b, f, N, e, hb, hN, hr, hv, ho, ha⟩
  · exact .inl h
  · exact .inr ⟨b, f, N, e, by omega, hN, hr, hv, fun i r hi => by
      rcases ho i r hi with h1 | ⟨b2, f2, N2, e2, hb2, h2⟩
      · exact .inl h1
      · exact .inr ⟨b2, f2, N2, e2, by omega, h2⟩, ha⟩

set_option maxRecDepth 100000 in
set_option maxHeartbeats 4000000 in
theorem implAlikePairs_low (a : Option Addr) (len cap : Nat) (ps : List Pers) (m : Int) (w : World) (hl : ps.length = len) (hI : PersAt w a ps) (hP : arePers ps = true) :
    Calls Try.prog 58 #[.slice a len cap, .int .i64 m] w (SaysT1 (pairsL (adj ps m) len) w) := by
  have hm : len ≤ 12 := by have := arePers_len hP; omega
  have HL := Lib.hid hl; have HI := Lib.hid hI; have HP := Lib.hid hP
  have HT0 := Lib.hid (BuildT.nil w.heap.size w); have HB0 := Lib.hid (Below.refl w.heap.size w)
  clear hl hI hP
  go_enter Try.func58, Try.ntmps58
  go_wp2
  go_loopw [5, 10] (fun v c wr => ∃ i : Nat, i ≤ len ∧ c = .int .i64 i ∧ ∃ rows, BuildT w.heap.size wr v rows (pairsTo (adj ps m) len i) ∧ Below w.heap.size w wr) (fun _ c _ => len - (intOf c).toNat)
  case atStart => exact ⟨0, Nat.zero_le _, rfl, _, HT0.out, HB0.out⟩
  case round =>
    obtain ⟨i, hi, rfl, rows, ht, hB⟩ := hrel
    have HT := Lib.hid ht; have HB := Lib.hid hB; clear ht hB HT0 HB0
    by_cases hlt : i < len
    · go_wp2_with fail
      go_loopw [5, 7] (fun v c wr => ∃ k : Nat, i < k ∧ k ≤ len ∧ c = .int .i64 k ∧ ∃ rows, BuildT w.heap.size wr v rows (pairsTo (adj ps m) len i ++ rowTo (adj ps m) i k) ∧ Below w.heap.size w wr) (fun _ c _ => len - (intOf c).toNat)
      case atStart => exact ⟨i + 1, by omega, by omega, by go_num, rows, by rw [rowTo_start, List.append_nil]; exact HT.out, HB.out⟩
      case round =>
        obtain ⟨k, hik, hk, rfl, rows, ht, hB⟩ := hrel
        clear HT HB
        have HT := Lib.hid ht; have HB := Lib.hid hB; clear ht hB
        by_cases hlk : k < len
        · obtain ⟨b, off, p, rfl, hc, hp⟩ := (HI.out.below HB.out).at HL.out hlt
          obtain ⟨b', off', q, e, hc2, hq⟩ := (HI.out.below HB.out).at HL.out hlk
          cases e
          have hpp := arePers_at HP.out hp; have hqq := arePers_at HP.out hq
          go_wp2_with fail
          obtain ⟨d0, d1, d2, d3, d4⟩ := hc
          obtain ⟨g0, g1, g2, g3, g4⟩ := hc2
          have k0 := cell_regrown d0; have k1 := cell_regrown d1; have k2 := cell_regrown d2; have k3 := cell_regrown d3; have k4 := cell_regrown d4
          have l0 := cell_regrown g0; have l1 := cell_regrown g1; have l2 := cell_regrown g2; have l3 := cell_regrown g3; have l4 := cell_regrown g4
          clear d0 d1 d2 d3 d4 g0 g1 g2 g3 g4
          have hcall := regr_call (w := wr) (fun W _ => show Calls Try.prog 72 #[.agg #[.int .i64 p.num, .string p.fst, .string p.lst, .int .i64 p.born, .int .i64 p.zone], .agg #[.int .i64 q.num, .string q.fst, .string q.lst, .int .i64 q.born, .int .i64 q.zone], .int .i64 m] W _ from implIsAlike_any p.num p.fst p.lst p.born p.zone q.num q.fst q.lst q.born q.zone m W hpp hqq)
          have heta : likeP ⟨p.num, p.fst, p.lst, p.born, p.zone⟩ ⟨q.num, q.fst, q.lst, q.born, q.zone⟩ = likeP p q := rfl
          rw [heta] at hcall
          clear heta hpp hqq
          cases hd : decide (m ≤ likeP p q)
          · rw [hd] at hcall
            have HAd := Lib.hid (show adj ps m i k = false by rw [adj_at hp hq]; exact hd)
            clear hd
            skip
            refine wp_region_quiet_below (by kernel_rfl) (by kernel_rfl) ?_
            iterate 10 (go_big_quiet_step (exact hcall _ _))
            refine wpQuiet_nil ?_
            intro _ hw'
            obtain ⟨⟨dq, osq⟩, hw''⟩ := hw'
            subst hw''
            have hb5 := below_regrown wr dq osq
            have HB5 := Lib.hid (HB.out.trans (hb5.mono HB.out.size))
            have HT5 := Lib.hid (HT.out.below hb5)
            clear hcall k0 k1 k2 k3 k4 l0 l1 l2 l3 l4 hb5 HT
            generalize grow (redrawn wr dq) osq = w5 at HB5 HT5 ⊢
            go_wp2_with fail
            go_roundw
            case rel => exact ⟨k + 1, by omega, by omega, by go_num, rows, by rw [rowTo_no HAd.out]; exact HT5.out, HB5.out⟩
            case measure => simp [intOf]; omega
          · rw [hd] at hcall
            have HAd := Lib.hid (show adj ps m i k = true by rw [adj_at hp hq]; exact hd)
            clear hd
            skip
            refine wp_region_quiet_below (by kernel_rfl) (by kernel_rfl) ?_
            iterate 10 (go_big_quiet_step (exact hcall _ _))
            refine wpQuiet_nil ?_
            intro _ hw'
            obtain ⟨⟨dq, osq⟩, hw''⟩ := hw'
            subst hw''
            have hb5 := below_regrown wr dq osq
            have HB5 := Lib.hid (HB.out.trans (hb5.mono HB.out.size))
            have HT5 := Lib.hid (HT.out.below hb5)
            clear hcall k0 k1 k2 k3 k4 l0 l1 l2 l3 l4 hb5 HT
            generalize grow (redrawn wr dq) osq = w5 at HB5 HT5 ⊢
            have hsz5 := HB5.out.size
            have HT6 := Lib.hid ((HT5.out.alloc (.cells #[.int .i64 i, .int .i64 k] 2)).alloc (.cells #[rowVal (some ⟨w5.heap.size, 0, none⟩, 2, 2)] 37))
            have HB6 := Lib.hid ((HB5.out.alloc hsz5 (.cells #[.int .i64 i, .int .i64 k] 2)).alloc (by simp; omega) (.cells #[rowVal (some ⟨w5.heap.size, 0, none⟩, 2, 2)] 37))
            have HO6 := Lib.hid ((ownI_pair (B := w5.heap.size) (w := w5) i k (Nat.le_refl _)).below ((Below.refl _ _).alloc (Nat.le_refl _) (.cells #[rowVal (some ⟨w5.heap.size, 0, none⟩, 2, 2)] 37)))
            have HS6 := Lib.hid (pairs_small (A := adj ps m) (n := len) (by omega) (show i ≤ len by omega) k (by omega))
            go_wp2_with (at_builtin; refine wpList_tab_append rfl _ _ rfl _ rows _ rfl HT6.out (w5.heap.size + 1) (some ⟨w5.heap.size, 0, none⟩, 2, 2) [(i : Int), (k : Int)] w5.heap.size rfl (cell_new2 w5 _ _ _ _ rfl) (HT5.out.fresh (Nat.le_refl _)) HO6.out hsz5 rfl (by have := HS6.out; omega) (by simp; omega) ?_)
            intro v' w7 ht7 hg7
            have HT7 := Lib.hid ht7
            have HB7 := Lib.hid (HT6.out.grew HB6.out (Nat.le_refl _) (by simp; omega) hg7)
            clear ht7 hg7
            go_wp2_with fail
            go_roundw
            case rel => exact ⟨k + 1, by omega, by omega, by go_num, _, by rw [rowTo_yes (by omega) HAd.out]; exact HT7.out, HB7.out⟩
            case measure => simp [intOf]; omega
        · obtain rfl : k = len := by omega
          go_wp2_with fail
          go_roundw
          case rel => exact ⟨i + 1, by omega, by go_num, rows, HT.out, HB.out⟩
          case measure => simp [intOf]; omega
    · obtain rfl : i = len := by omega
      go_wp2_with fail
      go_ret
      exact ⟨_, rows, rfl, HT.out, HB.out⟩

set_option maxRecDepth 100000 in
set_option maxHeartbeats 1000000 in
theorem implAlikePairs_any (a : Option Addr) (len cap : Nat) (ps : List Pers) (m : Int) (w : World) (hl : ps.length = len) (hm : len ≤ maxLen) (hI : PersAt w a ps) (hF : Fits ps) :
    Calls Try.prog 17 #[.slice a len cap, .int .i64 m] w (SaysTab (pairsR ps m).1 (pairsR ps m).2 w) := by
  have HE := Lib.hid (implJoiningError_any a len cap ps m none 0 0 [] w hl hm hI hF rfl (by unfold maxLen; omega) (.inl rfl))
  rcases code5_cases ps m [] with h | h | h
  · obtain ⟨hP, _, _⟩ := code5_zero h
    have HC := Lib.hid (fun W (hB : Below w.heap.size w W) => implAlikePairs_low a len cap ps m W hl (hI.below hB) hP)
    rw [show pairsR ps m = (pairsL (adj ps m) len, 0) by unfold pairsR; rw [if_pos h, hl]]
    rw [h] at HE
    clear hl hm hI hF
    go_enter Try.func17, Try.ntmps17
    go_wp2_with fail
    refine HE.out.mono ?_; rintro e w1 ⟨rfl, hB⟩
    have HB := Lib.hid hB; clear hB
    go_wp2_with fail
    refine (HC.out w1 HB.out).mono ?_; rintro e w2 ⟨v, rows, rfl, ht, hB⟩
    obtain ⟨a2, cap2, rfl, ho⟩ := ht.own
    have HF := Lib.hid ht.fit; have HO := Lib.hid ho; have HB2 := Lib.hid hB; clear ht ho hB
    go_wp2_with fail
    go_ret2
    exact ⟨a2, cap2, rows, rfl, HF.out, ownTab_mono HO.out HB.out.size, HB.out.trans (HB2.out.mono HB.out.size)⟩
  all_goals
    rw [show pairsR ps m = ([], code5 ps m []) by unfold pairsR; rw [if_neg (by omega)]]
    rw [h] at HE ⊢
    clear hl hm hI hF
    go_enter Try.func17, Try.ntmps17
    go_wp2_with fail
    refine HE.out.mono ?_; rintro e w1 ⟨rfl, hB⟩
    have HB := Lib.hid hB; clear hB
    go_wp2_with fail
    go_ret2
    exact ⟨none, 0, [], rfl, ⟨rfl, fun i r xs h => by simp at h⟩, .inl rfl, HB.out⟩

set_option maxRecDepth 100000 in
set_option maxHeartbeats 4000000 in
theorem specAlikePairs_any (a : Option Addr) (len cap : Nat) (ps : List Pers) (m : Int) (w : World) (hl : ps.length = len) (hm : len ≤ maxLen) (hI : PersAt w a ps) (hF : Fits ps) :
    Calls Try.prog 18 #[.slice a len cap, .int .i64 m] w (SaysTab (pairsR ps m).1 (pairsR ps m).2 w) := by
  have HE := Lib.hid (specL05Limit_any a len cap ps m w hl hm hI hF)
  rcases code5_cases ps m [] with h | h | h
  · obtain ⟨hP, _, _⟩ := code5_zero h
    have hm : len ≤ 12 := by have := arePers_len hP; omega
    have HL := Lib.hid hl; have HP := Lib.hid hP
    have HI0 := Lib.hid hI
    rw [show pairsR ps m = (pairsL (adj ps m) len, 0) by unfold pairsR; rw [if_pos h, hl]]
    rw [h] at HE
    clear hl hI hF hP h
    go_enter Try.func18, Try.ntmps18
    go_wp2_with fail
    refine HE.out.mono ?_; rintro e w1 ⟨rfl, hB⟩
    have hsz1 := hB.size
    have HI := Lib.hid HI0.out
    have HB0 := Lib.hid (hB.alloc hsz1 (.cells #[] 37)); have HT0 := Lib.hid (BuildT.empty (w := w1) hsz1); clear hB
    go_wp2_with fail
    go_loopw [7, 8] (fun v c wr => ∃ i : Nat, i ≤ len ∧ c = .int .i64 i ∧ ∃ rows, BuildT w.heap.size wr v rows (pairsTo (adj ps m) len i) ∧ Below w.heap.size w wr) (fun _ c _ => len - (intOf c).toNat)
    case atStart => exact ⟨0, Nat.zero_le _, rfl, _, HT0.out, HB0.out⟩
    case round =>
      obtain ⟨i, hi, rfl, rows, ht, hB⟩ := hrel
      have HT := Lib.hid ht; have HB := Lib.hid hB; clear ht hB HT0 HB0
      by_cases hlt : i < len
      · go_wp2_with fail
        go_loopw [7, 9] (fun v c wr => ∃ k : Nat, i < k ∧ k ≤ len ∧ c = .int .i64 k ∧ ∃ rows, BuildT w.heap.size wr v rows (pairsTo (adj ps m) len i ++ rowTo (adj ps m) i k) ∧ Below w.heap.size w wr) (fun _ c _ => len - (intOf c).toNat)
        case atStart => exact ⟨i + 1, by omega, by omega, by go_num, rows, by rw [rowTo_start, List.append_nil]; exact HT.out, HB.out⟩
        case round =>
          obtain ⟨k, hik, hk, rfl, rows, ht, hB⟩ := hrel
          clear HT HB
          have HT := Lib.hid ht; have HB := Lib.hid hB; clear ht hB
          by_cases hlk : k < len
          · obtain ⟨b, off, p, rfl, hc, hp⟩ := (HI.out.below HB.out).at HL.out hlt
            obtain ⟨b', off', q, e, hc2, hq⟩ := (HI.out.below HB.out).at HL.out hlk
            cases e
            have hpp := arePers_at HP.out hp; have hqq := arePers_at HP.out hq
            go_wp2_with fail
            obtain ⟨d0, d1, d2, d3, d4⟩ := hc
            obtain ⟨g0, g1, g2, g3, g4⟩ := hc2
            have k0 := cell_regrown d0; have k1 := cell_regrown d1; have k2 := cell_regrown d2; have k3 := cell_regrown d3; have k4 := cell_regrown d4
            have l0 := cell_regrown g0; have l1 := cell_regrown g1; have l2 := cell_regrown g2; have l3 := cell_regrown g3; have l4 := cell_regrown g4
            clear d0 d1 d2 d3 d4 g0 g1 g2 g3 g4
            have hcall := regr_call (w := wr) (fun W _ => show Calls Try.prog 59 #[.agg #[.int .i64 p.num, .string p.fst, .string p.lst, .int .i64 p.born, .int .i64 p.zone], .agg #[.int .i64 q.num, .string q.fst, .string q.lst, .int .i64 q.born, .int .i64 q.zone]] W _ from specLike_any p.num p.fst p.lst p.born p.zone q.num q.fst q.lst q.born q.zone W hpp hqq)
            have heta : likeP ⟨p.num, p.fst, p.lst, p.born, p.zone⟩ ⟨q.num, q.fst, q.lst, q.born, q.zone⟩ = likeP p q := rfl
            rw [heta] at hcall
            clear heta hpp hqq
            cases hd : decide (m ≤ likeP p q)
            · skip
              have HAd := Lib.hid (show adj ps m i k = false by rw [adj_at hp hq]; exact hd)
              have hd2 : ¬ m ≤ likeP p q := of_decide_eq_false hd
              generalize likeP p q = L at hcall hd hd2
              refine wp_region_quiet_below (by kernel_rfl) (by kernel_rfl) ?_
              iterate 11 (go_big_quiet_step (exact hcall _ _))
              refine wpQuiet_nil ?_
              intro _ hw'
              obtain ⟨⟨dq, osq⟩, hw''⟩ := hw'
              subst hw''
              have hb5 := below_regrown wr dq osq
              have HB5 := Lib.hid (HB.out.trans (hb5.mono HB.out.size))
              have HT5 := Lib.hid (HT.out.below hb5)
              clear hcall k0 k1 k2 k3 k4 l0 l1 l2 l3 l4 hb5 HT
              generalize grow (redrawn wr dq) osq = w5 at HB5 HT5 ⊢
              go_wp2_with fail
              go_roundw
              case rel => exact ⟨k + 1, by omega, by omega, by go_num, rows, by rw [rowTo_no HAd.out]; exact HT5.out, HB5.out⟩
              case measure => simp [intOf]; omega
            · skip
              have HAd := Lib.hid (show adj ps m i k = true by rw [adj_at hp hq]; exact hd)
              have hd2 : m ≤ likeP p q := of_decide_eq_true hd
              generalize likeP p q = L at hcall hd hd2
              refine wp_region_quiet_below (by kernel_rfl) (by kernel_rfl) ?_
              iterate 11 (go_big_quiet_step (exact hcall _ _))
              refine wpQuiet_nil ?_
              intro _ hw'
              obtain ⟨⟨dq, osq⟩, hw''⟩ := hw'
              subst hw''
              have hb5 := below_regrown wr dq osq
              have HB5 := Lib.hid (HB.out.trans (hb5.mono HB.out.size))
              have HT5 := Lib.hid (HT.out.below hb5)
              clear hcall k0 k1 k2 k3 k4 l0 l1 l2 l3 l4 hb5 HT
              generalize grow (redrawn wr dq) osq = w5 at HB5 HT5 ⊢
              have hsz5 := HB5.out.size
              have HT6 := Lib.hid ((HT5.out.alloc (.cells #[.int .i64 i, .int .i64 k] 2)).alloc (.cells #[rowVal (some ⟨w5.heap.size, 0, none⟩, 2, 2)] 37))
              have HB6 := Lib.hid ((HB5.out.alloc hsz5 (.cells #[.int .i64 i, .int .i64 k] 2)).alloc (by simp; omega) (.cells #[rowVal (some ⟨w5.heap.size, 0, none⟩, 2, 2)] 37))
              have HO6 := Lib.hid ((ownI_pair (B := w5.heap.size) (w := w5) i k (Nat.le_refl _)).below ((Below.refl _ _).alloc (Nat.le_refl _) (.cells #[rowVal (some ⟨w5.heap.size, 0, none⟩, 2, 2)] 37)))
              have HS6 := Lib.hid (pairs_small (A := adj ps m) (n := len) (by omega) (show i ≤ len by omega) k (by omega))
              go_wp2_with (at_builtin; refine wpList_tab_append rfl _ _ rfl _ rows _ rfl HT6.out (w5.heap.size + 1) (some ⟨w5.heap.size, 0, none⟩, 2, 2) [(i : Int), (k : Int)] w5.heap.size rfl (cell_new2 w5 _ _ _ _ rfl) (HT5.out.fresh (Nat.le_refl _)) HO6.out hsz5 rfl (by have := HS6.out; omega) (by simp; omega) ?_)
              intro v' w7 ht7 hg7
              have HT7 := Lib.hid ht7
              have HB7 := Lib.hid (HT6.out.grew HB6.out (Nat.le_refl _) (by simp; omega) hg7)
              clear ht7 hg7
              go_wp2_with fail
              go_roundw
              case rel => exact ⟨k + 1, by omega, by omega, by go_num, _, by rw [rowTo_yes (by omega) HAd.out]; exact HT7.out, HB7.out⟩
              case measure => simp [intOf]; omega
          · obtain rfl : k = len := by omega
            go_wp2_with fail
            go_roundw
            case rel => exact ⟨i + 1, by omega, by go_num, rows, HT.out, HB.out⟩
            case measure => simp [intOf]; omega
      · obtain rfl : i = len := by omega
        obtain ⟨a2, cap2, rfl, ho⟩ := HT.out.own
        have HO := Lib.hid ho; clear ho
        go_wp2_with fail
        go_ret2
        exact ⟨a2, cap2, rows, rfl, HT.out.fit, HO.out, HB.out⟩
  all_goals
    rw [show pairsR ps m = ([], code5 ps m []) by unfold pairsR; rw [if_neg (by omega)]]
    rw [h] at HE ⊢
    clear hl hm hI hF
    go_enter Try.func18, Try.ntmps18
    go_wp2_with fail
    refine HE.out.mono ?_; rintro e w1 ⟨rfl, hB⟩
    have HB := Lib.hid hB; clear hB
    go_wp2_with fail
    go_ret2
    exact ⟨none, 0, [], rfl, ⟨rfl, fun i r xs h => by simp at h⟩, .inl rfl, HB.out⟩

end Go.Proofs.Ytdeiillfdjebdaa
