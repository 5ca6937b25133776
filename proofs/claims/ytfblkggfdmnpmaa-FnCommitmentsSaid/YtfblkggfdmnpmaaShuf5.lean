/- Contract: impl.shuffled lays the shuffled numbers. -/
import Derived.RangeFuncNested
import Derived.RangeFuncBound
import Derived.RangeFuncCalls
import Derived.RangeFuncLeaves
import Derived.RangeFuncFrom
import Derived.Shelf.Abstract
import Derived.Shelf.RegionOpen
import Derived.WalkKit
import Derived.OwnWalkIn
import Derived.TacticsInMore
import Derived.LoopNIn
import Derived.LoopIn
import Derived.Deep.OwnRows
import Derived.Test.YtfblkggfdmnpmaaChecked
import Derived.Test.YtfblkggfdmnpmaaBase
import Derived.Test.YtfblkggfdmnpmaaInfo
import Derived.Test.YtfblkggfdmnpmaaPure31
import Derived.Test.YtfblkggfdmnpmaaShuf1
import Derived.Test.YtfblkggfdmnpmaaShuf2
import Derived.Test.YtfblkggfdmnpmaaShuf3
import Derived.Test.YtfblkggfdmnpmaaShuf4
import Derived.Test.YtfblkggfdmnpmaaBits
import Derived.Lib.Hide
namespace Go.Proofs.Ytfblkggfdmnpmaa
open Go.RowKit Go.Shelf Pure2 Pure30 Pure31


theorem exch_step {s : Int} {n : Nat} {pre : List (Fin (n - 1))} {x : Fin (n - 1)} {d : Nat} (h : place (nxs s (x.1 + 1)) n x.1 = d) :
    exchs s n ((pre ++ [x]).map (·.1)) = swp (exchs s n (pre.map (·.1))) x.1 d := by
  rw [List.map_append, List.map_singleton, exchs_snoc, exch, h]
theorem nums_step {k : Nat} {f : Nat → Value} (hf : ∀ i, i < k → f i = .int .i64 (i : Nat)) : ∀ i, i < k + 1 → (fun j => if j = k then Value.int .i64 (k : Nat) else f j) i = .int .i64 (i : Nat) := by
  intro i hi
  by_cases e : i = k
  · simp [e]
  · simp only [if_neg e]; exact hf i (by omega)
theorem nums_getD {n i : Nat} (h : i < n) : (nums n).getD i 0 = (i : Nat) := by
  simp [nums, List.getD_eq_getElem?_getD, h]

section
attribute [local go_sem] Oper.semAt_some

set_option maxRecDepth 100000 in
set_option maxHeartbeats 8000000 in
theorem implShuffled_any (s : Int) (n : Nat) (w : World) (hs : 1 ≤ s ∧ s ≤ 2147483646) (hn : n ≤ 200) :
    Calls Try.prog 50 #[.int .i64 s, .int .i64 n] w (NewL (shuf s n) w) := by
  have hmk := run_make_row' (P := Try.prog) 26 2 (.int .i64 0) 8 Try.underlying26 Try.info_i64 rfl .i64 .i64 n (by omega) (by omega)
  refine (callsIn_wide (n := 6)).1 ?_
  refine callsIn_of_wp_marks Try.func50 rfl trivial ?_ rfl
  simp only [Try.ntmps50, List.size_toArray, List.length_cons, List.length_nil, Nat.reduceAdd, Nat.reduceSub, Array.replicate_succ, Array.replicate_zero, List.push_toArray, List.append_toArray, List.nil_append, List.cons_append]
  gi_wp2
  obtain ⟨W0, hW0⟩ : ∃ W0, ((w.alloc (.cells #[.int .i64 n] 2)).alloc (.cells (madeCells #[.int .i64 0] n) 2)).alloc (.cells #[.slice (some ⟨w.heap.size + 1, 0, none⟩) n n] 26) = W0 := ⟨_, rfl⟩
  have hsz : W0.heap.size = w.heap.size + 3 := by rw [← hW0]; simp
  have hB0 : Below w.heap.size w W0 := by rw [← hW0]; exact (((Below.refl _ w).alloc (Nat.le_refl _) _).alloc (by simp) _).alloc (by simp; omega) _
  have hn0 : Boxed W0 w.heap.size 2 (.int .i64 n) := by rw [← hW0]; exact ((Boxed.new w 2 (.int .i64 n)).alloc _).alloc _
  have hr0 : W0.rowIs (w.heap.size + 1) 2 n (fun _ => .int .i64 0) := by
    rw [← hW0]
    have h1 := World.rowIs_made (w.alloc (.cells #[.int .i64 n] 2)) (.int .i64 0) n 2
    rw [World.size_alloc] at h1
    exact h1.of_block (Below.heap_alloc _ _ _ h1.lt)
  have hv0 : Boxed W0 (w.heap.size + 1 + 1) 26 (.slice (some ⟨w.heap.size + 1, 0, none⟩) n n) := by
    rw [← hW0]
    have := Boxed.new ((w.alloc (.cells #[.int .i64 n] 2)).alloc (.cells (madeCells #[.int .i64 0] n) 2)) 26 (.slice (some ⟨w.heap.size + 1, 0, none⟩) n n)
    rw [World.size_alloc, World.size_alloc] at this
    exact this
  rw [hW0]
  clear hW0 hmk
  have HR0 := Lib.hid hr0; have HN0 := Lib.hid hn0; have HV0 := Lib.hid hv0; have HB0 := Lib.hid hB0; clear hr0 hn0 hv0 hB0
  gi_loopw [13] (fun i wr => ∃ k : Nat, k ≤ n ∧ i = .int .i64 k ∧ w.heap.size + 3 ≤ wr.heap.size ∧ Boxed wr w.heap.size 2 (.int .i64 n) ∧ Boxed wr (w.heap.size + 1 + 1) 26 (.slice (some ⟨w.heap.size + 1, 0, none⟩) n n) ∧ (∃ f, wr.rowIs (w.heap.size + 1) 2 n f ∧ ∀ j, j < k → f j = .int .i64 (j : Nat)) ∧ Below w.heap.size w wr) (fun i _ => n - (intOf i).toNat)
  case atStart => exact ⟨0, Nat.zero_le _, rfl, by omega, HN0.out, HV0.out, ⟨_, HR0.out, fun j hj => by omega⟩, HB0.out⟩
  case round =>
    obtain ⟨k, hk, rfl, hsz2, hn1, hv1, ⟨f, hr, hf⟩, hB⟩ := hrel
    have hvc := hv1.cell
    have hnc := hn1.cell
    have HN := Lib.hid hn1; have HV := Lib.hid hv1; have HB := Lib.hid hB; have HR := Lib.hid hr; have HF := Lib.hid hf
    clear hn1 hv1 hB hr hf HR0 HN0 HV0 HB0
    by_cases hlt : k < n
    · have hc := HR.out.cell hlt
      have hfz := HR.out.frozen k
      gi_wp2
      go_roundw
      case rel => exact ⟨k + 1, by omega, by go_num, by simpa using hsz2, box_other HN.out _ (by omega), box_other HV.out _ (by omega), ⟨_, HR.out.set _ _, nums_step HF.out⟩, HB.out.setCell (by simp) _⟩
      case measure => simp [intOf]; omega
    · obtain rfl : k = n := by omega
      clear hlt
      gi_wp2_with (refine ⟨trivial, ?_⟩; gi_at_call 60; refine (callsIn_wide.2 (implNextStates_any _ _ _)).mono ?_; rintro e w' ⟨rfl, rfl⟩)
      obtain ⟨W1, hW1⟩ : ∃ W1, (wr.alloc (.cells #[.int .i64 s] 2)).alloc (.cells #[.int .i64 ((k : Int) - 1)] 2) = W1 := ⟨_, rfl⟩
      have hsz1 : W1.heap.size = wr.heap.size + 2 := by rw [← hW1]; simp
      have hB1 : Below w.heap.size w W1 := by rw [← hW1]; exact (HB.out.alloc (by omega) _).alloc (by simp; omega) _
      have hn1 : Boxed W1 w.heap.size 2 (.int .i64 k) := by rw [← hW1]; exact (HN.out.alloc _).alloc _
      have hv1 : Boxed W1 (w.heap.size + 1 + 1) 26 (.slice (some ⟨w.heap.size + 1, 0, none⟩) k k) := by rw [← hW1]; exact (HV.out.alloc _).alloc _
      have hr1 : W1.rowIs (w.heap.size + 1) 2 k f := by
        rw [← hW1]
        have h2 := HR.out.of_block (w' := wr.alloc (.cells #[.int .i64 s] 2)) (Below.heap_alloc _ _ _ HR.out.lt)
        exact h2.of_block (Below.heap_alloc _ _ _ h2.lt)
      have hs1 : Boxed W1 wr.heap.size 2 (.int .i64 s) := by rw [← hW1]; exact (Boxed.new wr 2 (.int .i64 s)).alloc _
      have hc1 : Boxed W1 (wr.heap.size + 1) 2 (.int .i64 ((k : Int) - 1)) := by
        rw [← hW1]
        have := Boxed.new (wr.alloc (.cells #[.int .i64 s] 2)) 2 (.int .i64 ((k : Int) - 1))
        rw [World.size_alloc] at this
        exact this
      rw [hW1]
      have hf0 : ∀ j, j < k → f j = .int .i64 ((exchs s k ([] : List Nat)).getD j 0) := fun j hj => by rw [HF.out j hj]; exact congrArg _ (nums_getD hj).symm
      clear hW1 HN HV HB HR HF hvc hnc
      refine wpIn_rangeFunc_ownF rfl (by omega) (gf := 66) (lb := #[.pointer (some ⟨wr.heap.size, 0, none⟩), .pointer (some ⟨wr.heap.size + 1, 0, none⟩)]) rfl trivial (enters_of Try.func66 (by kernel_rfl) rfl)
        (implSeq_stops _ (by omega) s ((k : Int) - 1) (k - 1) wr.heap.size (wr.heap.size + 1) W1 hs (by omega) (by omega) (by omega) (by omega) hs1.cell hc1.cell) walksK_t walksK_b (Below.refl _ _) (fun _ => rfl)
        (fun pre W => (Boxed W w.heap.size 2 (.int .i64 k) ∧ Boxed W (w.heap.size + 1 + 1) 26 (.slice (some ⟨w.heap.size + 1, 0, none⟩) k k) ∧ ∃ f, W.rowIs (w.heap.size + 1) 2 k f ∧ ∀ j, j < k → f j = .int .i64 ((exchs s k (pre.map (·.1))).getD j 0)) ∧ Below w.heap.size w W)
        (fun _ _ _ => False)
        (OwnFrom.and (Own.from (fun pre A B row hh hg hr => ⟨box_own hh.1 hg hr, box_own hh.2.1 hg hr, hh.2.2.imp fun f hf => ⟨row_own hf.1 hg hr, hf.2⟩⟩) _) (ownFrom_below (Nat.le_refl _) (by omega)))
        (fun _ _ _ _ _ hh _ _ => hh)
        ⟨⟨hn1, hv1, _, hr1, hf0⟩, hB1⟩
        (fun x => _) (fun l x W K hK => by gi_wp2; exact hK) ?body ?done ?stop
      case body =>
        clear hn1 hv1 hr1 hf0 hB1 hs1 hc1
        rintro l pre x W ⟨⟨hn2, hv2, g, hr2, hg2⟩, hB2⟩ _
        have hx : x.1 < k - 1 := x.2
        have hst := nxs_state hs (x.1 + 1)
        have hvc := hv2.cell
        have hnc := hn2.cell
        obtain ⟨s2, hs2⟩ : ∃ s2, nxs s (x.1 + 1) = s2 := ⟨_, rfl⟩
        rw [hs2] at hst ⊢
        obtain ⟨d, hd⟩ : ∃ d : Nat, below s2 ((k : Int) - x.1) = d := ⟨_, (Int.toNat_of_nonneg (below_bd (n := (k : Int) - x.1) ⟨by omega, hst.2⟩ (by omega)).1).symm⟩
        have hdb := (below_bd (s := s2) (n := (k : Int) - x.1) ⟨by omega, hst.2⟩ (by omega)).2 (by omega)
        rw [hd] at hdb
        obtain ⟨p, hp⟩ : ∃ p : Nat, (x.1 : Int) + (d : Int) = (p : Int) := ⟨x.1 + d, by omega⟩
        have HP := Lib.hid (show place (nxs s (x.1 + 1)) k x.1 = p by unfold place; rw [hs2, hd]; omega)
        have hpk : p < k := by omega
        have hpi : (p : Int) < (k : Int) := by omega
        have hxi : (x.1 : Int) < (k : Int) := by omega
        have HC := Lib.hid (implNumberOf_any s2 ((k : Int) - x.1) W ⟨by omega, hst.2⟩ ⟨by omega, by omega⟩)
        rw [hd] at HC
        clear hd hs2
        have HL := Lib.hid (exchs_length s k (pre.map (·.1)))
        obtain ⟨y, hy⟩ : ∃ y, (exchs s k (pre.map (·.1))).getD x.1 0 = y := ⟨_, rfl⟩
        obtain ⟨z, hz⟩ : ∃ z, (exchs s k (pre.map (·.1))).getD p 0 = z := ⟨_, rfl⟩
        have c1 : W.cell? ⟨w.heap.size + 1, x.1, none⟩ = some (.int .i64 y) := by rw [hr2.cell (show x.1 < k by omega), hg2 x.1 (by omega), ← hy]
        have c2 : W.cell? ⟨w.heap.size + 1, p, none⟩ = some (.int .i64 z) := by rw [hr2.cell hpk, hg2 p hpk, ← hz]
        have f1 := hr2.frozen x.1
        have f2 := hr2.frozen p
        have HR := Lib.hid hr2; have HG := Lib.hid hg2; have HN := Lib.hid hn2; have HV := Lib.hid hv2; have HB := Lib.hid hB2; have HYY := Lib.hid hy; have HZ := Lib.hid hz
        clear hr2 hg2 hn2 hv2 hB2 hy hz
        have hmx : Try.prog.follows .mixedOrders = true := by kernel_rfl
        obtain ⟨v3, c3⟩ : ∃ v3, (W.setCell ⟨w.heap.size + 1, x.1, none⟩ (.int .i64 z)).cell? ⟨w.heap.size + 1, p, none⟩ = some v3 := ⟨_, (HR.out.set x.1 (.int .i64 z)).cell hpk⟩
        have f3 := (HR.out.set x.1 (.int .i64 z)).frozen p
        gi_wp2_with (refine ⟨trivial, ?_⟩; gi_at_call 57; refine (CallsIn.inRound l (callsIn_wide.2 HC.out)).mono ?_; rintro e w' ⟨rfl, rfl⟩)
        refine wpIn_region_any hmx ?_
        have hbx1 : (W.setCell ⟨w.heap.size + 1, x.1, none⟩ (.int .i64 z)).cell? ⟨w.heap.size + 1 + 1, 0, none⟩ = some (.slice (some ⟨w.heap.size + 1, 0, none⟩) k k) := (box_other HV.out (.int .i64 z) (by omega)).cell
        refine wpAnyIn_bits (fun L => { tmps := #[.int .i64 s, .int .i64 k, undef, .pointer (some ⟨w.heap.size, 0, none⟩), .slice none 0 0, .pointer (some ⟨w.heap.size + 1 + 1, 0, none⟩), u6, .int .i64 x.1, .int .i64 s2, .int .i64 p, .int .i64 k, (.slice (some ⟨w.heap.size + 1, 0, none⟩) k k), .int .i64 k, .int .i64 k, .bool false, u15, u16, u17, u18, u19, u20, .int .i64 s, .int .i64 k, .int .i64 ((k : Int) - 1), .func (.func 66) #[] #[.pointer (some ⟨wr.heap.size, 0, none⟩), .pointer (some ⟨wr.heap.size + 1, 0, none⟩)], .int .i64 x.1, .int .i64 s2, .int .i64 x.1, .int .i64 s2, .int .i64 k, .int .i64 x.1, .int .i64 ((k : Int) - x.1), .int .i64 d, .int .i64 p, bitv (L.toList.getD 0 false) (.slice (some ⟨w.heap.size + 1, 0, none⟩) k k), bitv (L.toList.getD 1 false) (.int .i64 x.1), bitv (L.toList.getD 2 false) (.slice (some ⟨w.heap.size + 1, 0, none⟩) k k), bitv (L.toList.getD 3 false) (.int .i64 p), bitv (L.toList.getD 4 false) (.slice (some ⟨w.heap.size + 1, 0, none⟩) k k), bitv (L.toList.getD 5 false) (.int .i64 p), bitv (L.toList.getD 6 false) (.pointer (some ⟨w.heap.size + 1, p, none⟩)), bitv (L.toList.getD 7 false) (.int .i64 z), bitv (L.toList.getD 8 false) (.slice (some ⟨w.heap.size + 1, 0, none⟩) k k), bitv (L.toList.getD 9 false) (.int .i64 x.1), bitv (L.toList.getD 10 false) (.pointer (some ⟨w.heap.size + 1, x.1, none⟩)), bitv (L.toList.getD 11 false) (.int .i64 y), bitv (L.toList.getD 12 false) (.pointer (some ⟨w.heap.size + 1, x.1, none⟩)), bitv (L.toList.getD 14 false) (.pointer (some ⟨w.heap.size + 1, p, none⟩)), undef], defers := [] })
          (fun L => bitw (L.toList.getD 13 false) (L.toList.getD 15 false) W.drew (W.setCell ⟨w.heap.size + 1, x.1, none⟩ (.int .i64 z)).drew ((W.setCell ⟨w.heap.size + 1, x.1, none⟩ (.int .i64 z)).setCell ⟨w.heap.size + 1, p, none⟩ (.int .i64 y)).drew)
          (fun L => ∃ b0 b1 b2 b3 b4 b5 b6 b7 b8 b9 b10 b11 b12 b13 b14 b15, L = #[b0, b1, b2, b3, b4, b5, b6, b7, b8, b9, b10, b11, b12, b13, b14, b15] ∧ BI b0 b1 b2 b3 b4 b5 b6 b7 b8 b9 b10 b11 b12 b13 b14 b15)
          (fun L => (L.toList.map fun b => cond b 0 1).sum) ?bstep ?bdone ?bzero 16 _ ?bstart ?bcnt
        case bstep =>
          rintro L ⟨b0, b1, b2, b3, b4, b5, b6, b7, b8, b9, b10, b11, b12, b13, b14, b15, rfl, hI⟩ i hi
          have hi16 : i < 16 := by simpa using List.mem_range.1 (List.mem_filter.1 hi).1
          have hr := (List.mem_filter.1 hi).2
          clear hi
          obtain ⟨hE1, hE2, hE3⟩ := hI.early
          have hii : i = 0 ∨ i = 1 ∨ i = 2 ∨ i = 3 ∨ i = 4 ∨ i = 5 ∨ i = 6 ∨ i = 7 ∨ i = 8 ∨ i = 9 ∨ i = 10 ∨ i = 11 ∨ i = 12 ∨ i = 13 ∨ i = 14 ∨ i = 15 := by omega
          clear hi16
          rcases hii with rfl | rfl | rfl | rfl | rfl | rfl | rfl | rfl | rfl | rfl | rfl | rfl | rfl | rfl | rfl | rfl
          all_goals simp [Region.binds] at hr
          all_goals simp only [hr] at hE1 hE2 hE3 hI ⊢
          all_goals try (have e13 : b13 = false := by cases b13 <;> simp at hE1 ⊢)
          all_goals try (simp only [e13] at hE1 hE2 hE3 hI ⊢)
          all_goals try (have e14 : b14 = false := by cases b14 <;> simp at hE2 ⊢)
          all_goals try (simp only [e14] at hE1 hE2 hE3 hI ⊢)
          all_goals try (have e15 : b15 = false := by cases b15 <;> simp at hE3 ⊢)
          all_goals try (simp only [e15] at hE1 hE2 hE3 hI ⊢)
          all_goals simp only [List.setIfInBounds_toArray, List.set_cons_succ, List.set_cons_zero, List.getD_cons_succ, List.getD_cons_zero, bitv_true, bitv_false]
          all_goals try (first | (guard_hyp hr : b2 = false; cases b13) | (guard_hyp hr : b3 = false; cases b13))
          all_goals refine ⟨⟨⟨_, _, _, _, _, _, _, _, _, _, _, _, _, _, _, _, rfl, ?_⟩, ?_⟩, fun K hK => ?_⟩
          all_goals first
            | exact BI.s0 hI | exact BI.s1 hI | exact BI.s2 hI | exact BI.s3 hI | exact BI.s4 hI | exact BI.s5 hI | exact BI.s6 hI | exact BI.s7 hI | exact BI.s8 hI | exact BI.s9 hI | exact BI.s10 hI | exact BI.s11 hI | exact BI.s12 hI | exact BI.s13 hI | exact BI.s14 hI | exact BI.s15 hI
            | (simp only [List.map_cons, List.map_nil, List.sum_cons, List.sum_nil, cond_true, cond_false]; omega)
            | skip
          all_goals clear hE1 hE2 hE3 hI hr
          all_goals simp only [bitw_ff, bitw_tf, bitw_tt] at hK ⊢
          all_goals refine wpOpIn_step rfl (fun K' hK' => ?_)
          all_goals go_simp
          all_goals exact hK' _ _ hK
        case bdone =>
          rintro L ⟨b0, b1, b2, b3, b4, b5, b6, b7, b8, b9, b10, b11, b12, b13, b14, b15, rfl, hI⟩ hr
          rw [Region.ready, List.filter_eq_nil_iff] at hr
          have h0 := hr 0 (by simp)
          simp [Region.binds] at h0
          subst h0
          have h1 := hr 1 (by simp)
          simp [Region.binds] at h1
          subst h1
          have h2 := hr 2 (by simp)
          simp [Region.binds] at h2
          subst h2
          have h3 := hr 3 (by simp)
          simp [Region.binds] at h3
          subst h3
          have h4 := hr 4 (by simp)
          simp [Region.binds] at h4
          subst h4
          have h5 := hr 5 (by simp)
          simp [Region.binds] at h5
          subst h5
          have h6 := hr 6 (by simp)
          simp [Region.binds] at h6
          subst h6
          have h7 := hr 7 (by simp)
          simp [Region.binds] at h7
          subst h7
          have h8 := hr 8 (by simp)
          simp [Region.binds] at h8
          subst h8
          have h9 := hr 9 (by simp)
          simp [Region.binds] at h9
          subst h9
          have h10 := hr 10 (by simp)
          simp [Region.binds] at h10
          subst h10
          have h11 := hr 11 (by simp)
          simp [Region.binds] at h11
          subst h11
          have h12 := hr 12 (by simp)
          simp [Region.binds] at h12
          subst h12
          have h13 := hr 13 (by simp)
          simp [Region.binds] at h13
          subst h13
          have h14 := hr 14 (by simp)
          simp [Region.binds] at h14
          subst h14
          have h15 := hr 15 (by simp)
          simp [Region.binds] at h15
          subst h15
          obtain ⟨f', hr', hf'⟩ := swp_row (i := x.1) (k := p) (l := exchs s k (pre.map (·.1))) HR.out (fun j hj => HG.out j (by rw [HL.out] at hj; exact hj)) (by rw [HL.out]; omega) (by rw [HL.out]; exact hpk)
          rw [HYY.out, HZ.out] at hr'
          rw [← exch_step HP.out, exchs_length] at hf'
          have HR2 := Lib.hid hr'; have HF2 := Lib.hid hf'
          clear hr' hf' hI
          simp only [List.getD_cons_succ, List.getD_cons_zero, bitv_true, bitw_tt]
          gi_wp2
          have hk3 := ((KeepsOthers.setCell W ⟨w.heap.size + 1, x.1, none⟩ (.int .i64 z)).trans (KeepsOthers.setCell _ ⟨w.heap.size + 1, p, none⟩ (.int .i64 y))).trans (KeepsOthers.drew _)
          exact ⟨hk3, hk3.walks, ⟨box_other (box_other HN.out _ (by omega)) _ (by omega), box_other (box_other HV.out _ (by omega)) _ (by omega), f', HR2.out, HF2.out⟩, ((HB.out.setCell (Nat.le_succ _) _).setCell (Nat.le_succ _) _).drew⟩
        case bzero =>
          rintro L ⟨b0, b1, b2, b3, b4, b5, b6, b7, b8, b9, b10, b11, b12, b13, b14, b15, rfl, hI⟩ hr
          simp only [List.map_cons, List.map_nil, List.sum_cons, List.sum_nil] at hr
          obtain rfl : b0 = true := by cases b0 <;> simp at hr ⊢
          obtain rfl : b1 = true := by cases b1 <;> simp at hr ⊢
          obtain rfl : b2 = true := by cases b2 <;> simp at hr ⊢
          obtain rfl : b3 = true := by cases b3 <;> simp at hr ⊢
          obtain rfl : b4 = true := by cases b4 <;> simp at hr ⊢
          obtain rfl : b5 = true := by cases b5 <;> simp at hr ⊢
          obtain rfl : b6 = true := by cases b6 <;> simp at hr ⊢
          obtain rfl : b7 = true := by cases b7 <;> simp at hr ⊢
          obtain rfl : b8 = true := by cases b8 <;> simp at hr ⊢
          obtain rfl : b9 = true := by cases b9 <;> simp at hr ⊢
          obtain rfl : b10 = true := by cases b10 <;> simp at hr ⊢
          obtain rfl : b11 = true := by cases b11 <;> simp at hr ⊢
          obtain rfl : b12 = true := by cases b12 <;> simp at hr ⊢
          obtain rfl : b13 = true := by cases b13 <;> simp at hr ⊢
          obtain rfl : b14 = true := by cases b14 <;> simp at hr ⊢
          obtain rfl : b15 = true := by cases b15 <;> simp at hr ⊢
          kernel_rfl
        case bstart => exact ⟨_, _, _, _, _, _, _, _, _, _, _, _, _, _, _, _, rfl, BI.start⟩
        case bcnt => exact Nat.le_refl 16
      case done =>
        rintro D xs W hD hS ⟨⟨hn2, hv2, g, hr2, hg2⟩, hB2⟩ hK
        have hvc := hv2.cell
        rw [hS, exchs_shuf] at hg2
        have HR := Lib.hid (row_putObj hr2 hK rfl (o' := .deferred none)); have HG := Lib.hid hg2; have HB := Lib.hid (hB2.trans (belowK_b (w := w) (Nat.le_refl _) W D _ (.deferred none) (by omega) hK rfl rfl)); clear hr2 hg2 hv2 hn2 hB2
        gi_wp2
        refine ⟨by simp, .inl ⟨_, _, rfl, run_takeDeferred hK, ?_⟩⟩
        refine ⟨_, results_tmp rfl _ _ _, ?_⟩
        exact newL_of (shuf_length s k) (Nat.le_refl _) (.inr ⟨w.heap.size + 1, g, k, rfl, Nat.le_succ _, Nat.le_refl _, HR.out, HG.out⟩) HB.out
      case stop =>
        rintro D c pre W _ _ h _
        exact h.elim
end

end Go.Proofs.Ytfblkggfdmnpmaa
