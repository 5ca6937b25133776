/- Contract: spec.DrawIsRightDraw draws a commitment, a state, a salt, a number and a list. -/
import Derived.Test.YtfblkggfdmnpmaaChecked
import Derived.Test.YtfblkggfdmnpmaaDrawS3
import Derived.Test.YtfblkggfdmnpmaaIs3
import Derived.WalkKit
import Derived.WalkSpells
import Derived.WalkLawsBesides
import Derived.Lib.Hide
import Derived.Deep.OwnRows
import Derived.Outline
namespace Go.Proofs.Ytfblkggfdmnpmaa
open Go.RowKit Pure2 Pure6 Pure30 Pure31

theorem results_tmp5 {fn : Func} {t u v x y : Tmp} (h : fn.results = #[.tmp t, .tmp u, .tmp v, .tmp x, .tmp y]) (tmps : Array Value) (P : Program) (w : World) :
    (results fn tmps).run P w = .ok (.tuple #[tmps.getD t undef, tmps.getD u undef, tmps.getD v undef, tmps.getD x undef, tmps.getD y undef]) w := by
  simp [results, h]
theorem ownI_one (w : World) : OwnI w.heap.size (w.alloc (.cells #[.int .i64 0] 2)) (some ⟨w.heap.size, 0, none⟩) 1 (fun i => ([0] : List Int).getD i 0) := by
  refine .inr ⟨_, fun _ => .int .i64 0, 1, rfl, Nat.le_refl _, Nat.le_refl _, World.rowIs_alloc w #[.int .i64 0] _ _ (fun i hi => ?_), fun i hi => ?_⟩
  · obtain rfl : i = 0 := by simp at hi; exact hi
    rfl
  · obtain rfl : i = 0 := by omega
    rfl
theorem ints_stored {w : World} {b N : Nat} {f : Nat → Value} {zs : List Int} {j : Nat} {v : Int} (hN : zs.length ≤ N) (hr : w.rowIs b 2 N f) (hf : ∀ i, i < zs.length → f i = .int .i64 (zs.getD i 0)) (hj : j < zs.length) :
    IntsAt (w.setCell ⟨b, j, none⟩ (.int .i64 v)) (some ⟨b, 0, none⟩) (zs.set j v) := by
  have hs := hr.set j (.int .i64 v)
  refine .inr ⟨b, 0, rfl, fun i x hx => ?_⟩
  have hi : i < zs.length := by have := (List.getElem?_eq_some_iff.1 hx).1; rw [List.length_set] at this; exact this
  rw [Nat.zero_add, hs.cell (by omega)]
  by_cases e : i = j
  · subst e
    rw [List.getElem?_set_self hi] at hx
    simp only [if_true]
    cases hx; rfl
  · rw [List.getElem?_set_ne (Ne.symm e)] at hx
    simp only [if_neg e, hf i hi]
    simp [List.getD_eq_getElem?_getD, hx]

set_option maxRecDepth 100000 in
set_option maxHeartbeats 4000000 in
theorem specDrawIsRightDraw_any (a : Option Addr) (len cap : Nat) (bs : List Int) (w : World) (hl : bs.length = len) (hm : len ≤ 4096) (h : BytesAt w.heap.size w a bs) :
    Calls Try.prog 35 #[.slice a len cap] w (Drew4L w) := by
  have HY := Lib.hid h; have HL := Lib.hid hl
  have HF := Lib.hid (specFrom_any a len cap bs w hl hm h); clear h hl
  go_enter Try.func35, Try.ntmps35
  go_wp2_with fail
  refine HF.out.mono ?_; rintro e w1 ⟨b, rfl, hS, hB⟩
  have hbw := hS.lt; have hbB := hS.base; have hsz := hB.size
  have HB := Lib.hid hB; have HS0 := Lib.hid hS; clear hS hB HF
  go_wp2_with fail
  refine (specDrawSampleOf_any a len cap bs w1 HL.out hm (HY.out.later HB.out)).mono ?_; rintro e w11 ⟨s, n, k, rfl, hB2⟩
  have HS1 := Lib.hid (HS0.out.kept (hB2.block b hbw) (hB2.mono hsz)); have hs1 := hB2.size
  have HG1 := Lib.hid (grown_of_below (r := some b) hB2)
  clear hB2 HS0
  go_wp2_with fail
  refine (specDrawCommitmentOf_any a len cap bs w11 HL.out hm (HY.out.later (HB.out.trans (grown_below HG1.out hbB hsz)))).mono ?_; rintro e w12 ⟨y, t, rfl, hB2⟩
  have HS2 := Lib.hid (HS1.out.kept (hB2.block b (by omega)) (hB2.mono (by omega))); have hs2 := hB2.size
  have HG2 := Lib.hid (grown_trans HG1.out (grown_of_below (r := some b) hB2))
  clear hB2 HS1
  obtain ⟨⟨zs, q⟩, hp⟩ : ∃ u, sampR s n k = u := ⟨_, rfl⟩
  have hzl := (samp_facts hp).1
  have HP := Lib.hid hp; clear hp
  obtain ⟨⟨c, u⟩, hp⟩ : ∃ v, comR s t = v := ⟨_, rfl⟩
  have HP2 := Lib.hid hp; clear hp
  go_wp2_with fail
  refine (specSampleOf_is s n k zs q w12 HP.out).mono ?_; rintro e w13 ⟨aL, cL, rfl, hO, hB2⟩
  have HS3 := Lib.hid (HS2.out.kept (hB2.block b (by omega)) (hB2.mono (by omega))); have hs3 := hB2.size
  have HG3 := Lib.hid (grown_trans HG2.out (grown_of_below (r := some b) hB2))
  have HLL3 := Lib.hid hO; clear hB2 HS2 hO
  by_cases hq : q = 0
  · subst hq
    have hbase : b < w12.heap.size := by omega
    go_wp2_with fail
    refine (specCommitmentOf_is s t c u w13 HP2.out).mono ?_; rintro e w' ⟨rfl, rfl⟩
    by_cases hu : u = 0
    · subst hu
      go_wp2_with fail
      refine (specNext_any w.heap.size b 6 w13 (by omega) HS3.out).mono ?_; rintro e w14 ⟨x4, rfl, hx, hz, hS, hg⟩
      obtain ⟨l4, u4⟩ := hx (by omega)
      have HS4 := Lib.hid hS
      have HG4 := Lib.hid (grown_trans HG3.out (hg))
      have HLL4 := Lib.hid (ownI_keep HLL3.out (hg) (by omega))
      clear hS hg hx hz
      by_cases hx6 : x4 = 0
      · subst hx6
        go_wp2_with fail
        refine (specNext_any w.heap.size b 2000000000 w14 (by omega) HS4.out).mono ?_; rintro e w15 ⟨x5, rfl, hx, hz, hS, hg⟩
        obtain ⟨l5, u5⟩ := hx (by omega)
        have HS5 := Lib.hid hS
        have HG5 := Lib.hid (grown_trans HG4.out (hg))
        have HLL5 := Lib.hid (ownI_keep HLL4.out (hg) (by omega))
        clear hS hg hx hz
        by_cases hz : zs.length = 0
        · obtain rfl := List.length_eq_zero_iff.1 hz
          go_wp2_with fail
          (try simp only [Exit.inBlock, Exit.then])
          refine bodyPost_ret (results_tmp5 rfl _ _ _) rfl ?_
          exact ⟨x5, s, t, n, aL, cL, [], rfl, (by first | exact hzl | simp), .inl rfl, HB.out.trans (grown_below HG5.out hbB hsz)⟩
        · have hzi : (0 : Int) < (zs.length : Int) := by omega
          go_wp2_with fail
          refine (specNext_any w.heap.size b 4 w15 (by omega) HS5.out).mono ?_; rintro e w16 ⟨x6, rfl, hx, hz, hS, hg⟩
          obtain ⟨l6, u6⟩ := hx (by omega)
          have HS6 := Lib.hid hS
          have HG6 := Lib.hid (grown_trans HG5.out (hg))
          have HLL6 := Lib.hid (ownI_keep HLL5.out (hg) (by omega))
          clear hS hg hx hz
          by_cases hx4 : x6 = 0
          · subst hx4
            go_wp2_with fail
            refine (specNext_any w.heap.size b (zs.length : Nat) w16 (by omega) HS6.out).mono ?_; rintro e w17 ⟨x7, rfl, hx, hz, hS, hg⟩
            have hb7 := next_bd hx hz
            obtain ⟨l7, u7⟩ := hb7
            have HS7 := Lib.hid hS
            have HG7 := Lib.hid (grown_trans HG6.out (hg))
            have HLL7 := Lib.hid (ownI_keep HLL6.out (hg) (by omega))
            clear hS hg hx hz
            go_wp2_with fail
            refine (specNext_any w.heap.size b 12 w17 (by omega) HS7.out).mono ?_; rintro e w18 ⟨x8, rfl, hx, hz, hS, hg⟩
            obtain ⟨l8, u8⟩ := hx (by omega)
            have HS8 := Lib.hid hS
            have HG8 := Lib.hid (grown_trans HG7.out (hg))
            have HLL8 := Lib.hid (ownI_keep HLL7.out (hg) (by omega))
            clear hS hg hx hz
            obtain ⟨j, rfl⟩ := Int.eq_ofNat_of_zero_le l7
            have hjl : j < zs.length := by omega
            have hji : (j : Int) < (zs.length : Int) := by omega
            rcases HLL8.out with h0 | ⟨bL, f, N, hA, hbL, hN, hr, hf⟩
            · omega
            subst hA
            have cc := hr.cell (show j < N by omega)
            have ff := hr.frozen j
            have HI := Lib.hid (ints_stored (zs := zs) (v := x8) hN hr hf hjl)
            have HBL := Lib.hid (show w.heap.size ≤ bL by omega)
            clear hr hf
            go_wp2_with fail
            (try simp only [Exit.inBlock, Exit.then])
            refine bodyPost_ret (results_tmp5 rfl _ _ _) rfl ?_
            exact ⟨x5, s, t, n, _, cL, zs.set j x8, by rw [List.length_set]; rfl, by rw [List.length_set]; (first | exact hzl | simp), HI.out, (HB.out.trans (grown_below HG8.out hbB hsz)).setCell HBL.out _⟩
          · have hx5 : (x6 == 0) = false := beq_eq_false_iff_ne.2 hx4
            clear hx4
            go_wp2_with fail
            (try simp only [Exit.inBlock, Exit.then])
            refine bodyPost_ret (results_tmp5 rfl _ _ _) rfl ?_
            exact ⟨x5, s, t, n, aL, cL, zs, rfl, (by first | exact hzl | simp), ownI_reads HLL6.out, HB.out.trans (grown_below HG6.out hbB hsz)⟩
      · have hx7 : (x4 == 0) = false := beq_eq_false_iff_ne.2 hx6
        clear hx6
        by_cases hz : zs.length = 0
        · obtain rfl := List.length_eq_zero_iff.1 hz
          go_wp2_with fail
          (try simp only [Exit.inBlock, Exit.then])
          refine bodyPost_ret (results_tmp5 rfl _ _ _) rfl ?_
          exact ⟨c, s, t, n, aL, cL, [], rfl, (by first | exact hzl | simp), .inl rfl, HB.out.trans (grown_below HG4.out hbB hsz)⟩
        · have hzi : (0 : Int) < (zs.length : Int) := by omega
          go_wp2_with fail
          refine (specNext_any w.heap.size b 4 w14 (by omega) HS4.out).mono ?_; rintro e w15 ⟨x5, rfl, hx, hz, hS, hg⟩
          obtain ⟨l5, u5⟩ := hx (by omega)
          have HS5 := Lib.hid hS
          have HG5 := Lib.hid (grown_trans HG4.out (hg))
          have HLL5 := Lib.hid (ownI_keep HLL4.out (hg) (by omega))
          clear hS hg hx hz
          by_cases hx4 : x5 = 0
          · subst hx4
            go_wp2_with fail
            refine (specNext_any w.heap.size b (zs.length : Nat) w15 (by omega) HS5.out).mono ?_; rintro e w16 ⟨x6, rfl, hx, hz, hS, hg⟩
            have hb6 := next_bd hx hz
            obtain ⟨l6, u6⟩ := hb6
            have HS6 := Lib.hid hS
            have HG6 := Lib.hid (grown_trans HG5.out (hg))
            have HLL6 := Lib.hid (ownI_keep HLL5.out (hg) (by omega))
            clear hS hg hx hz
            go_wp2_with fail
            refine (specNext_any w.heap.size b 12 w16 (by omega) HS6.out).mono ?_; rintro e w17 ⟨x7, rfl, hx, hz, hS, hg⟩
            obtain ⟨l7, u7⟩ := hx (by omega)
            have HS7 := Lib.hid hS
            have HG7 := Lib.hid (grown_trans HG6.out (hg))
            have HLL7 := Lib.hid (ownI_keep HLL6.out (hg) (by omega))
            clear hS hg hx hz
            obtain ⟨j, rfl⟩ := Int.eq_ofNat_of_zero_le l6
            have hjl : j < zs.length := by omega
            have hji : (j : Int) < (zs.length : Int) := by omega
            rcases HLL7.out with h0 | ⟨bL, f, N, hA, hbL, hN, hr, hf⟩
            · omega
            subst hA
            have cc := hr.cell (show j < N by omega)
            have ff := hr.frozen j
            have HI := Lib.hid (ints_stored (zs := zs) (v := x7) hN hr hf hjl)
            have HBL := Lib.hid (show w.heap.size ≤ bL by omega)
            clear hr hf
            go_wp2_with fail
            (try simp only [Exit.inBlock, Exit.then])
            refine bodyPost_ret (results_tmp5 rfl _ _ _) rfl ?_
            exact ⟨c, s, t, n, _, cL, zs.set j x7, by rw [List.length_set]; rfl, by rw [List.length_set]; (first | exact hzl | simp), HI.out, (HB.out.trans (grown_below HG7.out hbB hsz)).setCell HBL.out _⟩
          · have hx5 : (x5 == 0) = false := beq_eq_false_iff_ne.2 hx4
            clear hx4
            go_wp2_with fail
            (try simp only [Exit.inBlock, Exit.then])
            refine bodyPost_ret (results_tmp5 rfl _ _ _) rfl ?_
            exact ⟨c, s, t, n, aL, cL, zs, rfl, (by first | exact hzl | simp), ownI_reads HLL5.out, HB.out.trans (grown_below HG5.out hbB hsz)⟩
    · have hu0 : (u == 0) = false := beq_eq_false_iff_ne.2 hu
      have hu1 : (u != 0) = true := bne_iff_ne.2 hu
      clear hu
      go_wp2_with fail
      refine (specNext_any w.heap.size b 2000000000 w13 (by omega) HS3.out).mono ?_; rintro e w14 ⟨x4, rfl, hx, hz, hS, hg⟩
      obtain ⟨l4, u4⟩ := hx (by omega)
      have HS4 := Lib.hid hS
      have HG4 := Lib.hid (grown_trans HG3.out (hg))
      have HLL4 := Lib.hid (ownI_keep HLL3.out (hg) (by omega))
      clear hS hg hx hz
      by_cases hz : zs.length = 0
      · obtain rfl := List.length_eq_zero_iff.1 hz
        go_wp2_with fail
        (try simp only [Exit.inBlock, Exit.then])
        refine bodyPost_ret (results_tmp5 rfl _ _ _) rfl ?_
        exact ⟨x4, s, t, n, aL, cL, [], rfl, (by first | exact hzl | simp), .inl rfl, HB.out.trans (grown_below HG4.out hbB hsz)⟩
      · have hzi : (0 : Int) < (zs.length : Int) := by omega
        go_wp2_with fail
        refine (specNext_any w.heap.size b 4 w14 (by omega) HS4.out).mono ?_; rintro e w15 ⟨x5, rfl, hx, hz, hS, hg⟩
        obtain ⟨l5, u5⟩ := hx (by omega)
        have HS5 := Lib.hid hS
        have HG5 := Lib.hid (grown_trans HG4.out (hg))
        have HLL5 := Lib.hid (ownI_keep HLL4.out (hg) (by omega))
        clear hS hg hx hz
        by_cases hx4 : x5 = 0
        · subst hx4
          go_wp2_with fail
          refine (specNext_any w.heap.size b (zs.length : Nat) w15 (by omega) HS5.out).mono ?_; rintro e w16 ⟨x6, rfl, hx, hz, hS, hg⟩
          have hb6 := next_bd hx hz
          obtain ⟨l6, u6⟩ := hb6
          have HS6 := Lib.hid hS
          have HG6 := Lib.hid (grown_trans HG5.out (hg))
          have HLL6 := Lib.hid (ownI_keep HLL5.out (hg) (by omega))
          clear hS hg hx hz
          go_wp2_with fail
          refine (specNext_any w.heap.size b 12 w16 (by omega) HS6.out).mono ?_; rintro e w17 ⟨x7, rfl, hx, hz, hS, hg⟩
          obtain ⟨l7, u7⟩ := hx (by omega)
          have HS7 := Lib.hid hS
          have HG7 := Lib.hid (grown_trans HG6.out (hg))
          have HLL7 := Lib.hid (ownI_keep HLL6.out (hg) (by omega))
          clear hS hg hx hz
          obtain ⟨j, rfl⟩ := Int.eq_ofNat_of_zero_le l6
          have hjl : j < zs.length := by omega
          have hji : (j : Int) < (zs.length : Int) := by omega
          rcases HLL7.out with h0 | ⟨bL, f, N, hA, hbL, hN, hr, hf⟩
          · omega
          subst hA
          have cc := hr.cell (show j < N by omega)
          have ff := hr.frozen j
          have HI := Lib.hid (ints_stored (zs := zs) (v := x7) hN hr hf hjl)
          have HBL := Lib.hid (show w.heap.size ≤ bL by omega)
          clear hr hf
          go_wp2_with fail
          (try simp only [Exit.inBlock, Exit.then])
          refine bodyPost_ret (results_tmp5 rfl _ _ _) rfl ?_
          exact ⟨x4, s, t, n, _, cL, zs.set j x7, by rw [List.length_set]; rfl, by rw [List.length_set]; (first | exact hzl | simp), HI.out, (HB.out.trans (grown_below HG7.out hbB hsz)).setCell HBL.out _⟩
        · have hx5 : (x5 == 0) = false := beq_eq_false_iff_ne.2 hx4
          clear hx4
          go_wp2_with fail
          (try simp only [Exit.inBlock, Exit.then])
          refine bodyPost_ret (results_tmp5 rfl _ _ _) rfl ?_
          exact ⟨x4, s, t, n, aL, cL, zs, rfl, (by first | exact hzl | simp), ownI_reads HLL5.out, HB.out.trans (grown_below HG5.out hbB hsz)⟩
  · have hq0 : (q == 0) = false := beq_eq_false_iff_ne.2 hq
    have hq1 : (q != 0) = true := bne_iff_ne.2 hq
    clear hq
    clear HLL3
    go_wp2_with fail
    obtain ⟨w14, hw⟩ : ∃ v, v = w13.alloc (.cells #[.int .i64 0] 2) := ⟨_, rfl⟩
    have hg : w13.grownBy w14 (some b) := by rw [hw]; exact grown_alloc _ _ _
    have hO := ownI_one w13
    have HS4 := Lib.hid (show Src w.heap.size 62 w14 b by rw [hw]; exact HS3.out.alloc _)
    have hbase : b < w13.heap.size := by omega
    rw [← hw] at hO ⊢; clear hw
    have HG4 := Lib.hid (grown_trans HG3.out (hg))
    have HLL4 := Lib.hid hO; clear hO hg HS3
    refine (specCommitmentOf_is s t c u w14 HP2.out).mono ?_; rintro e w' ⟨rfl, rfl⟩
    by_cases hu : u = 0
    · subst hu
      go_wp2_with fail
      refine (specNext_any w.heap.size b 6 w14 (by omega) HS4.out).mono ?_; rintro e w15 ⟨x5, rfl, hx, hz, hS, hg⟩
      obtain ⟨l5, u5⟩ := hx (by omega)
      have HS5 := Lib.hid hS
      have HG5 := Lib.hid (grown_trans HG4.out (hg))
      have HLL5 := Lib.hid (ownI_keep HLL4.out (hg) (by omega))
      clear hS hg hx hz
      by_cases hx6 : x5 = 0
      · subst hx6
        go_wp2_with fail
        refine (specNext_any w.heap.size b 2000000000 w15 (by omega) HS5.out).mono ?_; rintro e w16 ⟨x6, rfl, hx, hz, hS, hg⟩
        obtain ⟨l6, u6⟩ := hx (by omega)
        have HS6 := Lib.hid hS
        have HG6 := Lib.hid (grown_trans HG5.out (hg))
        have HLL6 := Lib.hid (ownI_keep HLL5.out (hg) (by omega))
        clear hS hg hx hz
        go_wp2_with fail
        refine (specNext_any w.heap.size b 4 w16 (by omega) HS6.out).mono ?_; rintro e w17 ⟨x7, rfl, hx, hz, hS, hg⟩
        obtain ⟨l7, u7⟩ := hx (by omega)
        have HS7 := Lib.hid hS
        have HG7 := Lib.hid (grown_trans HG6.out (hg))
        have HLL7 := Lib.hid (ownI_keep HLL6.out (hg) (by omega))
        clear hS hg hx hz
        by_cases hx4 : x7 = 0
        · subst hx4
          go_wp2_with fail
          refine (specNext_any w.heap.size b 1 w17 (by omega) HS7.out).mono ?_; rintro e w18 ⟨x8, rfl, hx, hz, hS, hg⟩
          have hb8 := next_bd hx hz
          obtain ⟨l8, u8⟩ := hb8
          have HS8 := Lib.hid hS
          have HG8 := Lib.hid (grown_trans HG7.out (hg))
          have HLL8 := Lib.hid (ownI_keep HLL7.out (hg) (by omega))
          clear hS hg hx hz
          go_wp2_with fail
          refine (specNext_any w.heap.size b 12 w18 (by omega) HS8.out).mono ?_; rintro e w19 ⟨x9, rfl, hx, hz, hS, hg⟩
          obtain ⟨l9, u9⟩ := hx (by omega)
          have HS9 := Lib.hid hS
          have HG9 := Lib.hid (grown_trans HG8.out (hg))
          have HLL9 := Lib.hid (ownI_keep HLL8.out (hg) (by omega))
          clear hS hg hx hz
          obtain ⟨j, rfl⟩ := Int.eq_ofNat_of_zero_le l8
          have hjl : j < 1 := by omega
          have hji : (j : Int) < (1 : Int) := by omega
          rcases HLL9.out with h0 | ⟨bL, f, N, hA, hbL, hN, hr, hf⟩
          · omega
          obtain rfl := congrArg Addr.block (Option.some.inj hA)
          have cc := hr.cell (show j < N by omega)
          have ff := hr.frozen j
          have HI := Lib.hid (ints_stored (zs := [0]) (v := x9) hN hr hf hjl)
          have HBL := Lib.hid (show w.heap.size ≤ w13.heap.size by omega)
          clear hr hf
          go_wp2_with fail
          (try simp only [Exit.inBlock, Exit.then])
          refine bodyPost_ret (results_tmp5 rfl _ _ _) rfl ?_
          exact ⟨x6, s, t, n, _, 1, [0].set j x9, by rw [List.length_set]; rfl, by rw [List.length_set]; (first | exact hzl | simp), HI.out, (HB.out.trans (grown_below HG9.out hbB hsz)).setCell HBL.out _⟩
        · have hx5 : (x7 == 0) = false := beq_eq_false_iff_ne.2 hx4
          clear hx4
          go_wp2_with fail
          (try simp only [Exit.inBlock, Exit.then])
          refine bodyPost_ret (results_tmp5 rfl _ _ _) rfl ?_
          exact ⟨x6, s, t, n, (some ⟨w13.heap.size, 0, none⟩), 1, [0], rfl, (by first | exact hzl | simp), ownI_reads HLL7.out, HB.out.trans (grown_below HG7.out hbB hsz)⟩
      · have hx7 : (x5 == 0) = false := beq_eq_false_iff_ne.2 hx6
        clear hx6
        go_wp2_with fail
        refine (specNext_any w.heap.size b 4 w15 (by omega) HS5.out).mono ?_; rintro e w16 ⟨x6, rfl, hx, hz, hS, hg⟩
        obtain ⟨l6, u6⟩ := hx (by omega)
        have HS6 := Lib.hid hS
        have HG6 := Lib.hid (grown_trans HG5.out (hg))
        have HLL6 := Lib.hid (ownI_keep HLL5.out (hg) (by omega))
        clear hS hg hx hz
        by_cases hx4 : x6 = 0
        · subst hx4
          go_wp2_with fail
          refine (specNext_any w.heap.size b 1 w16 (by omega) HS6.out).mono ?_; rintro e w17 ⟨x7, rfl, hx, hz, hS, hg⟩
          have hb7 := next_bd hx hz
          obtain ⟨l7, u7⟩ := hb7
          have HS7 := Lib.hid hS
          have HG7 := Lib.hid (grown_trans HG6.out (hg))
          have HLL7 := Lib.hid (ownI_keep HLL6.out (hg) (by omega))
          clear hS hg hx hz
          go_wp2_with fail
          refine (specNext_any w.heap.size b 12 w17 (by omega) HS7.out).mono ?_; rintro e w18 ⟨x8, rfl, hx, hz, hS, hg⟩
          obtain ⟨l8, u8⟩ := hx (by omega)
          have HS8 := Lib.hid hS
          have HG8 := Lib.hid (grown_trans HG7.out (hg))
          have HLL8 := Lib.hid (ownI_keep HLL7.out (hg) (by omega))
          clear hS hg hx hz
          obtain ⟨j, rfl⟩ := Int.eq_ofNat_of_zero_le l7
          have hjl : j < 1 := by omega
          have hji : (j : Int) < (1 : Int) := by omega
          rcases HLL8.out with h0 | ⟨bL, f, N, hA, hbL, hN, hr, hf⟩
          · omega
          obtain rfl := congrArg Addr.block (Option.some.inj hA)
          have cc := hr.cell (show j < N by omega)
          have ff := hr.frozen j
          have HI := Lib.hid (ints_stored (zs := [0]) (v := x8) hN hr hf hjl)
          have HBL := Lib.hid (show w.heap.size ≤ w13.heap.size by omega)
          clear hr hf
          go_wp2_with fail
          (try simp only [Exit.inBlock, Exit.then])
          refine bodyPost_ret (results_tmp5 rfl _ _ _) rfl ?_
          exact ⟨c, s, t, n, _, 1, [0].set j x8, by rw [List.length_set]; rfl, by rw [List.length_set]; (first | exact hzl | simp), HI.out, (HB.out.trans (grown_below HG8.out hbB hsz)).setCell HBL.out _⟩
        · have hx5 : (x6 == 0) = false := beq_eq_false_iff_ne.2 hx4
          clear hx4
          go_wp2_with fail
          (try simp only [Exit.inBlock, Exit.then])
          refine bodyPost_ret (results_tmp5 rfl _ _ _) rfl ?_
          exact ⟨c, s, t, n, (some ⟨w13.heap.size, 0, none⟩), 1, [0], rfl, (by first | exact hzl | simp), ownI_reads HLL6.out, HB.out.trans (grown_below HG6.out hbB hsz)⟩
    · have hu0 : (u == 0) = false := beq_eq_false_iff_ne.2 hu
      have hu1 : (u != 0) = true := bne_iff_ne.2 hu
      clear hu
      go_wp2_with fail
      refine (specNext_any w.heap.size b 2000000000 w14 (by omega) HS4.out).mono ?_; rintro e w15 ⟨x5, rfl, hx, hz, hS, hg⟩
      obtain ⟨l5, u5⟩ := hx (by omega)
      have HS5 := Lib.hid hS
      have HG5 := Lib.hid (grown_trans HG4.out (hg))
      have HLL5 := Lib.hid (ownI_keep HLL4.out (hg) (by omega))
      clear hS hg hx hz
      go_wp2_with fail
      refine (specNext_any w.heap.size b 4 w15 (by omega) HS5.out).mono ?_; rintro e w16 ⟨x6, rfl, hx, hz, hS, hg⟩
      obtain ⟨l6, u6⟩ := hx (by omega)
      have HS6 := Lib.hid hS
      have HG6 := Lib.hid (grown_trans HG5.out (hg))
      have HLL6 := Lib.hid (ownI_keep HLL5.out (hg) (by omega))
      clear hS hg hx hz
      by_cases hx4 : x6 = 0
      · subst hx4
        go_wp2_with fail
        refine (specNext_any w.heap.size b 1 w16 (by omega) HS6.out).mono ?_; rintro e w17 ⟨x7, rfl, hx, hz, hS, hg⟩
        have hb7 := next_bd hx hz
        obtain ⟨l7, u7⟩ := hb7
        have HS7 := Lib.hid hS
        have HG7 := Lib.hid (grown_trans HG6.out (hg))
        have HLL7 := Lib.hid (ownI_keep HLL6.out (hg) (by omega))
        clear hS hg hx hz
        go_wp2_with fail
        refine (specNext_any w.heap.size b 12 w17 (by omega) HS7.out).mono ?_; rintro e w18 ⟨x8, rfl, hx, hz, hS, hg⟩
        obtain ⟨l8, u8⟩ := hx (by omega)
        have HS8 := Lib.hid hS
        have HG8 := Lib.hid (grown_trans HG7.out (hg))
        have HLL8 := Lib.hid (ownI_keep HLL7.out (hg) (by omega))
        clear hS hg hx hz
        obtain ⟨j, rfl⟩ := Int.eq_ofNat_of_zero_le l7
        have hjl : j < 1 := by omega
        have hji : (j : Int) < (1 : Int) := by omega
        rcases HLL8.out with h0 | ⟨bL, f, N, hA, hbL, hN, hr, hf⟩
        · omega
        obtain rfl := congrArg Addr.block (Option.some.inj hA)
        have cc := hr.cell (show j < N by omega)
        have ff := hr.frozen j
        have HI := Lib.hid (ints_stored (zs := [0]) (v := x8) hN hr hf hjl)
        have HBL := Lib.hid (show w.heap.size ≤ w13.heap.size by omega)
        clear hr hf
        go_wp2_with fail
        (try simp only [Exit.inBlock, Exit.then])
        refine bodyPost_ret (results_tmp5 rfl _ _ _) rfl ?_
        exact ⟨x5, s, t, n, _, 1, [0].set j x8, by rw [List.length_set]; rfl, by rw [List.length_set]; (first | exact hzl | simp), HI.out, (HB.out.trans (grown_below HG8.out hbB hsz)).setCell HBL.out _⟩
      · have hx5 : (x6 == 0) = false := beq_eq_false_iff_ne.2 hx4
        clear hx4
        go_wp2_with fail
        (try simp only [Exit.inBlock, Exit.then])
        refine bodyPost_ret (results_tmp5 rfl _ _ _) rfl ?_
        exact ⟨x5, s, t, n, (some ⟨w13.heap.size, 0, none⟩), 1, [0], rfl, (by first | exact hzl | simp), ownI_reads HLL6.out, HB.out.trans (grown_below HG6.out hbB hsz)⟩

end Go.Proofs.Ytfblkggfdmnpmaa
