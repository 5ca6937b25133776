/- Contract: spec.l06Candidate draws a candidate. -/
import Derived.Test.YtjnjmoiilapbiaaChecked
import Derived.Test.YtjnjmoiilapbiaaBase
import Derived.Test.YtjnjmoiilapbiaaPure40
import Derived.Test.YtjnjmoiilapbiaaPure6
import Derived.Test.YtjnjmoiilapbiaaPure61
import Derived.Test.YtjnjmoiilapbiaaNext
import Derived.Test.YtjnjmoiilapbiaaPick
import Derived.Test.YtjnjmoiilapbiaaDrawW
import Derived.Test.YtjnjmoiilapbiaaPersLaw
import Derived.Test.YtjnjmoiilapbiaaGood4
import Derived.Test.YtjnjmoiilapbiaaDraw4
import Derived.Test.YtjnjmoiilapbiaaTruth6
import Derived.Test.YtjnjmoiilapbiaaRulLaw6
import Derived.Test.YtjnjmoiilapbiaaDrawR6
import Derived.WalkKit
import Derived.WalkSpells
import Derived.WalkLawsBesides
import Derived.Lib.Hide
import Derived.IntWalk
import Derived.Outline
namespace Go.Proofs.Ytjnjmoiilapbiaa
open Go.RowKit Pure1 Pure2 Pure6 Pure40 Pure61

/-- a row of nine cells, by its values -/
def RowV (b : Nat) (w : World) (v0 v1 v2 v3 v4 v5 v6 v7 v8 : Value) : Prop := ∃ f, w.rowIs b 30 9 f ∧ f 0 = v0 ∧ f 1 = v1 ∧ f 2 = v2 ∧ f 3 = v3 ∧ f 4 = v4 ∧ f 5 = v5 ∧ f 6 = v6 ∧ f 7 = v7 ∧ f 8 = v8
theorem RowV.cells {b : Nat} {w : World} {v0 v1 v2 v3 v4 v5 v6 v7 v8 : Value} (h : RowV b w v0 v1 v2 v3 v4 v5 v6 v7 v8) : w.cell? ⟨b, 0, none⟩ = some v0 ∧ w.cell? ⟨b, 1, none⟩ = some v1 ∧ w.cell? ⟨b, 2, none⟩ = some v2 ∧ w.cell? ⟨b, 3, none⟩ = some v3 ∧ w.cell? ⟨b, 4, none⟩ = some v4 ∧ w.cell? ⟨b, 5, none⟩ = some v5 ∧ w.cell? ⟨b, 6, none⟩ = some v6 ∧ w.cell? ⟨b, 7, none⟩ = some v7 ∧ w.cell? ⟨b, 8, none⟩ = some v8 := by
  obtain ⟨f, hr, h0, h1, h2, h3, h4, h5, h6, h7, h8⟩ := h
  exact ⟨by rw [hr.cell (by omega), h0], by rw [hr.cell (by omega), h1], by rw [hr.cell (by omega), h2], by rw [hr.cell (by omega), h3], by rw [hr.cell (by omega), h4], by rw [hr.cell (by omega), h5], by rw [hr.cell (by omega), h6], by rw [hr.cell (by omega), h7], by rw [hr.cell (by omega), h8]⟩
theorem RowV.frozen {b : Nat} {w : World} {v0 v1 v2 v3 v4 v5 v6 v7 v8 : Value} (h : RowV b w v0 v1 v2 v3 v4 v5 v6 v7 v8) (k : Nat) : w.frozen? ⟨b, k, none⟩ = false := by
  obtain ⟨f, hr, _⟩ := h; exact hr.frozen k
theorem RowV.lt {b : Nat} {w : World} {v0 v1 v2 v3 v4 v5 v6 v7 v8 : Value} (h : RowV b w v0 v1 v2 v3 v4 v5 v6 v7 v8) : b < w.heap.size := by
  obtain ⟨f, hr, _⟩ := h; exact hr.lt
theorem RowV.below {b : Nat} {w w' : World} {v0 v1 v2 v3 v4 v5 v6 v7 v8 : Value} (h : RowV b w v0 v1 v2 v3 v4 v5 v6 v7 v8) (hb : Below w.heap.size w w') : RowV b w' v0 v1 v2 v3 v4 v5 v6 v7 v8 := by
  obtain ⟨f, hr, hf⟩ := h; exact ⟨f, hr.of_block (hb.block b hr.lt), hf⟩
theorem RowV.grown {b k : Nat} {w w' : World} {v0 v1 v2 v3 v4 v5 v6 v7 v8 : Value} (h : RowV b w v0 v1 v2 v3 v4 v5 v6 v7 v8) (hg : w.grownBy w' (some k)) (hne : b ≠ k) : RowV b w' v0 v1 v2 v3 v4 v5 v6 v7 v8 := by
  obtain ⟨f, hr, hf⟩ := h; exact ⟨f, hr.of_block (hg.block b hr.lt (fun e => hne (Option.some.inj e))), hf⟩
theorem RowV.other {b g o : Nat} {w : World} {v0 v1 v2 v3 v4 v5 v6 v7 v8 : Value} (h : RowV b w v0 v1 v2 v3 v4 v5 v6 v7 v8) (hne : g ≠ b) (v : Value) : RowV b (w.setCell ⟨g, o, none⟩ v) v0 v1 v2 v3 v4 v5 v6 v7 v8 := by
  obtain ⟨f, hr, hf⟩ := h; exact ⟨f, hr.of_block (Below.heap_setCell _ _ _ _ (fun e => hne e.symm)), hf⟩
theorem RowV.set5 {b : Nat} {w : World} {v0 v1 v2 v3 v4 v5 v6 v7 v8 : Value} (h : RowV b w v0 v1 v2 v3 v4 v5 v6 v7 v8) (u0 u1 u2 u3 u4 : Value) : RowV b (((((w.setCell ⟨b, 0, none⟩ u0).setCell ⟨b, 1, none⟩ u1).setCell ⟨b, 2, none⟩ u2).setCell ⟨b, 3, none⟩ u3).setCell ⟨b, 4, none⟩ u4) u0 u1 u2 u3 u4 v5 v6 v7 v8 := by
  obtain ⟨f, hr, h0, h1, h2, h3, h4, h5, h6, h7, h8⟩ := h
  exact ⟨_, ((((hr.set 0 u0).set 1 u1).set 2 u2).set 3 u3).set 4 u4, rfl, rfl, rfl, rfl, rfl, h5, h6, h7, h8⟩
theorem rowV_box (w : World) (v0 v1 v2 v3 v4 v5 v6 v7 v8 : Value) : RowV w.heap.size (w.alloc (.cells #[v0, v1, v2, v3, v4, v5, v6, v7, v8] 30)) v0 v1 v2 v3 v4 v5 v6 v7 v8 :=
  ⟨fun i => (#[v0, v1, v2, v3, v4, v5, v6, v7, v8] : Array Value)[i]?.getD undef, World.rowIs_alloc w #[v0, v1, v2, v3, v4, v5, v6, v7, v8] 30 _ (fun i hi => by rw [Array.getElem?_eq_getElem hi]; rfl), rfl, rfl, rfl, rfl, rfl, rfl, rfl, rfl, rfl⟩
/-- a candidate with short names and small numbers -/
def SmallC (c : Cand) : Prop := Small c.p ∧ -1 ≤ c.job ∧ c.job ≤ 21
/-- a candidate is handed out -/
def GaveC (B b : Nat) (w : World) (e : Ending) (w' : World) : Prop :=
  ∃ c : Cand, e = .returned (.agg #[.int .i64 c.p.num, .string c.p.fst, .string c.p.lst, .int .i64 c.p.born, .int .i64 c.p.zone, .bool c.cit, .bool c.con, .bool c.flu, .int .i64 c.job]) ∧ SmallC c ∧ Src B 93 w' b ∧ w.grownBy w' (some b)

set_option maxRecDepth 100000 in
set_option maxHeartbeats 8000000 in
theorem specCand6_any (B b : Nat) (w : World) (h : Src B 93 w b) :
    Calls Try.prog 47 #[.pointer (some ⟨b, 0, none⟩)] w (GaveC B b w) := by
  have hlt := h.lt
  have hbB := h.base
  have HS0 := Lib.hid (h.alloc (.cells #[.int .i64 0, .string ⟨#[]⟩, .string ⟨#[]⟩, .int .i64 0, .int .i64 0, .bool false, .bool false, .bool false, .int .i64 0] 30)); have HG0 := Lib.hid (grown_alloc w (.cells #[.int .i64 0, .string ⟨#[]⟩, .string ⟨#[]⟩, .int .i64 0, .int .i64 0, .bool false, .bool false, .bool false, .int .i64 0] 30) (some b)); have HR0 := Lib.hid (rowV_box w (.int .i64 0) (.string ⟨#[]⟩) (.string ⟨#[]⟩) (.int .i64 0) (.int .i64 0) (.bool false) (.bool false) (.bool false) (.int .i64 0))
  clear h
  go_enter Try.func47, Try.ntmps47
  go_wp2_with fail
  generalize (w.alloc (.cells #[.int .i64 0, .string ⟨#[]⟩, .string ⟨#[]⟩, .int .i64 0, .int .i64 0, .bool false, .bool false, .bool false, .int .i64 0] 30)) = u0 at HS0 HG0 HR0 ⊢
  obtain ⟨rv, hrv⟩ : ∃ rv, w.heap.size = rv := ⟨_, rfl⟩
  have HRV := Lib.hid hrv
  rw [hrv] at HR0 hlt ⊢
  clear hrv
  refine (specGood4_any B b u0 HS0.out).mono ?_; rintro e u1 ⟨p, rfl, ⟨hp, _⟩, hS, hg⟩
  have HP := Lib.hid hp
  clear hp
  have HS_1 := Lib.hid (hS)
  have HG_2 := Lib.hid (grown_trans HG0.out hg)
  have HR_3 := Lib.hid (HR0.out.grown hg (by omega))
  clear hS hg
  go_wp2_with fail
  refine (specNext_any B b 8 u1 (by omega) HS_1.out).mono ?_; rintro e u2 ⟨x1, rfl, hx, _, hS, hg⟩
  obtain ⟨lx1, ux1⟩ := hx (by omega)
  clear hx
  have HS_4 := Lib.hid (hS)
  have HG_5 := Lib.hid (grown_trans HG_2.out hg)
  have HR_6 := Lib.hid (HR_3.out.grown hg (by omega))
  clear hS hg
  go_wp2_with fail
  refine (specNext_any B b 10 u2 (by omega) HS_4.out).mono ?_; rintro e u3 ⟨x2, rfl, hx, _, hS, hg⟩
  obtain ⟨lx2, ux2⟩ := hx (by omega)
  clear hx
  have HS_7 := Lib.hid (hS)
  have HG_8 := Lib.hid (grown_trans HG_5.out hg)
  have HR_9 := Lib.hid (HR_6.out.grown hg (by omega))
  clear hS hg
  go_wp2_with fail
  refine (specNext_any B b 8 u3 (by omega) HS_7.out).mono ?_; rintro e u4 ⟨x3, rfl, hx, _, hS, hg⟩
  obtain ⟨lx3, ux3⟩ := hx (by omega)
  clear hx
  have HS_10 := Lib.hid (hS)
  have HG_11 := Lib.hid (grown_trans HG_8.out hg)
  have HR_12 := Lib.hid (HR_9.out.grown hg (by omega))
  clear hS hg
  go_wp2_with fail
  refine (specNext_any B b 10 u4 (by omega) HS_10.out).mono ?_; rintro e u5 ⟨x4, rfl, hx, _, hS, hg⟩
  obtain ⟨lx4, ux4⟩ := hx (by omega)
  clear hx
  have HS_13 := Lib.hid (hS)
  have HG_14 := Lib.hid (grown_trans HG_11.out hg)
  have HR_15 := Lib.hid (HR_12.out.grown hg (by omega))
  clear hS hg
  go_wp2_with fail
  have hrl := HR_15.out.lt
  have HX_16 := Lib.hid (rowV_box u5 (.int .i64 p.num) (.string p.fst) (.string p.lst) (.int .i64 p.born) (.int .i64 p.zone) (.bool (decide (0 < x1))) (.bool (x2 == 0)) (.bool (decide (0 < x3))) (.int .i64 x4))
  have HS_17 := Lib.hid (HS_13.out.alloc (.cells #[.int .i64 p.num, .string p.fst, .string p.lst, .int .i64 p.born, .int .i64 p.zone, .bool (decide (0 < x1)), .bool (x2 == 0), .bool (decide (0 < x3)), .int .i64 x4] 30))
  have HG_18 := Lib.hid (grown_trans HG_14.out (grown_alloc u5 (.cells #[.int .i64 p.num, .string p.fst, .string p.lst, .int .i64 p.born, .int .i64 p.zone, .bool (decide (0 < x1)), .bool (x2 == 0), .bool (decide (0 < x3)), .int .i64 x4] 30) (some b)))
  have HR_19 := Lib.hid (HR_15.out.below (boxed u5 (.cells #[.int .i64 p.num, .string p.fst, .string p.lst, .int .i64 p.born, .int .i64 p.zone, .bool (decide (0 < x1)), .bool (x2 == 0), .bool (decide (0 < x3)), .int .i64 x4] 30)))
  generalize (u5.alloc (.cells #[.int .i64 p.num, .string p.fst, .string p.lst, .int .i64 p.born, .int .i64 p.zone, .bool (decide (0 < x1)), .bool (x2 == 0), .bool (decide (0 < x3)), .int .i64 x4] 30)) = u6 at HS_17 HG_18 HR_19 HX_16 ⊢
  obtain ⟨bx, hbx⟩ : ∃ bx, u5.heap.size = bx := ⟨_, rfl⟩
  rw [hbx] at HX_16 hrl ⊢
  clear hbx
  generalize decide (0 < x1) = c1 at HX_16 ⊢
  generalize (x2 == 0) = c2 at HX_16 ⊢
  generalize decide (0 < x3) = c3 at HX_16 ⊢
  refine (specNext_any B b 30 u6 (by omega) HS_17.out).mono ?_; rintro e u7 ⟨x6, rfl, hx, _, hS, hg⟩
  obtain ⟨lx6, ux6⟩ := hx (by omega)
  clear hx
  have HS_20 := Lib.hid (hS)
  have HG_21 := Lib.hid (grown_trans HG_18.out hg)
  have HR_22 := Lib.hid (HR_19.out.grown hg (by omega))
  have HX_23 := Lib.hid (HX_16.out.grown hg (by omega))
  clear hS hg
  by_cases hc0 : x6 = 0
  · have hc1 : (x6 == 0) = true := beq_iff_eq.2 hc0
    clear hc0
    go_wp2_with fail
    refine (specDraw4_any B b u7 HS_20.out).mono ?_; rintro e u8 ⟨p2, rfl, hp, hS, hg⟩
    have HP2 := Lib.hid hp
    clear hp
    have HS_24 := Lib.hid (hS)
    have HG_25 := Lib.hid (grown_trans HG_21.out hg)
    have HR_26 := Lib.hid (HR_22.out.grown hg (by omega))
    have HX_27 := Lib.hid (HX_23.out.grown hg (by omega))
    clear hS hg
    obtain ⟨k0, k1, k2, k3, k4, k5, k6, k7, k8⟩ := HX_27.out.cells
    have f0 := HX_27.out.frozen 0; have f1 := HX_27.out.frozen 1; have f2 := HX_27.out.frozen 2; have f3 := HX_27.out.frozen 3; have f4 := HX_27.out.frozen 4
    have HS_28 := Lib.hid ((Src_set (o := 4) (Src_set (o := 3) (Src_set (o := 2) (Src_set (o := 1) (Src_set (o := 0) HS_24.out (show b ≠ bx by omega) (show B ≤ bx by omega) (.int .i64 p2.num)) (show b ≠ bx by omega) (show B ≤ bx by omega) (.string p2.fst)) (show b ≠ bx by omega) (show B ≤ bx by omega) (.string p2.lst)) (show b ≠ bx by omega) (show B ≤ bx by omega) (.int .i64 p2.born)) (show b ≠ bx by omega) (show B ≤ bx by omega) (.int .i64 p2.zone)))
    have HG_29 := Lib.hid ((grown_new (o := 4) (grown_new (o := 3) (grown_new (o := 2) (grown_new (o := 1) (grown_new (o := 0) HG_25.out (show w.heap.size ≤ bx by have := HRV.out; omega) (.int .i64 p2.num)) (show w.heap.size ≤ bx by have := HRV.out; omega) (.string p2.fst)) (show w.heap.size ≤ bx by have := HRV.out; omega) (.string p2.lst)) (show w.heap.size ≤ bx by have := HRV.out; omega) (.int .i64 p2.born)) (show w.heap.size ≤ bx by have := HRV.out; omega) (.int .i64 p2.zone)))
    have HR_30 := Lib.hid ((((((HR_26.out.other (o := 0) (show bx ≠ rv by omega) (.int .i64 p2.num)).other (o := 1) (show bx ≠ rv by omega) (.string p2.fst)).other (o := 2) (show bx ≠ rv by omega) (.string p2.lst)).other (o := 3) (show bx ≠ rv by omega) (.int .i64 p2.born)).other (o := 4) (show bx ≠ rv by omega) (.int .i64 p2.zone)))
    have HX_31 := Lib.hid (HX_27.out.set5 (.int .i64 p2.num) (.string p2.fst) (.string p2.lst) (.int .i64 p2.born) (.int .i64 p2.zone))
    go_wp2_with fail
    clear k0 k1 k2 k3 k4 k5 k6 k7 k8 f0 f1 f2 f3 f4
    generalize (((((u8.setCell ⟨bx, 0, none⟩ (.int .i64 p2.num)).setCell ⟨bx, 1, none⟩ (.string p2.fst)).setCell ⟨bx, 2, none⟩ (.string p2.lst)).setCell ⟨bx, 3, none⟩ (.int .i64 p2.born)).setCell ⟨bx, 4, none⟩ (.int .i64 p2.zone)) = u9 at HS_28 HG_29 HR_30 HX_31 ⊢
    go_wp2_with fail
    refine (specNext_any B b 30 u9 (by omega) HS_28.out).mono ?_; rintro e u10 ⟨x9, rfl, hx, _, hS, hg⟩
    obtain ⟨lx9, ux9⟩ := hx (by omega)
    clear hx
    have HS_32 := Lib.hid (hS)
    have HG_33 := Lib.hid (grown_trans HG_29.out hg)
    have HR_34 := Lib.hid (HR_30.out.grown hg (by omega))
    have HX_35 := Lib.hid (HX_31.out.grown hg (by omega))
    clear hS hg
    by_cases hq0 : x9 = 0
    · have hq1 : (x9 == 0) = true := beq_iff_eq.2 hq0
      clear hq0
      go_wp2_with fail
      have HS_36 := Lib.hid (HS_32.out.alloc (.cells #[.int .i64 20, .int .i64 21, .int .i64 (-1)] 2))
      have HG_37 := Lib.hid (grown_trans HG_33.out (grown_alloc u10 (.cells #[.int .i64 20, .int .i64 21, .int .i64 (-1)] 2) (some b)))
      have HR_38 := Lib.hid (HR_34.out.below (boxed u10 (.cells #[.int .i64 20, .int .i64 21, .int .i64 (-1)] 2)))
      have HX_39 := Lib.hid (HX_35.out.below (boxed u10 (.cells #[.int .i64 20, .int .i64 21, .int .i64 (-1)] 2)))
      refine (specPick_any B b u10.heap.size [20, 21, -1] 3 3 _ rfl (by omega) (by omega) HS_36.out (by have := HR_38.out.lt; simp at this ⊢; omega) (alloc_ints u10 _ [20, 21, -1])).mono ?_; rintro e u11 ⟨q11, rfl, hq, hS, hg⟩
      have HS_40 := Lib.hid (hS)
      have HG_41 := Lib.hid (grown_trans HG_37.out hg)
      have HR_42 := Lib.hid (HR_38.out.grown hg (by omega))
      have HX_43 := Lib.hid (HX_39.out.grown hg (by omega))
      clear hS hg
      have HS_44 := Lib.hid (Src_set (o := 8) HS_40.out (show b ≠ bx by omega) (show B ≤ bx by omega) (.int .i64 q11))
      have HG_45 := Lib.hid (grown_new (o := 8) HG_41.out (show w.heap.size ≤ bx by have := HRV.out; omega) (.int .i64 q11))
      have hjq : -1 ≤ q11 ∧ q11 ≤ 21 := by simp at hq; omega
      obtain ⟨k0, k1, k2, k3, k4, k5, k6, k7, k8⟩ := HX_43.out.cells
      obtain ⟨d0, d1, d2, d3, d4, d5, d6, d7, d8⟩ := HR_42.out.cells
      have e0 := HR_42.out.frozen 0; have e1 := HR_42.out.frozen 1; have e2 := HR_42.out.frozen 2; have e3 := HR_42.out.frozen 3; have e4 := HR_42.out.frozen 4; have e5 := HR_42.out.frozen 5; have e6 := HR_42.out.frozen 6; have e7 := HR_42.out.frozen 7; have e8 := HR_42.out.frozen 8
      have f8 := HX_43.out.frozen 8
      go_wp2_with fail
      (try simp only [Exit.inBlock, Exit.then])
      refine bodyPost_ret (v := .agg #[.int .i64 p2.num, .string p2.fst, .string p2.lst, .int .i64 p2.born, .int .i64 p2.zone, .bool c1, .bool c2, .bool c3, .int .i64 q11]) ?_ rfl ⟨⟨p2, c1, c2, c3, q11⟩, rfl, ⟨HP2.out, hjq⟩, (Src_set (o := 8) (Src_set (o := 7) (Src_set (o := 6) (Src_set (o := 5) (Src_set (o := 4) (Src_set (o := 3) (Src_set (o := 2) (Src_set (o := 1) (Src_set (o := 0) HS_44.out (by omega) (by omega) (.int .i64 p2.num)) (by omega) (by omega) (.string p2.fst)) (by omega) (by omega) (.string p2.lst)) (by omega) (by omega) (.int .i64 p2.born)) (by omega) (by omega) (.int .i64 p2.zone)) (by omega) (by omega) (.bool c1)) (by omega) (by omega) (.bool c2)) (by omega) (by omega) (.bool c3)) (by omega) (by omega) (.int .i64 q11)), (grown_new (o := 8) (grown_new (o := 7) (grown_new (o := 6) (grown_new (o := 5) (grown_new (o := 4) (grown_new (o := 3) (grown_new (o := 2) (grown_new (o := 1) (grown_new (o := 0) HG_45.out (by have := HRV.out; omega) (.int .i64 p2.num)) (by have := HRV.out; omega) (.string p2.fst)) (by have := HRV.out; omega) (.string p2.lst)) (by have := HRV.out; omega) (.int .i64 p2.born)) (by have := HRV.out; omega) (.int .i64 p2.zone)) (by have := HRV.out; omega) (.bool c1)) (by have := HRV.out; omega) (.bool c2)) (by have := HRV.out; omega) (.bool c3)) (by have := HRV.out; omega) (.int .i64 q11))⟩
      rw [results_cell1 rfl]
      go_simp
    · have hq1 : (x9 == 0) = false := beq_eq_false_iff_ne.2 hq0
      clear hq0
      obtain ⟨k0, k1, k2, k3, k4, k5, k6, k7, k8⟩ := HX_35.out.cells
      obtain ⟨d0, d1, d2, d3, d4, d5, d6, d7, d8⟩ := HR_34.out.cells
      have e0 := HR_34.out.frozen 0; have e1 := HR_34.out.frozen 1; have e2 := HR_34.out.frozen 2; have e3 := HR_34.out.frozen 3; have e4 := HR_34.out.frozen 4; have e5 := HR_34.out.frozen 5; have e6 := HR_34.out.frozen 6; have e7 := HR_34.out.frozen 7; have e8 := HR_34.out.frozen 8
      go_wp2_with fail
      (try simp only [Exit.inBlock, Exit.then])
      refine bodyPost_ret (v := .agg #[.int .i64 p2.num, .string p2.fst, .string p2.lst, .int .i64 p2.born, .int .i64 p2.zone, .bool c1, .bool c2, .bool c3, .int .i64 x4]) ?_ rfl ⟨⟨p2, c1, c2, c3, x4⟩, rfl, ⟨HP2.out, (by omega : -1 ≤ x4 ∧ x4 ≤ 21)⟩, (Src_set (o := 8) (Src_set (o := 7) (Src_set (o := 6) (Src_set (o := 5) (Src_set (o := 4) (Src_set (o := 3) (Src_set (o := 2) (Src_set (o := 1) (Src_set (o := 0) HS_32.out (by omega) (by omega) (.int .i64 p2.num)) (by omega) (by omega) (.string p2.fst)) (by omega) (by omega) (.string p2.lst)) (by omega) (by omega) (.int .i64 p2.born)) (by omega) (by omega) (.int .i64 p2.zone)) (by omega) (by omega) (.bool c1)) (by omega) (by omega) (.bool c2)) (by omega) (by omega) (.bool c3)) (by omega) (by omega) (.int .i64 x4)), (grown_new (o := 8) (grown_new (o := 7) (grown_new (o := 6) (grown_new (o := 5) (grown_new (o := 4) (grown_new (o := 3) (grown_new (o := 2) (grown_new (o := 1) (grown_new (o := 0) HG_33.out (by have := HRV.out; omega) (.int .i64 p2.num)) (by have := HRV.out; omega) (.string p2.fst)) (by have := HRV.out; omega) (.string p2.lst)) (by have := HRV.out; omega) (.int .i64 p2.born)) (by have := HRV.out; omega) (.int .i64 p2.zone)) (by have := HRV.out; omega) (.bool c1)) (by have := HRV.out; omega) (.bool c2)) (by have := HRV.out; omega) (.bool c3)) (by have := HRV.out; omega) (.int .i64 x4))⟩
      rw [results_cell1 rfl]
      go_simp
  · have hc1 : (x6 == 0) = false := beq_eq_false_iff_ne.2 hc0
    clear hc0
    go_wp2_with fail
    refine (specNext_any B b 30 u7 (by omega) HS_20.out).mono ?_; rintro e u8 ⟨x7, rfl, hx, _, hS, hg⟩
    obtain ⟨lx7, ux7⟩ := hx (by omega)
    clear hx
    have HS_24 := Lib.hid (hS)
    have HG_25 := Lib.hid (grown_trans HG_21.out hg)
    have HR_26 := Lib.hid (HR_22.out.grown hg (by omega))
    have HX_27 := Lib.hid (HX_23.out.grown hg (by omega))
    clear hS hg
    by_cases hq0 : x7 = 0
    · have hq1 : (x7 == 0) = true := beq_iff_eq.2 hq0
      clear hq0
      go_wp2_with fail
      have HS_28 := Lib.hid (HS_24.out.alloc (.cells #[.int .i64 20, .int .i64 21, .int .i64 (-1)] 2))
      have HG_29 := Lib.hid (grown_trans HG_25.out (grown_alloc u8 (.cells #[.int .i64 20, .int .i64 21, .int .i64 (-1)] 2) (some b)))
      have HR_30 := Lib.hid (HR_26.out.below (boxed u8 (.cells #[.int .i64 20, .int .i64 21, .int .i64 (-1)] 2)))
      have HX_31 := Lib.hid (HX_27.out.below (boxed u8 (.cells #[.int .i64 20, .int .i64 21, .int .i64 (-1)] 2)))
      refine (specPick_any B b u8.heap.size [20, 21, -1] 3 3 _ rfl (by omega) (by omega) HS_28.out (by have := HR_30.out.lt; simp at this ⊢; omega) (alloc_ints u8 _ [20, 21, -1])).mono ?_; rintro e u9 ⟨q9, rfl, hq, hS, hg⟩
      have HS_32 := Lib.hid (hS)
      have HG_33 := Lib.hid (grown_trans HG_29.out hg)
      have HR_34 := Lib.hid (HR_30.out.grown hg (by omega))
      have HX_35 := Lib.hid (HX_31.out.grown hg (by omega))
      clear hS hg
      have HS_36 := Lib.hid (Src_set (o := 8) HS_32.out (show b ≠ bx by omega) (show B ≤ bx by omega) (.int .i64 q9))
      have HG_37 := Lib.hid (grown_new (o := 8) HG_33.out (show w.heap.size ≤ bx by have := HRV.out; omega) (.int .i64 q9))
      have hjq : -1 ≤ q9 ∧ q9 ≤ 21 := by simp at hq; omega
      obtain ⟨k0, k1, k2, k3, k4, k5, k6, k7, k8⟩ := HX_35.out.cells
      obtain ⟨d0, d1, d2, d3, d4, d5, d6, d7, d8⟩ := HR_34.out.cells
      have e0 := HR_34.out.frozen 0; have e1 := HR_34.out.frozen 1; have e2 := HR_34.out.frozen 2; have e3 := HR_34.out.frozen 3; have e4 := HR_34.out.frozen 4; have e5 := HR_34.out.frozen 5; have e6 := HR_34.out.frozen 6; have e7 := HR_34.out.frozen 7; have e8 := HR_34.out.frozen 8
      have f8 := HX_35.out.frozen 8
      go_wp2_with fail
      (try simp only [Exit.inBlock, Exit.then])
      refine bodyPost_ret (v := .agg #[.int .i64 p.num, .string p.fst, .string p.lst, .int .i64 p.born, .int .i64 p.zone, .bool c1, .bool c2, .bool c3, .int .i64 q9]) ?_ rfl ⟨⟨p, c1, c2, c3, q9⟩, rfl, ⟨HP.out, hjq⟩, (Src_set (o := 8) (Src_set (o := 7) (Src_set (o := 6) (Src_set (o := 5) (Src_set (o := 4) (Src_set (o := 3) (Src_set (o := 2) (Src_set (o := 1) (Src_set (o := 0) HS_36.out (by omega) (by omega) (.int .i64 p.num)) (by omega) (by omega) (.string p.fst)) (by omega) (by omega) (.string p.lst)) (by omega) (by omega) (.int .i64 p.born)) (by omega) (by omega) (.int .i64 p.zone)) (by omega) (by omega) (.bool c1)) (by omega) (by omega) (.bool c2)) (by omega) (by omega) (.bool c3)) (by omega) (by omega) (.int .i64 q9)), (grown_new (o := 8) (grown_new (o := 7) (grown_new (o := 6) (grown_new (o := 5) (grown_new (o := 4) (grown_new (o := 3) (grown_new (o := 2) (grown_new (o := 1) (grown_new (o := 0) HG_37.out (by have := HRV.out; omega) (.int .i64 p.num)) (by have := HRV.out; omega) (.string p.fst)) (by have := HRV.out; omega) (.string p.lst)) (by have := HRV.out; omega) (.int .i64 p.born)) (by have := HRV.out; omega) (.int .i64 p.zone)) (by have := HRV.out; omega) (.bool c1)) (by have := HRV.out; omega) (.bool c2)) (by have := HRV.out; omega) (.bool c3)) (by have := HRV.out; omega) (.int .i64 q9))⟩
      rw [results_cell1 rfl]
      go_simp
    · have hq1 : (x7 == 0) = false := beq_eq_false_iff_ne.2 hq0
      clear hq0
      obtain ⟨k0, k1, k2, k3, k4, k5, k6, k7, k8⟩ := HX_27.out.cells
      obtain ⟨d0, d1, d2, d3, d4, d5, d6, d7, d8⟩ := HR_26.out.cells
      have e0 := HR_26.out.frozen 0; have e1 := HR_26.out.frozen 1; have e2 := HR_26.out.frozen 2; have e3 := HR_26.out.frozen 3; have e4 := HR_26.out.frozen 4; have e5 := HR_26.out.frozen 5; have e6 := HR_26.out.frozen 6; have e7 := HR_26.out.frozen 7; have e8 := HR_26.out.frozen 8
      go_wp2_with fail
      (try simp only [Exit.inBlock, Exit.then])
      refine bodyPost_ret (v := .agg #[.int .i64 p.num, .string p.fst, .string p.lst, .int .i64 p.born, .int .i64 p.zone, .bool c1, .bool c2, .bool c3, .int .i64 x4]) ?_ rfl ⟨⟨p, c1, c2, c3, x4⟩, rfl, ⟨HP.out, (by omega : -1 ≤ x4 ∧ x4 ≤ 21)⟩, (Src_set (o := 8) (Src_set (o := 7) (Src_set (o := 6) (Src_set (o := 5) (Src_set (o := 4) (Src_set (o := 3) (Src_set (o := 2) (Src_set (o := 1) (Src_set (o := 0) HS_24.out (by omega) (by omega) (.int .i64 p.num)) (by omega) (by omega) (.string p.fst)) (by omega) (by omega) (.string p.lst)) (by omega) (by omega) (.int .i64 p.born)) (by omega) (by omega) (.int .i64 p.zone)) (by omega) (by omega) (.bool c1)) (by omega) (by omega) (.bool c2)) (by omega) (by omega) (.bool c3)) (by omega) (by omega) (.int .i64 x4)), (grown_new (o := 8) (grown_new (o := 7) (grown_new (o := 6) (grown_new (o := 5) (grown_new (o := 4) (grown_new (o := 3) (grown_new (o := 2) (grown_new (o := 1) (grown_new (o := 0) HG_25.out (by have := HRV.out; omega) (.int .i64 p.num)) (by have := HRV.out; omega) (.string p.fst)) (by have := HRV.out; omega) (.string p.lst)) (by have := HRV.out; omega) (.int .i64 p.born)) (by have := HRV.out; omega) (.int .i64 p.zone)) (by have := HRV.out; omega) (.bool c1)) (by have := HRV.out; omega) (.bool c2)) (by have := HRV.out; omega) (.bool c3)) (by have := HRV.out; omega) (.int .i64 x4))⟩
      rw [results_cell1 rfl]
      go_simp

end Go.Proofs.Ytjnjmoiilapbiaa
