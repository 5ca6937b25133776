/- Contract: spec.l07Draw draws a term, rarely one that is not as described. (written by draw7.py) -/
import Derived.Test.YtblbmmajobefiaaChecked
import Derived.Test.YtblbmmajobefiaaBase
import Derived.Test.YtblbmmajobefiaaInfo
import Derived.Test.YtblbmmajobefiaaPure6
import Derived.Test.YtblbmmajobefiaaNext
import Derived.Test.YtblbmmajobefiaaPick
import Derived.Test.YtblbmmajobefiaaTermA
import Derived.Test.YtblbmmajobefiaaTermB
import Derived.Test.YtblbmmajobefiaaTermC
import Derived.Test.YtblbmmajobefiaaFacts
import Derived.Test.YtblbmmajobefiaaDrawT7a
import Derived.WalkKit
import Derived.WalkSpells
import Derived.WalkLawsBesides
import Derived.Lib.Hide
import Derived.IntWalk
import Derived.Deep.OwnRows
import Derived.Deep.MidRow
import Derived.OwnWalk
import Derived.Outline
namespace Go.Proofs.Ytblbmmajobefiaa
open Go.RowKit Pure1 Pure2 Pure6

set_option maxRecDepth 100000 in
set_option maxHeartbeats 4000000 in
theorem specDraw7_any (B b : Nat) (w : World) (h : Src B 82 w b) :
    Calls Try.prog 57 #[.pointer (some ⟨b, 0, none⟩)] w (GaveT B b w) := by
  have hlt := h.lt
  have HC := Lib.hid (specGood7_any B b (w.alloc (.cells #[.int .i64 0, .int .i64 0, .int .i64 0] 32)) (h.alloc _))
  have HR0 := Lib.hid (row3 w (.int .i64 0) (.int .i64 0) (.int .i64 0) 32)
  have HG0 := Lib.hid (grown_alloc w (.cells #[.int .i64 0, .int .i64 0, .int .i64 0] 32) (some b))
  clear h
  go_enter Try.func57, Try.ntmps57
  go_wp2_with fail
  refine HC.out.mono ?_; rintro e w1 ⟨c, rfl, hp, hS, hg⟩
  have HR1 := Lib.hid (row_grown HR0.out hg (by omega))
  have hlt1 := hS.lt
  have HP := Lib.hid hp; have HG1 := Lib.hid (grown_trans HG0.out hg)
  have HL1 := Lib.hid (row3 w1 (.int .i64 c.num) (.int .i64 c.frm) (.int .i64 c.to) 32)
  have HR2 := Lib.hid (HR1.out.alloc (.cells #[.int .i64 c.num, .int .i64 c.frm, .int .i64 c.to] 32))
  have HS2 := Lib.hid (hS.alloc (.cells #[.int .i64 c.num, .int .i64 c.frm, .int .i64 c.to] 32))
  have HG2 := Lib.hid (grown_trans HG1.out (grown_alloc w1 (.cells #[.int .i64 c.num, .int .i64 c.frm, .int .i64 c.to] 32) (some b)))
  clear hp hS hg
  go_wp2_with fail
  generalize w1.alloc (.cells #[.int .i64 c.num, .int .i64 c.frm, .int .i64 c.to] 32) = w2 at HL1 HR2 HS2 HG2 ⊢
  obtain ⟨lb, hlb⟩ : ∃ lb, w1.heap.size = lb := ⟨_, rfl⟩
  obtain ⟨rv, hrv⟩ : ∃ rv, w.heap.size = rv := ⟨_, rfl⟩
  have hsz := HG1.out.size
  have hrl : rv < lb := by have := HR1.out.lt; omega
  have hBb := HS2.out.base
  have HRV := Lib.hid (show w.heap.size ≤ rv by omega)
  rw [hlb] at HL1 ⊢
  rw [hrv] at HR2 ⊢
  obtain ⟨⟨hn0, hn1⟩, ⟨hf0, hf1⟩, ht0, ht1⟩ := HP.out
  refine (specNext_any B b 24 w2 (by omega) HS2.out).mono ?_; rintro e w3 ⟨x, rfl, hx, _, hS, hg⟩
  obtain ⟨l1, u1⟩ := hx (by omega)
  have HS3 := Lib.hid hS; have HG3 := Lib.hid (grown_trans HG2.out hg)
  have HL3 := Lib.hid (row_grown HL1.out hg (by omega)); have HR3 := Lib.hid (row_grown HR2.out hg (by omega))
  have hrv' : w.heap.size ≤ rv := HRV.out
  clear hS hg hx
  by_cases hx0 : x = 0
  · have h0 : (x == 0) = true := beq_iff_eq.2 hx0
    clear hx0
    have c1a := HL3.out.cell (show 1 < 3 by omega)
    change _ = some (Value.int .i64 c.frm) at c1a
    have q1 : IntKind.i64.wrap (c.frm - 1) = c.frm - 1 := IntWalk.i64_in _ (by omega)
    go_wp2_with fail
    clear c1a
    refine (specPick_any B b w3.heap.size [c.frm - 1, 20000, 20001] 3 3 _ rfl (by omega) (by omega) (HS3.out.alloc _) (by have := HS3.out.lt; omega) (alloc_ints w3 _ _)).mono ?_
    rintro e w4 ⟨y, rfl, hy, hS, hg⟩
    have hy2 : -1 ≤ y ∧ y ≤ 30000 := by simp at hy; omega
    have HS4 := Lib.hid hS; have HG4 := Lib.hid (grown_trans (grown_trans HG3.out (grown_alloc _ _ _)) hg)
    have HL4 := Lib.hid (row_grown (HL3.out.alloc _) hg (by omega)); have HR4 := Lib.hid (row_grown (HR3.out.alloc _) hg (by omega))
    clear hS hg hy q1
    have c0 := HL4.out.cell (show 0 < 3 by omega); have c1 := HL4.out.cell (show 1 < 3 by omega); have c2 := HL4.out.cell (show 2 < 3 by omega)
    have f0 := HL4.out.frozen 0; have f1 := HL4.out.frozen 1; have f2 := HL4.out.frozen 2
    have d0 := HR4.out.cell (show 0 < 3 by omega); have d1 := HR4.out.cell (show 1 < 3 by omega); have d2 := HR4.out.cell (show 2 < 3 by omega)
    have e0 := HR4.out.frozen 0; have e1 := HR4.out.frozen 1; have e2 := HR4.out.frozen 2
    change _ = some (Value.int .i64 c.num) at c0
    change _ = some (Value.int .i64 c.frm) at c1
    change _ = some (Value.int .i64 c.to) at c2
    go_wp2_with fail
    (try simp only [Exit.inBlock, Exit.then])
    refine bodyPost_ret (v := .agg #[.int .i64 (c.num), .int .i64 (c.frm), .int .i64 (y)]) ?_ rfl ⟨⟨c.num, c.frm, y⟩, rfl, ⟨⟨by show 0 ≤ c.num; omega, by show c.num ≤ 1000001; omega⟩, ⟨by show 0 ≤ c.frm; omega, by show c.frm ≤ 30000; omega⟩, by show -1 ≤ y; omega, by show y ≤ 30000; omega⟩, (Src_set (o := 2) (Src_set (o := 1) (Src_set (o := 0) (Src_set (o := 2) HS4.out (by omega) (by omega) (.int .i64 y)) (by omega) (by omega) (.int .i64 (c.num))) (by omega) (by omega) (.int .i64 (c.frm))) (by omega) (by omega) (.int .i64 (y))), (grown_new (o := 2) (grown_new (o := 1) (grown_new (o := 0) (grown_new (o := 2) HG4.out (by omega) (.int .i64 y)) (by omega) (.int .i64 (c.num))) (by omega) (.int .i64 (c.frm))) (by omega) (.int .i64 (y)))⟩
    rw [Term.results1 rfl]
    go_simp
  · have h0 : (x == 0) = false := beq_eq_false_iff_ne.2 hx0
    by_cases hx1 : x = 1
    · have h1 : (x == 1) = true := beq_iff_eq.2 hx1
      clear hx0 hx1
      go_wp2_with fail
      refine (specPick_any B b w3.heap.size [0, 1000000, 1000001] 3 3 _ rfl (by omega) (by omega) (HS3.out.alloc _) (by have := HS3.out.lt; omega) (alloc_ints w3 _ _)).mono ?_
      rintro e w4 ⟨y, rfl, hy, hS, hg⟩
      have hy2 : 0 ≤ y ∧ y ≤ 1000001 := by simp at hy; omega
      have HS4 := Lib.hid hS; have HG4 := Lib.hid (grown_trans (grown_trans HG3.out (grown_alloc _ _ _)) hg)
      have HL4 := Lib.hid (row_grown (HL3.out.alloc _) hg (by omega)); have HR4 := Lib.hid (row_grown (HR3.out.alloc _) hg (by omega))
      clear hS hg hy
      have c0 := HL4.out.cell (show 0 < 3 by omega); have c1 := HL4.out.cell (show 1 < 3 by omega); have c2 := HL4.out.cell (show 2 < 3 by omega)
      have f0 := HL4.out.frozen 0; have f1 := HL4.out.frozen 1; have f2 := HL4.out.frozen 2
      have d0 := HR4.out.cell (show 0 < 3 by omega); have d1 := HR4.out.cell (show 1 < 3 by omega); have d2 := HR4.out.cell (show 2 < 3 by omega)
      have e0 := HR4.out.frozen 0; have e1 := HR4.out.frozen 1; have e2 := HR4.out.frozen 2
      change _ = some (Value.int .i64 c.num) at c0
      change _ = some (Value.int .i64 c.frm) at c1
      change _ = some (Value.int .i64 c.to) at c2
      go_wp2_with fail
      (try simp only [Exit.inBlock, Exit.then])
      refine bodyPost_ret (v := .agg #[.int .i64 (y), .int .i64 (c.frm), .int .i64 (c.to)]) ?_ rfl ⟨⟨y, c.frm, c.to⟩, rfl, ⟨⟨by show 0 ≤ y; omega, by show y ≤ 1000001; omega⟩, ⟨by show 0 ≤ c.frm; omega, by show c.frm ≤ 30000; omega⟩, by show -1 ≤ c.to; omega, by show c.to ≤ 30000; omega⟩, (Src_set (o := 2) (Src_set (o := 1) (Src_set (o := 0) (Src_set (o := 0) HS4.out (by omega) (by omega) (.int .i64 y)) (by omega) (by omega) (.int .i64 (y))) (by omega) (by omega) (.int .i64 (c.frm))) (by omega) (by omega) (.int .i64 (c.to))), (grown_new (o := 2) (grown_new (o := 1) (grown_new (o := 0) (grown_new (o := 0) HG4.out (by omega) (.int .i64 y)) (by omega) (.int .i64 (y))) (by omega) (.int .i64 (c.frm))) (by omega) (.int .i64 (c.to)))⟩
      rw [Term.results1 rfl]
      go_simp
    · have h1 : (x == 1) = false := beq_eq_false_iff_ne.2 hx1
      clear hx0 hx1
      have HS4 := Lib.hid HS3.out; have HG4 := Lib.hid HG3.out; have HL4 := Lib.hid HL3.out; have HR4 := Lib.hid HR3.out
      have c0 := HL4.out.cell (show 0 < 3 by omega); have c1 := HL4.out.cell (show 1 < 3 by omega); have c2 := HL4.out.cell (show 2 < 3 by omega)
      have f0 := HL4.out.frozen 0; have f1 := HL4.out.frozen 1; have f2 := HL4.out.frozen 2
      have d0 := HR4.out.cell (show 0 < 3 by omega); have d1 := HR4.out.cell (show 1 < 3 by omega); have d2 := HR4.out.cell (show 2 < 3 by omega)
      have e0 := HR4.out.frozen 0; have e1 := HR4.out.frozen 1; have e2 := HR4.out.frozen 2
      change _ = some (Value.int .i64 c.num) at c0
      change _ = some (Value.int .i64 c.frm) at c1
      change _ = some (Value.int .i64 c.to) at c2
      go_wp2_with fail
      (try simp only [Exit.inBlock, Exit.then])
      refine bodyPost_ret (v := .agg #[.int .i64 (c.num), .int .i64 (c.frm), .int .i64 (c.to)]) ?_ rfl ⟨⟨c.num, c.frm, c.to⟩, rfl, ⟨⟨by show 0 ≤ c.num; omega, by show c.num ≤ 1000001; omega⟩, ⟨by show 0 ≤ c.frm; omega, by show c.frm ≤ 30000; omega⟩, by show -1 ≤ c.to; omega, by show c.to ≤ 30000; omega⟩, (Src_set (o := 2) (Src_set (o := 1) (Src_set (o := 0) HS4.out (by omega) (by omega) (.int .i64 (c.num))) (by omega) (by omega) (.int .i64 (c.frm))) (by omega) (by omega) (.int .i64 (c.to))), (grown_new (o := 2) (grown_new (o := 1) (grown_new (o := 0) HG4.out (by omega) (.int .i64 (c.num))) (by omega) (.int .i64 (c.frm))) (by omega) (.int .i64 (c.to)))⟩
      rw [Term.results1 rfl]
      go_simp
end Go.Proofs.Ytblbmmajobefiaa
