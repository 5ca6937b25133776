/- Contract: spec.l04Draw draws a person, rarely one that is not as described. -/
import Derived.Test.YtdeiillfdjebdaaChecked
import Derived.Test.YtdeiillfdjebdaaBase
import Derived.Test.YtdeiillfdjebdaaPure40
import Derived.Test.YtdeiillfdjebdaaPure6
import Derived.Test.YtdeiillfdjebdaaNext
import Derived.Test.YtdeiillfdjebdaaPick
import Derived.Test.YtdeiillfdjebdaaDrawW
import Derived.Test.YtdeiillfdjebdaaPersLaw
import Derived.Test.YtdeiillfdjebdaaGood4
import Derived.WalkKit
import Derived.WalkSpells
import Derived.WalkLawsBesides
import Derived.Lib.Hide
import Derived.IntWalk
import Derived.Outline
namespace Go.Proofs.Ytdeiillfdjebdaa
open Go.RowKit Pure2 Pure6 Pure40

/-- the cells of a person, by number -/
def cellF (p : Pers) (j : Nat) : Value := (p.cells[j]?).getD undef
theorem row_box (w : World) (p : Pers) (T : TypeId) : (w.alloc (.cells #[.int .i64 p.num, .string p.fst, .string p.lst, .int .i64 p.born, .int .i64 p.zone] T)).rowIs w.heap.size T 5 (cellF p) :=
  World.rowIs_alloc w #[.int .i64 p.num, .string p.fst, .string p.lst, .int .i64 p.born, .int .i64 p.zone] T _ (fun i hi => by
    match i, hi with
    | 0, _ => rfl
    | 1, _ => rfl
    | 2, _ => rfl
    | 3, _ => rfl
    | 4, _ => rfl
    | n + 5, hi => exact absurd (show n + 5 < 5 from hi) (by omega))
theorem row_cells {w : World} {b : Nat} {T : TypeId} {p : Pers} (h : w.rowIs b T 5 (cellF p)) : AtB w b p :=
  ⟨h.cell (show 0 < 5 by omega), h.cell (show 1 < 5 by omega), h.cell (show 2 < 5 by omega), h.cell (show 3 < 5 by omega), h.cell (show 4 < 5 by omega)⟩
theorem row_grown {w w' : World} {b B n : Nat} {T : TypeId} {f : Nat → Value} (h : w.rowIs b T n f) (hg : w.grownBy w' (some B)) (hne : b ≠ B) : w'.rowIs b T n f :=
  h.of_block (hg.block b h.lt (fun e => hne (Option.some.inj e)))

theorem Src_set {B b k o : Nat} {T : TypeId} {w : World} (h : Src B T w b) (hne : b ≠ k) (hB : B ≤ k) (v : Value) : Src B T (w.setCell ⟨k, o, none⟩ v) b :=
  h.kept (Below.heap_setCell _ _ _ _ hne) ((Below.refl B w).setCell (p := ⟨k, o, none⟩) hB v)
theorem grown_new {b k o : Nat} {w w' : World} (h : w.grownBy w' (some b)) (hk : w.heap.size ≤ k) (v : Value) : w.grownBy (w'.setCell ⟨k, o, none⟩ v) (some b) :=
  ⟨h.os, h.tape, h.output, by simp [World.setCell]; exact h.size, fun i hi hb => (Below.heap_setCell _ _ _ _ (by show i ≠ k; omega)).trans (h.block i hi hb)⟩

set_option maxRecDepth 100000 in
set_option maxHeartbeats 4000000 in
theorem specDraw4_any (B b : Nat) (w : World) (h : Src B 96 w b) :
    Calls Try.prog 85 #[.pointer (some ⟨b, 0, none⟩)] w (GaveP B b w) := by
  have hlt := h.lt
  have HC := Lib.hid (specGood4_any B b (w.alloc (.cells #[.int .i64 0, .string ⟨#[]⟩, .string ⟨#[]⟩, .int .i64 0, .int .i64 0] 51)) (h.alloc _))
  have HR0 := Lib.hid (row_box w ⟨0, ⟨#[]⟩, ⟨#[]⟩, 0, 0⟩ 51)
  have HG0 := Lib.hid (grown_alloc w (.cells #[.int .i64 0, .string ⟨#[]⟩, .string ⟨#[]⟩, .int .i64 0, .int .i64 0] 51) (some b))
  clear h
  go_enter Try.func85, Try.ntmps85
  go_wp2_with fail
  refine HC.out.mono ?_; rintro e w1 ⟨p, rfl, ⟨hp, _⟩, hS, hg⟩
  have HR1 := Lib.hid (row_grown HR0.out hg (by omega))
  have hlt1 := hS.lt
  have HS1 := Lib.hid hS; have HP := Lib.hid hp; have HG1 := Lib.hid (grown_trans HG0.out hg)
  have HL1 := Lib.hid (row_box w1 p 51)
  have HR2 := Lib.hid (HR1.out.alloc (.cells #[.int .i64 p.num, .string p.fst, .string p.lst, .int .i64 p.born, .int .i64 p.zone] 51))
  have HS2 := Lib.hid (hS.alloc (.cells #[.int .i64 p.num, .string p.fst, .string p.lst, .int .i64 p.born, .int .i64 p.zone] 51))
  have HG2 := Lib.hid (grown_trans HG1.out (grown_alloc w1 (.cells #[.int .i64 p.num, .string p.fst, .string p.lst, .int .i64 p.born, .int .i64 p.zone] 51) (some b)))
  clear hp hS hg
  go_wp2_with fail
  generalize w1.alloc (.cells #[.int .i64 p.num, .string p.fst, .string p.lst, .int .i64 p.born, .int .i64 p.zone] 51) = w2 at HL1 HR2 HS2 HG2 ⊢
  obtain ⟨lb, hlb⟩ : ∃ lb, w1.heap.size = lb := ⟨_, rfl⟩
  obtain ⟨rv, hrv⟩ : ∃ rv, w.heap.size = rv := ⟨_, rfl⟩
  have hsz := HG1.out.size
  have hrl : rv < lb := by have := HR1.out.lt; omega
  have hBb := HS2.out.base
  rw [hlb] at HL1 ⊢
  rw [hrv] at HR2 ⊢
  obtain ⟨hp1, hp2, ⟨hp3, hp3'⟩, ⟨hp4, hp4'⟩, hp5, hp5'⟩ := HP.out
  refine (specNext_any B b 30 w2 (by omega) HS2.out).mono ?_; rintro e w3 ⟨x, rfl, hx, _, hS, hg⟩
  obtain ⟨l1, u1⟩ := hx (by omega)
  have HS3 := Lib.hid hS; have HG3 := Lib.hid (grown_trans HG2.out hg)
  have HL3 := Lib.hid (row_grown HL1.out hg (by omega)); have HR3 := Lib.hid (row_grown HR2.out hg (by omega))
  clear hS hg hx
  by_cases hx0 : x = 0
  · have h0 : (x == 0) = true := beq_iff_eq.2 hx0
    clear hx0
    go_wp2_with fail
    refine (specPick_any B b w3.heap.size [0, 1000000, 1000001] 3 3 _ rfl (by omega) (by omega) (HS3.out.alloc _) (by have := HS3.out.lt; omega) (alloc_ints w3 _ _)).mono ?_
    rintro e w4 ⟨y, rfl, hy, hS, hg⟩
    have hy2 : -100 ≤ y ∧ y ≤ 1000001 := by simp at hy; omega
    have HS4 := Lib.hid hS; have HG4 := Lib.hid (grown_trans (grown_trans HG3.out (grown_alloc _ _ _)) hg)
    have HL4 := Lib.hid (row_grown (HL3.out.alloc _) hg (by omega)); have HR4 := Lib.hid (row_grown (HR3.out.alloc _) hg (by omega))
    clear hS hg hy
    have c0 := HL4.out.cell (show 0 < 5 by omega); have c1 := HL4.out.cell (show 1 < 5 by omega); have c2 := HL4.out.cell (show 2 < 5 by omega); have c3 := HL4.out.cell (show 3 < 5 by omega); have c4 := HL4.out.cell (show 4 < 5 by omega)
    have f0 := HL4.out.frozen 0; have f1 := HL4.out.frozen 1; have f2 := HL4.out.frozen 2; have f3 := HL4.out.frozen 3; have f4 := HL4.out.frozen 4
    have d0 := HR4.out.cell (show 0 < 5 by omega); have d1 := HR4.out.cell (show 1 < 5 by omega); have d2 := HR4.out.cell (show 2 < 5 by omega); have d3 := HR4.out.cell (show 3 < 5 by omega); have d4 := HR4.out.cell (show 4 < 5 by omega)
    have e0 := HR4.out.frozen 0; have e1 := HR4.out.frozen 1; have e2 := HR4.out.frozen 2; have e3 := HR4.out.frozen 3; have e4 := HR4.out.frozen 4
    simp only [cellF, Pers.cells, List.getElem?_cons_zero, List.getElem?_cons_succ, Option.getD_some] at c0 c1 c2 c3 c4
    go_wp2_with fail
    (try simp only [Exit.inBlock, Exit.then])
    refine bodyPost_ret (v := .agg #[.int .i64 (y), .string (p.fst), .string (p.lst), .int .i64 (p.born), .int .i64 (p.zone)]) ?_ rfl ⟨⟨y, p.fst, p.lst, p.born, p.zone⟩, rfl, ⟨hp1, hp2, hy2, ⟨hp4, hp4'⟩, hp5, hp5'⟩, (Src_set (o := 4) (Src_set (o := 3) (Src_set (o := 2) (Src_set (o := 1) (Src_set (o := 0) (Src_set (o := 0) HS4.out (by omega) (by omega) (.int .i64 y)) (by omega) (by omega) (.int .i64 (y))) (by omega) (by omega) (.string (p.fst))) (by omega) (by omega) (.string (p.lst))) (by omega) (by omega) (.int .i64 (p.born))) (by omega) (by omega) (.int .i64 (p.zone))), (grown_new (o := 4) (grown_new (o := 3) (grown_new (o := 2) (grown_new (o := 1) (grown_new (o := 0) (grown_new (o := 0) HG4.out (by have := HG1.out.size; omega) (.int .i64 y)) (by omega) (.int .i64 (y))) (by omega) (.string (p.fst))) (by omega) (.string (p.lst))) (by omega) (.int .i64 (p.born))) (by omega) (.int .i64 (p.zone)))⟩
    rw [results_cell1 rfl]
    go_simp
  · have h0 : (x == 0) = false := beq_eq_false_iff_ne.2 hx0
    by_cases hx1 : x = 1
    · have h1 : (x == 1) = true := beq_iff_eq.2 hx1
      clear hx0 hx1
      go_wp2_with fail
      refine (specDrawWord_any B b w3 HS3.out).mono ?_
      rintro e w4 ⟨y, rfl, hy2, hS, hg⟩
      have HS4 := Lib.hid hS; have HG4 := Lib.hid (grown_trans HG3.out hg)
      have HL4 := Lib.hid (row_grown HL3.out hg (by omega)); have HR4 := Lib.hid (row_grown HR3.out hg (by omega))
      clear hS hg
      have c0 := HL4.out.cell (show 0 < 5 by omega); have c1 := HL4.out.cell (show 1 < 5 by omega); have c2 := HL4.out.cell (show 2 < 5 by omega); have c3 := HL4.out.cell (show 3 < 5 by omega); have c4 := HL4.out.cell (show 4 < 5 by omega)
      have f0 := HL4.out.frozen 0; have f1 := HL4.out.frozen 1; have f2 := HL4.out.frozen 2; have f3 := HL4.out.frozen 3; have f4 := HL4.out.frozen 4
      have d0 := HR4.out.cell (show 0 < 5 by omega); have d1 := HR4.out.cell (show 1 < 5 by omega); have d2 := HR4.out.cell (show 2 < 5 by omega); have d3 := HR4.out.cell (show 3 < 5 by omega); have d4 := HR4.out.cell (show 4 < 5 by omega)
      have e0 := HR4.out.frozen 0; have e1 := HR4.out.frozen 1; have e2 := HR4.out.frozen 2; have e3 := HR4.out.frozen 3; have e4 := HR4.out.frozen 4
      simp only [cellF, Pers.cells, List.getElem?_cons_zero, List.getElem?_cons_succ, Option.getD_some] at c0 c1 c2 c3 c4
      go_wp2_with fail
      (try simp only [Exit.inBlock, Exit.then])
      refine bodyPost_ret (v := .agg #[.int .i64 (p.num), .string (y), .string (p.lst), .int .i64 (p.born), .int .i64 (p.zone)]) ?_ rfl ⟨⟨p.num, y, p.lst, p.born, p.zone⟩, rfl, ⟨hy2, hp2, ⟨hp3, hp3'⟩, ⟨hp4, hp4'⟩, hp5, hp5'⟩, (Src_set (o := 4) (Src_set (o := 3) (Src_set (o := 2) (Src_set (o := 1) (Src_set (o := 0) (Src_set (o := 1) HS4.out (by omega) (by omega) (.string y)) (by omega) (by omega) (.int .i64 (p.num))) (by omega) (by omega) (.string (y))) (by omega) (by omega) (.string (p.lst))) (by omega) (by omega) (.int .i64 (p.born))) (by omega) (by omega) (.int .i64 (p.zone))), (grown_new (o := 4) (grown_new (o := 3) (grown_new (o := 2) (grown_new (o := 1) (grown_new (o := 0) (grown_new (o := 1) HG4.out (by have := HG1.out.size; omega) (.string y)) (by omega) (.int .i64 (p.num))) (by omega) (.string (y))) (by omega) (.string (p.lst))) (by omega) (.int .i64 (p.born))) (by omega) (.int .i64 (p.zone)))⟩
      rw [results_cell1 rfl]
      go_simp
    · have h1 : (x == 1) = false := beq_eq_false_iff_ne.2 hx1
      by_cases hx2 : x = 2
      · have h2 : (x == 2) = true := beq_iff_eq.2 hx2
        clear hx0 hx1 hx2
        go_wp2_with fail
        refine (specPick_any B b w3.heap.size [1899, 1900, 2100, 2101] 4 4 _ rfl (by omega) (by omega) (HS3.out.alloc _) (by have := HS3.out.lt; omega) (alloc_ints w3 _ _)).mono ?_
        rintro e w4 ⟨y, rfl, hy, hS, hg⟩
        have hy2 : -100 ≤ y ∧ y ≤ 1000001 := by simp at hy; omega
        have HS4 := Lib.hid hS; have HG4 := Lib.hid (grown_trans (grown_trans HG3.out (grown_alloc _ _ _)) hg)
        have HL4 := Lib.hid (row_grown (HL3.out.alloc _) hg (by omega)); have HR4 := Lib.hid (row_grown (HR3.out.alloc _) hg (by omega))
        clear hS hg hy
        have c0 := HL4.out.cell (show 0 < 5 by omega); have c1 := HL4.out.cell (show 1 < 5 by omega); have c2 := HL4.out.cell (show 2 < 5 by omega); have c3 := HL4.out.cell (show 3 < 5 by omega); have c4 := HL4.out.cell (show 4 < 5 by omega)
        have f0 := HL4.out.frozen 0; have f1 := HL4.out.frozen 1; have f2 := HL4.out.frozen 2; have f3 := HL4.out.frozen 3; have f4 := HL4.out.frozen 4
        have d0 := HR4.out.cell (show 0 < 5 by omega); have d1 := HR4.out.cell (show 1 < 5 by omega); have d2 := HR4.out.cell (show 2 < 5 by omega); have d3 := HR4.out.cell (show 3 < 5 by omega); have d4 := HR4.out.cell (show 4 < 5 by omega)
        have e0 := HR4.out.frozen 0; have e1 := HR4.out.frozen 1; have e2 := HR4.out.frozen 2; have e3 := HR4.out.frozen 3; have e4 := HR4.out.frozen 4
        simp only [cellF, Pers.cells, List.getElem?_cons_zero, List.getElem?_cons_succ, Option.getD_some] at c0 c1 c2 c3 c4
        go_wp2_with fail
        (try simp only [Exit.inBlock, Exit.then])
        refine bodyPost_ret (v := .agg #[.int .i64 (p.num), .string (p.fst), .string (p.lst), .int .i64 (y), .int .i64 (p.zone)]) ?_ rfl ⟨⟨p.num, p.fst, p.lst, y, p.zone⟩, rfl, ⟨hp1, hp2, ⟨hp3, hp3'⟩, hy2, hp5, hp5'⟩, (Src_set (o := 4) (Src_set (o := 3) (Src_set (o := 2) (Src_set (o := 1) (Src_set (o := 0) (Src_set (o := 3) HS4.out (by omega) (by omega) (.int .i64 y)) (by omega) (by omega) (.int .i64 (p.num))) (by omega) (by omega) (.string (p.fst))) (by omega) (by omega) (.string (p.lst))) (by omega) (by omega) (.int .i64 (y))) (by omega) (by omega) (.int .i64 (p.zone))), (grown_new (o := 4) (grown_new (o := 3) (grown_new (o := 2) (grown_new (o := 1) (grown_new (o := 0) (grown_new (o := 3) HG4.out (by have := HG1.out.size; omega) (.int .i64 y)) (by omega) (.int .i64 (p.num))) (by omega) (.string (p.fst))) (by omega) (.string (p.lst))) (by omega) (.int .i64 (y))) (by omega) (.int .i64 (p.zone)))⟩
        rw [results_cell1 rfl]
        go_simp
      · have h2 : (x == 2) = false := beq_eq_false_iff_ne.2 hx2
        by_cases hx3 : x = 3
        · have h3 : (x == 3) = true := beq_iff_eq.2 hx3
          clear hx0 hx1 hx2 hx3
          go_wp2_with fail
          refine (specPick_any B b w3.heap.size [-1, 99, 100] 3 3 _ rfl (by omega) (by omega) (HS3.out.alloc _) (by have := HS3.out.lt; omega) (alloc_ints w3 _ _)).mono ?_
          rintro e w4 ⟨y, rfl, hy, hS, hg⟩
          have hy2 : -100 ≤ y ∧ y ≤ 1000001 := by simp at hy; omega
          have HS4 := Lib.hid hS; have HG4 := Lib.hid (grown_trans (grown_trans HG3.out (grown_alloc _ _ _)) hg)
          have HL4 := Lib.hid (row_grown (HL3.out.alloc _) hg (by omega)); have HR4 := Lib.hid (row_grown (HR3.out.alloc _) hg (by omega))
          clear hS hg hy
          have c0 := HL4.out.cell (show 0 < 5 by omega); have c1 := HL4.out.cell (show 1 < 5 by omega); have c2 := HL4.out.cell (show 2 < 5 by omega); have c3 := HL4.out.cell (show 3 < 5 by omega); have c4 := HL4.out.cell (show 4 < 5 by omega)
          have f0 := HL4.out.frozen 0; have f1 := HL4.out.frozen 1; have f2 := HL4.out.frozen 2; have f3 := HL4.out.frozen 3; have f4 := HL4.out.frozen 4
          have d0 := HR4.out.cell (show 0 < 5 by omega); have d1 := HR4.out.cell (show 1 < 5 by omega); have d2 := HR4.out.cell (show 2 < 5 by omega); have d3 := HR4.out.cell (show 3 < 5 by omega); have d4 := HR4.out.cell (show 4 < 5 by omega)
          have e0 := HR4.out.frozen 0; have e1 := HR4.out.frozen 1; have e2 := HR4.out.frozen 2; have e3 := HR4.out.frozen 3; have e4 := HR4.out.frozen 4
          simp only [cellF, Pers.cells, List.getElem?_cons_zero, List.getElem?_cons_succ, Option.getD_some] at c0 c1 c2 c3 c4
          go_wp2_with fail
          (try simp only [Exit.inBlock, Exit.then])
          refine bodyPost_ret (v := .agg #[.int .i64 (p.num), .string (p.fst), .string (p.lst), .int .i64 (p.born), .int .i64 (y)]) ?_ rfl ⟨⟨p.num, p.fst, p.lst, p.born, y⟩, rfl, ⟨hp1, hp2, ⟨hp3, hp3'⟩, ⟨hp4, hp4'⟩, hy2.1, hy2.2⟩, (Src_set (o := 4) (Src_set (o := 3) (Src_set (o := 2) (Src_set (o := 1) (Src_set (o := 0) (Src_set (o := 4) HS4.out (by omega) (by omega) (.int .i64 y)) (by omega) (by omega) (.int .i64 (p.num))) (by omega) (by omega) (.string (p.fst))) (by omega) (by omega) (.string (p.lst))) (by omega) (by omega) (.int .i64 (p.born))) (by omega) (by omega) (.int .i64 (y))), (grown_new (o := 4) (grown_new (o := 3) (grown_new (o := 2) (grown_new (o := 1) (grown_new (o := 0) (grown_new (o := 4) HG4.out (by have := HG1.out.size; omega) (.int .i64 y)) (by omega) (.int .i64 (p.num))) (by omega) (.string (p.fst))) (by omega) (.string (p.lst))) (by omega) (.int .i64 (p.born))) (by omega) (.int .i64 (y)))⟩
          rw [results_cell1 rfl]
          go_simp
        · have h3 : (x == 3) = false := beq_eq_false_iff_ne.2 hx3
          clear hx0 hx1 hx2 hx3
          have c0 := HL3.out.cell (show 0 < 5 by omega); have c1 := HL3.out.cell (show 1 < 5 by omega); have c2 := HL3.out.cell (show 2 < 5 by omega); have c3 := HL3.out.cell (show 3 < 5 by omega); have c4 := HL3.out.cell (show 4 < 5 by omega)
          have f0 := HL3.out.frozen 0; have f1 := HL3.out.frozen 1; have f2 := HL3.out.frozen 2; have f3 := HL3.out.frozen 3; have f4 := HL3.out.frozen 4
          have d0 := HR3.out.cell (show 0 < 5 by omega); have d1 := HR3.out.cell (show 1 < 5 by omega); have d2 := HR3.out.cell (show 2 < 5 by omega); have d3 := HR3.out.cell (show 3 < 5 by omega); have d4 := HR3.out.cell (show 4 < 5 by omega)
          have e0 := HR3.out.frozen 0; have e1 := HR3.out.frozen 1; have e2 := HR3.out.frozen 2; have e3 := HR3.out.frozen 3; have e4 := HR3.out.frozen 4
          simp only [cellF, Pers.cells, List.getElem?_cons_zero, List.getElem?_cons_succ, Option.getD_some] at c0 c1 c2 c3 c4
          go_wp2_with fail
          (try simp only [Exit.inBlock, Exit.then])
          refine bodyPost_ret (v := .agg #[.int .i64 (p.num), .string (p.fst), .string (p.lst), .int .i64 (p.born), .int .i64 (p.zone)]) ?_ rfl ⟨⟨p.num, p.fst, p.lst, p.born, p.zone⟩, rfl, ⟨hp1, hp2, ⟨hp3, hp3'⟩, ⟨hp4, hp4'⟩, hp5, hp5'⟩, (Src_set (o := 4) (Src_set (o := 3) (Src_set (o := 2) (Src_set (o := 1) (Src_set (o := 0) HS3.out (by omega) (by omega) (.int .i64 (p.num))) (by omega) (by omega) (.string (p.fst))) (by omega) (by omega) (.string (p.lst))) (by omega) (by omega) (.int .i64 (p.born))) (by omega) (by omega) (.int .i64 (p.zone))), (grown_new (o := 4) (grown_new (o := 3) (grown_new (o := 2) (grown_new (o := 1) (grown_new (o := 0) HG3.out (by omega) (.int .i64 (p.num))) (by omega) (.string (p.fst))) (by omega) (.string (p.lst))) (by omega) (.int .i64 (p.born))) (by omega) (.int .i64 (p.zone)))⟩
          rw [results_cell1 rfl]
          go_simp

end Go.Proofs.Ytdeiillfdjebdaa
