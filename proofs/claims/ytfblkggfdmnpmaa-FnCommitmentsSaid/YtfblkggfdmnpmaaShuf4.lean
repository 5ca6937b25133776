/- Contracts: impl.StatesAfter, where its arguments are in their ranges. -/
import Derived.RangeFuncNested
import Derived.RangeFuncBound
import Derived.RangeFuncCalls
import Derived.RangeFuncLeaves
import Derived.RangeFuncFrom
import Derived.Shelf.Abstract
import Derived.Shelf.RegionOpen
import Derived.WalkKit
import Derived.OwnWalkIn
import Derived.TacticsInMore
import Derived.LoopNIn
import Derived.LoopIn
import Derived.Deep.OwnRows
import Derived.Test.YtfblkggfdmnpmaaChecked
import Derived.Test.YtfblkggfdmnpmaaBase
import Derived.Test.YtfblkggfdmnpmaaInfo
import Derived.Test.YtfblkggfdmnpmaaPure31
import Derived.Test.YtfblkggfdmnpmaaShuf1
import Derived.Test.YtfblkggfdmnpmaaShuf2
import Derived.Test.YtfblkggfdmnpmaaShuf3
import Derived.Lib.Hide
namespace Go.Proofs.Ytfblkggfdmnpmaa
open Go.RowKit Go.Shelf Pure2 Pure30 Pure31

/-- a row of numbers of our own stays where what turns holds no cells -/
theorem row_own {W W' : World} {row : Option Nat} {b N : Nat} {T : TypeId} {f : Nat → Value} (h : W.rowIs b T N f) (hg : W.grownBy W' row) (hr : ∀ r, row = some r → ∃ o : Obj, W.heap[r]? = some o ∧ o.isCells = false) : W'.rowIs b T N f :=
  h.of_block (hg.block b h.lt (fun e => by
    obtain ⟨o, ho, hc⟩ := hr b e.symm
    obtain ⟨c, hb, _⟩ := h
    rw [hb] at ho; cases ho; cases hc))
theorem box_own {W W' : World} {row : Option Nat} {b : Nat} {T : TypeId} {v : Value} (h : Boxed W b T v) (hg : W.grownBy W' row) (hr : ∀ r, row = some r → ∃ o : Obj, W.heap[r]? = some o ∧ o.isCells = false) : Boxed W' b T v :=
  h.kept hg (fun e => by
    obtain ⟨o, ho, hc⟩ := hr b e.symm
    rw [show W.heap[b]? = _ from h] at ho; cases ho; cases hc)
theorem box_other {W : World} {b c i : Nat} {T : TypeId} {v : Value} (h : Boxed W b T v) (u : Value) (hne : b ≠ c) : Boxed (W.setCell ⟨c, i, none⟩ u) b T v :=
  (Below.heap_setCell W ⟨c, i, none⟩ u b hne).trans h
theorem row_putObj {W : World} {b N l : Nat} {T : TypeId} {f : Nat → Value} {o o' : Obj} (h : W.rowIs b T N f) (hl : W.heap[l]? = some o) (ho : o.isCells = false) : (W.putObj l o').rowIs b T N f :=
  row_own h (grownBy_putObj' W l o') (fun r e => by cases e; exact ⟨o, hl, ho⟩)

theorem states_step {s : Int} {N : Nat} {pre : List (Fin N)} {x : Fin N} {f : Nat → Value} (h : ∀ k ∈ pre, f k.1 = .int .i64 (nxs s (k.1 + 1))) :
    ∀ k ∈ pre ++ [x], (fun j => if j = x.1 then Value.int .i64 (nxs s (x.1 + 1)) else f j) k.1 = .int .i64 (nxs s (k.1 + 1)) := by
  intro k hk
  by_cases e : k.1 = x.1
  · simp [e]
  · simp only [if_neg e]
    rcases List.mem_append.1 hk with h1 | h1
    · exact h k h1
    · simp at h1; exact absurd (by rw [h1]) e
theorem states_done {s : Int} {N : Nat} {xs : List (Fin N)} {f : Nat → Value} (hS : xs.map (·.1) = List.range N) (h : ∀ k ∈ xs, f k.1 = .int .i64 (nxs s (k.1 + 1))) :
    ∀ i, i < (statesTo s N).length → f i = .int .i64 ((statesTo s N).getD i 0) := by
  intro i hi
  rw [statesTo_length] at hi
  have : i ∈ xs.map (·.1) := by rw [hS]; exact List.mem_range.2 hi
  obtain ⟨k, hk, rfl⟩ := List.mem_map.1 this
  rw [h k hk, List.getD_eq_getElem?_getD, statesTo_at s N k.1 hi]
  rfl

section
attribute [local go_sem] Oper.semAt_some

set_option maxRecDepth 100000 in
set_option maxHeartbeats 4000000 in
theorem implStatesAfter_ok (s : Int) (N : Nat) (w : World) (hs : 1 ≤ s ∧ s ≤ 2147483646) (hN : N ≤ 200) :
    Calls Try.prog 30 #[.int .i64 s, .int .i64 N] w (SaysNewI (statesTo s N) 0 w) := by
  have HC1 := Lib.hid (implIsState_any s w)
  rw [(isState_iff s).2 hs] at HC1
  have HC2 := Lib.hid (implIsDrawn_any N w)
  rw [(isDrawn_iff N).2 ⟨by omega, by omega⟩] at HC2
  have hmk := run_make_row' (P := Try.prog) 26 2 (.int .i64 0) 8 Try.underlying26 Try.info_i64 rfl .i64 .i64 N (by omega) (by omega)
  refine (callsIn_wide (n := 6)).1 ?_
  refine callsIn_of_wp_marks Try.func30 rfl trivial ?_ rfl
  simp only [Try.ntmps30, List.size_toArray, List.length_cons, List.length_nil, Nat.reduceAdd, Nat.reduceSub, Array.replicate_succ, Array.replicate_zero, List.push_toArray, List.append_toArray, List.nil_append, List.cons_append]
  gi_wp2_with (first
    | (refine ⟨trivial, ?_⟩; gi_at_call 48; refine (callsIn_wide.2 HC1.out).mono ?_; rintro e w' ⟨rfl, rfl⟩)
    | (refine ⟨trivial, ?_⟩; gi_at_call 49; refine (callsIn_wide.2 HC2.out).mono ?_; rintro e w' ⟨rfl, rfl⟩)
    | (refine ⟨trivial, ?_⟩; gi_at_call 60; refine (callsIn_wide.2 (implNextStates_any _ _ _)).mono ?_; rintro e w' ⟨rfl, rfl⟩))
  obtain ⟨W0, hW0⟩ : ∃ W0, ((((w.alloc (.cells (madeCells #[.int .i64 0] N) 2)).alloc (.cells #[.slice (some ⟨w.heap.size, 0, none⟩) N N] 26)).alloc (.cells #[.int .i64 s] 2)).alloc (.cells #[.int .i64 N] 2)) = W0 := ⟨_, rfl⟩
  have hsz : W0.heap.size = w.heap.size + 4 := by rw [← hW0]; simp
  have hB0 : Below w.heap.size w W0 := by rw [← hW0]; exact ((((Below.refl _ w).alloc (Nat.le_refl _) _).alloc (by simp) _).alloc (by simp; omega) _).alloc (by simp; omega) _
  have hr0 : W0.rowIs w.heap.size 2 N (fun _ => .int .i64 0) := by
    rw [← hW0]
    have h1 := World.rowIs_made w (.int .i64 0) N 2
    have h2 := h1.of_block (w' := (w.alloc (.cells (madeCells #[.int .i64 0] N) 2)).alloc (.cells #[.slice (some ⟨w.heap.size, 0, none⟩) N N] 26)) (Below.heap_alloc _ _ _ h1.lt)
    have h3 := h2.of_block (w' := ((w.alloc (.cells (madeCells #[.int .i64 0] N) 2)).alloc (.cells #[.slice (some ⟨w.heap.size, 0, none⟩) N N] 26)).alloc (.cells #[.int .i64 s] 2)) (Below.heap_alloc _ _ _ h2.lt)
    exact h3.of_block (Below.heap_alloc _ _ _ h3.lt)
  have hv0 : Boxed W0 (w.heap.size + 1) 26 (.slice (some ⟨w.heap.size, 0, none⟩) N N) := by
    rw [← hW0]
    have := Boxed.new (w.alloc (.cells (madeCells #[.int .i64 0] N) 2)) 26 (.slice (some ⟨w.heap.size, 0, none⟩) N N)
    rw [World.size_alloc] at this
    exact (this.alloc _).alloc _
  have hs0 : Boxed W0 (w.heap.size + 1 + 1) 2 (.int .i64 s) := by
    rw [← hW0]
    have := Boxed.new ((w.alloc (.cells (madeCells #[.int .i64 0] N) 2)).alloc (.cells #[.slice (some ⟨w.heap.size, 0, none⟩) N N] 26)) 2 (.int .i64 s)
    rw [World.size_alloc, World.size_alloc] at this
    exact this.alloc _
  have hn0 : Boxed W0 (w.heap.size + 1 + 1 + 1) 2 (.int .i64 N) := by
    rw [← hW0]
    have := Boxed.new (((w.alloc (.cells (madeCells #[.int .i64 0] N) 2)).alloc (.cells #[.slice (some ⟨w.heap.size, 0, none⟩) N N] 26)).alloc (.cells #[.int .i64 s] 2)) 2 (.int .i64 N)
    rw [World.size_alloc, World.size_alloc, World.size_alloc] at this
    exact this
  rw [hW0]
  clear hW0 HC1 HC2 hmk
  refine wpIn_rangeFunc_ownF rfl (by omega) (gf := 66) (lb := #[.pointer (some ⟨w.heap.size + 1 + 1, 0, none⟩), .pointer (some ⟨w.heap.size + 1 + 1 + 1, 0, none⟩)]) rfl trivial (enters_of Try.func66 (by kernel_rfl) rfl)
    (implSeq_stops _ (by omega) s N N (w.heap.size + 1 + 1) (w.heap.size + 1 + 1 + 1) W0 hs (by omega) (by omega) (by omega) (by omega) hs0.cell hn0.cell) walksK_t walksK_b (Below.refl _ _) (fun _ => rfl)
    (fun pre W => (Boxed W (w.heap.size + 1) 26 (.slice (some ⟨w.heap.size, 0, none⟩) N N) ∧ ∃ f, W.rowIs w.heap.size 2 N f ∧ ∀ k ∈ pre, f k.1 = .int .i64 (nxs s (k.1 + 1))) ∧ Below w.heap.size w W)
    (fun _ _ _ => False)
    (OwnFrom.and (Own.from (fun pre A B row hh hg hr => ⟨box_own hh.1 hg hr, hh.2.imp fun f hf => ⟨row_own hf.1 hg hr, hf.2⟩⟩) _) (ownFrom_below (Nat.le_refl _) (by omega)))
    (fun _ _ _ _ _ hh _ _ => hh)
    ⟨⟨hv0, _, hr0, fun k hk => by cases hk⟩, hB0⟩
    (fun x => _) (fun l x W K hK => by gi_wp2; exact hK) ?body ?done ?stop
  case body =>
    rintro l pre x W ⟨⟨hv, f, hr, hf⟩, hB⟩ _
    have hx : x.1 < N := x.2
    have hvc := hv.cell
    have hc := hr.cell hx
    have hfz := hr.frozen x.1
    have HR := Lib.hid (hr.set x.1 (.int .i64 (nxs s (x.1 + 1)))); have HF := Lib.hid hf; have HV := Lib.hid hv; have HB := Lib.hid hB; clear hr hf hv hB
    gi_wp2
    exact ⟨KeepsOthers.setCell _ _ _, (KeepsOthers.setCell _ _ _).walks, ⟨box_other HV.out _ (by omega), _, HR.out, states_step HF.out⟩, HB.out.setCell (Nat.le_refl _) _⟩
  case done =>
    rintro D xs W hD hS ⟨⟨hv, f, hr, hf⟩, hB⟩ hK
    have hvc := hv.cell
    have HO := Lib.hid (states_done hS hf); have HR := Lib.hid (row_putObj hr hK rfl (o' := .deferred none)); have HB := Lib.hid (hB.trans (belowK_b (w := w) (Nat.le_refl _) W D _ (.deferred none) (by omega) hK rfl rfl)); clear hr hf hv hB
    gi_wp2
    refine ⟨by simp, .inl ⟨_, _, rfl, run_takeDeferred hK, ?_⟩⟩
    refine ⟨_, results_tmp2 rfl _ _ _, ?_⟩
    exact ⟨some ⟨w.heap.size, 0, none⟩, N, ret_slI (by rw [statesTo_length]; rfl) rfl, .inr ⟨w.heap.size, f, N, rfl, Nat.le_refl _, by rw [statesTo_length]; exact Nat.le_refl _, HR.out, HO.out⟩, HB.out⟩
  case stop =>
    rintro D c pre W _ _ h _
    exact h.elim
end

end Go.Proofs.Ytfblkggfdmnpmaa
