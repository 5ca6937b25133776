/- Contract: slices.Insert at summonses: the list that one was put in, in memory of our own. -/
import Derived.Test.YtchffaohmeaccaaDoorChecked
import Derived.Test.YtchffaohmeaccaaDoorBase0
import Derived.Test.YtchffaohmeaccaaDoorSummonsB
import Derived.Test.YtchffaohmeaccaaDoorSummonsC
import Derived.Test.YtchffaohmeaccaaDoorSummonsD
import Derived.Test.YtchffaohmeaccaaDoorSet9
import Derived.Test.YtchffaohmeaccaaDoorCopy9
import Derived.Test.YtchffaohmeaccaaDoorIns9
import Derived.Shelf.RegionOpenPlain
import Derived.WalkKit
import Derived.WalkSpells
import Derived.WalkLawsBesides
import Derived.Lib.Hide
import Derived.Lib.Walk
import Derived.Lib.SliceRun
import Derived.Lib.AppendZerosOnto
import Derived.Lib.Overlaps
import Derived.Laws.NewBlocks
import Derived.Laws.Externs
import Derived.Laws.IdiomCopy
import Derived.Deep.OwnRows
import Derived.Outline
namespace Go.Proofs.YtchffaohmeaccaaDoor
open Go.RowKit Go.Lib Pure2

theorem rowIs_drew9 {w : World} {b N : Nat} {T : TypeId} {f : Nat → Value} (h : w.rowIs b T N f) : w.drew.rowIs b T N f := h
theorem get_getD9 {l : List Value} {j : Nat} (h : j < l.length) : l[j]? = some (l.getD j undef) := by simp [h]
/-- one is put in -/
def SaysIns (B : Nat) (us : List Summons) (w : World) (e : Ending) (w' : World) : Prop :=
  ∃ g cap, e = .returned (.slice (some ⟨g, 0, none⟩) us.length cap) ∧ Summons.Own B w' (some ⟨g, 0, none⟩) us.length (Summons.flat us) ∧ Below B w w'
theorem vals_cells9 (x : Summons) (j : Nat) (hj : j < 5) : x.cells[j]? = some (.int .i64 (x.nth j)) := by
  have hc : j = 0 ∨ j = 1 ∨ j = 2 ∨ j = 3 ∨ j = 4 := by omega
  rcases hc with rfl | rfl | rfl | rfl | rfl <;> rfl
theorem one_cells9 (x : Summons) : ∀ v ∈ x.cells, v.oneCell' = true := by
  intro v hv
  simp only [Summons.cells, List.mem_cons, List.not_mem_nil, or_false] at hv
  rcases hv with rfl | rfl | rfl | rfl | rfl <;> rfl
set_option maxHeartbeats 1000000 in
theorem insert9_any (B : Nat) (v : Value) (ts : List Summons) (i : Nat) (x : Summons) (bv vc : Nat) (w : World) (h : Summons.Bd w B v ts) (hB : B ≤ w.heap.size) (hl : ts.length ≤ 19) (hi : i ≤ ts.length)
    (hx : w.rowIs bv 53 5 (fun j => .int .i64 (x.nth j))) (hne : ∀ g, v.ownBlock = some g → bv ≠ g) :
    Calls Tryd.prog 81 #[v, .int .i64 i, .slice (some ⟨bv, 0, none⟩) 1 vc] w (SaysIns B (ts.take i ++ [x] ++ ts.drop i) w) := by
  have hlen : (ts.take i ++ [x] ++ ts.drop i).length = ts.length + 1 := by simp; omega
  have hvs : ∀ j u, x.cells[j]? = some u → w.cell? ⟨bv, j, none⟩ = some u := fun j u hu => by
    have hj : j < 5 := (List.getElem?_eq_some_iff.1 hu).1
    rw [hx.cell hj]; rw [vals_cells9 x j hj] at hu; exact hu
  by_cases hin : i = ts.length
  · subst hin
    have hq : ∀ j u, (Summons.vals [x])[j]? = some u → w.cell? ((⟨bv, 0, none⟩ : Addr).add j) = some u := fun j u hu => by
      rw [Addr.add_mid, Nat.zero_add]; exact hvs j u (by simpa [Summons.vals] using hu)
    have hus : ts.take ts.length ++ [x] ++ ts.drop ts.length = ts ++ [x] := by simp
    rw [hus]
    obtain ⟨a, cap, rfl, _⟩ := h.slice
    clear hvs hx hne hus hlen
    rcases Classical.em (cap = ts.length) with rfl | hcap
    all_goals
      have HH := Lib.hid h; have HQ := Lib.hid hq; have HB := Lib.hid hB
      clear h hq
      go_enter Tryd.func81, Tryd.ntmps81
      go_wp2_with (at_builtin; refine wpList_summ_append rfl _ _ rfl _ ts rfl HH.out ⟨bv, 0, none⟩ 1 vc [x] rfl rfl HQ.out ?c1 ?c2 ?_)
      case c1 => simp; omega
      case c2 => exact HB.out
      intro v' w' ho hg
      have HX := Lib.hid (HH.out.grew (Below.refl B w) (Nat.le_refl _) HB.out hg)
      obtain ⟨g, cap', rfl, hown⟩ := ho.own9 (by simp)
      have HO := Lib.hid hown
      clear ho hg hown
      go_wp2_with fail
      go_ret
      exact ⟨g, cap', rfl, HO.out, HX.out⟩
  · have hi' : i < ts.length := by omega
    rcases h.parts with ⟨_, rfl⟩ | hL
    · simp at hi'
    obtain ⟨⟨g, cap, rfl⟩, _⟩ := id hL
    have hcs : ∀ j u, (Summons.vals ts)[j]? = some u → w.cell? ⟨g, j, none⟩ = some u := fun j u hu => hL.cell hu
    have hcl := Summons.vals_len ts
    have hgne : bv ≠ g := hne g rfl
    obtain ⟨g', cap', cur, he, hgB, hcur, hnc, hmax, hsz, _⟩ : ∃ g' cap' cur, (Value.slice (some ⟨g, 0, none⟩) ts.length cap) = .slice (some ⟨g', 0, none⟩) ts.length cap' ∧ B ≤ g' ∧ w.heap[g']? = some (.cells cur 53 (0, 0)) ∧ ts.length ≤ cap' ∧ cap' ≤ maxLen ∧ cur.size = cap' * 5 ∧ True := by
      rcases hL.2.2 with ⟨e, _⟩ | ⟨g', cap', cur, e, h3, h4, h5, h6, h7, _⟩
      · cases e
      · exact ⟨g', cap', cur, e, h3, h4, h5, h6, h7, trivial⟩
    cases he
    have hrow : w.rowIs g 53 (cap * 5) (fun j => cur.getD j undef) := ⟨cur, hcur, hsz, fun j hj => by simp [Array.getD, show j < cur.size by omega]⟩
    unfold maxLen at hmax
    have hcv : ∀ j, j < ts.length * 5 → (Summons.vals ts)[j]? = some (cur.getD j undef) := fun j hj => by
      have e : (Summons.vals ts)[j]? = some ((Summons.vals ts)[j]'(by omega)) := List.getElem?_eq_getElem _
      have h1 := hcs j _ e
      rw [hrow.cell (by omega)] at h1
      rw [e]; exact h1.symm
    by_cases hroom : ts.length + 1 ≤ cap
    · refine (ins_shift9 g ts.length cap i bv vc (Summons.vals ts) x.cells w hi' hroom (by omega) hgne hcl rfl hcs (fun j hj => by rw [hrow.cell (by omega)]; rfl) (fun j => hrow.frozen j) hvs Summons.vals_one (one_cells9 x) 53 53 5 (cap * 5) ?_ ?_ (by omega) (fun j => hx.frozen j)).mono ?_
      · obtain ⟨cx, hcx, hsx, _⟩ := hx
        simp [World.shape?, hcx, hsx]
      · simp [World.shape?, hcur, hsz]
      · rintro e w' ⟨rfl, rfl⟩
        have hr2 := rowIs_setCells x.cells (i * 5) _ _ (rowIs_setCells ((Summons.vals ts).drop (i * 5)) ((i + 1) * 5) w.drew _ (show w.drew.rowIs g 53 (cap * 5) _ from hrow))
        refine ⟨g, cap, by rw [hlen], own_ins9 (Nat.le_of_lt hi') hgB (by omega) hr2 ?_ ?_ ?_, below_setCells9 hgB _ _ (below_setCells9 hgB _ _ (Below.refl _ _).drew)⟩
        · intro j hj
          show _ = some (if i * 5 ≤ j ∧ j < i * 5 + x.cells.length then x.cells.getD (j - i * 5) undef else if (i + 1) * 5 ≤ j ∧ j < (i + 1) * 5 + ((Summons.vals ts).drop (i * 5)).length then ((Summons.vals ts).drop (i * 5)).getD (j - (i + 1) * 5) undef else cur.getD j undef)
          rw [if_neg (by omega), if_neg (by omega)]
          exact hcv j (by omega)
        · intro j hj
          have hxl : x.cells.length = 5 := rfl
          show _ = some (if i * 5 ≤ i * 5 + j ∧ i * 5 + j < i * 5 + x.cells.length then x.cells.getD (i * 5 + j - i * 5) undef else _)
          rw [if_pos (by omega), show i * 5 + j - i * 5 = j by omega]
          exact get_getD9 (by omega)
        · intro j hj
          have hxl : x.cells.length = 5 := rfl
          have hdl : ((Summons.vals ts).drop (i * 5)).length = (ts.length - i) * 5 := by rw [List.length_drop, hcl]; omega
          show _ = some (if i * 5 ≤ (i + 1) * 5 + j ∧ (i + 1) * 5 + j < i * 5 + x.cells.length then x.cells.getD ((i + 1) * 5 + j - i * 5) undef else if (i + 1) * 5 ≤ (i + 1) * 5 + j ∧ (i + 1) * 5 + j < (i + 1) * 5 + ((Summons.vals ts).drop (i * 5)).length then ((Summons.vals ts).drop (i * 5)).getD ((i + 1) * 5 + j - (i + 1) * 5) undef else cur.getD ((i + 1) * 5 + j) undef)
          rw [if_neg (by omega), if_pos (by omega), show (i + 1) * 5 + j - (i + 1) * 5 = j by omega, ← List.getElem?_drop]
          exact get_getD9 (by omega)
    · refine (ins_grow9 g ts.length cap i bv vc (Summons.vals ts) x.cells w hi' hnc (by omega) (by omega) hcl rfl hcs hvs Summons.vals_one (one_cells9 x)).mono ?_
      rintro e w' ⟨rfl, rfl⟩
      generalize hG : grownCap w (ts.length + 1) cap 53 = G
      have hGn : ts.length + 1 ≤ G := by rw [← hG]; exact grownCap_ge w _ _ _
      generalize hROW : ((Summons.vals ts).take (i * 5)).toArray ++ Builtin.zeroCells #[.int .i64 0, .int .i64 0, .int .i64 0, .int .i64 0, .int .i64 0] (ts.length + 1 - i) ++ Builtin.zeroCells #[.int .i64 0, .int .i64 0, .int .i64 0, .int .i64 0, .int .i64 0] (G - (ts.length + 1)) = ROW
      have hRs : ROW.size = G * 5 := by
        rw [← hROW]
        simp only [Array.size_append, size_zeroCells, List.size_toArray, List.length_take]
        show min (i * 5) (Summons.vals ts).length + (ts.length + 1 - i) * 5 + (G - (ts.length + 1)) * 5 = G * 5
        omega
      have hRv : ∀ j, j < i * 5 → (Summons.vals ts)[j]? = some (ROW.getD j undef) := fun j hj => by
        have hjl : j < ((Summons.vals ts).take (i * 5)).length := by rw [List.length_take]; omega
        have e : ROW[j]? = ((Summons.vals ts).take (i * 5))[j]? := by
          rw [← hROW, Array.getElem?_append_left (by simp; omega), Array.getElem?_append_left (by simpa using hjl)]
          simp
        rw [List.getElem?_take_of_lt hj] at e
        rw [← e]
        have hjr : j < ROW.size := by omega
        simp [Array.getD, hjr]
      have hr0 : (w.alloc (.cells ROW 53)).rowIs w.heap.size 53 (G * 5) (fun j => ROW.getD j undef) := by
        rw [← hRs]
        exact World.rowIs_alloc w ROW 53 _ (fun j hj => by simp [Array.getD, hj])
      have hr1 := rowIs_setCells x.cells (i * 5) (w.alloc (.cells ROW 53)).drew (fun j => ROW.getD j undef) (rowIs_drew9 hr0)
      have hr2 := rowIs_setCells ((Summons.vals ts).drop (i * 5)) ((i + 1) * 5) ((w.alloc (.cells ROW 53)).drew.setCells w.heap.size (i * 5) x.cells).drew (fun j => if i * 5 ≤ j ∧ j < i * 5 + x.cells.length then x.cells.getD (j - i * 5) undef else ROW.getD j undef) (rowIs_drew9 hr1)
      have hb1 : Below B w (w.alloc (.cells ROW 53)).drew := ((Below.refl B w).alloc hB _).drew
      have hb2 := (below_setCells9 (b := w.heap.size) hB x.cells (i * 5) hb1).drew
      have hbel := below_setCells9 (b := w.heap.size) hB ((Summons.vals ts).drop (i * 5)) ((i + 1) * 5) hb2
      refine ⟨w.heap.size, G, by rw [hlen], own_ins9 (Nat.le_of_lt hi') hB hGn hr2 ?_ ?_ ?_, hbel⟩
      · intro j hj
        have hdl : ((Summons.vals ts).drop (i * 5)).length = (ts.length - i) * 5 := by rw [List.length_drop, hcl]; omega
        show _ = some (if (i + 1) * 5 ≤ j ∧ j < (i + 1) * 5 + ((Summons.vals ts).drop (i * 5)).length then ((Summons.vals ts).drop (i * 5)).getD (j - (i + 1) * 5) undef else if i * 5 ≤ j ∧ j < i * 5 + x.cells.length then x.cells.getD (j - i * 5) undef else ROW.getD j undef)
        rw [if_neg (by omega), if_neg (by omega)]
        exact hRv j hj
      · intro j hj
        have hxl : x.cells.length = 5 := rfl
        show _ = some (if (i + 1) * 5 ≤ i * 5 + j ∧ i * 5 + j < (i + 1) * 5 + ((Summons.vals ts).drop (i * 5)).length then ((Summons.vals ts).drop (i * 5)).getD (i * 5 + j - (i + 1) * 5) undef else if i * 5 ≤ i * 5 + j ∧ i * 5 + j < i * 5 + x.cells.length then x.cells.getD (i * 5 + j - i * 5) undef else ROW.getD (i * 5 + j) undef)
        rw [if_neg (by omega), if_pos (by omega), show i * 5 + j - i * 5 = j by omega]
        exact get_getD9 (by omega)
      · intro j hj
        have hdl : ((Summons.vals ts).drop (i * 5)).length = (ts.length - i) * 5 := by rw [List.length_drop, hcl]; omega
        show _ = some (if (i + 1) * 5 ≤ (i + 1) * 5 + j ∧ (i + 1) * 5 + j < (i + 1) * 5 + ((Summons.vals ts).drop (i * 5)).length then ((Summons.vals ts).drop (i * 5)).getD ((i + 1) * 5 + j - (i + 1) * 5) undef else if i * 5 ≤ (i + 1) * 5 + j ∧ (i + 1) * 5 + j < i * 5 + x.cells.length then x.cells.getD ((i + 1) * 5 + j - i * 5) undef else ROW.getD ((i + 1) * 5 + j) undef)
        rw [if_pos (by omega), show (i + 1) * 5 + j - (i + 1) * 5 = j by omega, ← List.getElem?_drop]
        exact get_getD9 (by omega)
end Go.Proofs.YtchffaohmeaccaaDoor
