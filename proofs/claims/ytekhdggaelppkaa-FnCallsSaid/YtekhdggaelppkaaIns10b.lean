/- Contract: slices.Insert at calls: the list that one was put in, in memory of our own. -/
import Derived.Test.YtekhdggaelppkaaChecked
import Derived.Test.YtekhdggaelppkaaBase0
import Derived.Test.YtekhdggaelppkaaCallB
import Derived.Test.YtekhdggaelppkaaCallC
import Derived.Test.YtekhdggaelppkaaCallD
import Derived.Test.YtekhdggaelppkaaPure100
import Derived.Test.YtekhdggaelppkaaSet10
import Derived.Test.YtekhdggaelppkaaCopy10
import Derived.Test.YtekhdggaelppkaaIns10
import Derived.Shelf.RegionOpenPlain
import Derived.WalkKit
import Derived.WalkSpells
import Derived.WalkLawsBesides
import Derived.Lib.Hide
import Derived.Lib.Walk
import Derived.Lib.SliceRun
import Derived.Lib.AppendZerosOnto
import Derived.Lib.Overlaps
import Derived.Laws.NewBlocks
import Derived.Laws.Externs
import Derived.Laws.IdiomCopy
import Derived.Deep.OwnRows
import Derived.Outline
namespace Go.Proofs.Ytekhdggaelppkaa
open Go.RowKit Go.Lib Pure2

theorem rowIs_drew10 {w : World} {b N : Nat} {T : TypeId} {f : Nat → Value} (h : w.rowIs b T N f) : w.drew.rowIs b T N f := h
theorem get_getD10 {l : List Value} {j : Nat} (h : j < l.length) : l[j]? = some (l.getD j undef) := by simp [h]
/-- one is put in -/
def SaysIns10 (B : Nat) (us : List Call) (w : World) (e : Ending) (w' : World) : Prop :=
  ∃ g cap, e = .returned (.slice (some ⟨g, 0, none⟩) us.length cap) ∧ Call.Own B w' (some ⟨g, 0, none⟩) us.length (Call.flat us) ∧ Below B w w'
theorem vals_cells10 (x : Call) (j : Nat) (hj : j < 4) : x.cells[j]? = some (.int .i64 (x.nth j)) := by
  have hc : j = 0 ∨ j = 1 ∨ j = 2 ∨ j = 3 := by omega
  rcases hc with rfl | rfl | rfl | rfl <;> rfl
theorem one_cells10 (x : Call) : ∀ v ∈ x.cells, v.oneCell' = true := by
  intro v hv
  simp only [Call.cells, List.mem_cons, List.not_mem_nil, or_false] at hv
  rcases hv with rfl | rfl | rfl | rfl <;> rfl
set_option maxHeartbeats 1000000 in
theorem insert10_any (B : Nat) (v : Value) (ts : List Call) (i : Nat) (x : Call) (bv vc : Nat) (w : World) (h : Call.Bd w B v ts) (hB : B ≤ w.heap.size) (hl : ts.length ≤ 19) (hi : i ≤ ts.length)
    (hx : w.rowIs bv 41 4 (fun j => .int .i64 (x.nth j))) (hne : ∀ g, v.ownBlock = some g → bv ≠ g) :
    Calls Try.prog 68 #[v, .int .i64 i, .slice (some ⟨bv, 0, none⟩) 1 vc] w (SaysIns10 B (ts.take i ++ [x] ++ ts.drop i) w) := by
  have hlen : (ts.take i ++ [x] ++ ts.drop i).length = ts.length + 1 := by simp; omega
  have hvs : ∀ j u, x.cells[j]? = some u → w.cell? ⟨bv, j, none⟩ = some u := fun j u hu => by
    have hj : j < 4 := (List.getElem?_eq_some_iff.1 hu).1
    rw [hx.cell hj]; rw [vals_cells10 x j hj] at hu; exact hu
  by_cases hin : i = ts.length
  · subst hin
    have hq : ∀ j u, (Call.vals [x])[j]? = some u → w.cell? ((⟨bv, 0, none⟩ : Addr).add j) = some u := fun j u hu => by
      rw [Addr.add_mid, Nat.zero_add]; exact hvs j u (by simpa [Call.vals] using hu)
    have hus : ts.take ts.length ++ [x] ++ ts.drop ts.length = ts ++ [x] := by simp
    rw [hus]
    obtain ⟨a, cap, rfl, _⟩ := h.slice
    clear hvs hx hne hus hlen
    rcases Classical.em (cap = ts.length) with rfl | hcap
    all_goals
      have HH := Lib.hid h; have HQ := Lib.hid hq; have HB := Lib.hid hB
      clear h hq
      go_enter Try.func68, Try.ntmps68
      go_wp2_with (at_builtin; refine wpList_call_append rfl _ _ rfl _ ts rfl HH.out ⟨bv, 0, none⟩ 1 vc [x] rfl rfl HQ.out ?c1 ?c2 ?_)
      case c1 => simp; omega
      case c2 => exact HB.out
      intro v' w' ho hg
      have HX := Lib.hid (HH.out.grew (Below.refl B w) (Nat.le_refl _) HB.out hg)
      obtain ⟨g, cap', rfl, hown⟩ := ho.own10 (by simp)
      have HO := Lib.hid hown
      clear ho hg hown
      go_wp2_with fail
      go_ret
      exact ⟨g, cap', rfl, HO.out, HX.out⟩
  · have hi' : i < ts.length := by omega
    rcases h.parts with ⟨_, rfl⟩ | hL
    · simp at hi'
    obtain ⟨⟨g, cap, rfl⟩, _⟩ := id hL
    have hcs : ∀ j u, (Call.vals ts)[j]? = some u → w.cell? ⟨g, j, none⟩ = some u := fun j u hu => hL.cell hu
    have hcl := Call.vals_len ts
    have hgne : bv ≠ g := hne g rfl
    obtain ⟨g', cap', cur, he, hgB, hcur, hnc, hmax, hsz, _⟩ : ∃ g' cap' cur, (Value.slice (some ⟨g, 0, none⟩) ts.length cap) = .slice (some ⟨g', 0, none⟩) ts.length cap' ∧ B ≤ g' ∧ w.heap[g']? = some (.cells cur 41 (0, 0)) ∧ ts.length ≤ cap' ∧ cap' ≤ maxLen ∧ cur.size = cap' * 4 ∧ True := by
      rcases hL.2.2 with ⟨e, _⟩ | ⟨g', cap', cur, e, h3, h4, h5, h6, h7, _⟩
      · cases e
      · exact ⟨g', cap', cur, e, h3, h4, h5, h6, h7, trivial⟩
    cases he
    have hrow : w.rowIs g 41 (cap * 4) (fun j => cur.getD j undef) := ⟨cur, hcur, hsz, fun j hj => by simp [Array.getD, show j < cur.size by omega]⟩
    unfold maxLen at hmax
    have hcv : ∀ j, j < ts.length * 4 → (Call.vals ts)[j]? = some (cur.getD j undef) := fun j hj => by
      have e : (Call.vals ts)[j]? = some ((Call.vals ts)[j]'(by omega)) := List.getElem?_eq_getElem _
      have h1 := hcs j _ e
      rw [hrow.cell (by omega)] at h1
      rw [e]; exact h1.symm
    by_cases hroom : ts.length + 1 ≤ cap
    · refine (ins_shift10 g ts.length cap i bv vc (Call.vals ts) x.cells w hi' hroom (by omega) hgne hcl rfl hcs (fun j hj => by rw [hrow.cell (by omega)]; rfl) (fun j => hrow.frozen j) hvs Call.vals_one (one_cells10 x) 41 41 4 (cap * 4) ?_ ?_ (by omega) (fun j => hx.frozen j)).mono ?_
      · obtain ⟨cx, hcx, hsx, _⟩ := hx
        simp [World.shape?, hcx, hsx]
      · simp [World.shape?, hcur, hsz]
      · rintro e w' ⟨rfl, rfl⟩
        have hr2 := rowIs_setCells10 x.cells (i * 4) _ _ (rowIs_setCells10 ((Call.vals ts).drop (i * 4)) ((i + 1) * 4) w.drew _ (show w.drew.rowIs g 41 (cap * 4) _ from hrow))
        refine ⟨g, cap, by rw [hlen], own_ins10 (Nat.le_of_lt hi') hgB (by omega) hr2 ?_ ?_ ?_, below_setCells10 hgB _ _ (below_setCells10 hgB _ _ (Below.refl _ _).drew)⟩
        · intro j hj
          show _ = some (if i * 4 ≤ j ∧ j < i * 4 + x.cells.length then x.cells.getD (j - i * 4) undef else if (i + 1) * 4 ≤ j ∧ j < (i + 1) * 4 + ((Call.vals ts).drop (i * 4)).length then ((Call.vals ts).drop (i * 4)).getD (j - (i + 1) * 4) undef else cur.getD j undef)
          rw [if_neg (by omega), if_neg (by omega)]
          exact hcv j (by omega)
        · intro j hj
          have hxl : x.cells.length = 4 := rfl
          show _ = some (if i * 4 ≤ i * 4 + j ∧ i * 4 + j < i * 4 + x.cells.length then x.cells.getD (i * 4 + j - i * 4) undef else _)
          rw [if_pos (by omega), show i * 4 + j - i * 4 = j by omega]
          exact get_getD10 (by omega)
        · intro j hj
          have hxl : x.cells.length = 4 := rfl
          have hdl : ((Call.vals ts).drop (i * 4)).length = (ts.length - i) * 4 := by rw [List.length_drop, hcl]; omega
          show _ = some (if i * 4 ≤ (i + 1) * 4 + j ∧ (i + 1) * 4 + j < i * 4 + x.cells.length then x.cells.getD ((i + 1) * 4 + j - i * 4) undef else if (i + 1) * 4 ≤ (i + 1) * 4 + j ∧ (i + 1) * 4 + j < (i + 1) * 4 + ((Call.vals ts).drop (i * 4)).length then ((Call.vals ts).drop (i * 4)).getD ((i + 1) * 4 + j - (i + 1) * 4) undef else cur.getD ((i + 1) * 4 + j) undef)
          rw [if_neg (by omega), if_pos (by omega), show (i + 1) * 4 + j - (i + 1) * 4 = j by omega, ← List.getElem?_drop]
          exact get_getD10 (by omega)
    · refine (ins_grow10 g ts.length cap i bv vc (Call.vals ts) x.cells w hi' hnc (by omega) (by omega) hcl rfl hcs hvs Call.vals_one (one_cells10 x)).mono ?_
      rintro e w' ⟨rfl, rfl⟩
      generalize hG : grownCap w (ts.length + 1) cap 41 = G
      have hGn : ts.length + 1 ≤ G := by rw [← hG]; exact grownCap_ge w _ _ _
      generalize hROW : ((Call.vals ts).take (i * 4)).toArray ++ Builtin.zeroCells #[.int .i64 0, .int .i64 0, .int .i64 0, .int .i64 0] (ts.length + 1 - i) ++ Builtin.zeroCells #[.int .i64 0, .int .i64 0, .int .i64 0, .int .i64 0] (G - (ts.length + 1)) = ROW
      have hRs : ROW.size = G * 4 := by
        rw [← hROW]
        simp only [Array.size_append, size_zeroCells, List.size_toArray, List.length_take]
        show min (i * 4) (Call.vals ts).length + (ts.length + 1 - i) * 4 + (G - (ts.length + 1)) * 4 = G * 4
        omega
      have hRv : ∀ j, j < i * 4 → (Call.vals ts)[j]? = some (ROW.getD j undef) := fun j hj => by
        have hjl : j < ((Call.vals ts).take (i * 4)).length := by rw [List.length_take]; omega
        have e : ROW[j]? = ((Call.vals ts).take (i * 4))[j]? := by
          rw [← hROW, Array.getElem?_append_left (by simp; omega), Array.getElem?_append_left (by simpa using hjl)]
          simp
        rw [List.getElem?_take_of_lt hj] at e
        rw [← e]
        have hjr : j < ROW.size := by omega
        simp [Array.getD, hjr]
      have hr0 : (w.alloc (.cells ROW 41)).rowIs w.heap.size 41 (G * 4) (fun j => ROW.getD j undef) := by
        rw [← hRs]
        exact World.rowIs_alloc w ROW 41 _ (fun j hj => by simp [Array.getD, hj])
      have hr1 := rowIs_setCells10 x.cells (i * 4) (w.alloc (.cells ROW 41)).drew (fun j => ROW.getD j undef) (rowIs_drew10 hr0)
      have hr2 := rowIs_setCells10 ((Call.vals ts).drop (i * 4)) ((i + 1) * 4) ((w.alloc (.cells ROW 41)).drew.setCells w.heap.size (i * 4) x.cells).drew (fun j => if i * 4 ≤ j ∧ j < i * 4 + x.cells.length then x.cells.getD (j - i * 4) undef else ROW.getD j undef) (rowIs_drew10 hr1)
      have hb1 : Below B w (w.alloc (.cells ROW 41)).drew := ((Below.refl B w).alloc hB _).drew
      have hb2 := (below_setCells10 (b := w.heap.size) hB x.cells (i * 4) hb1).drew
      have hbel := below_setCells10 (b := w.heap.size) hB ((Call.vals ts).drop (i * 4)) ((i + 1) * 4) hb2
      refine ⟨w.heap.size, G, by rw [hlen], own_ins10 (Nat.le_of_lt hi') hB hGn hr2 ?_ ?_ ?_, hbel⟩
      · intro j hj
        have hdl : ((Call.vals ts).drop (i * 4)).length = (ts.length - i) * 4 := by rw [List.length_drop, hcl]; omega
        show _ = some (if (i + 1) * 4 ≤ j ∧ j < (i + 1) * 4 + ((Call.vals ts).drop (i * 4)).length then ((Call.vals ts).drop (i * 4)).getD (j - (i + 1) * 4) undef else if i * 4 ≤ j ∧ j < i * 4 + x.cells.length then x.cells.getD (j - i * 4) undef else ROW.getD j undef)
        rw [if_neg (by omega), if_neg (by omega)]
        exact hRv j hj
      · intro j hj
        have hxl : x.cells.length = 4 := rfl
        show _ = some (if (i + 1) * 4 ≤ i * 4 + j ∧ i * 4 + j < (i + 1) * 4 + ((Call.vals ts).drop (i * 4)).length then ((Call.vals ts).drop (i * 4)).getD (i * 4 + j - (i + 1) * 4) undef else if i * 4 ≤ i * 4 + j ∧ i * 4 + j < i * 4 + x.cells.length then x.cells.getD (i * 4 + j - i * 4) undef else ROW.getD (i * 4 + j) undef)
        rw [if_neg (by omega), if_pos (by omega), show i * 4 + j - i * 4 = j by omega]
        exact get_getD10 (by omega)
      · intro j hj
        have hdl : ((Call.vals ts).drop (i * 4)).length = (ts.length - i) * 4 := by rw [List.length_drop, hcl]; omega
        show _ = some (if (i + 1) * 4 ≤ (i + 1) * 4 + j ∧ (i + 1) * 4 + j < (i + 1) * 4 + ((Call.vals ts).drop (i * 4)).length then ((Call.vals ts).drop (i * 4)).getD ((i + 1) * 4 + j - (i + 1) * 4) undef else if i * 4 ≤ (i + 1) * 4 + j ∧ (i + 1) * 4 + j < i * 4 + x.cells.length then x.cells.getD ((i + 1) * 4 + j - i * 4) undef else ROW.getD ((i + 1) * 4 + j) undef)
        rw [if_pos (by omega), show (i + 1) * 4 + j - (i + 1) * 4 = j by omega, ← List.getElem?_drop]
        exact get_getD10 (by omega)
end Go.Proofs.Ytekhdggaelppkaa
