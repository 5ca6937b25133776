/- copy at elements of five cells; rows in which many cells are set; the cells of a list in which one more is put. -/
import Derived.Test.YtchffaohmeaccaaDoorChecked
import Derived.Test.YtchffaohmeaccaaDoorBase0
import Derived.Test.YtchffaohmeaccaaDoorSummonsB
import Derived.Test.YtchffaohmeaccaaDoorSummonsC
import Derived.Test.YtchffaohmeaccaaDoorSummonsD
import Derived.Test.YtchffaohmeaccaaDoorSet9
import Derived.WalkKit
import Derived.WalkSpells
import Derived.WalkLawsBesides
import Derived.Lib.Hide
import Derived.Laws.IdiomCopy
import Derived.Deep.OwnRows
import Derived.Outline
namespace Go.Proofs.YtchffaohmeaccaaDoor
open Go.RowKit Pure2

theorem run_copy_cells5 {P : Program} (w : World) (dT sT ty elem : TypeId) (b o dLen dCap : Nat) (a : Addr) (sLen sCap : Nat) (cs : List Value)
    (hu : P.underlying dT = some (.slice elem)) (hs : (P.info? elem).map (·.size) = some 5) (hn : cs.length = Nat.min sLen dLen * 5)
    (hsrc : ∀ j v, cs[j]? = some v → w.cell? (a.add j) = some v) (hc : ∀ j, j < cs.length → (w.cell? ⟨b, o + j, none⟩).isSome = true) (hf : ∀ j, j < cs.length → w.frozen? ⟨b, o + j, none⟩ = false) (h1 : ∀ v ∈ cs, v.oneCell' = true) :
    (Builtin.copy_ #[dT, sT] ty #[.slice (some ⟨b, o, none⟩) dLen dCap, .slice (some a) sLen sCap]).run P w = .ok (goInt (Nat.min sLen dLen)) (w.setCells b o cs) := by
  have hl := run_loadCells_list (P := P) w a cs hsrc
  have hst := run_storeCells_cells (P := P) b o cs 0 w (by simpa using hc) (by simpa using hf) h1
  cases hq : P.info? elem with
  | none => simp [hq] at hs
  | some i =>
    have hi : i.size = 5 := by simpa [hq] using hs
    simp [Builtin.copy_, run_underlying hu, Builtin.lenOf, Builtin.firstCells, sizeOf, typeInfo, hq, hi, ← hn, hl, hst]

theorem wp_copy_run9 {P : Program} (w : World) {o : Oper} {a : Act} {K : Act → World → Prop} {Q : Exit → Act → World → Prop} (d s : Operand) (t t' : TypeId)
    (ho : o.op = .call { callee := .builtin .copy, args := #[d, s], argTypes := #[t, t'] }) (v u : Value) (hd : a.eval d = v) (hs : a.eval s = u) {v' : Value} {w' : World}
    (hr : (Builtin.copy_ #[t, t'] o.type #[v, u]).run P w = .ok v' w') (h : K (a.put o.dst v') w') : o.wp P a w K Q := by
  unfold Oper.wp execOp
  simp only [ho, resolve, invoke, builtin, Sem.run_bind, Sem.run_pure, Result.andThen_ok, List.map_toArray, List.map_cons, List.map_nil, hd, hs, hr]
  exact h
theorem wpList_copy_run9 {P : Program} (w : World) {ops : Array Oper} {rest : List Oper} {o : Oper} {a : Act} {Q : Exit → Act → World → Prop} (hgd : o.guard = none) (d s : Operand) (t t' : TypeId)
    (ho : o.op = .call { callee := .builtin .copy, args := #[d, s], argTypes := #[t, t'] }) (v u : Value) (hd : a.eval d = v) (hs : a.eval s = u) {v' : Value} {w' : World}
    (hr : (Builtin.copy_ #[t, t'] o.type #[v, u]).run P w = .ok v' w') (h : wpList P ops Q rest (a.put o.dst v') w') : wpList P ops Q (o :: rest) a w :=
  wpList_plain hgd fun _ hK => wp_copy_run9 w d s t t' ho v u hd hs hr (hK _ _ h)
theorem step_copy_run9 {P : Program} {ops : Array Oper} {o : Oper} {a : Act} {w : World} {K : Act → World → Prop} {Q : Exit → Act → World → Prop} {E : Prop}
    (hg : o.guard = none) (d x : Operand) (dT sT : TypeId) (hop : o.op = Op.call { callee := Callee.builtin Builtin.copy, args := #[d, x], argTypes := #[dT, sT] })
    (v u : Value) (hd : a.eval d = v) (hx : a.eval x = u) {v' : Value} {w' : World} (hr : (Builtin.copy_ #[dT, sT] o.type #[v, u]).run P w = .ok v' w') (hK : K (a.put o.dst v') w') :
    if Region.wanted o (yielded ops a.tmps) = true then Oper.wp P o a w K Q else E := by
  have hw : Region.wanted o (yielded ops a.tmps) = true := by simp [Region.wanted, hg]
  rw [if_pos hw]
  unfold Oper.wp
  simp [execOp, hop, resolve, invoke, builtin, hd, hx, hr, Result.andThen]
  exact hK

/-- a row in which cells are set one behind the other -/
theorem rowIs_setCells {b : Nat} {T : TypeId} {N : Nat} : ∀ (vs : List Value) (o : Nat) (w : World) (f : Nat → Value), w.rowIs b T N f → (w.setCells b o vs).rowIs b T N (fun j => if o ≤ j ∧ j < o + vs.length then vs.getD (j - o) undef else f j)
  | [], o, w, f, h => by
    have e : (fun j => if o ≤ j ∧ j < o + ([] : List Value).length then ([] : List Value).getD (j - o) undef else f j) = f := by
      funext j; rw [if_neg (by simp)]
    rw [e]; exact h
  | v :: r, o, w, f, h => by
    have ih := rowIs_setCells r (o + 1) _ _ (h.set o v)
    rw [World.setCells]
    have e : (fun j => if o ≤ j ∧ j < o + (v :: r).length then (v :: r).getD (j - o) undef else f j) = (fun j => if o + 1 ≤ j ∧ j < o + 1 + r.length then r.getD (j - (o + 1)) undef else (fun j => if j = o then v else f j) j) := by
      funext j
      simp only [List.length_cons]
      by_cases h1 : o + 1 ≤ j ∧ j < o + 1 + r.length
      · rw [if_pos (by omega), if_pos h1]
        obtain ⟨q, rfl⟩ : ∃ q, j = o + 1 + q := ⟨j - (o + 1), by omega⟩
        rw [show o + 1 + q - o = q + 1 by omega, show o + 1 + q - (o + 1) = q by omega, List.getD_cons_succ]
      · rw [if_neg h1]
        by_cases h2 : j = o
        · subst h2; rw [if_pos (by omega), if_pos rfl, Nat.sub_self]; rfl
        · rw [if_neg (by omega), if_neg h2]
    rw [e]; exact ih
theorem below_setCells9 {B b : Nat} (hb : B ≤ b) : ∀ (vs : List Value) (o : Nat) {w0 w : World}, Below B w0 w → Below B w0 (w.setCells b o vs)
  | [], _, _, _, h => h
  | v :: r, o, _, _, h => below_setCells9 hb r (o + 1) (h.setCell (p := ⟨b, o, none⟩) hb v)
theorem isSome_setCells9 (b : Nat) (vs : List Value) (o : Nat) (w : World) (h : ∀ j, j < vs.length → (w.cell? ⟨b, o + j, none⟩).isSome = true) (k : Nat) (hk : (w.cell? ⟨b, k, none⟩).isSome = true) : ((w.setCells b o vs).cell? ⟨b, k, none⟩).isSome = true := by
  by_cases hin : o ≤ k ∧ k < o + vs.length
  · have := World.cell?_setCells_in b vs o w h (k - o) (by omega)
    rw [show o + (k - o) = k by omega] at this
    rw [this]; rfl
  · rw [World.cell?_setCells_out b vs o w ⟨b, k, none⟩ (fun _ _ => by show k < o ∨ o + vs.length ≤ k; omega)]
    exact hk

theorem Summons.vals_split {ts : List Summons} {i : Nat} (hi : i ≤ ts.length) : (Summons.vals ts).take (i * 5) = Summons.vals (ts.take i) ∧ (Summons.vals ts).drop (i * 5) = Summons.vals (ts.drop i) := by
  have h : Summons.vals ts = Summons.vals (ts.take i) ++ Summons.vals (ts.drop i) := by rw [← Summons.vals_append, List.take_append_drop]
  have hl : (Summons.vals (ts.take i)).length = i * 5 := by rw [Summons.vals_len, List.length_take]; congr 1; omega
  exact ⟨by rw [h, ← hl, List.take_left' rfl], by rw [h, ← hl, List.drop_left' rfl]⟩
theorem Summons.vals_get {us : List Summons} {j : Nat} (hj : j < us.length * 5) : (Summons.vals us)[j]? = some (.int .i64 (Summons.flat us j)) := by
  obtain ⟨q, r, hr, rfl⟩ : ∃ q r, r < 5 ∧ j = q * 5 + r := ⟨j / 5, j % 5, Nat.mod_lt _ (by omega), by omega⟩
  have hq : q < us.length := by omega
  have hc : us[q]? = some (us[q]'hq) := List.getElem?_eq_getElem hq
  rw [Summons.vals_at hc r hr, Summons.flat_nth hc hr]
  have hcs : r = 0 ∨ r = 1 ∨ r = 2 ∨ r = 3 ∨ r = 4 := by omega
  rcases hcs with rfl | rfl | rfl | rfl | rfl <;> rfl
/-- the row in which one more was put at place i -/
theorem own_ins9 {B g N i : Nat} {w : World} {ts : List Summons} {x : Summons} {f : Nat → Value} (hi : i ≤ ts.length) (hB : B ≤ g) (hN : ts.length + 1 ≤ N) (hr : w.rowIs g 53 (N * 5) f)
    (h1 : ∀ j, j < i * 5 → (Summons.vals ts)[j]? = some (f j)) (h2 : ∀ j, j < 5 → x.cells[j]? = some (f (i * 5 + j))) (h3 : ∀ j, j < (ts.length - i) * 5 → (Summons.vals ts)[i * 5 + j]? = some (f ((i + 1) * 5 + j))) :
    Summons.Own B w (some ⟨g, 0, none⟩) (ts.take i ++ [x] ++ ts.drop i).length (Summons.flat (ts.take i ++ [x] ++ ts.drop i)) := by
  have hlen : (ts.take i ++ [x] ++ ts.drop i).length = ts.length + 1 := by simp; omega
  refine .inr ⟨g, f, N, rfl, hB, by omega, hr, fun j hj => ?_⟩
  have hv := Summons.vals_get hj
  obtain ⟨hs1, hs2⟩ := Summons.vals_split hi
  have hlt : (Summons.vals (ts.take i)).length = i * 5 := by rw [Summons.vals_len, List.length_take]; congr 1; omega
  rw [Summons.vals_append, Summons.vals_append, ← hs1, ← hs2] at hv
  have hx : Summons.vals [x] = x.cells := by simp [Summons.vals]
  rw [hx] at hv
  rw [← hs1] at hlt
  have hxl : x.cells.length = 5 := rfl
  rw [hlen] at hj
  by_cases c1 : j < i * 5
  · rw [List.append_assoc, List.getElem?_append_left (by omega), List.getElem?_take_of_lt c1, h1 j c1] at hv
    exact Option.some.inj hv
  · by_cases c2 : j < i * 5 + 5
    · rw [List.getElem?_append_left (by rw [List.length_append]; omega), List.getElem?_append_right (by omega), hlt] at hv
      have := h2 (j - i * 5) (by omega)
      rw [show i * 5 + (j - i * 5) = j by omega] at this
      rw [this] at hv
      exact Option.some.inj hv
    · rw [List.getElem?_append_right (by rw [List.length_append]; omega), List.length_append, hlt, hxl, List.getElem?_drop] at hv
      have := h3 (j - (i + 1) * 5) (by omega)
      rw [show (i + 1) * 5 + (j - (i + 1) * 5) = j by omega] at this
      rw [show i * 5 + (j - (i * 5 + 5)) = i * 5 + (j - (i + 1) * 5) by omega, this] at hv
      exact Option.some.inj hv
end Go.Proofs.YtchffaohmeaccaaDoor
