/- Lists of terms that a call builds, nil at first; their rows in the sort's words. -/
import Derived.Test.YtblbmmajobefiaaChecked
import Derived.Test.YtblbmmajobefiaaBase
import Derived.Test.YtblbmmajobefiaaTermA
import Derived.Test.YtblbmmajobefiaaTermB
import Derived.Test.YtblbmmajobefiaaTermC
import Derived.Test.YtblbmmajobefiaaPure72
import Derived.WalkKit
import Derived.Maps.AppendAt
import Derived.Shelf.SlSortCmp.InsertionK
import Derived.Lib.OwnBridge
namespace Go.Proofs.Ytblbmmajobefiaa
open Go.RowKit Go.Sort Pure1 Pure2

/-- a list that is being built (from block B on) -/
def Term.Bd (w : World) (B : Nat) (v : Value) (ts : List Term) : Prop := w.ownsRow B 32 3 v ts.length (Term.vals ts)
theorem Term.Bd.nil (w : World) (B : Nat) : Term.Bd w B (.slice none 0 0) [] := World.ownsRow_nil _ _ _ _
theorem Term.Bd.parts {w : World} {B : Nat} {v : Value} {ts : List Term} (h : Term.Bd w B v ts) : (v = .slice none 0 0 ∧ ts = []) ∨ Term.L w B v ts := by
  rcases h.2 with ⟨rfl, h0⟩ | ⟨g, cap, cur, rfl, h3⟩
  · exact .inl ⟨rfl, List.length_eq_zero_iff.1 h0⟩
  · exact .inr ⟨⟨g, cap, rfl⟩, h⟩
theorem Term.Bd.below {w w' : World} {B : Nat} {v : Value} {ts : List Term} (h : Term.Bd w B v ts) (hb : Below w.heap.size w w') : Term.Bd w' B v ts := by
  rcases h.parts with ⟨rfl, rfl⟩ | h
  · exact Term.Bd.nil _ _
  · exact (h.below hb).2
theorem Term.Bd.base {w : World} {B B' : Nat} {v : Value} {ts : List Term} (h : Term.Bd w B v ts) (hb : B' ≤ B) : Term.Bd w B' v ts := by
  rcases h.parts with ⟨rfl, rfl⟩ | h
  · exact Term.Bd.nil _ _
  · exact (h.base hb).2
theorem Term.Bd.alloc {w : World} {B : Nat} {v : Value} {ts : List Term} (h : Term.Bd w B v ts) (o : Obj) : Term.Bd (w.alloc o) B v ts := h.below (Term.bx w o)
theorem Term.Bd.slice {w : World} {B : Nat} {v : Value} {ts : List Term} (h : Term.Bd w B v ts) : ∃ a cap, v = .slice a ts.length cap ∧ Term.ListAt w a ts := by
  rcases h.parts with ⟨rfl, rfl⟩ | h
  · exact ⟨_, _, rfl, .inl rfl⟩
  · obtain ⟨⟨g, cap, rfl⟩, _⟩ := id h
    exact ⟨_, _, rfl, h.reads⟩
theorem Term.Bd.grew {B C : Nat} {w0 w w' : World} {v : Value} {ts : List Term} (h : Term.Bd w B v ts) (hB : Below C w0 w) (hC : C ≤ B) (hs : C ≤ w.heap.size) (hg : w.grownBy w' v.ownBlock) : Below C w0 w' :=
  hB.grown hg hs (fun k hk => Nat.le_trans hC (h.lt k hk).1)

section
variable {ops : Array Oper} {rest : List Oper} {o : Oper} {a : Act} {Q : Exit → Act → World → Prop} {w : World} {B : Nat}
/-- some terms more -/
theorem wpList_terms_append (hgd : o.guard = none) (s x : Operand) (ho : o.op = .call { callee := .builtin .append, args := #[s, x], argTypes := #[24, 24] })
    (v : Value) (ts : List Term) (hs : a.eval s = v) (h : Term.Bd w B v ts) (ad : Addr) (m c : Nat) (qs : List Term) (hm : qs.length = m) (hx : a.eval x = .slice (some ad) m c) (hq : ∀ j u, (Term.vals qs)[j]? = some u → w.cell? (ad.add j) = some u)
    (hl : ts.length + qs.length ≤ 100000) (hB : B ≤ w.heap.size)
    (hk : ∀ v' w', Term.Bd w' B v' (ts ++ qs) → w.grownBy w' v.ownBlock → wpList Try.prog ops Q rest (a.put o.dst v') w') : wpList Try.prog ops Q (o :: rest) a w := by
  obtain ⟨i, z, hi, hz, h5, h56, hzs⟩ := Try.infoTerm'
  subst hm
  refine wpList_append_own_at (P := Try.prog) w hgd s x 24 ho B 32 i z 3 24 Try.underlying24 hi hz h5 h56 hzs (by omega) v ts.length (Term.vals ts) hs h ad qs.length c (Term.vals qs) hx (Term.vals_len qs) hq Term.vals_one (by unfold maxLen; omega) (by omega) hB ?_
  intro v' w' h1 h2 _ _
  refine hk v' w' ?_ h2
  unfold Term.Bd
  rw [List.length_append, Term.vals_append]; exact h1
end
theorem Term.lit_cells (w : World) (c : Term) (T : TypeId) (j : Nat) (u : Value) (hu : (Term.vals [c])[j]? = some u) : (w.alloc (.cells #[.int .i64 c.num, .int .i64 c.frm, .int .i64 c.to] T)).cell? ((⟨w.heap.size, 0, none⟩ : Addr).add j) = some u := by
  obtain ⟨h0, h1, h2⟩ := Term.boxed w c T
  have hj : j < 3 := (List.getElem?_eq_some_iff.1 hu).1
  rw [Addr.add_mid, Nat.zero_add]
  match j, hj with
  | 0, _ => rw [h0]; exact hu
  | 1, _ => rw [h1]; exact hu
  | 2, _ => rw [h2]; exact hu
theorem Term.lit_cells2 (w : World) (o : Obj) (c : Term) (T : TypeId) (j : Nat) (u : Value) (hu : (Term.vals [c])[j]? = some u) : ((w.alloc o).alloc (.cells #[.int .i64 c.num, .int .i64 c.frm, .int .i64 c.to] T)).cell? ((⟨w.heap.size + 1, 0, none⟩ : Addr).add j) = some u := by
  have h := Term.lit_cells (w.alloc o) c T j u hu
  rw [show (w.alloc o).heap.size = w.heap.size + 1 by simp] at h
  exact h
theorem vals_of2 {w : World} {a : Option Addr} {ad : Addr} {ts : List Term} (h : Term.ListAt w a ts) (ha : a = some ad) (j : Nat) (u : Value) (hu : (Term.vals ts)[j]? = some u) : w.cell? (ad.add j) = some u := by
  have hj : j < ts.length * 3 := by rw [← Term.vals_len]; exact (List.getElem?_eq_some_iff.1 hu).1
  rcases h with rfl | ⟨b, off, e, h⟩
  · simp at hj
  · rw [ha] at e
    cases e
    rw [Addr.add_mid]
    obtain ⟨q, r, hr, rfl⟩ : ∃ q r, r < 3 ∧ j = q * 3 + r := ⟨j / 3, j % 3, Nat.mod_lt _ (by omega), by omega⟩
    have hc : ts[q]? = some (ts[q]'(by omega)) := List.getElem?_eq_getElem (by omega)
    rw [Term.vals_at hc r hr] at hu
    obtain ⟨h0, h1, h2⟩ := h q _ hc
    rcases (by omega : r = 0 ∨ r = 1 ∨ r = 2) with rfl | rfl | rfl <;> (cases hu; rw [← Nat.add_assoc]; assumption)

/-- the row in the sort's words -/
theorem flat_cell {ts : List Term} {j : Nat} (hj : j < ts.length * 3) : (Term.vals ts)[j]? = some ((flatK Term.cells 3 ts.toArray)[j]!) := by
  obtain ⟨q, r, hr, rfl⟩ : ∃ q r, r < 3 ∧ j = q * 3 + r := ⟨j / 3, j % 3, Nat.mod_lt _ (by omega), by omega⟩
  have hq : q < ts.length := by omega
  have hc : ts[q]? = some (ts[q]'hq) := List.getElem?_eq_getElem hq
  rw [Term.vals_at hc r hr, get_flatK _ _ _ _ (by simpa using hj), show (q * 3 + r) / 3 = q by omega, show (q * 3 + r) % 3 = r by omega]
  have e : ts.toArray[q]! = ts[q] := by simp [hq]
  rw [e]
  rcases (by omega : r = 0 ∨ r = 1 ∨ r = 2) with rfl | rfl | rfl <;> rfl
theorem Term.L.holds {w : World} {B g n cap : Nat} {ts : List Term} (h : Term.L w B (.slice (some ⟨g, 0, none⟩) n cap) ts) : HoldsK Term.cells 3 w g 0 ts.toArray := by
  intro j hj
  rw [size_flatK] at hj
  have hj : j < ts.length * 3 := by simpa using hj
  refine ⟨?_, ?_⟩
  · rw [Nat.zero_add]; exact h.cell (flat_cell hj)
  · rcases h.2.2 with ⟨e, _⟩ | ⟨g', cap', cur, e, _, hh, _⟩
    · cases e
    · cases e; simp [World.frozen?, hh]
theorem Term.L.put {w : World} {B g n cap q : Nat} {ts ys : List Term} (h : Term.L w B (.slice (some ⟨g, 0, none⟩) n cap) ts) (hy : ys.length = ts.length) (os : Array Obj) : Term.L (sortWorldK Term.cells 3 w g 0 q ys.toArray os) B (.slice (some ⟨g, 0, none⟩) n cap) ys := by
  obtain ⟨⟨g', cap', e⟩, h1, h2⟩ := h
  cases e
  rcases h2 with ⟨e, _⟩ | ⟨g', cap', cur, e, hb, hg, hn, hm, hs, ht⟩
  · cases e
  cases e
  have hlt : g < w.heap.size := (Array.getElem?_eq_some_iff.1 hg).1
  refine ⟨⟨g, cap, by rw [hy]⟩, by rw [Term.vals_len], .inr ⟨g, cap, putCells id 0 (flatK Term.cells 3 ys.toArray) cur, by rw [hy], hb, ?_, by omega, hm, by simpa [putCells] using hs, ?_⟩⟩
  · unfold sortWorldK putRowK grow
    simp only
    rw [Array.getElem?_append_left (by simpa [putRow, mapBlock, Sort.ahead] using hlt)]
    simp [putRow, mapBlock, Sort.ahead, Array.getElem?_modify, hg, onCells]
  · apply List.ext_getElem?
    intro j
    by_cases hj : j < ys.length * 3
    · have hjc : j < cur.size := by have := Nat.mul_le_mul_right 3 hn; rw [hs]; rw [hy] at hj; omega
      rw [flat_cell hj, List.getElem?_take_of_lt hj, Array.getElem?_toList]
      simp only [putCells, Array.getElem?_mapIdx, Array.getElem?_eq_getElem hjc, Option.map_some]
      rw [if_pos ⟨Nat.zero_le _, by rw [size_flatK]; simpa using hj⟩]
      rfl
    · rw [List.getElem?_eq_none (by simp; omega), List.getElem?_eq_none (by rw [Term.vals_len]; omega)]
theorem below_sortWorldK {B : Nat} {w0 w : World} {g q : Nat} {d : Array Term} {os : Array Obj} (h : Below B w0 w) (hB : B ≤ w.heap.size) (hg : B ≤ g) : Below B w0 (sortWorldK Term.cells 3 w g 0 q d os) := by
  refine ⟨h.os, h.tape, h.output, ?_, fun k hk => ?_⟩
  · have := h.size
    unfold sortWorldK putRowK grow
    simp [putRow, mapBlock, Sort.ahead]; omega
  · rw [← h.block k hk]
    unfold sortWorldK putRowK grow
    simp only
    rw [Array.getElem?_append_left (by simp [putRow, mapBlock, Sort.ahead]; omega)]
    simp [putRow, mapBlock, Sort.ahead, Array.getElem?_modify, show g ≠ k by omega]

/-- the library's insertion is ours -/
theorem insInner_list (key : Term → Int) (lt : Term → Term → Bool) (hlt : ∀ a b, lt a b = decide (key a < key b)) : ∀ (rp : List Term) (x : Term) (q : List Term), Sort.insInner lt 0 rp.length (rp.reverse ++ x :: q).toArray = (insR key rp x q).toArray
  | [], x, q => rfl
  | y :: rp, x, q => by
    have e0 : (y :: rp).reverse ++ x :: q = rp.reverse ++ y :: x :: q := by simp
    have hl : rp.reverse.length = rp.length := by simp
    generalize hp : rp.reverse = p at e0 hl
    have g1 : (p ++ y :: x :: q).toArray[rp.length + 1]! = x := by rw [← hl]; simp
    have g0 : (p ++ y :: x :: q).toArray[rp.length]! = y := by rw [← hl]; simp
    rw [e0, List.length_cons, Sort.insInner, g1, g0, hlt]
    unfold insR
    by_cases h : key x < key y
    · have ih := insInner_list key lt hlt rp x (y :: q)
      rw [hp] at ih
      rw [if_pos (by simp [h]), if_pos h, ← ih]
      congr 1
      unfold swp
      rw [g1, g0, ← hl]
      simp
    · rw [if_neg (by simp [h]), if_neg h, hp]
theorem insOuter_list (key : Term → Int) (lt : Term → Term → Bool) (hlt : ∀ a b, lt a b = decide (key a < key b)) : ∀ (r acc : List Term), Sort.insOuter lt 0 (acc ++ r).length acc.length (acc ++ r).toArray = (sortFrom key acc r).toArray
  | [], acc => by
    rw [Sort.insOuter, if_neg (by simp)]
    simp [sortFrom]
  | x :: r, acc => by
    rw [Sort.insOuter, if_pos (by simp)]
    have h1 := insInner_list key lt hlt acc.reverse x r
    rw [List.reverse_reverse, List.length_reverse] at h1
    have h2 : insR key acc.reverse x r = insR key acc.reverse x [] ++ r := insR_app key acc.reverse x [] r
    have h3 := insOuter_list key lt hlt r (insR key acc.reverse x [])
    have h4 : (insR key acc.reverse x []).length = acc.length + 1 := by rw [insR_length]; simp
    rw [h1, h2, sortFrom, ← h3, h4]
    congr 1
    rw [List.length_append, List.length_append, h4, List.length_cons]; omega
theorem insertion_list (key : Term → Int) (lt : Term → Term → Bool) (hlt : ∀ a b, lt a b = decide (key a < key b)) (ts : List Term) : Sort.insertionSort lt ts.toArray 0 ts.toArray.size = (sortK key ts).toArray := by
  unfold Sort.insertionSort
  cases ts with
  | nil => rw [Sort.insOuter, if_neg (by simp)]; rfl
  | cons x r => exact insOuter_list key lt hlt r [x]
end Go.Proofs.Ytblbmmajobefiaa
