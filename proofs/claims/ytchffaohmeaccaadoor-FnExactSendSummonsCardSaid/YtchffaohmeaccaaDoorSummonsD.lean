/- Lists of summonses that a call builds, nil at first. -/
import Derived.Test.YtchffaohmeaccaaDoorChecked
import Derived.Test.YtchffaohmeaccaaDoorBase0
import Derived.Test.YtchffaohmeaccaaDoorSummonsB
import Derived.Test.YtchffaohmeaccaaDoorSummonsC
import Derived.WalkKit
import Derived.Maps.AppendAt
import Derived.WalkSpells
import Derived.WalkLawsBesides
import Derived.Lib.OwnBridge
namespace Go.Proofs.YtchffaohmeaccaaDoor
open Go.RowKit Pure1 Pure2

/-- a list that is being built (from block B on) -/
def Summons.Bd (w : World) (B : Nat) (v : Value) (ts : List Summons) : Prop := w.ownsRow B 53 5 v ts.length (Summons.vals ts)
theorem Summons.Bd.nil (w : World) (B : Nat) : Summons.Bd w B (.slice none 0 0) [] := World.ownsRow_nil _ _ _ _
theorem Summons.Bd.parts {w : World} {B : Nat} {v : Value} {ts : List Summons} (h : Summons.Bd w B v ts) : (v = .slice none 0 0 ∧ ts = []) ∨ Summons.L w B v ts := by
  rcases h.2 with ⟨rfl, h0⟩ | ⟨g, cap, cur, rfl, h3⟩
  · exact .inl ⟨rfl, List.length_eq_zero_iff.1 h0⟩
  · exact .inr ⟨⟨g, cap, rfl⟩, h⟩
theorem Summons.Bd.below {w w' : World} {B : Nat} {v : Value} {ts : List Summons} (h : Summons.Bd w B v ts) (hb : Below w.heap.size w w') : Summons.Bd w' B v ts := by
  rcases h.parts with ⟨rfl, rfl⟩ | h
  · exact Summons.Bd.nil _ _
  · exact (h.below hb).2
theorem Summons.Bd.base {w : World} {B B' : Nat} {v : Value} {ts : List Summons} (h : Summons.Bd w B v ts) (hb : B' ≤ B) : Summons.Bd w B' v ts := by
  rcases h.parts with ⟨rfl, rfl⟩ | h
  · exact Summons.Bd.nil _ _
  · exact (h.base hb).2
theorem Summons.Bd.alloc {w : World} {B : Nat} {v : Value} {ts : List Summons} (h : Summons.Bd w B v ts) (o : Obj) : Summons.Bd (w.alloc o) B v ts := h.below (Summons.bx w o)
theorem Summons.Bd.slice {w : World} {B : Nat} {v : Value} {ts : List Summons} (h : Summons.Bd w B v ts) : ∃ a cap, v = .slice a ts.length cap ∧ Summons.ListAt w a ts := by
  rcases h.parts with ⟨rfl, rfl⟩ | h
  · exact ⟨_, _, rfl, .inl rfl⟩
  · obtain ⟨⟨g, cap, rfl⟩, _⟩ := id h
    exact ⟨_, _, rfl, h.reads⟩
theorem Summons.Bd.grew {B C : Nat} {w0 w w' : World} {v : Value} {ts : List Summons} (h : Summons.Bd w B v ts) (hB : Below C w0 w) (hC : C ≤ B) (hs : C ≤ w.heap.size) (hg : w.grownBy w' v.ownBlock) : Below C w0 w' :=
  hB.grown hg hs (fun k hk => Nat.le_trans hC (h.lt k hk).1)

section
variable {ops : Array Oper} {rest : List Oper} {o : Oper} {a : Act} {Q : Exit → Act → World → Prop} {w : World} {B : Nat}
/-- some terms more -/
theorem wpList_summ_append (hgd : o.guard = none) (s x : Operand) (ho : o.op = .call { callee := .builtin .append, args := #[s, x], argTypes := #[24, 24] })
    (v : Value) (ts : List Summons) (hs : a.eval s = v) (h : Summons.Bd w B v ts) (ad : Addr) (m c : Nat) (qs : List Summons) (hm : qs.length = m) (hx : a.eval x = .slice (some ad) m c) (hq : ∀ j u, (Summons.vals qs)[j]? = some u → w.cell? (ad.add j) = some u)
    (hl : ts.length + qs.length ≤ 100000) (hB : B ≤ w.heap.size)
    (hk : ∀ v' w', Summons.Bd w' B v' (ts ++ qs) → w.grownBy w' v.ownBlock → wpList Tryd.prog ops Q rest (a.put o.dst v') w') : wpList Tryd.prog ops Q (o :: rest) a w := by
  obtain ⟨i, z, hi, hz, h5, h56, hzs⟩ := Tryd.infoSummons'
  subst hm
  refine wpList_append_own_at (P := Tryd.prog) w hgd s x 24 ho B 53 i z 5 40 Tryd.underlying24 hi hz h5 h56 hzs (by omega) v ts.length (Summons.vals ts) hs h ad qs.length c (Summons.vals qs) hx (Summons.vals_len qs) hq Summons.vals_one (by unfold maxLen; omega) (by omega) hB ?_
  intro v' w' h1 h2 _ _
  refine hk v' w' ?_ h2
  unfold Summons.Bd
  rw [List.length_append, Summons.vals_append]; exact h1
end
theorem Summons.lit_cells (w : World) (c : Summons) (T : TypeId) (j : Nat) (u : Value) (hu : (Summons.vals [c])[j]? = some u) : (w.alloc (.cells #[.int .i64 c.num, .int .i64 c.sent, .int .i64 c.due, .int .i64 c.ans, .int .i64 c.done] T)).cell? ((⟨w.heap.size, 0, none⟩ : Addr).add j) = some u := by
  obtain ⟨h0, h1, h2, h3, h4⟩ := Summons.boxed w c T
  have hj : j < 5 := (List.getElem?_eq_some_iff.1 hu).1
  rw [Addr.add_mid, Nat.zero_add]
  match j, hj with
  | 0, _ => rw [h0]; exact hu
  | 1, _ => rw [h1]; exact hu
  | 2, _ => rw [h2]; exact hu
  | 3, _ => rw [h3]; exact hu
  | 4, _ => rw [h4]; exact hu
theorem Summons.lit_cells2 (w : World) (o : Obj) (c : Summons) (T : TypeId) (j : Nat) (u : Value) (hu : (Summons.vals [c])[j]? = some u) : ((w.alloc o).alloc (.cells #[.int .i64 c.num, .int .i64 c.sent, .int .i64 c.due, .int .i64 c.ans, .int .i64 c.done] T)).cell? ((⟨w.heap.size + 1, 0, none⟩ : Addr).add j) = some u := by
  have h := Summons.lit_cells (w.alloc o) c T j u hu
  rw [show (w.alloc o).heap.size = w.heap.size + 1 by simp] at h
  exact h
theorem vals_ofM2 {w : World} {a : Option Addr} {ad : Addr} {ts : List Summons} (h : Summons.ListAt w a ts) (ha : a = some ad) (j : Nat) (u : Value) (hu : (Summons.vals ts)[j]? = some u) : w.cell? (ad.add j) = some u := by
  have hj : j < ts.length * 5 := by rw [← Summons.vals_len]; exact (List.getElem?_eq_some_iff.1 hu).1
  rcases h with rfl | ⟨b, off, e, h⟩
  · simp at hj
  · rw [ha] at e
    cases e
    rw [Addr.add_mid]
    obtain ⟨q, r, hr, rfl⟩ : ∃ q r, r < 5 ∧ j = q * 5 + r := ⟨j / 5, j % 5, Nat.mod_lt _ (by omega), by omega⟩
    have hc : ts[q]? = some (ts[q]'(by omega)) := List.getElem?_eq_getElem (by omega)
    rw [Summons.vals_at hc r hr] at hu
    obtain ⟨h0, h1, h2, h3, h4⟩ := h q _ hc
    rcases (by omega : r = 0 ∨ r = 1 ∨ r = 2 ∨ r = 3 ∨ r = 4) with rfl | rfl | rfl | rfl | rfl <;> (cases hu; rw [← Nat.add_assoc]; assumption)

end Go.Proofs.YtchffaohmeaccaaDoor
