/- Lists of calls that a call builds, nil at first. -/
import Derived.Test.YtekhdggaelppkaaChecked
import Derived.Test.YtekhdggaelppkaaBase0
import Derived.Test.YtekhdggaelppkaaCallB
import Derived.Test.YtekhdggaelppkaaCallC
import Derived.WalkKit
import Derived.Maps.AppendAt
import Derived.WalkSpells
import Derived.WalkLawsBesides
import Derived.Lib.OwnBridge
namespace Go.Proofs.Ytekhdggaelppkaa
open Go.RowKit Pure1 Pure2

/-- a list that is being built (from block B on) -/
def Call.Bd (w : World) (B : Nat) (v : Value) (ts : List Call) : Prop := w.ownsRow B 41 4 v ts.length (Call.vals ts)
theorem Call.Bd.nil (w : World) (B : Nat) : Call.Bd w B (.slice none 0 0) [] := World.ownsRow_nil _ _ _ _
theorem Call.Bd.parts {w : World} {B : Nat} {v : Value} {ts : List Call} (h : Call.Bd w B v ts) : (v = .slice none 0 0 ∧ ts = []) ∨ Call.L w B v ts := by
  rcases h.2 with ⟨rfl, h0⟩ | ⟨g, cap, cur, rfl, h3⟩
  · exact .inl ⟨rfl, List.length_eq_zero_iff.1 h0⟩
  · exact .inr ⟨⟨g, cap, rfl⟩, h⟩
theorem Call.Bd.below {w w' : World} {B : Nat} {v : Value} {ts : List Call} (h : Call.Bd w B v ts) (hb : Below w.heap.size w w') : Call.Bd w' B v ts := by
  rcases h.parts with ⟨rfl, rfl⟩ | h
  · exact Call.Bd.nil _ _
  · exact (h.below hb).2
theorem Call.Bd.base {w : World} {B B' : Nat} {v : Value} {ts : List Call} (h : Call.Bd w B v ts) (hb : B' ≤ B) : Call.Bd w B' v ts := by
  rcases h.parts with ⟨rfl, rfl⟩ | h
  · exact Call.Bd.nil _ _
  · exact (h.base hb).2
theorem Call.Bd.alloc {w : World} {B : Nat} {v : Value} {ts : List Call} (h : Call.Bd w B v ts) (o : Obj) : Call.Bd (w.alloc o) B v ts := h.below (Call.bx w o)
theorem Call.Bd.slice {w : World} {B : Nat} {v : Value} {ts : List Call} (h : Call.Bd w B v ts) : ∃ a cap, v = .slice a ts.length cap ∧ Call.ListAt w a ts := by
  rcases h.parts with ⟨rfl, rfl⟩ | h
  · exact ⟨_, _, rfl, .inl rfl⟩
  · obtain ⟨⟨g, cap, rfl⟩, _⟩ := id h
    exact ⟨_, _, rfl, h.reads⟩
theorem Call.Bd.grew {B C : Nat} {w0 w w' : World} {v : Value} {ts : List Call} (h : Call.Bd w B v ts) (hB : Below C w0 w) (hC : C ≤ B) (hs : C ≤ w.heap.size) (hg : w.grownBy w' v.ownBlock) : Below C w0 w' :=
  hB.grown hg hs (fun k hk => Nat.le_trans hC (h.lt k hk).1)

section
variable {ops : Array Oper} {rest : List Oper} {o : Oper} {a : Act} {Q : Exit → Act → World → Prop} {w : World} {B : Nat}
/-- some terms more -/
theorem wpList_call_append (hgd : o.guard = none) (s x : Operand) (ho : o.op = .call { callee := .builtin .append, args := #[s, x], argTypes := #[25, 25] })
    (v : Value) (ts : List Call) (hs : a.eval s = v) (h : Call.Bd w B v ts) (ad : Addr) (m c : Nat) (qs : List Call) (hm : qs.length = m) (hx : a.eval x = .slice (some ad) m c) (hq : ∀ j u, (Call.vals qs)[j]? = some u → w.cell? (ad.add j) = some u)
    (hl : ts.length + qs.length ≤ 100000) (hB : B ≤ w.heap.size)
    (hk : ∀ v' w', Call.Bd w' B v' (ts ++ qs) → w.grownBy w' v.ownBlock → wpList Try.prog ops Q rest (a.put o.dst v') w') : wpList Try.prog ops Q (o :: rest) a w := by
  obtain ⟨i, z, hi, hz, h5, h56, hzs⟩ := Try.infoCall'
  subst hm
  refine wpList_append_own_at (P := Try.prog) w hgd s x 25 ho B 41 i z 4 32 Try.underlying25 hi hz h5 h56 hzs (by omega) v ts.length (Call.vals ts) hs h ad qs.length c (Call.vals qs) hx (Call.vals_len qs) hq Call.vals_one (by unfold maxLen; omega) (by omega) hB ?_
  intro v' w' h1 h2 _ _
  refine hk v' w' ?_ h2
  unfold Call.Bd
  rw [List.length_append, Call.vals_append]; exact h1
end
theorem Call.lit_cells (w : World) (c : Call) (T : TypeId) (j : Nat) (u : Value) (hu : (Call.vals [c])[j]? = some u) : (w.alloc (.cells #[.int .i64 c.num, .int .i64 c.fst, .int .i64 c.day, .int .i64 c.moves] T)).cell? ((⟨w.heap.size, 0, none⟩ : Addr).add j) = some u := by
  obtain ⟨h0, h1, h2, h3⟩ := Call.boxed w c T
  have hj : j < 4 := (List.getElem?_eq_some_iff.1 hu).1
  rw [Addr.add_mid, Nat.zero_add]
  match j, hj with
  | 0, _ => rw [h0]; exact hu
  | 1, _ => rw [h1]; exact hu
  | 2, _ => rw [h2]; exact hu
  | 3, _ => rw [h3]; exact hu
theorem Call.lit_cells2 (w : World) (o : Obj) (c : Call) (T : TypeId) (j : Nat) (u : Value) (hu : (Call.vals [c])[j]? = some u) : ((w.alloc o).alloc (.cells #[.int .i64 c.num, .int .i64 c.fst, .int .i64 c.day, .int .i64 c.moves] T)).cell? ((⟨w.heap.size + 1, 0, none⟩ : Addr).add j) = some u := by
  have h := Call.lit_cells (w.alloc o) c T j u hu
  rw [show (w.alloc o).heap.size = w.heap.size + 1 by simp] at h
  exact h
theorem vals_ofC2 {w : World} {a : Option Addr} {ad : Addr} {ts : List Call} (h : Call.ListAt w a ts) (ha : a = some ad) (j : Nat) (u : Value) (hu : (Call.vals ts)[j]? = some u) : w.cell? (ad.add j) = some u := by
  have hj : j < ts.length * 4 := by rw [← Call.vals_len]; exact (List.getElem?_eq_some_iff.1 hu).1
  rcases h with rfl | ⟨b, off, e, h⟩
  · simp at hj
  · rw [ha] at e
    cases e
    rw [Addr.add_mid]
    obtain ⟨q, r, hr, rfl⟩ : ∃ q r, r < 4 ∧ j = q * 4 + r := ⟨j / 4, j % 4, Nat.mod_lt _ (by omega), by omega⟩
    have hc : ts[q]? = some (ts[q]'(by omega)) := List.getElem?_eq_getElem (by omega)
    rw [Call.vals_at hc r hr] at hu
    obtain ⟨h0, h1, h2, h3⟩ := h q _ hc
    rcases (by omega : r = 0 ∨ r = 1 ∨ r = 2 ∨ r = 3) with rfl | rfl | rfl | rfl <;> (cases hu; rw [← Nat.add_assoc]; assumption)

end Go.Proofs.Ytekhdggaelppkaa
