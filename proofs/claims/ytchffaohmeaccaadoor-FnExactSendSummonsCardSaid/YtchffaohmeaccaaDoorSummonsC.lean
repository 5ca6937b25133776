/- Lists of Summons that a call builds by appending. (written by flat.py) -/
import Derived.Test.YtchffaohmeaccaaDoorChecked
import Derived.Test.YtchffaohmeaccaaDoorBase0
import Derived.Test.YtchffaohmeaccaaDoorSummonsB
import Derived.WalkKit
import Derived.WalkSpells
import Derived.WalkLawsBesides
import Derived.Lib.Hide
import Derived.IntWalk
import Derived.Deep.OwnRows
import Derived.Deep.MidRow
import Derived.Maps.AppendAt
import Derived.OwnWalk
import Derived.Outline
namespace Go.Proofs.YtchffaohmeaccaaDoor
open Go.RowKit Pure1 Pure2

def Summons.vals (ts : List Summons) : List Value := ts.flatMap Summons.cells
theorem Summons.vals_cons (p : Summons) (ts : List Summons) : Summons.vals (p :: ts) = p.cells ++ Summons.vals ts := rfl
theorem Summons.vals_append (ts qs : List Summons) : Summons.vals (ts ++ qs) = Summons.vals ts ++ Summons.vals qs := by simp [Summons.vals]
theorem Summons.vals_len : ∀ ts : List Summons, (Summons.vals ts).length = ts.length * 5
  | [] => rfl
  | p :: ts => by rw [Summons.vals_cons, List.length_append, Summons.vals_len ts, List.length_cons]; show 5 + _ = _; omega
theorem Summons.vals_at {ts : List Summons} {i : Nat} {p : Summons} (h : ts[i]? = some p) : ∀ k, k < 5 → (Summons.vals ts)[i * 5 + k]? = p.cells[k]? := by
  induction ts generalizing i with
  | nil => simp at h
  | cons q qs ih =>
    intro k hk
    rw [Summons.vals_cons]
    cases i with
    | zero =>
      simp at h; subst h
      rw [List.getElem?_append_left (by show 0 * 5 + k < 5; omega)]
      congr 1; omega
    | succ i =>
      rw [List.getElem?_append_right (by show 5 ≤ _; omega)]
      have := ih (i := i) (by simpa using h) k hk
      rw [show (i + 1) * 5 + k - q.cells.length = i * 5 + k from by show (i + 1) * 5 + k - 5 = _; omega]
      exact this
theorem Summons.vals_one {ts : List Summons} : ∀ u ∈ Summons.vals ts, u.oneCell' = true := by
  intro u hu
  obtain ⟨p, _, hp⟩ := List.mem_flatMap.1 hu
  simp only [Summons.cells, List.mem_cons, List.not_mem_nil, or_false] at hp
  rcases hp with rfl | rfl | rfl | rfl | rfl <;> rfl

/-- a list of our own, from block B on -/
def Summons.L (w : World) (B : Nat) (v : Value) (ts : List Summons) : Prop :=
  (∃ g cap, v = .slice (some ⟨g, 0, none⟩) ts.length cap) ∧ w.ownsRow B 53 5 v ts.length (Summons.vals ts)
theorem Summons.L.cell {w : World} {B g cap n : Nat} {ts : List Summons} (h : Summons.L w B (.slice (some ⟨g, 0, none⟩) n cap) ts) {j : Nat} {u : Value} (hu : (Summons.vals ts)[j]? = some u) : w.cell? ⟨g, j, none⟩ = some u := by
  have := h.2.cells (g := g) rfl j u hu
  rw [show (⟨g, 0, none⟩ : Addr).add j = ⟨g, j, none⟩ from by simp [Addr.add]; intro h; exact h.symm] at this
  exact this
theorem Summons.L.at {w : World} {B g cap n : Nat} {ts : List Summons} (h : Summons.L w B (.slice (some ⟨g, 0, none⟩) n cap) ts) {i : Nat} {p : Summons} (hp : ts[i]? = some p) : Summons.At w g (i * 5) p :=
  ⟨h.cell (Summons.vals_at hp 0 (by omega)), h.cell (Summons.vals_at hp 1 (by omega)), h.cell (Summons.vals_at hp 2 (by omega)), h.cell (Summons.vals_at hp 3 (by omega)), h.cell (Summons.vals_at hp 4 (by omega))⟩
theorem Summons.L.reads {w : World} {B g cap n : Nat} {ts : List Summons} (h : Summons.L w B (.slice (some ⟨g, 0, none⟩) n cap) ts) : Summons.ListAt w (some ⟨g, 0, none⟩) ts :=
  .inr ⟨g, 0, rfl, fun i p hp => by rw [Nat.zero_add]; exact h.at hp⟩
theorem Summons.L.below {w w' : World} {B : Nat} {v : Value} {ts : List Summons} (h : Summons.L w B v ts) (hb : Below w.heap.size w w') : Summons.L w' B v ts := by
  obtain ⟨⟨g, cap, rfl⟩, h1, h2⟩ := h
  refine ⟨⟨g, cap, rfl⟩, h1, ?_⟩
  rcases h2 with ⟨h3, _⟩ | ⟨g', cap', cur, h3, h4, h5, h6⟩
  · cases h3
  · exact .inr ⟨g', cap', cur, h3, h4, (hb.block _ (Array.getElem?_eq_some_iff.1 h5).1).trans h5, h6⟩
theorem Summons.L.base {w : World} {B B' : Nat} {v : Value} {ts : List Summons} (h : Summons.L w B v ts) (hb : B' ≤ B) : Summons.L w B' v ts := by
  obtain ⟨h0, h1, h2⟩ := h
  refine ⟨h0, h1, ?_⟩
  rcases h2 with h3 | ⟨g', cap', cur, h3, h4, h5⟩
  · exact .inl h3
  · exact .inr ⟨g', cap', cur, h3, Nat.le_trans hb h4, h5⟩
theorem Tryd.infoSummons' : ∃ i z, Tryd.prog.info? 53 = some i ∧ i.zero = some z ∧ i.size = 5 ∧ i.bytes = 40 ∧ z.cells.size = 5 := by
  obtain ⟨i, hi, hzz⟩ := Option.map_eq_some_iff.1 Tryd.infoSummons
  simp only [Prod.mk.injEq] at hzz
  exact ⟨i, _, hi, hzz.1, hzz.2.1, hzz.2.2, rfl⟩
theorem Summons.L_lit {w : World} {N : Nat} (q : Summons) (hN : N ≤ w.heap.size) : Summons.L (w.alloc (.cells #[.int .i64 q.num, .int .i64 q.sent, .int .i64 q.due, .int .i64 q.ans, .int .i64 q.done] 53)) N (.slice (some ⟨w.heap.size, 0, none⟩) 1 1) [q] :=
  ⟨⟨_, _, rfl⟩, World.ownsRow_lit w #[.int .i64 q.num, .int .i64 q.sent, .int .i64 q.due, .int .i64 q.ans, .int .i64 q.done] 1 hN (by decide) rfl⟩
theorem Summons.L_empty {w : World} {N : Nat} (hN : N ≤ w.heap.size) : Summons.L (w.alloc (.cells #[] 53)) N (.slice (some ⟨w.heap.size, 0, none⟩) 0 0) [] :=
  ⟨⟨_, _, rfl⟩, World.ownsRow_lit w #[] 0 hN (by decide) rfl⟩
theorem Summons.L.grown {w w' : World} {N b : Nat} {v : Value} {ts : List Summons} (h : Summons.L w N v ts) (hg : w.grownBy w' (some b)) (hb : b < N) : Summons.L w' N v ts :=
  ⟨h.1, h.2.kept hg (by
    obtain ⟨g, cap, hv⟩ := h.1
    refine .inr ?_
    intro e
    have := (h.2.lt b e).1; omega)⟩
theorem Summons.L.alloc {w : World} {N : Nat} {v : Value} {ts : List Summons} (h : Summons.L w N v ts) (o : Obj) : Summons.L (w.alloc o) N v ts := h.below (Summons.bx w o)
/-- it lies in a row of the call's own -/
theorem Summons.L.own {w : World} {B : Nat} {v : Value} {ts : List Summons} (h : Summons.L w B v ts) : ∃ a cap, v = .slice a ts.length cap ∧ Summons.Own B w a ts.length (Summons.flat ts) := by
  obtain ⟨⟨g, cap, rfl⟩, hh⟩ := id h
  refine ⟨_, cap, rfl, ?_⟩
  by_cases h0 : ts.length = 0
  · exact .inl h0
  obtain ⟨h1, ⟨e, h2⟩ | ⟨g', cap', cur, e, hg, hb, hn, hc, hs, hr⟩⟩ := hh
  · exact absurd h2 h0
  · cases e
    refine .inr ⟨g, fun i => cur.getD i (.int .i64 0), cap, rfl, hg, hn, ⟨cur, hb, hs, fun i hi => ?_⟩, fun j hj => ?_⟩
    · simp [Array.getD, show i < cur.size by omega]
    · obtain ⟨q, r, hr', rfl⟩ : ∃ q r, r < 5 ∧ j = q * 5 + r := ⟨j / 5, j % 5, Nat.mod_lt _ (by omega), by omega⟩
      have hq : q < ts.length := by omega
      have hcq : ts[q]? = some (ts[q]'hq) := List.getElem?_eq_getElem hq
      have hx := Summons.vals_at hcq r hr'
      rw [← hr, List.getElem?_take_of_lt (by omega), Array.getElem?_toList, Array.getElem?_eq_getElem (by omega)] at hx
      obtain ⟨g0, g1, g2, g3, g4⟩ := Summons.flat_at hcq
      have hv : cur.getD (q * 5 + r) (.int .i64 0) = cur[q * 5 + r]'(by omega) := by simp [Array.getD, show q * 5 + r < cur.size by omega]
      show cur.getD (q * 5 + r) (.int .i64 0) = _
      rw [hv]
      rcases (by omega : r = 0 ∨ r = 1 ∨ r = 2 ∨ r = 3 ∨ r = 4) with rfl | rfl | rfl | rfl | rfl
      · have e := Option.some.inj hx; exact e.trans (by rw [Nat.add_zero, g0])
      · have e := Option.some.inj hx; exact e.trans (by rw [g1])
      · have e := Option.some.inj hx; exact e.trans (by rw [g2])
      · have e := Option.some.inj hx; exact e.trans (by rw [g3])
      · have e := Option.some.inj hx; exact e.trans (by rw [g4])
def Summons.lenL : Value → Nat
  | .slice _ n _ => n
  | _ => 0
theorem Summons.L.len {w : World} {N : Nat} {v : Value} {ts : List Summons} (h : Summons.L w N v ts) : Summons.lenL v = ts.length := by obtain ⟨⟨g, cap, rfl⟩, _⟩ := h; rfl
theorem Summons.append_run {w : World} {B : Nat} {v : Value} {ts qs : List Summons} (ty : TypeId) (h : Summons.L w B v ts) (a : Addr) (c : Nat) (hq : ∀ j u, (Summons.vals qs)[j]? = some u → w.cell? (a.add j) = some u) (hl : ts.length + qs.length ≤ 100000) (hB : B ≤ w.heap.size) :
    ∃ v' w', (Builtin.append_ #[24, 24] ty #[v, .slice (some a) qs.length c]).run Tryd.prog w = .ok v' w' ∧ Summons.L w' B v' (ts ++ qs) ∧ w.grownBy w' v.ownBlock := by
  obtain ⟨i, z, hi, hz, h5, h56, hzs⟩ := Tryd.infoSummons'
  obtain ⟨v', w', h1, h2, h3, h4⟩ := run_append_own (P := Tryd.prog) w B 24 ty 53 i z 5 40 Tryd.underlying24 hi hz h5 h56 hzs (by omega) v ts.length (Summons.vals ts) h.2 a qs.length c (Summons.vals qs) (Summons.vals_len qs) hq Summons.vals_one (by unfold maxLen; omega) (by omega) hB
  refine ⟨v', w', h1, ⟨?_, ?_⟩, h3⟩
  · obtain ⟨g, cap, hv⟩ := h.1
    rcases h2.2 with ⟨h5, _⟩ | ⟨g', cap', cur, h5, _⟩
    · have := (h4.1 h5).1; rw [hv] at this; cases this
    · exact ⟨g', cap', by rw [h5, List.length_append]⟩
  · rw [List.length_append, Summons.vals_append]; exact h2
theorem Summons.L.other {w w' : World} {B g : Nat} {v : Value} {ts : List Summons} (h : Summons.L w B v ts) (hne : ts ≠ []) (he : ∃ cur T, w.heap[g]? = some (.cells cur T (0, 0)) ∧ cur.size = 0) (hg : w.grownBy w' (some g)) : Summons.L w' B v ts := by
  refine ⟨h.1, h.2.kept hg (.inr ?_)⟩
  intro e
  obtain ⟨_, _, h2⟩ := h
  rcases h2 with ⟨rfl, _⟩ | ⟨g', cap, cur, rfl, _, h5, h6, _, h7, _⟩
  · cases e
  · obtain rfl : g' = g := Option.some.inj e
    obtain ⟨cur', T, h8, h9⟩ := he
    rw [h5] at h8
    injection h8 with h8; injection h8 with h8 _ _; subst h8
    have : 0 < ts.length := List.length_pos_iff.2 hne
    have := Nat.mul_le_mul_right 5 h6
    omega
theorem wpList_Summons_append {ops : Array Oper} {rest : List Oper} {o : Oper} {a : Act} {Q : Exit → Act → World → Prop} {w : World} {N : Nat} (hgd : o.guard = none) (s x : Operand)
    (ho : o.op = .call { callee := .builtin .append, args := #[s, x], argTypes := #[24, 24] })
    (v : Value) (ts : List Summons) (hs : a.eval s = v) (h : Summons.L w N v ts) (ad : Addr) (m c : Nat) (qs : List Summons) (hm : qs.length = m) (hx : a.eval x = .slice (some ad) m c) (hq : ∀ j u, (Summons.vals qs)[j]? = some u → w.cell? (ad.add j) = some u)
    (hl : ts.length + qs.length ≤ 100000) (hB : N ≤ w.heap.size)
    (hk : ∀ v' w', Summons.L w' N v' (ts ++ qs) → w.grownBy w' v.ownBlock → (v'.ownBlock = v.ownBlock ∨ v'.ownBlock = some w.heap.size) → wpList Tryd.prog ops Q rest (a.put o.dst v') w') : wpList Tryd.prog ops Q (o :: rest) a w := by
  obtain ⟨i, z, hi, hz, h5, h56, hzs⟩ := Tryd.infoSummons'
  subst hm
  refine wpList_append_own_at (P := Tryd.prog) w hgd s x 24 ho N 53 i z 5 40 Tryd.underlying24 hi hz h5 h56 hzs (by omega) v ts.length (Summons.vals ts) hs h.2 ad qs.length c (Summons.vals qs) hx (Summons.vals_len qs) hq Summons.vals_one (by unfold maxLen; omega) (by omega) hB ?_
  intro v' w' h1 h2 h3 h4
  refine hk v' w' ⟨?_, ?_⟩ h2 h4
  · obtain ⟨g, cap, hv⟩ := h.1
    rcases h1.2 with ⟨h5, _⟩ | ⟨g', cap', cur, h5, _⟩
    · have := (h3.1 h5).1; rw [hv] at this; cases this
    · exact ⟨g', cap', by rw [h5, List.length_append]⟩
  · rw [List.length_append, Summons.vals_append]; exact h1
end Go.Proofs.YtchffaohmeaccaaDoor
