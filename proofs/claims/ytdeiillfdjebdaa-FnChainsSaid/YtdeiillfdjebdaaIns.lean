/- Contract: spec.l04Insert puts a person into a list. -/
import Derived.Test.YtdeiillfdjebdaaChecked
import Derived.Test.YtdeiillfdjebdaaBase
import Derived.Test.YtdeiillfdjebdaaPure40
import Derived.Test.YtdeiillfdjebdaaPersLaw
import Derived.Test.YtdeiillfdjebdaaPersSlice
import Derived.Test.YtdeiillfdjebdaaGood4
import Derived.Test.YtdeiillfdjebdaaFacts2
import Derived.WalkKit
import Derived.WalkSpells
import Derived.WalkLawsBesides
import Derived.Lib.Hide
import Derived.IntWalk
import Derived.Deep.OwnRows
import Derived.Deep.QuietTactic
import Derived.BigQuiet
import Derived.Outline
namespace Go.Proofs.Ytdeiillfdjebdaa
open Go.RowKit Pure1 Pure40

/-- the cells of a list of persons -/
def flatP (ps : List Pers) : List Value := ps.flatMap Pers.cells
theorem flat_nil : flatP [] = [] := rfl
theorem flat_cons (p : Pers) (ps : List Pers) : flatP (p :: ps) = p.cells ++ flatP ps := rfl
theorem flat_append (ps qs : List Pers) : flatP (ps ++ qs) = flatP ps ++ flatP qs := by simp [flatP]
theorem flat_len : ∀ ps : List Pers, (flatP ps).length = ps.length * 5
  | [] => rfl
  | p :: ps => by rw [flat_cons, List.length_append, flat_len ps, List.length_cons]; show 5 + _ = _; omega
theorem flat_at {ps : List Pers} {i : Nat} {p : Pers} (h : ps[i]? = some p) : ∀ k, k < 5 → (flatP ps)[i * 5 + k]? = p.cells[k]? := by
  induction ps generalizing i with
  | nil => simp at h
  | cons q qs ih =>
    intro k hk
    rw [flat_cons]
    cases i with
    | zero =>
      simp at h; subst h
      rw [List.getElem?_append_left (by show 0 * 5 + k < 5; omega)]
      congr 1; omega
    | succ i =>
      rw [List.getElem?_append_right (by show 5 ≤ _; omega)]
      have := ih (i := i) (by simpa using h) k hk
      rw [show (i + 1) * 5 + k - q.cells.length = i * 5 + k from by show (i + 1) * 5 + k - 5 = _; omega]
      exact this
theorem flat_take (ps : List Pers) : ∀ k, flatP (ps.take k) = (flatP ps).take (k * 5) := by
  induction ps with
  | nil => intro k; simp [flatP]
  | cons p ps ih =>
    intro k
    cases k with
    | zero => simp [flatP]
    | succ k => rw [List.take_succ_cons, flat_cons, flat_cons, ih k, List.take_append, show (k + 1) * 5 - p.cells.length = k * 5 from by show (k + 1) * 5 - 5 = _; omega, List.take_of_length_le (l := p.cells) (by show 5 ≤ _; omega)]
theorem flat_drop (ps : List Pers) : ∀ k, flatP (ps.drop k) = (flatP ps).drop (k * 5) := by
  induction ps with
  | nil => intro k; simp [flatP]
  | cons p ps ih =>
    intro k
    cases k with
    | zero => simp [flatP]
    | succ k => rw [List.drop_succ_cons, flat_cons, ih k, List.drop_append, show (k + 1) * 5 - p.cells.length = k * 5 from by show (k + 1) * 5 - 5 = _; omega, show p.cells.drop ((k + 1) * 5) = [] from List.drop_of_length_le (by show 5 ≤ _; omega), List.nil_append]
theorem flat_one {ps : List Pers} : ∀ u ∈ flatP ps, u.oneCell' = true := by
  intro u hu
  obtain ⟨p, _, hp⟩ := List.mem_flatMap.1 hu
  simp only [Pers.cells, List.mem_cons, List.not_mem_nil, or_false] at hp
  rcases hp with rfl | rfl | rfl | rfl | rfl <;> rfl

/-- a list of persons of our own -/
def OwnP (w : World) (B : Nat) (v : Value) (ps : List Pers) : Prop :=
  (∃ g cap, v = .slice (some ⟨g, 0, none⟩) ps.length cap) ∧ w.ownsRow B 51 5 v ps.length (flatP ps)
theorem OwnP.cell {w : World} {B g cap n : Nat} {ps : List Pers} (h : OwnP w B (.slice (some ⟨g, 0, none⟩) n cap) ps) {j : Nat} {u : Value} (hu : (flatP ps)[j]? = some u) : w.cell? ⟨g, j, none⟩ = some u := by
  have := h.2.cells (g := g) rfl j u hu
  rw [show (⟨g, 0, none⟩ : Addr).add j = ⟨g, j, none⟩ from by simp [Addr.add]; intro h; exact h.symm] at this
  exact this
theorem OwnP.at {w : World} {B g cap n : Nat} {ps : List Pers} (h : OwnP w B (.slice (some ⟨g, 0, none⟩) n cap) ps) {i : Nat} {p : Pers} (hp : ps[i]? = some p) : AtP w g (i * 5) p :=
  ⟨h.cell (flat_at hp 0 (by omega)), h.cell (flat_at hp 1 (by omega)), h.cell (flat_at hp 2 (by omega)), h.cell (flat_at hp 3 (by omega)), h.cell (flat_at hp 4 (by omega))⟩
theorem OwnP.pers {w : World} {B g cap n : Nat} {ps : List Pers} (h : OwnP w B (.slice (some ⟨g, 0, none⟩) n cap) ps) : PersAt w (some ⟨g, 0, none⟩) ps :=
  .inr ⟨g, 0, rfl, fun i p hp => by rw [Nat.zero_add]; exact h.at hp⟩
theorem OwnP.below {w w' : World} {B : Nat} {v : Value} {ps : List Pers} (h : OwnP w B v ps) (hb : Below w.heap.size w w') : OwnP w' B v ps := by
  obtain ⟨⟨g, cap, rfl⟩, h1, h2⟩ := h
  refine ⟨⟨g, cap, rfl⟩, h1, ?_⟩
  rcases h2 with ⟨h3, _⟩ | ⟨g', cap', cur, h3, h4, h5, h6⟩
  · cases h3
  · exact .inr ⟨g', cap', cur, h3, h4, (hb.block _ (Array.getElem?_eq_some_iff.1 h5).1).trans h5, h6⟩
theorem OwnP.base {w : World} {B B' : Nat} {v : Value} {ps : List Pers} (h : OwnP w B v ps) (hb : B' ≤ B) : OwnP w B' v ps := by
  obtain ⟨h0, h1, h2⟩ := h
  refine ⟨h0, h1, ?_⟩
  rcases h2 with h3 | ⟨g', cap', cur, h3, h4, h5⟩
  · exact .inl h3
  · exact .inr ⟨g', cap', cur, h3, Nat.le_trans hb h4, h5⟩

theorem Try.info_pers' : ∃ i z, Try.prog.info? 51 = some i ∧ i.zero = some z ∧ i.size = 5 ∧ i.bytes = 56 ∧ z.cells.size = 5 := by
  obtain ⟨i, hi, hzz⟩ := Option.map_eq_some_iff.1 Try.info_pers
  simp only [Prod.mk.injEq] at hzz
  exact ⟨i, _, hi, hzz.1, hzz.2.1, hzz.2.2, rfl⟩

/-- persons appended to a list of our own -/
theorem own_append {w : World} {B : Nat} {v : Value} {ps qs : List Pers} (ty : TypeId) (h : OwnP w B v ps) (a : Addr) (c : Nat) (hq : ∀ j u, (flatP qs)[j]? = some u → w.cell? (a.add j) = some u) (hl : ps.length + qs.length ≤ 100000) (hB : B ≤ w.heap.size) :
    ∃ v' w', (Builtin.append_ #[24, 24] ty #[v, .slice (some a) qs.length c]).run Try.prog w = .ok v' w' ∧ OwnP w' B v' (ps ++ qs) ∧ w.grownBy w' v.ownBlock := by
  obtain ⟨i, z, hi, hz, h5, h56, hzs⟩ := Try.info_pers'
  obtain ⟨v', w', h1, h2, h3, h4⟩ := run_append_own (P := Try.prog) w B 24 ty 51 i z 5 56 Try.underlying24 hi hz h5 h56 hzs (by omega) v ps.length (flatP ps) h.2 a qs.length c (flatP qs) (flat_len qs) hq flat_one (by unfold maxLen; omega) (by omega) hB
  refine ⟨v', w', h1, ⟨?_, ?_⟩, h3⟩
  · obtain ⟨g, cap, hv⟩ := h.1
    rcases h2.2 with ⟨h5, _⟩ | ⟨g', cap', cur, h5, _⟩
    · have := (h4.1 h5).1; rw [hv] at this; cases this
    · exact ⟨g', cap', by rw [h5, List.length_append]⟩
  · rw [List.length_append, flat_append]; exact h2

theorem OwnP.other {w w' : World} {B g : Nat} {v : Value} {ps : List Pers} (h : OwnP w B v ps) (hne : ps ≠ []) (he : ∃ cur T, w.heap[g]? = some (.cells cur T (0, 0)) ∧ cur.size = 0) (hg : w.grownBy w' (some g)) : OwnP w' B v ps := by
  refine ⟨h.1, h.2.kept hg (.inr ?_)⟩
  intro e
  obtain ⟨_, _, h2⟩ := h
  rcases h2 with ⟨rfl, _⟩ | ⟨g', cap, cur, rfl, _, h5, h6, _, h7, _⟩
  · cases e
  · obtain rfl : g' = g := Option.some.inj e
    obtain ⟨cur', T, h8, h9⟩ := he
    rw [h5] at h8
    injection h8 with h8; injection h8 with h8 _ _; subst h8
    have : 0 < ps.length := List.length_pos_iff.2 hne
    omega
theorem step_append {P : Program} {ev : Operand → Value} {o : Oper} {w w' : World} {K : Value → World → Prop} {v : Value} {s x : Operand} {t : TypeId} (ho : o.op = .call { callee := .builtin .append, args := #[s, x], argTypes := #[t, t] })
    (hr : (Builtin.append_ #[t, t] o.type #[ev s, ev x]).run P w = .ok v w') (h : K v w') : stepTo P ((execOp ev o).run P w) K := by
  unfold execOp
  simp only [ho, resolve, invoke, builtin, Sem.run_bind, Sem.run_pure, Result.andThen_ok, List.map_toArray, List.map_cons, List.map_nil, hr, stepTo]
  exact h

/-- what holds of the world while the lists are put together -/
def InsG (B : Nat) (w1 w : World) : Prop := Below B w1 w ∧ w1.heap.size ≤ w.heap.size
def InsR (B : Nat) (i : Nat) (w w' : World) : Prop := if i = 7 ∨ i = 11 then Below B w w' else if i = 4 then ∃ g, (∃ cur T, w.heap[g]? = some (.cells cur T (0, 0)) ∧ cur.size = 0) ∧ w.grownBy w' (some g) else Below w.heap.size w w'
/-- what each operation leaves: the list lies in g, the person in the box bx -/
def InsF (B g cap k : Nat) (p : Pers) (ps : List Pers) : Nat → Value → World → Prop
  | 0, v, w => (∃ g, v = .slice (some ⟨g, 0, none⟩) 0 0) ∧ OwnP w B v []
  | 1, v, _ | 8, v, _ => v = .slice (some ⟨g, 0, none⟩) ps.length cap
  | 2, v, _ | 9, v, _ => v = .int .i64 (k : Int)
  | 3, v, _ => ∃ c, v = .slice (some ⟨g, 0, none⟩) k c
  | 4, v, w => OwnP w B v (ps.take k)
  | 5, v, _ => v = .agg #[.int .i64 p.num, .string p.fst, .string p.lst, .int .i64 p.born, .int .i64 p.zone]
  | 6, v, w => OwnP w B v [p]
  | 7, v, w => OwnP w B v (ps.take k ++ [p])
  | 10, v, _ => ∃ c off, v = .slice (some ⟨g, off, none⟩) (ps.length - k) c ∧ (off = k * 5 ∨ ps.drop k = [])
  | 11, v, w | 12, v, w => OwnP w B v (ps.take k ++ [p] ++ ps.drop k)
  | _, _, _ => True
def insGone : Nat → Option Nat
  | 0 | 3 => some 4
  | 4 | 6 => some 7
  | 7 | 10 => some 11
  | 11 => some 12
  | _ => none
def insKeep (i j : Nat) : Bool := !((i == 4 && (j == 0 || j == 4)) || (i == 7 || i == 11) && (j == 0 || j == 4 || j == 6 || j == 7 || j == 11 || j == 12))
end Go.Proofs.Ytdeiillfdjebdaa
