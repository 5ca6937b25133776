/- Lists of numbers of our own, for regions that draw their order. -/
import Derived.Test.YtekhdggaelppkaaChecked
import Derived.Test.YtekhdggaelppkaaBase0
import Derived.Test.YtekhdggaelppkaaInfo
import Derived.WalkKit
import Derived.WalkSpells
import Derived.WalkLawsBesides
import Derived.Deep.OwnRows
import Derived.Outline
namespace Go.Proofs.Ytekhdggaelppkaa
open Go.RowKit Pure2

def valsI (zs : List Int) : List Value := zs.map (Value.int .i64)
theorem valsI_len (zs : List Int) : (valsI zs).length = zs.length * 1 := by simp [valsI]
theorem valsI_append (xs ys : List Int) : valsI (xs ++ ys) = valsI xs ++ valsI ys := by simp [valsI]
theorem valsI_one {zs : List Int} : ∀ u ∈ valsI zs, u.oneCell' = true := by
  intro u hu; obtain ⟨x, _, rfl⟩ := List.mem_map.1 hu; rfl
theorem valsI_at {zs : List Int} {i : Nat} {x : Int} (h : zs[i]? = some x) : (valsI zs)[i]? = some (.int .i64 x) := by simp [valsI, h]
def IntL (w : World) (B : Nat) (v : Value) (zs : List Int) : Prop :=
  (∃ g cap, v = .slice (some ⟨g, 0, none⟩) zs.length cap) ∧ w.ownsRow B 2 1 v zs.length (valsI zs)
theorem IntL.cell {w : World} {B g cap n : Nat} {zs : List Int} (h : IntL w B (.slice (some ⟨g, 0, none⟩) n cap) zs) {j : Nat} {u : Value} (hu : (valsI zs)[j]? = some u) : w.cell? ⟨g, j, none⟩ = some u := by
  have := h.2.cells (g := g) rfl j u hu
  rw [show (⟨g, 0, none⟩ : Addr).add j = ⟨g, j, none⟩ from by simp [Addr.add]; intro h; exact h.symm] at this
  exact this
theorem IntL.reads {w : World} {B g cap n : Nat} {zs : List Int} (h : IntL w B (.slice (some ⟨g, 0, none⟩) n cap) zs) : IntsAt w (some ⟨g, 0, none⟩) zs :=
  .inr ⟨g, 0, rfl, fun i x hx => by rw [Nat.zero_add]; exact h.cell (valsI_at hx)⟩
theorem IntL.below {w w' : World} {B : Nat} {v : Value} {zs : List Int} (h : IntL w B v zs) (hb : Below w.heap.size w w') : IntL w' B v zs := by
  obtain ⟨⟨g, cap, rfl⟩, h1, h2⟩ := h
  refine ⟨⟨g, cap, rfl⟩, h1, ?_⟩
  rcases h2 with ⟨h3, _⟩ | ⟨g', cap', cur, h3, h4, h5, h6⟩
  · cases h3
  · exact .inr ⟨g', cap', cur, h3, h4, (hb.block _ (Array.getElem?_eq_some_iff.1 h5).1).trans h5, h6⟩
theorem IntL.base {w : World} {B B' : Nat} {v : Value} {zs : List Int} (h : IntL w B v zs) (hb : B' ≤ B) : IntL w B' v zs := by
  obtain ⟨h0, h1, h2⟩ := h
  refine ⟨h0, h1, ?_⟩
  rcases h2 with h3 | ⟨g', cap', cur, h3, h4, h5⟩
  · exact .inl h3
  · exact .inr ⟨g', cap', cur, h3, Nat.le_trans hb h4, h5⟩
theorem intL_empty {w : World} {N : Nat} (hN : N ≤ w.heap.size) : IntL (w.alloc (.cells #[] 2)) N (.slice (some ⟨w.heap.size, 0, none⟩) 0 0) [] :=
  ⟨⟨_, _, rfl⟩, World.ownsRow_lit w #[] 0 hN (by decide) rfl⟩
theorem IntL.grown {w w' : World} {N b : Nat} {v : Value} {zs : List Int} (h : IntL w N v zs) (hg : w.grownBy w' (some b)) (hb : b < N) : IntL w' N v zs :=
  ⟨h.1, h.2.kept hg (by
    obtain ⟨g, cap, hv⟩ := h.1
    refine .inr ?_
    intro e
    have := (h.2.lt b e).1; omega)⟩
theorem IntL.other {w w' : World} {B g : Nat} {v : Value} {zs : List Int} (h : IntL w B v zs) (hne : zs ≠ []) (he : ∃ cur T, w.heap[g]? = some (.cells cur T (0, 0)) ∧ cur.size = 0) (hg : w.grownBy w' (some g)) : IntL w' B v zs := by
  refine ⟨h.1, h.2.kept hg (.inr ?_)⟩
  intro e
  obtain ⟨_, _, h2⟩ := h
  rcases h2 with ⟨rfl, _⟩ | ⟨g', cap, cur, rfl, _, h5, h6, _, h7, _⟩
  · cases e
  · obtain rfl : g' = g := Option.some.inj e
    obtain ⟨cur', T, h8, h9⟩ := he
    rw [h5] at h8
    injection h8 with h8; injection h8 with h8 _ _; subst h8
    have : 0 < zs.length := List.length_pos_iff.2 hne
    omega
theorem intL_append {w : World} {B : Nat} {v : Value} {ts qs : List Int} (ty : TypeId) (h : IntL w B v ts) (a : Addr) (c : Nat) (hq : ∀ j u, (valsI qs)[j]? = some u → w.cell? (a.add j) = some u) (hl : ts.length + qs.length ≤ 100000) (hB : B ≤ w.heap.size) :
    ∃ v' w', (Builtin.append_ #[24, 24] ty #[v, .slice (some a) qs.length c]).run Try.prog w = .ok v' w' ∧ IntL w' B v' (ts ++ qs) ∧ w.grownBy w' v.ownBlock := by
  obtain ⟨i, hi, hzz⟩ := Option.map_eq_some_iff.1 Try.info_i64
  simp only [Prod.mk.injEq] at hzz
  obtain ⟨hz, h5, h56⟩ := hzz
  obtain ⟨v', w', h1, h2, h3, h4⟩ := run_append_own (P := Try.prog) w B 24 ty 2 i (.int .i64 0) 1 8 Try.underlying24 hi hz h5 h56 rfl (by omega) v ts.length (valsI ts) h.2 a qs.length c (valsI qs) (valsI_len qs) hq valsI_one (by unfold maxLen; omega) (by omega) hB
  refine ⟨v', w', h1, ⟨?_, ?_⟩, h3⟩
  · obtain ⟨g, cap, hv⟩ := h.1
    rcases h2.2 with ⟨h5, _⟩ | ⟨g', cap', cur, h5, _⟩
    · have := (h4.1 h5).1; rw [hv] at this; cases this
    · exact ⟨g', cap', by rw [h5, List.length_append]⟩
  · rw [List.length_append, valsI_append]; exact h2
end Go.Proofs.Ytekhdggaelppkaa
