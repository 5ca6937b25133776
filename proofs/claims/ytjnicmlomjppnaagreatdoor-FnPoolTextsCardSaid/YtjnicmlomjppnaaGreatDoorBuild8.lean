/- A list of numbers that is being built: a whole list is added. -/
import Derived.Test.YtjnicmlomjppnaaGreatDoorChecked
import Derived.Test.YtjnicmlomjppnaaGreatDoorBase0
import Derived.Test.YtjnicmlomjppnaaGreatDoorInfo
import Derived.Test.YtjnicmlomjppnaaGreatDoorIntL
import Derived.Test.YtjnicmlomjppnaaGreatDoorBuildI
import Derived.WalkKit
import Derived.WalkSpells
import Derived.WalkLawsBesides
import Derived.Laws.AppendOwnNone
import Derived.Maps.AppendAt
import Derived.Lib.Hide
import Derived.Lib.OwnBridge
import Derived.Deep.OwnRows
import Derived.Outline
namespace Go.Proofs.YtjnicmlomjppnaaGreatDoor
open Go.RowKit Go.Sort Pure2 Pure3

section
variable {ops : Array Oper} {rest : List Oper} {o : Oper} {a : Act} {Q : Exit → Act → World → Prop} {w : World} {B : Nat}
/-- a whole list more -/
theorem wpList_ints_append (hgd : o.guard = none) (s x : Operand) (ho : o.op = .call { callee := .builtin .append, args := #[s, x], argTypes := #[24, 24] })
    (v : Value) (zs : List Int) (hs : a.eval s = v) (h : BuildI B w v zs) (x' : Option Addr) (len cap : Nat) (ys : List Int) (hx : a.eval x = .slice x' len cap) (hl : ys.length = len) (hc : IntsAt w x' ys) (hn : x' = none → len = 0 ∧ cap = 0)
    (hm : zs.length + ys.length ≤ 1000000000) (hB : B ≤ w.heap.size)
    (hk : ∀ v' w', BuildI B w' v' (zs ++ ys) → w.grownBy w' v.ownBlock → (v' = .slice none 0 0 ↔ v = .slice none 0 0 ∧ len = 0) → wpList Tryz.prog ops Q rest (a.put o.dst v') w') : wpList Tryz.prog ops Q (o :: rest) a w := by
  obtain ⟨i0, hi, hz0, hz1, hz2⟩ := info_parts Tryz.info_i64
  subst hl
  cases x' with
  | none =>
    obtain ⟨e1, e2⟩ := hn rfl
    have e3 := List.length_eq_zero_iff.1 e1
    subst e3 e2
    refine wpList_append_own_none (P := Tryz.prog) hgd s x 24 ho B 2 i0 1 Tryz.underlying24 hi v zs.length _ hs h hx ?_
    refine hk v w (by rw [List.append_nil]; exact h) ⟨rfl, rfl, rfl, Nat.le_refl _, fun _ _ _ => rfl⟩ (by simp)
  | some ad =>
    refine wpList_append_own (P := Tryz.prog) w hgd s x 24 ho B 2 i0 (.int .i64 0) 1 8 Tryz.underlying24 hi hz0 hz1 hz2 rfl (by decide) v zs.length _ hs h ad ys.length cap (ys.map (Value.int .i64)) hx (by simp) ?_ ?_ (by unfold maxLen; omega) (by omega) hB ?_
    · intro j u hu
      rw [List.getElem?_map] at hu
      obtain ⟨y, hy, rfl⟩ := Option.map_eq_some_iff.1 hu
      rcases hc with rfl | ⟨b, off, e, hc⟩
      · simp at hy
      · cases e
        have := hc j y hy
        by_cases hj : j = 0
        · subst hj; simpa [Addr.add] using this
        · simpa [Addr.add, hj] using this
    · intro u hu
      obtain ⟨y, _, rfl⟩ := List.mem_map.1 hu
      rfl
    · intro v' w' h1 h2 h3
      refine hk v' w' ?_ h2 h3
      unfold BuildI
      rw [List.length_append, List.map_append]; exact h1
/-- one number more; and where the list lies behind it -/
theorem wpList_int_appendA (hgd : o.guard = none) (s x : Operand) (ho : o.op = .call { callee := .builtin .append, args := #[s, x], argTypes := #[24, 24] })
    (v : Value) (zs : List Int) (hs : a.eval s = v) (h : BuildI B w v zs) (b : Nat) (y : Int) (hx : a.eval x = .slice (some ⟨b, 0, none⟩) 1 1) (hc : w.cell? ⟨b, 0, none⟩ = some (.int .i64 y))
    (hl : zs.length ≤ 1000000) (hB : B ≤ w.heap.size)
    (hk : ∀ v' w', BuildI B w' v' (zs ++ [y]) → w.grownBy w' v.ownBlock → (v'.ownBlock = v.ownBlock ∨ v'.ownBlock = some w.heap.size) → wpList Tryz.prog ops Q rest (a.put o.dst v') w') : wpList Tryz.prog ops Q (o :: rest) a w := by
  obtain ⟨i0, hi, hz0, hz1, hz2⟩ := info_parts Tryz.info_i64
  refine wpList_append_own_at (P := Tryz.prog) w hgd s x 24 ho B 2 i0 (.int .i64 0) 1 8 Tryz.underlying24 hi hz0 hz1 hz2 rfl (by decide) v zs.length _ hs h ⟨b, 0, none⟩ 1 1 [.int .i64 y] hx rfl ?_ ?_ (by unfold maxLen; omega) (by omega) hB ?_
  · intro j u hu
    have hj := (List.getElem?_eq_some_iff.1 hu).1
    simp at hj; subst hj
    simp at hu; subst hu
    simpa [Addr.add] using hc
  · intro u hu; simp at hu; subst hu; rfl
  · intro v' w' h1 h2 _ h4
    refine hk v' w' ?_ h2 h4
    unfold BuildI
    rw [List.length_append, List.map_append]; exact h1
end
/-- a list of our own is returned; nothing that was there has turned -/
def NewB (zs : List Int) (w : World) (e : Ending) (w' : World) : Prop := ∃ v, e = .returned v ∧ BuildI w.heap.size w' v zs ∧ Below w.heap.size w w'
theorem BuildI.stored {B : Nat} {w : World} {v : Value} {zs : List Int} (h : BuildI B w v zs) {x : Addr} (hx : x.block < B) (u : Value) : BuildI B (w.setCell x u) v zs := by
  refine ⟨h.1, ?_⟩
  rcases h.2 with hn | ⟨g, cap, cur, rfl, hB, hg, rest⟩
  · exact .inl hn
  · exact .inr ⟨g, cap, cur, rfl, hB, by rw [Below.heap_setCell _ _ _ _ (by omega)]; exact hg, rest⟩
theorem BuildI.kept {B : Nat} {w w' : World} {v : Value} {zs : List Int} {row : Option Nat} (h : BuildI B w v zs) (hg : w.grownBy w' row) (hne : ∀ k, v.ownBlock = some k → row ≠ some k) : BuildI B w' v zs := by
  refine ⟨h.1, ?_⟩
  rcases h.2 with hn | ⟨g, cap, cur, rfl, hB, hh, rest⟩
  · exact .inl hn
  · exact .inr ⟨g, cap, cur, rfl, hB, by rw [hg.block g (Array.getElem?_eq_some_iff.1 hh).1 (fun e => hne g rfl e.symm)]; exact hh, rest⟩
/-- lists that have no row in common -/
def ApartV (v v' : Value) : Prop := ∀ k, v.ownBlock = some k → v'.ownBlock ≠ some k
theorem apartV_none (v : Value) : ApartV v (.slice none 0 0) := fun k _ h => by cases h
theorem none_apartV (v : Value) : ApartV (.slice none 0 0) v := fun k h => by cases h
theorem ApartV.symm {v v' : Value} (h : ApartV v v') : ApartV v' v := fun k h1 h2 => h k h2 h1
/-- a list that was made in a later world -/
theorem apartV_later {B C : Nat} {w w' : World} {v v' : Value} {zs ys : List Int} (h : BuildI B w v zs) (h' : BuildI C w' v' ys) (hC : w.heap.size ≤ C) : ApartV v v' := fun k h1 h2 => by
  have := (h.lt k h1).2
  have := (h'.lt k h2).1
  omega
theorem BuildI.nilcap {B : Nat} {w : World} {a : Option Addr} {len cap : Nat} {zs : List Int} (h : BuildI B w (.slice a len cap) zs) : a = none → len = 0 ∧ cap = 0 := by
  intro e
  subst e
  rcases h.2 with ⟨h1, _⟩ | ⟨g, c, cur, h1, _⟩
  · cases h1; exact ⟨rfl, rfl⟩
  · cases h1
theorem BuildI.lencap {B : Nat} {w : World} {a : Option Addr} {len cap : Nat} {zs : List Int} (h : BuildI B w (.slice a len cap) zs) : len = zs.length ∧ len ≤ cap := by
  obtain ⟨a', c', e, h1, _⟩ := h.own
  cases e
  exact ⟨rfl, h1⟩
end Go.Proofs.YtjnicmlomjppnaaGreatDoor
