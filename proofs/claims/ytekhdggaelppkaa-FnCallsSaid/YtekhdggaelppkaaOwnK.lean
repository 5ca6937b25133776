/- Facts on lists that are made by adding number after number beside a source: no program's function is named here. -/
import Derived.Test.YtekhdggaelppkaaChecked
import Derived.Test.YtekhdggaelppkaaBase0
import Derived.WalkKit
import Derived.WalkSpells
import Derived.WalkLawsBesides
import Derived.Lib.Hide
import Derived.Deep.OwnRows
namespace Go.Proofs.Ytekhdggaelppkaa
open Go.RowKit Pure2 Pure6

theorem owns_keep {w w' : World} {base e n b : Nat} {v : Value} {xs : List Value} (h : w.ownsRow base e 1 v n xs) (hg : w.grownBy w' (some b)) (hb : b < base) : w'.ownsRow base e 1 v n xs :=
  h.kept hg (by
    cases hv : v.ownBlock with
    | none => exact .inl rfl
    | some g => refine .inr ?_; intro e; cases e; have := h.lt _ hv; omega)
theorem owns_more {w : World} {base e : Nat} {v : Value} {zs : List Int} {x : Int} (h : w.ownsRow base e 1 v (zs.length + 1) (zs.map (Value.int .i64) ++ [Value.int .i64 x])) :
    w.ownsRow base e 1 v (zs ++ [x]).length ((zs ++ [x]).map (Value.int .i64)) := by
  rw [List.length_append, List.map_append]; exact h
/-- behind an append to a list of our own: the list, the source, and what was there -/
theorem append_after {B b : Nat} {T T' : TypeId} {w W w5 : World} {v v' : Value} {y : Int} {zs : List Int} (hS : Src B T' W b) (hB : Below B w W)
    (hown : W.ownsRow (b + 1) T 1 v zs.length (zs.map (Value.int .i64))) (hown' : w5.ownsRow (b + 1) T 1 v' (zs.length + 1) (zs.map (Value.int .i64) ++ [Value.int .i64 y])) (hgrow : W.grownBy w5 v.ownBlock) :
    w5.ownsRow (b + 1) T 1 v' (zs ++ [y]).length ((zs ++ [y]).map (Value.int .i64)) ∧ Src B T' w5 b ∧ Below B w w5 := by
  have hne := fun k hk => (hown.lt k hk).1
  have hbB := hS.base
  have hbw := hS.lt
  exact ⟨owns_more hown', hS.kept (hgrow.block b hbw (by intro e; have := hne b e.symm; omega)) ((Below.refl B _).grown hgrow (by omega) (fun k hk => by have := hne k hk; omega)), hB.grown hgrow (by omega) (fun k hk => by have := hne k hk; omega)⟩
/-- a list of our own is told by its address, its length and its spare room; its block lies from base on -/
theorem owns_ints {w : World} {base e n : Nat} {v : Value} {zs : List Int} (h : w.ownsRow base e 1 v n (zs.map (Value.int .i64))) :
    ∃ a cap, v = .slice a n cap ∧ n ≤ cap ∧ IntsAt w a zs ∧ ∀ x, a = some x → base ≤ x.block := by
  obtain ⟨a, cap, rfl, h1, h2⟩ := intsAt_of_owns h
  refine ⟨a, cap, rfl, h1, h2, fun x hx => ?_⟩
  subst hx
  exact (h.lt x.block (by simp [Value.ownBlock])).1
/-- a list is kept where another block changes -/
theorem ints_keep {w w' : World} {a : Option Addr} {zs : List Int} {base b : Nat} (h : IntsAt w a zs) (ha : ∀ x, a = some x → base ≤ x.block) (hg : w.grownBy w' (some b)) (hb : b < base) : IntsAt w' a zs := by
  rcases h with rfl | ⟨k, off, rfl, hc⟩
  · exact .inl rfl
  · have hk : base ≤ k := ha _ rfl
    exact .inr ⟨k, off, rfl, fun i x hx => hg.cell (hc i x hx) (by intro e; have e' : k = b := Option.some.inj e; omega)⟩

end Go.Proofs.Ytekhdggaelppkaa
