/- Chapter 10's answers as the laws ask for them: in memory of their own. -/
import Derived.Test.YtekhdggaelppkaaChecked
import Derived.Test.YtekhdggaelppkaaBase0
import Derived.Test.YtekhdggaelppkaaInfo
import Derived.Test.YtekhdggaelppkaaMarkI
import Derived.Test.YtekhdggaelppkaaEqInt
import Derived.Test.YtekhdggaelppkaaIntL
import Derived.Test.YtekhdggaelppkaaBuildI
import Derived.Test.YtekhdggaelppkaaCallB
import Derived.Test.YtekhdggaelppkaaCallM
import Derived.Test.YtekhdggaelppkaaCallC
import Derived.Test.YtekhdggaelppkaaPure100
import Derived.Test.YtekhdggaelppkaaSet10
import Derived.Test.YtekhdggaelppkaaImpl10b
import Derived.WalkKit
import Derived.WalkSpells
import Derived.WalkLawsBesides
import Derived.Lib.Hide
import Derived.Outline
namespace Go.Proofs.Ytekhdggaelppkaa
open Go.RowKit Pure1 Pure2 Pure3 Pure20 Pure40

def SaysNew9 (zs : List Int) (n : Int) (w : World) (e : Ending) (w' : World) : Prop :=
  ∃ a cap, e = .returned (.tuple #[.slice a zs.length cap, .int .i64 n]) ∧ OwnI w.heap.size w' a zs.length (fun i => zs.getD i 0) ∧ Below w.heap.size w w'
theorem build_new9 {zs : List Int} {c : Int} {w w' : World} {e : Ending} (h : ∃ v, e = .returned (.tuple #[v, .int .i64 c]) ∧ BuildI w.heap.size w' v zs ∧ Below w.heap.size w w') : SaysNew9 zs c w e w' := by
  obtain ⟨v, rfl, h1, hB⟩ := h
  obtain ⟨a, cap, rfl, _, ho⟩ := BuildI.own h1
  exact ⟨a, cap, rfl, ho, hB⟩
theorem SaysBI10.new9 {zs : List Int} {c : Int} {w w' : World} {e : Ending} (h : SaysBI10 zs c w e w') : SaysNew9 zs c w e w' := build_new9 h

theorem ownI_kept {C : Nat} {w w' : World} {a : Option Addr} {len : Nat} {g : Nat → Int} {row : Option Nat} (h : OwnI C w a len g) (hg : w.grownBy w' row) (hrow : ∀ k, row = some k → k < C) : OwnI C w' a len g := by
  rcases h with h | ⟨b, f, N, e, hB, hN, hr, hf⟩
  · exact .inl h
  · exact .inr ⟨b, f, N, e, hB, hN, hr.of_block (hg.block b hr.lt (fun e => by have := hrow b e.symm; omega)), hf⟩
theorem ownI_mono {B C : Nat} {w : World} {a : Option Addr} {len : Nat} {g : Nat → Int} (h : OwnI C w a len g) (hBC : B ≤ C) : OwnI B w a len g := by
  rcases h with h | ⟨b, f, N, e, hB, h2⟩
  · exact .inl h
  · exact .inr ⟨b, f, N, e, by omega, h2⟩
/-- what marking the terms' copy in block b leaves of a row from block C on -/
theorem marked_grown {w w' : World} {b : Nat} (h : w' = w ∨ ∃ b', some (⟨b, 0, none⟩ : Addr) = some ⟨b', 0, none⟩ ∧ w.grownBy w' (some b')) : w.grownBy w' (some b) := by
  rcases h with rfl | ⟨b', e, h⟩
  · exact ⟨rfl, rfl, rfl, Nat.le_refl _, fun _ _ _ => rfl⟩
  · cases e; exact h
theorem sameI {w : World} {zs : List Int} {e : Ending} {w' : World} (h : SaysB (sameL zs zs) w e w') : e = .returned (.bool true) ∧ Below w.heap.size w w' := by
  have hs : sameL zs zs = true := by simp [sameL]
  rw [hs] at h
  obtain ⟨h1, n, rfl⟩ := h
  exact ⟨h1, Go.below_drewN (Below.refl _ _) n⟩

end Go.Proofs.Ytekhdggaelppkaa
