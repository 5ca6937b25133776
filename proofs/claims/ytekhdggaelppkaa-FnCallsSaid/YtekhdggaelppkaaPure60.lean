/- Plain facts on lists that are strictly increasing within bounds. No program is imported here. -/
import Derived.Test.YtekhdggaelppkaaBase0
import Derived.WalkKit
namespace Go.Proofs.Ytekhdggaelppkaa.Pure60
open Go.RowKit Pure2

/-- strictly increasing, at most c numbers, all within lo .. hi -/
def Rises (c : Nat) (lo hi : Int) (zs : List Int) : Prop := (∀ (i : Nat) x, zs[i]? = some x → lo ≤ x ∧ x ≤ hi) ∧ (∀ (i : Nat) x y, zs[i]? = some x → zs[i + 1]? = some y → x < y) ∧ zs.length ≤ c
noncomputable def rises (c : Nat) (lo hi : Int) (zs : List Int) : Bool := @decide (Rises c lo hi zs) (Classical.propDecidable _)
theorem rises_iff (c : Nat) (lo hi : Int) (zs : List Int) : rises c lo hi zs = true ↔ Rises c lo hi zs := by unfold rises; exact @decide_eq_true_iff _ (Classical.propDecidable _)
theorem rises_no (c : Nat) (lo hi : Int) (zs : List Int) : rises c lo hi zs = false ↔ ¬ Rises c lo hi zs := by rw [← Bool.not_eq_true, rises_iff]
/-- the first k numbers are as described -/
def RisesTo (lo hi : Int) (zs : List Int) (k : Nat) : Prop := (∀ (i : Nat) x, i < k → zs[i]? = some x → lo ≤ x ∧ x ≤ hi) ∧ (∀ (i : Nat) x y, i + 1 < k → zs[i]? = some x → zs[i + 1]? = some y → x < y)
theorem risesTo_zero (lo hi : Int) (zs : List Int) : RisesTo lo hi zs 0 := ⟨fun _ _ h => by omega, fun _ _ _ h => by omega⟩
theorem risesTo_step {lo hi : Int} {zs : List Int} {k : Nat} {x : Int} (h : RisesTo lo hi zs k) (hx : zs[k]? = some x) (hd : lo ≤ x ∧ x ≤ hi) (hp : ∀ y, 0 < k → zs[k - 1]? = some y → y < x) : RisesTo lo hi zs (k + 1) := by
  refine ⟨fun i z hi hz => ?_, fun i u v hi hu hv => ?_⟩
  · by_cases e : i = k
    · subst e; rw [hx] at hz; cases hz; exact hd
    · exact h.1 i z (by omega) hz
  · by_cases e : i + 1 = k
    · subst e; rw [hx] at hv; cases hv; exact hp u (by omega) (by simpa using hu)
    · exact h.2 i u v (by omega) hu hv
theorem risesTo_end {lo hi : Int} {c k : Nat} {zs : List Int} (h : RisesTo lo hi zs k) (hk : zs.length ≤ k) (hl : zs.length ≤ c) : Rises c lo hi zs := by
  refine ⟨fun i x hx => h.1 i x ?_ hx, fun i x y hx hy => h.2 i x y ?_ hx hy, hl⟩
  · have := (List.getElem?_eq_some_iff.1 hx).1; omega
  · have := (List.getElem?_eq_some_iff.1 hy).1; omega
theorem rises_long {c : Nat} {lo hi : Int} {zs : List Int} (h : c < zs.length) : rises c lo hi zs = false := (rises_no _ _ _ zs).2 fun hh => by have := hh.2.2; omega
theorem rises_out {c : Nat} {lo hi : Int} {zs : List Int} {k : Nat} {x : Int} (hx : zs[k]? = some x) (h : ¬ (lo ≤ x ∧ x ≤ hi)) : rises c lo hi zs = false := (rises_no _ _ _ zs).2 fun hh => h (hh.1 k x hx)
theorem rises_down {c : Nat} {lo hi : Int} {zs : List Int} {k : Nat} {x y : Int} (hx : zs[k]? = some x) (hy : zs[k + 1]? = some y) (h : y ≤ x) : rises c lo hi zs = false := (rises_no _ _ _ zs).2 fun hh => by have := hh.2.1 k x y hx hy; omega
theorem rises_end {c : Nat} {lo hi : Int} {zs : List Int} {k : Nat} (h : RisesTo lo hi zs k) (hk : zs.length ≤ k) (hl : zs.length ≤ c) : rises c lo hi zs = true := (rises_iff _ _ _ zs).2 (risesTo_end h hk hl)
theorem risesTo_first {lo hi : Int} {zs : List Int} {x : Int} (hx : zs[0]? = some x) (h : lo ≤ x ∧ x ≤ hi) : RisesTo lo hi zs 1 := risesTo_step (risesTo_zero lo hi zs) hx h (fun y h => by omega)
theorem risesTo_next {lo hi : Int} {zs : List Int} {j : Nat} {x y : Int} (h : RisesTo lo hi zs (j + 1)) (hx : zs[j]? = some x) (hy : zs[j + 1]? = some y) (hd : lo ≤ y ∧ y ≤ hi) (hlt : ¬ y ≤ x) : RisesTo lo hi zs (j + 1 + 1) :=
  risesTo_step h hy hd (fun z _ hz => by rw [Nat.add_sub_cancel] at hz; rw [hx] at hz; cases hz; omega)
/-- the bound on the length apart -/
theorem rises_len (c : Nat) (lo hi : Int) (zs : List Int) : rises c lo hi zs = (decide (zs.length ≤ c) && rises zs.length lo hi zs) := by
  by_cases h : zs.length ≤ c
  · rw [decide_eq_true h, Bool.true_and]
    apply Bool.eq_iff_iff.2
    rw [rises_iff, rises_iff]
    exact ⟨fun hh => ⟨hh.1, hh.2.1, Nat.le_refl _⟩, fun hh => ⟨hh.1, hh.2.1, h⟩⟩
  · rw [decide_eq_false h, Bool.false_and]; exact rises_long (by omega)

end Go.Proofs.Ytekhdggaelppkaa.Pure60
