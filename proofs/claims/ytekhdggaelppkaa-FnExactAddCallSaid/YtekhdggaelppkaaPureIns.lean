/- Plain facts: a number is put into an increasing list (model's l07Insert); a sorted list, each once. For seats without terms (cut out of Pure70 and Pure72). -/
import Derived.Test.YtekhdggaelppkaaPure2
import Derived.Lib.SlicesCompact
import Derived.WalkKit
namespace Go.Proofs.Ytekhdggaelppkaa
open Pure2

/-- a number put in at its place, once -/
def insI : List Int → Int → List Int
  | [], n => [n]
  | z :: zs, n => if z < n then z :: insI zs n else if z = n then z :: zs else n :: z :: zs
theorem insI_at {zs : List Int} {n : Int} {at_ : Nat} (h : ∀ (i : Nat) x, i < at_ → zs[i]? = some x → x < n) (hat : at_ ≤ zs.length) (hs : ∀ x, zs[at_]? = some x → ¬ x < n) :
    insI zs n = if zs[at_]? = some n then zs else zs.take at_ ++ [n] ++ zs.drop at_ := by
  induction zs generalizing at_ with
  | nil => simp at hat; subst hat; rfl
  | cons z zs ih =>
    cases at_ with
    | zero =>
      have hz := hs z rfl
      simp only [insI, if_neg hz, List.getElem?_cons_zero, Option.some.injEq, List.take_zero, List.drop_zero]
      rfl
    | succ k =>
      have hz := h 0 z (by omega) rfl
      have := ih (at_ := k) (fun i x hi hx => h (i + 1) x (by omega) (by simpa using hx)) (by simpa using hat) (fun x hx => hs x (by simpa using hx))
      simp only [insI, if_pos hz, List.getElem?_cons_succ, List.take_succ_cons, List.drop_succ_cons]
      rw [this]
      split <;> rfl
theorem insI_len (zs : List Int) (n : Int) : (insI zs n).length ≤ zs.length + 1 := by
  induction zs with
  | nil => simp [insI]
  | cons z zs ih =>
    unfold insI
    split
    · simp; omega
    · split <;> simp
theorem insI_mem (zs : List Int) (n x : Int) : x ∈ insI zs n ↔ x = n ∨ x ∈ zs := by
  induction zs with
  | nil => simp [insI]
  | cons z zs ih =>
    unfold insI
    split
    · simp only [List.mem_cons, ih]; constructor <;> (intro h; rcases h with h | h | h <;> simp [h])
    · split
      · rename_i h; subst h; simp
      · simp
/-- strictly increasing -/
def Incs (zs : List Int) : Prop := zs.Pairwise (· < ·)
theorem insI_incs {zs : List Int} (h : Incs zs) (n : Int) : Incs (insI zs n) := by
  unfold Incs at h ⊢
  induction zs with
  | nil => simp [insI]
  | cons z zs ih =>
    rw [List.pairwise_cons] at h
    unfold insI
    split
    · rename_i hz
      rw [List.pairwise_cons]
      refine ⟨fun x hx => ?_, ih h.2⟩
      rcases (insI_mem zs n x).1 hx with rfl | hx
      · exact hz
      · exact h.1 x hx
    · split
      · rw [List.pairwise_cons]; exact h
      · rename_i h1 h2
        rw [List.pairwise_cons, List.pairwise_cons]
        refine ⟨fun x hx => ?_, h⟩
        rcases List.mem_cons.1 hx with rfl | hx
        · omega
        · have := h.1 x hx; omega
/-- two strictly increasing lists of the same numbers are one -/
theorem incs_ext : ∀ {xs ys : List Int}, Incs xs → Incs ys → (∀ x, x ∈ xs ↔ x ∈ ys) → xs = ys := by
  intro xs
  induction xs with
  | nil =>
    intro ys _ _ h
    cases ys with
    | nil => rfl
    | cons y ys => have := (h y).2 (by simp); simp at this
  | cons x xs ih =>
    intro ys hx hy h
    cases ys with
    | nil => have := (h x).1 (by simp); simp at this
    | cons y ys =>
      unfold Incs at hx hy
      rw [List.pairwise_cons] at hx hy
      have e : x = y := by
        have h1 : x ∈ y :: ys := (h x).1 (by simp)
        have h2 : y ∈ x :: xs := (h y).2 (by simp)
        rcases List.mem_cons.1 h1 with h1 | h1
        · exact h1
        · rcases List.mem_cons.1 h2 with h2 | h2
          · exact h2.symm
          · have := hy.1 x h1; have := hx.1 y h2; omega
      subst e
      rw [ih hx.2 hy.2 fun z => ?_]
      constructor
      · intro hz
        have := (h z).1 (List.mem_cons_of_mem _ hz)
        rcases List.mem_cons.1 this with e | h3
        · subst e; have := hx.1 z hz; omega
        · exact h3
      · intro hz
        have := (h z).2 (List.mem_cons_of_mem _ hz)
        rcases List.mem_cons.1 this with e | h3
        · subst e; have := hy.1 z hz; omega
        · exact h3
/-- a sorted list, each once -/
theorem compactTo_inv (xs : List Int) (h : xs.Pairwise (· ≤ ·)) : ∀ m, m ≤ xs.length → Incs (Go.Lib.compactUpTo xs.toArray m) ∧ ∀ z, z ∈ Go.Lib.compactUpTo xs.toArray m ↔ ∃ i, i < m ∧ xs[i]? = some z := by
  intro m
  induction m with
  | zero => intro _; exact ⟨List.Pairwise.nil, fun z => by simp [Go.Lib.compactUpTo]⟩
  | succ m ih =>
    intro hm
    obtain ⟨h1, h2⟩ := ih (by omega)
    have hx : xs[m]? = some (xs[m]'(by omega)) := List.getElem?_eq_getElem (by omega)
    have g0 : xs.toArray[m]! = xs[m]'(by omega) := by simp [show m < xs.length by omega]
    rw [Go.Lib.compactUpTo_succ]
    have hkey : ∀ z, (∃ i, i < m + 1 ∧ xs[i]? = some z) ↔ (∃ i, i < m ∧ xs[i]? = some z) ∨ z = xs[m]'(by omega) := fun z => by
      constructor
      · rintro ⟨i, hi, e⟩
        by_cases e2 : i = m
        · subst e2; rw [hx] at e; exact .inr (Option.some.inj e).symm
        · exact .inl ⟨i, by omega, e⟩
      · rintro (⟨i, hi, e⟩ | rfl)
        · exact ⟨i, by omega, e⟩
        · exact ⟨m, by omega, hx⟩
    cases hk : Go.Lib.keeps xs.toArray m with
    | true =>
      rw [if_pos rfl, g0]
      refine ⟨?_, fun z => ?_⟩
      · unfold Incs
        rw [List.pairwise_append]
        refine ⟨h1, List.pairwise_singleton _ _, fun a ha b hb => ?_⟩
        simp at hb; subst hb
        obtain ⟨i, hi, e⟩ := (h2 a).1 ha
        have hp := List.pairwise_iff_getElem.1 h
        have hne : xs[m]'(by omega) ≠ xs[m - 1]'(by omega) := by
          unfold Go.Lib.keeps at hk
          rw [decide_eq_true_iff, g0] at hk
          have g1 : xs.toArray[m - 1]! = xs[m - 1]'(by omega) := by simp [show m - 1 < xs.length by omega]
          rw [g1] at hk
          rcases hk with hk | hk
          · omega
          · exact hk
        have hl1 := hp (m - 1) m (by omega) (by omega) (by omega)
        have hai : a = xs[i]'(by omega) := by rw [List.getElem?_eq_getElem (by omega)] at e; exact (Option.some.inj e).symm
        have hl2 : a ≤ xs[m - 1]'(by omega) := by
          rw [hai]
          by_cases e2 : i = m - 1
          · subst e2; exact Int.le_refl _
          · exact hp i (m - 1) (by omega) (by omega) (by omega)
        omega
      · rw [List.mem_append, h2, hkey]; simp
    | false =>
      have hne : m ≠ 0 ∧ xs[m]'(by omega) = xs[m - 1]'(by omega) := by
        unfold Go.Lib.keeps at hk
        rw [decide_eq_false_iff_not, g0] at hk
        have hm0 : m ≠ 0 := fun e => hk (.inl e)
        have g1 : xs.toArray[m - 1]! = xs[m - 1]'(by omega) := by simp [show m - 1 < xs.length by omega]
        rw [g1] at hk
        exact ⟨hm0, Decidable.byContradiction fun e => hk (.inr e)⟩
      rw [if_neg (by simp), List.append_nil]
      refine ⟨h1, fun z => ?_⟩
      rw [h2, hkey]
      constructor
      · exact .inl
      · rintro (h | rfl)
        · exact h
        · exact ⟨m - 1, by omega, by rw [List.getElem?_eq_getElem (by omega), ← hne.2]⟩
theorem compactL_mem {xs : List Int} (h : xs.Pairwise (· ≤ ·)) (z : Int) : z ∈ Go.Lib.compact xs ↔ z ∈ xs := by
  rw [show Go.Lib.compact xs = Go.Lib.compactUpTo xs.toArray xs.length from rfl, (compactTo_inv xs h xs.length (Nat.le_refl _)).2 z, List.mem_iff_getElem?]
  constructor
  · rintro ⟨i, _, e⟩; exact ⟨i, e⟩
  · rintro ⟨i, e⟩; exact ⟨i, (List.getElem?_eq_some_iff.1 e).1, e⟩
theorem compactL_incs {xs : List Int} (h : xs.Pairwise (· ≤ ·)) : Incs (Go.Lib.compact xs) := (compactTo_inv xs h xs.length (Nat.le_refl _)).1
/-! sorted lists -/
def sortI (zs : List Int) : List Int := zs.mergeSort fun x y => decide (x ≤ y)
theorem sortI_perm (zs : List Int) : (sortI zs).Perm zs := List.mergeSort_perm _ _
theorem sortI_length (zs : List Int) : (sortI zs).length = zs.length := (sortI_perm zs).length_eq
theorem sortI_pair (zs : List Int) : (sortI zs).Pairwise (· ≤ ·) := by
  have h := List.pairwise_mergeSort (le := fun x y : Int => decide (x ≤ y)) (by intro a b c; simp; omega) (by intro a b; simp; omega) zs
  exact h.imp (by simp)
end Go.Proofs.Ytekhdggaelppkaa
