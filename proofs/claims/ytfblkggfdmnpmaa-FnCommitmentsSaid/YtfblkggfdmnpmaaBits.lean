/- A region that draws its order, whose operations each yield one value whatever came ahead: frame and world are told by which operations have been carried out. No program is named here. -/
import Derived.OrdersIn
import Derived.WalkKit
namespace Go.Proofs.Ytfblkggfdmnpmaa
open Go.RowKit

/-- what a slot holds: its value where its operation has been carried out -/
def bitv (b : Bool) (v : Value) : Value := cond b v undef
theorem bitv_true (v : Value) : bitv true v = v := rfl
theorem bitv_false (v : Value) : bitv false v = undef := rfl
/-- the world behind no store, the first, the second -/
def bitw (b c : Bool) (w0 w1 w2 : World) : World := cond c w2 (cond b w1 w0)
theorem bitw_ff (w0 w1 w2 : World) : bitw false false w0 w1 w2 = w0 := rfl
theorem bitw_tf (w0 w1 w2 : World) : bitw true false w0 w1 w2 = w1 := rfl
theorem bitw_tt (w0 w1 w2 : World) : bitw true true w0 w1 w2 = w2 := rfl

section
variable {F : Fence} {n : Nat} {P : Program} {ops : Array Oper} {Q : Exit → Act → World → Prop} {md : Region.Mode}
theorem wpAnyIn_bits (fr : Array Bool → Act) (wd : Array Bool → World) (Inv : Array Bool → Prop) (cnt : Array Bool → Nat)
    (step : ∀ L, Inv L → ∀ i ∈ Region.ready md ops L, (Inv (L.setIfInBounds i true) ∧ cnt (L.setIfInBounds i true) < cnt L) ∧ ∀ K : Act → World → Prop, K (fr (L.setIfInBounds i true)) (wd (L.setIfInBounds i true)) → wpOpIn F n P ops Q i K (fr L) (wd L))
    (done : ∀ L, Inv L → Region.ready md ops L = [] → Q .normal (fr L) (wd L))
    (zero : ∀ L, Inv L → cnt L = 0 → Region.ready md ops L = []) :
    ∀ fuel L, Inv L → cnt L ≤ fuel → wpAnyIn F n P md ops Q fuel L (fr L) (wd L) := by
  intro fuel
  induction fuel with
  | zero => intro L hI hc; have h := zero L hI (by omega); exact ⟨h, done L hI h⟩
  | succ fuel ih =>
    intro L hI hc
    refine ⟨done L hI, fun i hi => ?_⟩
    obtain ⟨⟨h1, h2⟩, h3⟩ := step L hI i hi
    exact h3 _ (ih _ h1 (by omega))
end

/-- which of the sixteen operations of an exchange may have been carried out -/
def BI (b0 b1 b2 b3 b4 b5 b6 b7 b8 b9 b10 b11 b12 b13 b14 b15 : Bool) : Prop :=
  (b7 = true → b6 = true) ∧ (b6 = true → b4 = true ∧ b5 = true) ∧ (b11 = true → b10 = true) ∧ (b10 = true → b8 = true ∧ b9 = true) ∧ (b12 = true → b0 = true ∧ b1 = true ∧ b7 = true ∧ b11 = true) ∧ (b13 = true → b12 = true) ∧ (b14 = true → b13 = true ∧ b2 = true ∧ b3 = true) ∧ (b15 = true → b14 = true)
theorem BI.early {b0 b1 b2 b3 b4 b5 b6 b7 b8 b9 b10 b11 b12 b13 b14 b15 : Bool} (h : BI b0 b1 b2 b3 b4 b5 b6 b7 b8 b9 b10 b11 b12 b13 b14 b15) : (b13 = true → b0 = true ∧ b1 = true ∧ b4 = true ∧ b5 = true ∧ b6 = true ∧ b7 = true ∧ b8 = true ∧ b9 = true ∧ b10 = true ∧ b11 = true ∧ b12 = true) ∧ (b14 = true → b13 = true ∧ b2 = true ∧ b3 = true) ∧ (b15 = true → b14 = true) := by
  obtain ⟨h7, h6, h11, h10, h12, h13, h14, h15⟩ := h
  refine ⟨fun e => ?_, h14, h15⟩
  have e12 := h13 e
  have e0 := h12 e12
  have e6 := h7 e0.2.2.1
  have e10 := h11 e0.2.2.2
  exact ⟨e0.1, e0.2.1, (h6 e6).1, (h6 e6).2, e6, e0.2.2.1, (h10 e10).1, (h10 e10).2, e10, e0.2.2.2, e12⟩
theorem BI.start : BI false false false false false false false false false false false false false false false false := by simp [BI]
theorem BI.last {b0 b1 b2 b3 b4 b5 b6 b7 b8 b9 b10 b11 b12 b13 b14 b15 : Bool} (h : BI b0 b1 b2 b3 b4 b5 b6 b7 b8 b9 b10 b11 b12 b13 b14 b15) (e : b15 = true) : b0 = true ∧ b1 = true ∧ b2 = true ∧ b3 = true ∧ b4 = true ∧ b5 = true ∧ b6 = true ∧ b7 = true ∧ b8 = true ∧ b9 = true ∧ b10 = true ∧ b11 = true ∧ b12 = true ∧ b13 = true ∧ b14 = true := by
  obtain ⟨h1, h2, h3⟩ := h.early
  have e14 := h3 e
  obtain ⟨e13, e2, e3⟩ := h2 e14
  obtain ⟨e0, e1, e4, e5, e6, e7, e8, e9, e10, e11, e12⟩ := h1 e13
  exact ⟨e0, e1, e2, e3, e4, e5, e6, e7, e8, e9, e10, e11, e12, e13, e14⟩
theorem BI.s0 {b1 b2 b3 b4 b5 b6 b7 b8 b9 b10 b11 b12 b13 b14 b15 : Bool} (h : BI false b1 b2 b3 b4 b5 b6 b7 b8 b9 b10 b11 b12 b13 b14 b15) : BI true b1 b2 b3 b4 b5 b6 b7 b8 b9 b10 b11 b12 b13 b14 b15 := by simp [BI] at h ⊢ <;> grind
theorem BI.s1 {b0 b2 b3 b4 b5 b6 b7 b8 b9 b10 b11 b12 b13 b14 b15 : Bool} (h : BI b0 false b2 b3 b4 b5 b6 b7 b8 b9 b10 b11 b12 b13 b14 b15) : BI b0 true b2 b3 b4 b5 b6 b7 b8 b9 b10 b11 b12 b13 b14 b15 := by simp [BI] at h ⊢ <;> grind
theorem BI.s2 {b0 b1 b3 b4 b5 b6 b7 b8 b9 b10 b11 b12 b13 b14 b15 : Bool} (h : BI b0 b1 false b3 b4 b5 b6 b7 b8 b9 b10 b11 b12 b13 b14 b15) : BI b0 b1 true b3 b4 b5 b6 b7 b8 b9 b10 b11 b12 b13 b14 b15 := by simp [BI] at h ⊢ <;> grind
theorem BI.s3 {b0 b1 b2 b4 b5 b6 b7 b8 b9 b10 b11 b12 b13 b14 b15 : Bool} (h : BI b0 b1 b2 false b4 b5 b6 b7 b8 b9 b10 b11 b12 b13 b14 b15) : BI b0 b1 b2 true b4 b5 b6 b7 b8 b9 b10 b11 b12 b13 b14 b15 := by simp [BI] at h ⊢ <;> grind
theorem BI.s4 {b0 b1 b2 b3 b5 b6 b7 b8 b9 b10 b11 b12 b13 b14 b15 : Bool} (h : BI b0 b1 b2 b3 false b5 b6 b7 b8 b9 b10 b11 b12 b13 b14 b15) : BI b0 b1 b2 b3 true b5 b6 b7 b8 b9 b10 b11 b12 b13 b14 b15 := by simp [BI] at h ⊢ <;> grind
theorem BI.s5 {b0 b1 b2 b3 b4 b6 b7 b8 b9 b10 b11 b12 b13 b14 b15 : Bool} (h : BI b0 b1 b2 b3 b4 false b6 b7 b8 b9 b10 b11 b12 b13 b14 b15) : BI b0 b1 b2 b3 b4 true b6 b7 b8 b9 b10 b11 b12 b13 b14 b15 := by simp [BI] at h ⊢ <;> grind
theorem BI.s6 {b0 b1 b2 b3 b7 b8 b9 b10 b11 b12 b13 b14 b15 : Bool} (h : BI b0 b1 b2 b3 true true false b7 b8 b9 b10 b11 b12 b13 b14 b15) : BI b0 b1 b2 b3 true true true b7 b8 b9 b10 b11 b12 b13 b14 b15 := by simp [BI] at h ⊢ <;> grind
theorem BI.s7 {b0 b1 b2 b3 b4 b5 b8 b9 b10 b11 b12 b13 b14 b15 : Bool} (h : BI b0 b1 b2 b3 b4 b5 true false b8 b9 b10 b11 b12 b13 b14 b15) : BI b0 b1 b2 b3 b4 b5 true true b8 b9 b10 b11 b12 b13 b14 b15 := by simp [BI] at h ⊢ <;> grind
theorem BI.s8 {b0 b1 b2 b3 b4 b5 b6 b7 b9 b10 b11 b12 b13 b14 b15 : Bool} (h : BI b0 b1 b2 b3 b4 b5 b6 b7 false b9 b10 b11 b12 b13 b14 b15) : BI b0 b1 b2 b3 b4 b5 b6 b7 true b9 b10 b11 b12 b13 b14 b15 := by simp [BI] at h ⊢ <;> grind
theorem BI.s9 {b0 b1 b2 b3 b4 b5 b6 b7 b8 b10 b11 b12 b13 b14 b15 : Bool} (h : BI b0 b1 b2 b3 b4 b5 b6 b7 b8 false b10 b11 b12 b13 b14 b15) : BI b0 b1 b2 b3 b4 b5 b6 b7 b8 true b10 b11 b12 b13 b14 b15 := by simp [BI] at h ⊢ <;> grind
theorem BI.s10 {b0 b1 b2 b3 b4 b5 b6 b7 b11 b12 b13 b14 b15 : Bool} (h : BI b0 b1 b2 b3 b4 b5 b6 b7 true true false b11 b12 b13 b14 b15) : BI b0 b1 b2 b3 b4 b5 b6 b7 true true true b11 b12 b13 b14 b15 := by simp [BI] at h ⊢ <;> grind
theorem BI.s11 {b0 b1 b2 b3 b4 b5 b6 b7 b8 b9 b12 b13 b14 b15 : Bool} (h : BI b0 b1 b2 b3 b4 b5 b6 b7 b8 b9 true false b12 b13 b14 b15) : BI b0 b1 b2 b3 b4 b5 b6 b7 b8 b9 true true b12 b13 b14 b15 := by simp [BI] at h ⊢ <;> grind
theorem BI.s12 {b2 b3 b8 b9 b10 b13 b14 b15 : Bool} (h : BI true true b2 b3 true true true true b8 b9 b10 true false b13 b14 b15) : BI true true b2 b3 true true true true b8 b9 b10 true true b13 b14 b15 := by simp [BI] at h ⊢ <;> grind
theorem BI.s13 {b2 b3 b8 b9 b10 b14 b15 : Bool} (h : BI true true b2 b3 true true true true b8 b9 b10 true true false b14 b15) : BI true true b2 b3 true true true true b8 b9 b10 true true true b14 b15 := by simp [BI] at h ⊢ <;> grind
theorem BI.s14 {b15 : Bool} (h : BI true true true true true true true true true true true true true true false b15) : BI true true true true true true true true true true true true true true true b15 := by simp [BI] at h ⊢ <;> grind
theorem BI.s15 (h : BI true true true true true true true true true true true true true true true false) : BI true true true true true true true true true true true true true true true true := by simp [BI]

end Go.Proofs.Ytfblkggfdmnpmaa
