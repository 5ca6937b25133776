/- Plain facts on pools that are drawn: numbers that rise below a number. No program is imported here. -/
import Derived.Test.YtmpopfcnjgcncaaPure80
namespace Go.Proofs.Ytmpopfcnjgcncaa.Pure85
open Go.RowKit Pure2 Pure30 Pure60 Pure80

/-- numbers from 1 on, strictly increasing, all below x -/
def RiseBelow (zs : List Int) (x : Int) : Prop := (∀ (i : Nat) y, zs[i]? = some y → 1 ≤ y ∧ y < x) ∧ ∀ (i : Nat) y z, zs[i]? = some y → zs[i + 1]? = some z → y < z
theorem riseBelow_nil (x : Int) : RiseBelow [] x := ⟨fun i y h => by simp at h, fun i y z h => by simp at h⟩
theorem riseBelow_step {zs : List Int} {x x' : Int} (h : RiseBelow zs x) (hx : 1 ≤ x) (hlt : x < x') : RiseBelow (zs ++ [x]) x' := by
  have hat : ∀ (i : Nat) y, (zs ++ [x])[i]? = some y → (i < zs.length ∧ zs[i]? = some y) ∨ (i = zs.length ∧ y = x) := fun i y hy => by
    rw [List.getElem?_append] at hy
    split at hy
    · exact .inl ⟨by assumption, hy⟩
    · have hi := (List.getElem?_eq_some_iff.1 hy).1
      simp at hi
      have e : i - zs.length = 0 := by omega
      rw [e] at hy
      exact .inr ⟨by omega, by simpa using hy.symm⟩
  refine ⟨fun i y hy => ?_, fun i y z hy hz => ?_⟩
  · rcases hat i y hy with ⟨_, h1⟩ | ⟨_, rfl⟩
    · have := h.1 i y h1; omega
    · omega
  · rcases hat (i + 1) z hz with ⟨hi, h1⟩ | ⟨hi, rfl⟩
    · rcases hat i y hy with ⟨_, h2⟩ | ⟨h2, _⟩
      · exact h.2 i y z h2 h1
      · omega
    · rcases hat i y hy with ⟨_, h2⟩ | ⟨h2, _⟩
      · exact (h.1 i y h2).2
      · omega
theorem riseBelow_rises {zs : List Int} {x : Int} (h : RiseBelow zs x) (hx : x ≤ 1000001) (hl : zs.length ≤ 60) : Rises 60 1 1000000 zs :=
  ⟨fun i y hy => by have := h.1 i y hy; omega, h.2, hl⟩
theorem riseBelow_pool {zs : List Int} {x s : Int} (h : RiseBelow zs x) (hx : x ≤ 1000001) (hl : zs.length ≤ 60) (hs : 1 ≤ s ∧ s ≤ 2147483646) : isPool ⟨zs, [], s⟩ = true :=
  (isPool_iff _).2 ⟨riseBelow_rises h hx hl, fun i y hi => by simp at hi, (isState_iff s).2 hs⟩
theorem fresh_code {zs : List Int} {s x : Int} (h : isPool ⟨zs, [], s⟩ = true) (h0 : 0 ≤ x) (hx : x ≤ zs.length) : takeC ⟨zs, [], s⟩ x = 0 := by
  unfold takeC
  rw [if_pos h, if_neg (by omega), if_neg (by simp; omega)]
/-- a draw from a fresh pool -/
theorem fresh_take {zs : List Int} {s x : Int} (h : isPool ⟨zs, [], s⟩ = true) (h0 : 0 ≤ x) (hx : x ≤ zs.length) : takeR ⟨zs, [], s⟩ x = (drawP ⟨zs, [], s⟩ x, outN zs [] s x.toNat, 0) ∧ isPool (drawP ⟨zs, [], s⟩ x) = true := by
  have hc : takeC ⟨zs, [], s⟩ x = 0 := by
    unfold takeC
    rw [if_pos h, if_neg (by omega), if_neg (by simp; omega)]
  refine ⟨?_, take_pool hc⟩
  unfold takeR
  rw [if_pos hc]
end Go.Proofs.Ytmpopfcnjgcncaa.Pure85
