/- How long the answers of chapter 6 are; comparing a list with itself. -/
import Derived.Test.YtjnjmoiilapbiaaBase
import Derived.Test.YtjnjmoiilapbiaaPure61
import Derived.WalkKit
import Derived.Lib.Hide
namespace Go.Proofs.Ytjnjmoiilapbiaa
open Go.RowKit Pure2 Pure40 Pure60 Pure61

theorem qualOfR_small (r : Rul) (cs : List Cand) : (qualOfR r cs).1.length ≤ 60 := by
  unfold qualOfR
  split
  · rename_i h
    rcases codeC_cases r cs with ⟨_, _, h60, _⟩ | h1
    · exact Nat.le_trans (qualTo_len r cs cs.length) h60
    · rw [h1] at h; cases h
  · exact Nat.zero_le _
theorem countR_small (r : Rul) (cs : List Cand) : (countR r cs).1.length ≤ 60 := by
  unfold countR
  split
  · show (countL r cs).length ≤ 60
    unfold countL; simp
  · exact Nat.zero_le _
theorem from_step {s : Nat} {u w w' : World} (h : Below s u w) (hu : s ≤ u.heap.size) (hb : Below w.heap.size w w') : Below s u w' := h.trans (hb.mono (Nat.le_trans hu h.size))
theorem sameB {P : Program} {f : FuncId} {args : Array Value} {w : World} {xs : List Int} (h : Calls P f args w (SaysB (sameL xs xs) w)) : Calls P f args w fun e w' => e = .returned (.bool true) ∧ Below w.heap.size w w' :=
  h.mono fun e w' ⟨he, n, hw⟩ => ⟨by rw [he, sameL_self], by rw [hw]; exact below_drewN (Below.refl _ _) n⟩
end Go.Proofs.Ytjnjmoiilapbiaa
