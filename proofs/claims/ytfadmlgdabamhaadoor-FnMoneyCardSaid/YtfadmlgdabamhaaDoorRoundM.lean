/- Plain facts: cents are recovered from their text. No program is imported here. -/
import Derived.Test.YtfadmlgdabamhaaDoorPure9
namespace Go.Proofs.YtfadmlgdabamhaaDoor.Pure9
open Go.RowKit Pure2 Pure3 Pure4

theorem money_there (x : Int) : ∃ t bad, moneyText x = (t, bad) ∧ ((bad = 0 ∧ readMoney t = (x, 0) ∧ t.size ≤ 1048576) ∨ bad = 2) := by
  unfold moneyText
  by_cases h : isVal x = true
  · rw [if_pos h]
    refine ⟨_, _, rfl, .inl ⟨rfl, readMoney_yes ⟨h, rfl⟩, ?_⟩⟩
    have := (isVal_iff x).1 h
    have := moneyT_size (n := x) (by omega) (by omega)
    omega
  · rw [if_neg h]
    exact ⟨_, _, rfl, .inr rfl⟩
theorem money_back (s : ByteArray) : ∃ y one, readMoney s = (y, one) ∧ ((one = 0 ∧ moneyText y = (s, 0)) ∨ one = 6) := by
  by_cases h : ∃ n, IsMoney s n
  · obtain ⟨n, hn⟩ := h
    refine ⟨n, 0, readMoney_yes hn, .inl ⟨rfl, ?_⟩⟩
    rw [moneyText, if_pos hn.1, hn.2]
  · exact ⟨0, 6, readMoney_no (fun n hn => h ⟨n, hn⟩), .inr rfl⟩

end Go.Proofs.YtfadmlgdabamhaaDoor.Pure9
