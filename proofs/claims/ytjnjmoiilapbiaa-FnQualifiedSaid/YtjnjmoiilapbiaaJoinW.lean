/- Contract: spec.l01Words joins texts. -/
import Derived.Test.YtjnjmoiilapbiaaChecked
import Derived.Test.YtjnjmoiilapbiaaBase
import Derived.WalkKit
import Derived.WalkSpells
import Derived.WalkLawsBesides
import Derived.Lib.Hide
namespace Go.Proofs.Ytjnjmoiilapbiaa
open Go.RowKit Pure1 Pure3

set_option maxHeartbeats 400000 in
theorem specWords_any (a : Option Addr) (len cap : Nat) (ss : List ByteArray) (sep : ByteArray) (w : World) (hl : ss.length = len) (hm : len ≤ maxLen) (h : StrsAt w a ss) (hsz : szs ss + sep.size * ss.length ≤ 1000000000) (hsep : sep.size ≤ 1000000000) :
    Calls Try.prog 59 #[.slice a len cap, .string sep] w fun e w' => e = .returned (.string (joinB ss sep)) ∧ w = w' := by
  unfold maxLen at hm
  have HB := Lib.hid (fun k => Nat.le_trans (joinB_take_size ss sep k) hsz)
  have HE := Lib.hid (fun k x (hx : ss[k]? = some x) => Nat.le_trans (szs_mem hx) (Nat.le_trans (Nat.le_add_right _ _) hsz))
  have HL := Lib.hid hl; have HI := Lib.hid h; clear hl h hsz
  go_enter Try.func59, Try.ntmps59
  go_wp2
  go_loop [5, 6] (fun t i => ∃ k : Nat, k ≤ len ∧ i = .int .i64 k ∧ t = .string (joinB (ss.take k) sep)) (fun _ i => len - (intOf i).toNat)
  case atStart => exact ⟨0, Nat.zero_le _, rfl, rfl⟩
  case round =>
    obtain ⟨k, hk, rfl, rfl⟩ := hrel
    by_cases hlt : k < len
    · obtain ⟨b, off, x, ha, hc, ht, hx⟩ := HI.out.at HL.out hlt
      have hB := HB.out k
      have hE := HE.out k x hx
      subst ha
      by_cases h0 : 0 < k
      · have HT := Lib.hid (show joinB (ss.take k) sep ++ sep ++ x = joinB (ss.take (k+1)) sep by
          rw [ht]; exact joinB_snoc _ _ _ (by intro e; have := congrArg List.length e; rw [List.length_take, HL.out] at this; simp at this; omega))
        have hs2 : (joinB (ss.take k) sep ++ sep).size ≤ 2000000000 := by rw [ByteArray.size_append]; omega
        clear hx ht
        go_wp2
        go_round
        case rel => exact ⟨k + 1, by omega, by go_num, by rw [← HT.out]⟩
        case measure => simp [intOf]; omega
      · obtain rfl : k = 0 := by omega
        have HT := Lib.hid (show joinB [] sep ++ x = joinB (ss.take 1) sep by rw [show ss.take 1 = [x] from ht]; exact joinB_first _ _)
        rw [List.take_zero] at hB
        rw [Nat.add_zero] at hc
        clear hx ht
        go_wp2
        go_round
        case rel => exact ⟨1, by omega, by go_num, by rw [← HT.out]⟩
        case measure => simp [intOf]; omega
    · have HN := Lib.hid (show joinB (ss.take k) sep = joinB ss sep by rw [List.take_of_length_le (by rw [HL.out]; omega)])
      go_wp2
      go_ret
      exact ⟨ret_str HN.out, rfl⟩

end Go.Proofs.Ytjnjmoiilapbiaa
