/- The contracts of impl.IsWord and spec.IsWord: both answer whether the text has 1 to 16 letters a to z. For every string. -/
import Derived.Test.YtdeiillfdjebdaaChecked
import Derived.Test.YtdeiillfdjebdaaBase
import Derived.Test.YtdeiillfdjebdaaPure1
import Derived.WalkKit
import Derived.WalkSpells
import Derived.WalkLawsBesides
import Derived.Lib.Hide
namespace Go.Proofs.Ytdeiillfdjebdaa
open Go.RowKit Pure1

set_option maxHeartbeats 400000 in
theorem specIsWord_any (s : ByteArray) (w : World) (hs : s.size ≤ maxLen) :
    Calls Try.prog 96 #[.string s] w fun e w' => e = .returned (.bool (isWordL s.data.toList)) ∧ w = w' := by
  unfold maxLen at hs
  go_enter Try.func96, Try.ntmps96
  go_wp2
  go_loop [3] (fun i => ∃ k : Nat, k ≤ s.size ∧ i = .int .i64 k ∧ (s.data.toList.take k).all letter = true) (fun i => s.size - (intOf i).toNat)
  case atStart => exact ⟨0, Nat.zero_le _, rfl, rfl⟩
  case round =>
    obtain ⟨k, hk, rfl, hall⟩ := hrel
    have H := Lib.hid hall; clear hall
    by_cases hlt : k < s.size
    · by_cases hb : letter s[k] = true
      · obtain ⟨h1, h2⟩ := (letter_iff _).1 hb
        have HN := Lib.hid (all_snoc s k hlt H.out hb); clear hb
        go_wp2
        go_round
        case rel => exact ⟨k + 1, by omega, by go_num, HN.out⟩
        case measure => simp [intOf]; omega
      · have HN := Lib.hid (isWordL_of_not_all (all_no s k hlt (by simpa using hb))); rw [letter_iff] at hb
        by_cases h1 : (s[k].toNat : Int) < 97
        · clear hb
          go_wp2
          go_ret
          exact ⟨ret_bool HN.out.symm, rfl⟩
        · have h2 : 122 < (s[k].toNat : Int) := by omega
          clear hb
          go_wp2
          go_ret
          exact ⟨ret_bool HN.out.symm, rfl⟩
    · have HN := Lib.hid (isWordL_of_all (by have := H.out; rwa [take_all s k (by omega)] at this)); clear H
      by_cases h1 : 1 ≤ (s.size : Int)
      · by_cases h2 : (s.size : Int) ≤ 16
        · go_wp2
          go_ret
          exact ⟨ret_bool (by rw [HN.out, size_eq]; simp; omega), rfl⟩
        · go_wp2
          go_ret
          exact ⟨ret_bool (by rw [HN.out, size_eq]; simp; omega), rfl⟩
      · go_wp2
        go_ret
        exact ⟨ret_bool (by rw [HN.out, size_eq]; simp; omega), rfl⟩

set_option maxHeartbeats 400000 in
theorem implIsWord_any (s : ByteArray) (w : World) (hs : s.size ≤ maxLen) :
    Calls Try.prog 92 #[.string s] w fun e w' => e = .returned (.bool (isWordL s.data.toList)) ∧ w = w' := by
  unfold maxLen at hs
  by_cases hz : (s.size : Int) = 0
  · have HN := Lib.hid (isWordL_short (l := s.data.toList) (by rw [size_eq]; omega))
    have hz' : ((s.size : Int) == 0) = true := beq_iff_eq.2 (by omega)
    clear hz
    go_enter Try.func92, Try.ntmps92
    go_wp2
    go_ret
    exact ⟨ret_bool HN.out.symm, rfl⟩
  by_cases hb : 16 < (s.size : Int)
  · have HN := Lib.hid (isWordL_long (l := s.data.toList) (by rw [size_eq]; omega))
    have hz' : ((s.size : Int) == 0) = false := beq_eq_false_iff_ne.2 (by omega)
    clear hz
    go_enter Try.func92, Try.ntmps92
    go_wp2
    go_ret
    exact ⟨ret_bool HN.out.symm, rfl⟩
  have hz' : ((s.size : Int) == 0) = false := beq_eq_false_iff_ne.2 (by omega)
  have HL := Lib.hid (show 1 ≤ s.size ∧ s.size ≤ 16 by omega)
  have hb' : (s.size : Int) ≤ 16 := by omega
  clear hz hb
  go_enter Try.func92, Try.ntmps92
  go_wp2
  go_loop [3] (fun i => ∃ k : Nat, k ≤ s.size ∧ i = .int .i64 k ∧ (s.data.toList.take k).all letter = true) (fun i => s.size - (intOf i).toNat)
  case atStart => exact ⟨0, Nat.zero_le _, rfl, rfl⟩
  case round =>
    obtain ⟨k, hk, rfl, hall⟩ := hrel
    have H := Lib.hid hall; clear hall
    by_cases hlt : k < s.size
    · by_cases hb : letter s[k] = true
      · obtain ⟨h1, h2⟩ := (letter_iff _).1 hb
        have HN := Lib.hid (all_snoc s k hlt H.out hb); clear hb
        go_wp2
        go_round
        case rel => exact ⟨k + 1, by omega, by go_num, HN.out⟩
        case measure => simp [intOf]; omega
      · have HN := Lib.hid (isWordL_of_not_all (all_no s k hlt (by simpa using hb))); rw [letter_iff] at hb
        by_cases h1 : (s[k].toNat : Int) < 97
        · clear hb
          go_wp2
          go_ret
          exact ⟨ret_bool HN.out.symm, rfl⟩
        · have h2 : 122 < (s[k].toNat : Int) := by omega
          clear hb
          go_wp2
          go_ret
          exact ⟨ret_bool HN.out.symm, rfl⟩
    · have HN := Lib.hid (isWordL_of_all (by have := H.out; rwa [take_all s k (by omega)] at this)); clear H
      go_wp2
      go_ret
      exact ⟨ret_bool (by rw [HN.out, size_eq]; have := HL.out; simp; omega), rfl⟩

end Go.Proofs.Ytdeiillfdjebdaa
