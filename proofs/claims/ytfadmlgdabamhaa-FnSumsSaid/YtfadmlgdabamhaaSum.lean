/- Contracts: impl.SumOf and spec.SumOf. -/
import Derived.Test.YtfadmlgdabamhaaChecked
import Derived.Test.YtfadmlgdabamhaaBase
import Derived.Test.YtfadmlgdabamhaaVals
import Derived.Test.YtfadmlgdabamhaaListErr
import Derived.WalkKit
import Derived.WalkSpells
import Derived.WalkLawsBesides
import Derived.Lib.Hide
namespace Go.Proofs.Ytfadmlgdabamhaa
open Go.RowKit Pure2

set_option maxHeartbeats 400000 in
theorem implSumOf_any (a : Option Addr) (len cap : Nat) (zs : List Int) (w : World) (hl : zs.length = len) (hm : len ≤ maxLen) (h : IntsAt w a zs) :
    Calls Try.prog 9 #[.slice a len cap] w fun e w' => e = .returned (.tuple #[.int .i64 (sumOf zs).1, .int .i64 (sumOf zs).2]) ∧ w = w' := by
  have hm0 := hm
  unfold maxLen at hm
  have HI := Lib.hid h
  have HC := Lib.hid (implListError_any a len cap zs w hl hm0 h)
  have HL := Lib.hid hl; clear hl hm0 h
  rcases listErr_cases zs with ⟨he, hall, h60⟩ | he | he
  · have HE := Lib.hid he; rw [he] at HC; clear he
    have HA := Lib.hid hall; have h60' : len ≤ 60 := by rw [← HL.out]; exact h60
    have HB := Lib.hid (fun k => lsum_take_bd (zs := zs) k hall h60)
    clear hall h60
    go_enter Try.func9, Try.ntmps9
    go_wp2_with (go_at_call 23; refine HC.out.mono ?_; rintro e w' ⟨rfl, rfl⟩)
    go_loop [5, 7, 15] (fun t _ i => ∃ k : Nat, k ≤ len ∧ i = .int .i64 k ∧ t = .int .i64 (lsum (zs.take k))) (fun _ _ i => len - (intOf i).toNat)
    case atStart => exact ⟨0, Nat.zero_le _, rfl, rfl⟩
    case round =>
      obtain ⟨k, hk, rfl, rfl⟩ := hrel
      by_cases hlt : k < len
      · obtain ⟨b, off, x, ha, hc, ht, hx⟩ := HI.out.at HL.out hlt
        obtain ⟨b1, b2⟩ := HB.out k
        obtain ⟨b3, b4⟩ := (isVal_iff x).1 (isVal_of_all hx HA.out)
        have HT := Lib.hid (show lsum (zs.take (k+1)) = lsum (zs.take k) + x by rw [ht, lsum_snoc]); clear hx ht
        subst ha
        go_wp2_with fail
        go_round
        case rel => exact ⟨k + 1, by omega, by go_num, by rw [HT.out]⟩
        case measure => simp [intOf]; omega
      · have HF := Lib.hid (show lsum (zs.take k) = lsum zs by rw [List.take_of_length_le (by rw [HL.out]; omega)])
        rw [HF.out]
        by_cases hv : isVal (lsum zs) = true
        · have HN := Lib.hid (show sumOf zs = (lsum zs, 0) by rw [sumOf, if_pos HE.out, if_pos hv])
          go_wp2_with (go_at_call 24; refine (implIsValue_any _ _).mono ?_; rintro e w' ⟨rfl, rfl⟩)
          go_ret2
          exact ⟨ret_two (by rw [HN.out]) (by rw [HN.out]), rfl⟩
        · have HN := Lib.hid (show sumOf zs = (0, 3) by rw [sumOf, if_pos HE.out, if_neg hv])
          have hv' : isVal (lsum zs) = false := by simpa using hv
          clear hv
          go_wp2_with (go_at_call 24; refine (implIsValue_any _ _).mono ?_; rintro e w' ⟨rfl, rfl⟩)
          go_ret2
          exact ⟨ret_two (by rw [HN.out]) (by rw [HN.out]), rfl⟩
  all_goals
    have HN := Lib.hid (show sumOf zs = (0, listErr zs) by rw [sumOf, if_neg (by omega)])
    rw [he] at HC HN; clear he
    go_enter Try.func9, Try.ntmps9
    go_wp2_with (go_at_call 23; refine HC.out.mono ?_; rintro e w' ⟨rfl, rfl⟩)
    go_ret2
    exact ⟨ret_two (by rw [HN.out]) (by rw [HN.out]), rfl⟩

set_option maxHeartbeats 400000 in
theorem specSumOf_any (a : Option Addr) (len cap : Nat) (zs : List Int) (w : World) (hl : zs.length = len) (hm : len ≤ maxLen) (h : IntsAt w a zs) :
    Calls Try.prog 10 #[.slice a len cap] w fun e w' => e = .returned (.tuple #[.int .i64 (sumOf zs).1, .int .i64 (sumOf zs).2]) ∧ w = w' := by
  have hm0 := hm
  unfold maxLen at hm
  have HI := Lib.hid h
  have HC := Lib.hid (specValues_any a len cap zs w hl hm0 h)
  have HL := Lib.hid hl; clear hl hm0 h
  rcases listErr_cases zs with ⟨he, hall, h60⟩ | he | he
  · have HE := Lib.hid he; rw [he] at HC; clear he
    have HA := Lib.hid hall; have h60' : len ≤ 60 := by rw [← HL.out]; exact h60
    have HB := Lib.hid (fun k => lsum_take_bd (zs := zs) k hall h60)
    clear hall h60
    go_enter Try.func10, Try.ntmps10
    go_wp2_with (go_at_call 25; refine HC.out.mono ?_; rintro e w' ⟨rfl, rfl⟩)
    go_loop [5, 6] (fun t i => ∃ k : Nat, k ≤ len ∧ i = .int .i64 k ∧ t = .int .i64 (lsum (zs.take k))) (fun _ i => len - (intOf i).toNat)
    case atStart => exact ⟨0, Nat.zero_le _, rfl, rfl⟩
    case round =>
      obtain ⟨k, hk, rfl, rfl⟩ := hrel
      by_cases hlt : k < len
      · obtain ⟨b, off, x, ha, hc, ht, hx⟩ := HI.out.at HL.out hlt
        obtain ⟨b1, b2⟩ := HB.out k
        obtain ⟨b3, b4⟩ := (isVal_iff x).1 (isVal_of_all hx HA.out)
        have HT := Lib.hid (show lsum (zs.take (k+1)) = lsum (zs.take k) + x by rw [ht, lsum_snoc]); clear hx ht
        subst ha
        go_wp2_with fail
        go_round
        case rel => exact ⟨k + 1, by omega, by go_num, by rw [HT.out]⟩
        case measure => simp [intOf]; omega
      · have HF := Lib.hid (show lsum (zs.take k) = lsum zs by rw [List.take_of_length_le (by rw [HL.out]; omega)])
        rw [HF.out]
        by_cases hv : isVal (lsum zs) = true
        · have HN := Lib.hid (show sumOf zs = (lsum zs, 0) by rw [sumOf, if_pos HE.out, if_pos hv])
          go_wp2_with (go_at_call 26; refine (specIs_any _ _).mono ?_; rintro e w' ⟨rfl, rfl⟩)
          go_ret2
          exact ⟨ret_two (by rw [HN.out]) (by rw [HN.out]), rfl⟩
        · have HN := Lib.hid (show sumOf zs = (0, 3) by rw [sumOf, if_pos HE.out, if_neg hv])
          have hv' : isVal (lsum zs) = false := by simpa using hv
          clear hv
          go_wp2_with (go_at_call 26; refine (specIs_any _ _).mono ?_; rintro e w' ⟨rfl, rfl⟩)
          go_ret2
          exact ⟨ret_two (by rw [HN.out]) (by rw [HN.out]), rfl⟩
  all_goals
    have HN := Lib.hid (show sumOf zs = (0, listErr zs) by rw [sumOf, if_neg (by omega)])
    rw [he] at HC HN; clear he
    go_enter Try.func10, Try.ntmps10
    go_wp2_with (go_at_call 25; refine HC.out.mono ?_; rintro e w' ⟨rfl, rfl⟩)
    go_loop [5, 6] (fun t i => i = .int .i64 0 ∧ t = .int .i64 0) (fun _ _ => 0)
    case atStart => exact ⟨rfl, rfl⟩
    case round =>
      obtain ⟨rfl, rfl⟩ := hrel
      by_cases hlt : 0 < len
      all_goals
        go_wp2_with fail
        go_ret2
        exact ⟨ret_two (by rw [HN.out]) (by rw [HN.out]), rfl⟩

end Go.Proofs.Ytfadmlgdabamhaa
