/- Contracts: impl.listError and spec.l01Values return the first error of a list of numbers. -/
import Derived.Test.YtjnicmlomjppnaaGreatDoorChecked
import Derived.Test.YtjnicmlomjppnaaGreatDoorBase0
import Derived.Test.YtjnicmlomjppnaaGreatDoorVals
import Derived.WalkKit
import Derived.WalkSpells
import Derived.WalkLawsBesides
import Derived.Lib.Hide
namespace Go.Proofs.YtjnicmlomjppnaaGreatDoor
open Go.RowKit Pure2

set_option maxHeartbeats 400000 in
theorem implListError_any (a : Option Addr) (len cap : Nat) (zs : List Int) (w : World) (hl : zs.length = len) (hm : len ≤ maxLen) (h : IntsAt w a zs) :
    Calls Tryz.prog 36 #[.slice a len cap] w fun e w' => e = .returned (.int .i64 (listErr zs)) ∧ w = w' := by
  unfold maxLen at hm
  have HL := Lib.hid hl; clear hl
  have HI := Lib.hid h; clear h
  go_enter Tryz.func36, Tryz.ntmps36
  go_wp2
  go_loop [4, 7] (fun _ i => ∃ k : Nat, k ≤ len ∧ i = .int .i64 k ∧ (zs.take k).all isVal = true) (fun _ i => len - (intOf i).toNat)
  case atStart => exact ⟨0, Nat.zero_le _, rfl, rfl⟩
  case round =>
    obtain ⟨k, hk, rfl, hall⟩ := hrel
    have H := Lib.hid hall; clear hall
    by_cases hlt : k < len
    · obtain ⟨b, off, x, ha, hc, ht, hx⟩ := HI.out.at HL.out hlt
      have HX := Lib.hid hx; have HT := Lib.hid ht; clear hx ht
      subst ha
      by_cases hv : isVal x = true
      · have HN := Lib.hid (show (zs.take (k+1)).all isVal = true by rw [HT.out]; exact all_of_snoc H.out hv)
        go_wp2_with (go_at_call 58; refine (implIsValue_any _ _).mono ?_; rintro e w' ⟨rfl, rfl⟩)
        go_round
        case rel => exact ⟨k + 1, by omega, by go_num, HN.out⟩
        case measure => simp [intOf]; omega
      · have hv' : isVal x = false := by simpa using hv
        have HN := Lib.hid (listErr_range (all_no HX.out hv'))
        go_wp2_with (go_at_call 58; refine (implIsValue_any _ _).mono ?_; rintro e w' ⟨rfl, rfl⟩)
        go_ret
        exact ⟨ret_i64 HN.out.symm, rfl⟩
    · have hall : zs.all isVal = true := by have := H.out; rwa [List.take_of_length_le (by rw [HL.out]; omega)] at this
      by_cases h60 : len ≤ 60
      · have HN := Lib.hid (listErr_zero hall (by rw [HL.out]; exact h60)); clear hall
        go_wp2
        go_ret
        exact ⟨ret_i64 HN.out.symm, rfl⟩
      · have HN := Lib.hid (listErr_long hall (by rw [HL.out]; exact h60)); clear hall
        go_wp2
        go_ret
        exact ⟨ret_i64 HN.out.symm, rfl⟩

set_option maxHeartbeats 400000 in
theorem specValues_any (a : Option Addr) (len cap : Nat) (zs : List Int) (w : World) (hl : zs.length = len) (hm : len ≤ maxLen) (h : IntsAt w a zs) :
    Calls Tryz.prog 52 #[.slice a len cap] w fun e w' => e = .returned (.int .i64 (listErr zs)) ∧ w = w' := by
  unfold maxLen at hm
  have HL := Lib.hid hl; clear hl
  have HI := Lib.hid h; clear h
  go_enter Tryz.func52, Tryz.ntmps52
  go_wp2
  go_loop [3] (fun i => ∃ k : Nat, k ≤ len ∧ i = .int .i64 k ∧ (zs.take k).all isVal = true) (fun i => len - (intOf i).toNat)
  case atStart => exact ⟨0, Nat.zero_le _, rfl, rfl⟩
  case round =>
    obtain ⟨k, hk, rfl, hall⟩ := hrel
    have H := Lib.hid hall; clear hall
    by_cases hlt : k < len
    · obtain ⟨b, off, x, ha, hc, ht, hx⟩ := HI.out.at HL.out hlt
      have HX := Lib.hid hx; have HT := Lib.hid ht; clear hx ht
      subst ha
      by_cases hv : isVal x = true
      · have HN := Lib.hid (show (zs.take (k+1)).all isVal = true by rw [HT.out]; exact all_of_snoc H.out hv)
        go_wp2_with (go_at_call 70; refine (specIs_any _ _).mono ?_; rintro e w' ⟨rfl, rfl⟩)
        go_round
        case rel => exact ⟨k + 1, by omega, by go_num, HN.out⟩
        case measure => simp [intOf]; omega
      · have hv' : isVal x = false := by simpa using hv
        have HN := Lib.hid (listErr_range (all_no HX.out hv'))
        go_wp2_with (go_at_call 70; refine (specIs_any _ _).mono ?_; rintro e w' ⟨rfl, rfl⟩)
        go_ret
        exact ⟨ret_i64 HN.out.symm, rfl⟩
    · have hall : zs.all isVal = true := by have := H.out; rwa [List.take_of_length_le (by rw [HL.out]; omega)] at this
      by_cases h60 : len ≤ 60
      · have HN := Lib.hid (listErr_zero hall (by rw [HL.out]; exact h60)); clear hall
        go_wp2
        go_ret
        exact ⟨ret_i64 HN.out.symm, rfl⟩
      · have HN := Lib.hid (listErr_long hall (by rw [HL.out]; exact h60)); clear hall
        go_wp2
        go_ret
        exact ⟨ret_i64 HN.out.symm, rfl⟩

end Go.Proofs.YtjnicmlomjppnaaGreatDoor
