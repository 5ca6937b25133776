/- Contracts: impl.wordsError and spec.l01All look whether all texts are words. -/
import Derived.Test.YtfadmlgdabamhaaDoorChecked
import Derived.Test.YtfadmlgdabamhaaDoorBase
import Derived.Test.YtfadmlgdabamhaaDoorIsWord
import Derived.WalkKit
import Derived.WalkSpells
import Derived.WalkLawsBesides
import Derived.Lib.Hide
namespace Go.Proofs.YtfadmlgdabamhaaDoor
open Go.RowKit Pure1 Pure3

set_option maxHeartbeats 400000 in
theorem implWordsError_any (a : Option Addr) (len cap : Nat) (ss : List ByteArray) (w : World) (hl : ss.length = len) (hm : len ≤ maxLen) (h : StrsAt w a ss) (hsz : ∀ x ∈ ss, x.size ≤ maxLen) :
    Calls Tryd.prog 41 #[.slice a len cap] w fun e w' => e = .returned (.int .i64 (wordsErr ss)) ∧ w = w' := by
  unfold maxLen at hm
  have HL := Lib.hid hl; have HI := Lib.hid h; have HS := Lib.hid hsz; clear hl h hsz
  go_enter Tryd.func41, Tryd.ntmps41
  go_wp2
  go_loop [4, 7] (fun _ i => ∃ k : Nat, k ≤ len ∧ i = .int .i64 k ∧ allWords (ss.take k) = true) (fun _ i => len - (intOf i).toNat)
  case atStart => exact ⟨0, Nat.zero_le _, rfl, rfl⟩
  case round =>
    obtain ⟨k, hk, rfl, hall⟩ := hrel
    have H := Lib.hid hall; clear hall
    by_cases hlt : k < len
    · obtain ⟨b, off, x, ha, hc, ht, hx⟩ := HI.out.at HL.out hlt
      have HX := Lib.hid hx; have HT := Lib.hid ht; clear hx ht
      have HXS := Lib.hid (HS.out x (List.mem_of_getElem? HX.out))
      subst ha
      by_cases hv : isWordL x.data.toList = true
      · have HN := Lib.hid (show allWords (ss.take (k+1)) = true by rw [HT.out]; exact allWords_snoc H.out hv)
        go_wp2_with (go_at_call 67; refine (implIsWord_any _ _ HXS.out).mono ?_; rintro e w' ⟨rfl, rfl⟩)
        go_round
        case rel => exact ⟨k + 1, by omega, by go_num, HN.out⟩
        case measure => simp [intOf]; omega
      · have hv' : isWordL x.data.toList = false := by simpa using hv
        have HN := Lib.hid (wordsErr_no (ss := ss) (by rw [allWords_no HX.out hv']; simp))
        clear hv
        go_wp2_with (go_at_call 67; refine (implIsWord_any _ _ HXS.out).mono ?_; rintro e w' ⟨rfl, rfl⟩)
        go_ret
        exact ⟨ret_i64 HN.out.symm, rfl⟩
    · have hall : allWords ss = true := by have := H.out; rwa [List.take_of_length_le (by rw [HL.out]; omega)] at this
      by_cases h60 : len ≤ 60
      · have HN := Lib.hid (wordsErr_zero hall (by rw [HL.out]; exact h60)); clear hall
        go_wp2
        go_ret
        exact ⟨ret_i64 HN.out.symm, rfl⟩
      · have HN := Lib.hid (wordsErr_long hall (by rw [HL.out]; exact h60)); clear hall
        go_wp2
        go_ret
        exact ⟨ret_i64 HN.out.symm, rfl⟩

set_option maxHeartbeats 400000 in
theorem specAll_any (a : Option Addr) (len cap : Nat) (ss : List ByteArray) (w : World) (hl : ss.length = len) (hm : len ≤ maxLen) (h : StrsAt w a ss) (hsz : ∀ x ∈ ss, x.size ≤ maxLen) :
    Calls Tryd.prog 43 #[.slice a len cap] w fun e w' => e = .returned (.bool (allWords ss)) ∧ w = w' := by
  unfold maxLen at hm
  have HL := Lib.hid hl; have HI := Lib.hid h; have HS := Lib.hid hsz; clear hl h hsz
  go_enter Tryd.func43, Tryd.ntmps43
  go_wp2
  go_loop [3] (fun i => ∃ k : Nat, k ≤ len ∧ i = .int .i64 k ∧ allWords (ss.take k) = true) (fun i => len - (intOf i).toNat)
  case atStart => exact ⟨0, Nat.zero_le _, rfl, rfl⟩
  case round =>
    obtain ⟨k, hk, rfl, hall⟩ := hrel
    have H := Lib.hid hall; clear hall
    by_cases hlt : k < len
    · obtain ⟨b, off, x, ha, hc, ht, hx⟩ := HI.out.at HL.out hlt
      have HX := Lib.hid hx; have HT := Lib.hid ht; clear hx ht
      have HXS := Lib.hid (HS.out x (List.mem_of_getElem? HX.out))
      subst ha
      by_cases hv : isWordL x.data.toList = true
      · have HN := Lib.hid (show allWords (ss.take (k+1)) = true by rw [HT.out]; exact allWords_snoc H.out hv)
        go_wp2_with (go_at_call 69; refine (specIsWord_any _ _ HXS.out).mono ?_; rintro e w' ⟨rfl, rfl⟩)
        go_round
        case rel => exact ⟨k + 1, by omega, by go_num, HN.out⟩
        case measure => simp [intOf]; omega
      · have hv' : isWordL x.data.toList = false := by simpa using hv
        have HN := Lib.hid (allWords_no HX.out hv')
        clear hv
        go_wp2_with (go_at_call 69; refine (specIsWord_any _ _ HXS.out).mono ?_; rintro e w' ⟨rfl, rfl⟩)
        go_ret
        exact ⟨ret_bool HN.out.symm, rfl⟩
    · have HN := Lib.hid (show allWords ss = true by have := H.out; rwa [List.take_of_length_le (by rw [HL.out]; omega)] at this)
      go_wp2
      go_ret
      exact ⟨ret_bool HN.out.symm, rfl⟩

end Go.Proofs.YtfadmlgdabamhaaDoor
