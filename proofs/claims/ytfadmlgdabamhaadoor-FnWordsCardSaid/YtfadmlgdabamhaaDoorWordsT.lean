/- Contracts: impl.WordsText and spec.WordsText. -/
import Derived.Test.YtfadmlgdabamhaaDoorChecked
import Derived.Test.YtfadmlgdabamhaaDoorBase
import Derived.Test.YtfadmlgdabamhaaDoorWordsErr
import Derived.Test.YtfadmlgdabamhaaDoorJoinW
import Derived.Test.YtfadmlgdabamhaaDoorJoinP
import Derived.WalkKit
import Derived.WalkSpells
import Derived.WalkLawsBesides
import Derived.Lib.Hide
namespace Go.Proofs.YtfadmlgdabamhaaDoor
open Go.RowKit Pure1 Pure3

set_option maxHeartbeats 400000 in
theorem implWordsText_any (a : Option Addr) (len cap : Nat) (ss : List ByteArray) (w : World) (hl : ss.length = len) (hm : len ≤ maxLen) (hc : len ≤ cap) (h : StrsAt w a ss) (hsz : ∀ x ∈ ss, x.size ≤ maxLen) :
    Calls Tryd.prog 13 #[.slice a len cap] w (SaysT2 (wordsText ss).1 (wordsText ss).2 w) := by
  have HC := Lib.hid (implWordsError_any a len cap ss w hl hm h hsz)
  rcases wordsErr_cases ss with ⟨he, hall, h60⟩ | ⟨he, _⟩ | ⟨he, _⟩
  · have HE := Lib.hid he; rw [he] at HC; clear he
    have hs := allWords_szs hall
    have HJ := Lib.hid (implJoinParts_any a len cap ss w hl hc (by omega) h (by omega))
    have HN := Lib.hid (show wordsText ss = (wordsT ss, 0) by rw [wordsText, if_pos HE.out])
    clear hs hall h60 hl hm hc h hsz
    go_enter Tryd.func13, Tryd.ntmps13
    go_wp2_with fail
    refine HC.out.mono ?_; rintro e w' ⟨rfl, rfl⟩
    go_wp2_with fail
    refine HJ.out.mono ?_; rintro e w1 ⟨rfl, hB⟩
    have HB := Lib.hid hB; clear hB
    go_wp2_with fail
    go_ret2
    exact ⟨ret_str2 (by rw [HN.out]) (by rw [HN.out]), HB.out⟩
  all_goals
    have HN := Lib.hid (show wordsText ss = (⟨#[]⟩, wordsErr ss) by rw [wordsText, if_neg (by omega)])
    rw [he] at HC HN; clear he hl hm hc h hsz
    go_enter Tryd.func13, Tryd.ntmps13
    go_wp2_with fail
    refine HC.out.mono ?_; rintro e w' ⟨rfl, rfl⟩
    go_wp2_with fail
    go_ret2
    exact ⟨ret_str2 (by rw [HN.out]) (by rw [HN.out]), Below.refl _ _⟩

set_option maxHeartbeats 400000 in
theorem specWordsText_any (a : Option Addr) (len cap : Nat) (ss : List ByteArray) (w : World) (hl : ss.length = len) (hm : len ≤ maxLen) (h : StrsAt w a ss) (hsz : ∀ x ∈ ss, x.size ≤ maxLen) :
    Calls Tryd.prog 14 #[.slice a len cap] w fun e w' => e = .returned (.tuple #[.string (wordsText ss).1, .int .i64 (wordsText ss).2]) ∧ w = w' := by
  have HC := Lib.hid (specAll_any a len cap ss w hl hm h hsz)
  rcases wordsErr_cases ss with ⟨he, hall, h60⟩ | ⟨he, hall⟩ | ⟨he, hall, h60⟩
  · have hs := allWords_szs hall
    have HJ := Lib.hid (specWords_any a len cap ss comma w hl hm h (by rw [show comma.size = 1 from rfl, Nat.one_mul]; omega) (by rw [show comma.size = 1 from rfl]; omega))
    have HN := Lib.hid (show wordsText ss = (wordsT ss, 0) by rw [wordsText, if_pos he])
    rw [hall] at HC
    rw [hl] at h60
    by_cases h0 : len = 0
    · obtain rfl := len_eq hl h0
      subst h0
      clear hl h hs hsz hall he HJ
      go_enter Tryd.func14, Tryd.ntmps14
      go_wp2_with fail
      refine HC.out.mono ?_; rintro e w' ⟨rfl, rfl⟩
      go_wp2_with fail
      go_ret2
      exact ⟨ret_str2 (by rw [HN.out]; rfl) (by rw [HN.out]), rfl⟩
    · have HT := Lib.hid (wordsT_some (len_ne hl h0))
      have hz : ((len : Int) == 0) = false := beq_eq_false_iff_ne.2 (by omega)
      clear hl h hs hsz hall he h0
      go_enter Tryd.func14, Tryd.ntmps14
      go_wp2_with fail
      refine HC.out.mono ?_; rintro e w' ⟨rfl, rfl⟩
      go_wp2_with fail
      refine HJ.out.mono ?_; rintro e w' ⟨rfl, rfl⟩
      go_wp2_with fail
      go_ret2
      exact ⟨ret_str2 (by rw [HN.out, HT.out]) (by rw [HN.out]), rfl⟩
  · have HN := Lib.hid (show wordsText ss = (⟨#[]⟩, 1) by rw [wordsText, if_neg (by omega), he])
    rw [hall] at HC; clear he hl hm h hsz hall
    go_enter Tryd.func14, Tryd.ntmps14
    go_wp2_with fail
    refine HC.out.mono ?_; rintro e w' ⟨rfl, rfl⟩
    go_wp2_with fail
    go_ret2
    exact ⟨ret_str2 (by rw [HN.out]) (by rw [HN.out]), rfl⟩
  · have HN := Lib.hid (show wordsText ss = (⟨#[]⟩, 3) by rw [wordsText, if_neg (by omega), he])
    have h60' : 60 < (len : Int) := by omega
    rw [hall] at HC; clear he hl hm h hsz hall h60
    go_enter Tryd.func14, Tryd.ntmps14
    go_wp2_with fail
    refine HC.out.mono ?_; rintro e w' ⟨rfl, rfl⟩
    go_wp2_with fail
    go_ret2
    exact ⟨ret_str2 (by rw [HN.out]) (by rw [HN.out]), rfl⟩

end Go.Proofs.YtfadmlgdabamhaaDoor
