/- Contracts: impl.ReadWords and spec.ReadWords. -/
import Derived.Test.YtfadmlgdabamhaaDoorChecked
import Derived.Test.YtfadmlgdabamhaaDoorPure5
import Derived.Test.YtfadmlgdabamhaaDoorBase
import Derived.Test.YtfadmlgdabamhaaDoorSplit
import Derived.Test.YtfadmlgdabamhaaDoorSplitI
import Derived.Test.YtfadmlgdabamhaaDoorWordsErr
import Derived.Test.YtfadmlgdabamhaaDoorMark
import Derived.WalkKit
import Derived.WalkSpells
import Derived.WalkLawsBesides
import Derived.Lib.Hide
import Derived.Deep.OwnRows
import Derived.Outline
namespace Go.Proofs.YtfadmlgdabamhaaDoor
open Go.RowKit Pure3 Pure5

/-- a slice of texts and a code are returned; the slice is the call's own -/
def SaysNew2 (ss : List ByteArray) (n : Int) (w : World) (e : Ending) (w' : World) : Prop := ∃ v, e = .returned (.tuple #[v, .int .i64 n]) ∧ NewStrs w ss v w'
/-- a slice of texts and a code are returned -/
def SaysRead (ss : List ByteArray) (n : Int) (w : World) (e : Ending) (w' : World) : Prop := ∃ a cap, e = .returned (.tuple #[.slice a ss.length cap, .int .i64 n]) ∧ StrsAt w' a ss ∧ Below w.heap.size w w'

theorem newStrs_owns {w w' : World} {ss : List ByteArray} {a : Option Addr} {cap : Nat} (h : NewStrs w ss (.slice a ss.length cap) w') : OwnS w.heap.size w' a ss.length (fun i => ss.getD i ByteArray.empty) := by
  obtain ⟨a', cap', e, _, _, h⟩ := h
  cases e
  rcases h with rfl | ⟨b, f, N, rfl, hb, hN, hr, hf⟩
  · exact .inl rfl
  · exact .inr ⟨b, f, N, rfl, hb, hN, hr, fun i hi => hf i _ (by simp [List.getElem?_eq_getElem hi])⟩
theorem ownS_at {B : Nat} {w : World} {a : Option Addr} {ss : List ByteArray} (h : OwnS B w a ss.length (fun i => ss.getD i ByteArray.empty)) : StrsAt w a ss := by
  rcases h with h | ⟨b, f, N, rfl, hb, hN, hr, hf⟩
  · exact .inl (List.length_eq_zero_iff.1 h)
  · refine .inr ⟨b, 0, rfl, fun i x hx => ?_⟩
    have hi := (List.getElem?_eq_some_iff.1 hx).1
    rw [Nat.zero_add, hr.cell (by omega), hf i hi]
    simp [List.getD, hx]

theorem ret_sl2 {u v : Value} {a b : Int} (h : u = v) (h' : a = b) : Ending.returned (.tuple #[u, .int .i64 a]) = .returned (.tuple #[v, .int .i64 b]) := by rw [h, h']

set_option maxHeartbeats 400000 in
theorem implReadWords_any (s : ByteArray) (w : World) (hs : s.size ≤ 1048576) (hM : MaxAt w) :
    Calls Tryd.prog 16 #[.string s] w (SaysNew2 (readWords s).1 (readWords s).2 w) := by
  have HS := Lib.hid (implSplitParts_any s w hs hM)
  have hlen := iparts_len s
  have HZ := Lib.hid (fun x hx => Nat.le_trans (iparts_sizes s x hx) (Nat.le_trans hs (by decide : 1048576 ≤ maxLen)))
  clear hM
  rcases wordsErr_cases (iparts s) with ⟨he, _, _⟩ | ⟨he, _⟩ | ⟨he, _, _⟩
  · have HN := Lib.hid (show readWords s = (iparts s, 0) by rw [readWords_eq, if_pos he])
    have HE := Lib.hid he; clear he
    go_enter Tryd.func16, Tryd.ntmps16
    go_wp2_with fail
    refine HS.out.mono ?_; rintro e w1 ⟨v, rfl, hN⟩
    obtain ⟨a, cap, rfl, hcap, hB, hrow⟩ := hN
    have HX := Lib.hid (⟨a, cap, rfl, hcap, hB, hrow⟩ : NewStrs w (iparts s) (.slice a (iparts s).length cap) w1)
    have HB := Lib.hid hB; clear hB hrow hcap
    go_wp2_with fail
    refine (implWordsError_any a _ cap (iparts s) w1 rfl (by unfold maxLen; omega) (NewStrs.at HX.out) HZ.out).mono ?_; rintro e w' ⟨rfl, rfl⟩
    rw [HE.out]
    go_wp2_with fail
    go_ret2
    exact ⟨.slice a (iparts s).length cap, ret_sl2 rfl (by rw [HN.out]), by rw [HN.out]; exact HX.out⟩
  all_goals
    have HN := Lib.hid (show readWords s = ([], 6) by rw [readWords_eq, if_neg (by omega)])
    have HE := Lib.hid he; clear he
    go_enter Tryd.func16, Tryd.ntmps16
    go_wp2_with fail
    refine HS.out.mono ?_; rintro e w1 ⟨v, rfl, hN⟩
    obtain ⟨a, cap, rfl, hcap, hB, hrow⟩ := hN
    have HX := Lib.hid (⟨a, cap, rfl, hcap, hB, hrow⟩ : NewStrs w (iparts s) (.slice a (iparts s).length cap) w1)
    have HB := Lib.hid hB; clear hB hrow hcap
    go_wp2_with fail
    refine (implWordsError_any a _ cap (iparts s) w1 rfl (by unfold maxLen; omega) (NewStrs.at HX.out) HZ.out).mono ?_; rintro e w' ⟨rfl, rfl⟩
    rw [HE.out]
    go_wp2_with fail
    go_ret2
    exact ⟨.slice none 0 0, ret_sl2 rfl (by rw [HN.out]), by rw [HN.out]; exact newStrs_nil _ HB.out⟩

set_option maxRecDepth 100000 in
set_option maxHeartbeats 400000 in
theorem specReadWords_any (s : ByteArray) (w : World) (hs : s.size ≤ 1048576) :
    Calls Tryd.prog 17 #[.string s] w (SaysRead (readWords s).1 (readWords s).2 w) := by
  by_cases h : s = minus
  · have HN := Lib.hid (show readWords s = ([], 0) by rw [readWords, if_pos h])
    have hb : (s.toList == [45]) = true := by rw [h]; exact minus_yes
    clear h
    go_enter Tryd.func17, Tryd.ntmps17
    go_wp2_with fail
    go_ret2
    exact ⟨some ⟨w.heap.size, 0, none⟩, 0, ret_sl2 (by rw [HN.out]; rfl) (by rw [HN.out]), by rw [HN.out]; exact .inl rfl, (Below.refl _ _).alloc (Nat.le_refl _) _⟩
  · have hb := minus_no h
    have HS := Lib.hid (specSplit_any s w hs)
    have hlen := parts_len_le s
    have HZ := Lib.hid (fun x hx => Nat.le_trans (parts_sizes s x hx) (Nat.le_trans hs (by decide : 1048576 ≤ maxLen)))
    have HR := Lib.hid (show readWords s = if wordsErr (parts s) = 0 then (parts s, 0) else ([], 6) by rw [readWords, if_neg h])
    clear h
    rcases wordsErr_cases (parts s) with ⟨he, hall, h60⟩ | ⟨he, hall⟩ | ⟨he, hall, h60⟩
    · have HN := Lib.hid (show readWords s = (parts s, 0) by rw [HR.out, if_pos he])
      have HA := Lib.hid hall; clear he hall
      go_enter Tryd.func17, Tryd.ntmps17
      go_wp2_with fail
      refine HS.out.mono ?_; rintro e w1 ⟨v, rfl, ho, hB⟩
      obtain ⟨a, cap, rfl, hcap, hat⟩ := strsAt_of_owns ho
      have HX := Lib.hid hat; have HB := Lib.hid hB; clear hB hat hcap ho
      go_wp2_with fail
      refine (specAll_any a _ cap (parts s) w1 rfl (by unfold maxLen; omega) HX.out HZ.out).mono ?_; rintro e w' ⟨rfl, rfl⟩
      rw [HA.out]
      go_wp2_with fail
      go_ret2
      exact ⟨a, cap, ret_sl2 (by rw [HN.out]; rfl) (by rw [HN.out]), by rw [HN.out]; exact HX.out, HB.out⟩
    · have HN := Lib.hid (show readWords s = ([], 6) by rw [HR.out, if_neg (by omega)])
      have HA := Lib.hid hall; clear he hall
      go_enter Tryd.func17, Tryd.ntmps17
      go_wp2_with fail
      refine HS.out.mono ?_; rintro e w1 ⟨v, rfl, ho, hB⟩
      obtain ⟨a, cap, rfl, hcap, hat⟩ := strsAt_of_owns ho
      have HX := Lib.hid hat; have HB := Lib.hid hB; clear hB hat hcap ho
      go_wp2_with fail
      refine (specAll_any a _ cap (parts s) w1 rfl (by unfold maxLen; omega) HX.out HZ.out).mono ?_; rintro e w' ⟨rfl, rfl⟩
      rw [HA.out]
      go_wp2_with fail
      go_ret2
      exact ⟨none, 0, ret_sl2 (by rw [HN.out]; rfl) (by rw [HN.out]), by rw [HN.out]; exact .inl rfl, HB.out⟩
    · have HN := Lib.hid (show readWords s = ([], 6) by rw [HR.out, if_neg (by omega)])
      have HA := Lib.hid hall
      have h60' : (60 : Int) < ((parts s).length : Int) := by omega
      clear he hall h60
      go_enter Tryd.func17, Tryd.ntmps17
      go_wp2_with fail
      refine HS.out.mono ?_; rintro e w1 ⟨v, rfl, ho, hB⟩
      obtain ⟨a, cap, rfl, hcap, hat⟩ := strsAt_of_owns ho
      have HX := Lib.hid hat; have HB := Lib.hid hB; clear hB hat hcap ho
      go_wp2_with fail
      refine (specAll_any a _ cap (parts s) w1 rfl (by unfold maxLen; omega) HX.out HZ.out).mono ?_; rintro e w' ⟨rfl, rfl⟩
      rw [HA.out]
      go_wp2_with fail
      go_ret2
      exact ⟨none, 0, ret_sl2 (by rw [HN.out]; rfl) (by rw [HN.out]), by rw [HN.out]; exact .inl rfl, HB.out⟩

end Go.Proofs.YtfadmlgdabamhaaDoor
