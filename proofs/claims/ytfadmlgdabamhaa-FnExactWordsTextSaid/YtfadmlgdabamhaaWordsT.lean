/- Contracts of the functions of chapter 1 that write words: wordsError, l01All, l01Words, joinParts, impl.WordsText, spec.WordsText. -/
import Derived.Test.YtfadmlgdabamhaaChecked
import Derived.Test.YtfadmlgdabamhaaPure3
import Derived.Test.YtfadmlgdabamhaaIsWord
import Derived.Test.YtfadmlgdabamhaaSum
import Derived.Test.YtfadmlgdabamhaaJoin
import Derived.WalkKit
import Derived.WalkSpells
import Derived.WalkLawsBesides
import Derived.Lib.Hide
namespace Go.Proofs.Ytfadmlgdabamhaa
open Go.RowKit Pure1 Pure3

set_option maxHeartbeats 400000 in
theorem implWordsError_any (a : Option Addr) (len cap : Nat) (ss : List ByteArray) (w : World) (hl : ss.length = len) (hm : len ≤ maxLen) (h : StrsAt w a ss) (hsz : ∀ x ∈ ss, x.size ≤ maxLen) :
    Calls Try.prog 31 #[.slice a len cap] w fun e w' => e = .returned (.int .i64 (wordsErr ss)) ∧ w = w' := by
  unfold maxLen at hm
  have HL := Lib.hid hl; have HI := Lib.hid h; have HS := Lib.hid hsz; clear hl h hsz
  go_enter Try.func31, Try.ntmps31
  go_wp2
  go_loop [4, 7] (fun _ i => ∃ k : Nat, k ≤ len ∧ i = .int .i64 k ∧ allWords (ss.take k) = true) (fun _ i => len - (intOf i).toNat)
  case atStart => exact ⟨0, Nat.zero_le _, rfl, rfl⟩
  case round =>
    obtain ⟨k, hk, rfl, hall⟩ := hrel
    have H := Lib.hid hall; clear hall
    by_cases hlt : k < len
    · obtain ⟨b, off, x, ha, hc, ht, hx⟩ := HI.out.at HL.out hlt
      have HX := Lib.hid hx; have HT := Lib.hid ht; clear hx ht
      have HXS := Lib.hid (HS.out x (List.mem_of_getElem? HX.out))
      subst ha
      by_cases hv : isWordL x.data.toList = true
      · have HN := Lib.hid (show allWords (ss.take (k+1)) = true by rw [HT.out]; exact allWords_snoc H.out hv)
        go_wp2_with (go_at_call 12; refine (implIsWord_any _ _ HXS.out).mono ?_; rintro e w' ⟨rfl, rfl⟩)
        go_round
        case rel => exact ⟨k + 1, by omega, by go_num, HN.out⟩
        case measure => simp [intOf]; omega
      · have hv' : isWordL x.data.toList = false := by simpa using hv
        have HN := Lib.hid (wordsErr_no (ss := ss) (by rw [allWords_no HX.out hv']; simp))
        clear hv
        go_wp2_with (go_at_call 12; refine (implIsWord_any _ _ HXS.out).mono ?_; rintro e w' ⟨rfl, rfl⟩)
        go_ret
        exact ⟨ret_i64 HN.out.symm, rfl⟩
    · have hall : allWords ss = true := by have := H.out; rwa [List.take_of_length_le (by rw [HL.out]; omega)] at this
      by_cases h60 : len ≤ 60
      · have HN := Lib.hid (wordsErr_zero hall (by rw [HL.out]; exact h60)); clear hall
        go_wp2
        go_ret
        exact ⟨ret_i64 HN.out.symm, rfl⟩
      · have HN := Lib.hid (wordsErr_long hall (by rw [HL.out]; exact h60)); clear hall
        go_wp2
        go_ret
        exact ⟨ret_i64 HN.out.symm, rfl⟩

set_option maxHeartbeats 400000 in
theorem specAll_any (a : Option Addr) (len cap : Nat) (ss : List ByteArray) (w : World) (hl : ss.length = len) (hm : len ≤ maxLen) (h : StrsAt w a ss) (hsz : ∀ x ∈ ss, x.size ≤ maxLen) :
    Calls Try.prog 29 #[.slice a len cap] w fun e w' => e = .returned (.bool (allWords ss)) ∧ w = w' := by
  unfold maxLen at hm
  have HL := Lib.hid hl; have HI := Lib.hid h; have HS := Lib.hid hsz; clear hl h hsz
  go_enter Try.func29, Try.ntmps29
  go_wp2
  go_loop [3] (fun i => ∃ k : Nat, k ≤ len ∧ i = .int .i64 k ∧ allWords (ss.take k) = true) (fun i => len - (intOf i).toNat)
  case atStart => exact ⟨0, Nat.zero_le _, rfl, rfl⟩
  case round =>
    obtain ⟨k, hk, rfl, hall⟩ := hrel
    have H := Lib.hid hall; clear hall
    by_cases hlt : k < len
    · obtain ⟨b, off, x, ha, hc, ht, hx⟩ := HI.out.at HL.out hlt
      have HX := Lib.hid hx; have HT := Lib.hid ht; clear hx ht
      have HXS := Lib.hid (HS.out x (List.mem_of_getElem? HX.out))
      subst ha
      by_cases hv : isWordL x.data.toList = true
      · have HN := Lib.hid (show allWords (ss.take (k+1)) = true by rw [HT.out]; exact allWords_snoc H.out hv)
        go_wp2_with (go_at_call 13; refine (specIsWord_any _ _ HXS.out).mono ?_; rintro e w' ⟨rfl, rfl⟩)
        go_round
        case rel => exact ⟨k + 1, by omega, by go_num, HN.out⟩
        case measure => simp [intOf]; omega
      · have hv' : isWordL x.data.toList = false := by simpa using hv
        have HN := Lib.hid (allWords_no HX.out hv')
        clear hv
        go_wp2_with (go_at_call 13; refine (specIsWord_any _ _ HXS.out).mono ?_; rintro e w' ⟨rfl, rfl⟩)
        go_ret
        exact ⟨ret_bool HN.out.symm, rfl⟩
    · have HN := Lib.hid (show allWords ss = true by have := H.out; rwa [List.take_of_length_le (by rw [HL.out]; omega)] at this)
      go_wp2
      go_ret
      exact ⟨ret_bool HN.out.symm, rfl⟩

theorem ret_str {a b : ByteArray} (h : a = b) : Ending.returned (.string a) = .returned (.string b) := by rw [h]
theorem ret_str2 {a b : ByteArray} {c d : Int} (h : a = b) (h' : c = d) : Ending.returned (.tuple #[.string a, .int .i64 c]) = .returned (.tuple #[.string b, .int .i64 d]) := by rw [h, h']

set_option maxHeartbeats 400000 in
theorem specWords_any (a : Option Addr) (len cap : Nat) (ss : List ByteArray) (sep : ByteArray) (w : World) (hl : ss.length = len) (hm : len ≤ maxLen) (h : StrsAt w a ss) (hsz : szs ss + sep.size * ss.length ≤ 1000000000) (hsep : sep.size ≤ 1000000000) :
    Calls Try.prog 30 #[.slice a len cap, .string sep] w fun e w' => e = .returned (.string (joinB ss sep)) ∧ w = w' := by
  unfold maxLen at hm
  have HB := Lib.hid (fun k => Nat.le_trans (joinB_take_size ss sep k) hsz)
  have HE := Lib.hid (fun k x (hx : ss[k]? = some x) => Nat.le_trans (szs_mem hx) (Nat.le_trans (Nat.le_add_right _ _) hsz))
  have HL := Lib.hid hl; have HI := Lib.hid h; clear hl h hsz
  go_enter Try.func30, Try.ntmps30
  go_wp2
  go_loop [5, 6] (fun t i => ∃ k : Nat, k ≤ len ∧ i = .int .i64 k ∧ t = .string (joinB (ss.take k) sep)) (fun _ i => len - (intOf i).toNat)
  case atStart => exact ⟨0, Nat.zero_le _, rfl, rfl⟩
  case round =>
    obtain ⟨k, hk, rfl, rfl⟩ := hrel
    by_cases hlt : k < len
    · obtain ⟨b, off, x, ha, hc, ht, hx⟩ := HI.out.at HL.out hlt
      have hB := HB.out k
      have hE := HE.out k x hx
      subst ha
      by_cases h0 : 0 < k
      · have HT := Lib.hid (show joinB (ss.take k) sep ++ sep ++ x = joinB (ss.take (k+1)) sep by
          rw [ht]; exact joinB_snoc _ _ _ (by intro e; have := congrArg List.length e; rw [List.length_take, HL.out] at this; simp at this; omega))
        have hs2 : (joinB (ss.take k) sep ++ sep).size ≤ 2000000000 := by rw [ByteArray.size_append]; omega
        clear hx ht
        go_wp2
        go_round
        case rel => exact ⟨k + 1, by omega, by go_num, by rw [← HT.out]⟩
        case measure => simp [intOf]; omega
      · obtain rfl : k = 0 := by omega
        have HT := Lib.hid (show joinB [] sep ++ x = joinB (ss.take 1) sep by rw [show ss.take 1 = [x] from ht]; exact joinB_first _ _)
        rw [List.take_zero] at hB
        rw [Nat.add_zero] at hc
        clear hx ht
        go_wp2
        go_round
        case rel => exact ⟨1, by omega, by go_num, by rw [← HT.out]⟩
        case measure => simp [intOf]; omega
    · have HN := Lib.hid (show joinB (ss.take k) sep = joinB ss sep by rw [List.take_of_length_le (by rw [HL.out]; omega)])
      go_wp2
      go_ret
      exact ⟨ret_str HN.out, rfl⟩

theorem joinB_join {ss : List ByteArray} : (⟨(Lib.join (ss.map (·.data.toList)) comma.data.toList).toArray⟩ : ByteArray) = joinB ss comma := rfl
theorem wordsT_none : wordsT [] = ⟨#[45]⟩ := rfl
theorem wordsT_some {ss : List ByteArray} (h : ss ≠ []) : wordsT ss = joinB ss comma := by rw [wordsT, if_neg h]
theorem len_ne {α : Type} {ss : List α} {len : Nat} (hl : ss.length = len) (h : len ≠ 0) : ss ≠ [] := by
  intro e; subst e; simp at hl; omega
theorem len_eq {α : Type} {ss : List α} {len : Nat} (hl : ss.length = len) (h : len = 0) : ss = [] := by
  subst h; exact List.length_eq_zero_iff.1 hl

/-- a text is returned; nothing that was there has turned -/
def SaysT (s : ByteArray) (w : World) (e : Ending) (w' : World) : Prop := e = .returned (.string s) ∧ Below w.heap.size w w'
def SaysT2 (s : ByteArray) (n : Int) (w : World) (e : Ending) (w' : World) : Prop := e = .returned (.tuple #[.string s, .int .i64 n]) ∧ Below w.heap.size w w'

set_option maxHeartbeats 400000 in
theorem implJoinParts_any (a : Option Addr) (len cap : Nat) (ss : List ByteArray) (w : World) (hl : ss.length = len) (hm : len ≤ cap) (hc : len ≤ 1000000000) (h : StrsAt w a ss) (hsz : szs ss + ss.length ≤ 1000000000) :
    Calls Try.prog 32 #[.slice a len cap] w (SaysT (wordsT ss) w) := by
  by_cases h0 : len = 0
  · obtain rfl := len_eq hl h0
    subst h0
    clear hl h
    go_enter Try.func32, Try.ntmps32
    go_wp2
    go_ret
    exact ⟨ret_str wordsT_none.symm, Below.refl _ _⟩
  · rcases h with rfl | ⟨b, off, rfl, hcell⟩
    · exact absurd hl.symm h0
    · have hne := len_ne hl h0
      have hlt : b < w.heap.size := by
        have := hcell 0 _ (List.getElem?_eq_getElem (by omega))
        exact World.block_lt_of_cell? w _ this
      have HJ := Lib.hid (Try.strings_Join b off cap ss comma w hcell hlt (by omega) (by omega) (by
        have := joinB_size ss comma
        have e : (joinB ss comma).size = (Lib.join (ss.map (·.data.toList)) comma.data.toList).length := by rw [← joinB_join]; exact List.size_toArray
        rw [e, show comma.size = 1 from rfl, Nat.one_mul] at this
        omega))
      rw [hl] at HJ
      have HN := Lib.hid (wordsT_some hne)
      have hz : ((len : Int) == 0) = false := beq_eq_false_iff_ne.2 (by omega)
      clear hl hcell hne h0
      go_enter Try.func32, Try.ntmps32
      go_wp2_with fail
      refine HJ.out.mono ?_
      rintro e w1 ⟨rfl, hB⟩
      have HB := Lib.hid hB; clear hB
      go_wp2_with fail
      go_ret
      exact ⟨ret_str (by rw [HN.out]; rfl), HB.out⟩

set_option maxHeartbeats 400000 in
theorem implWordsText_any (a : Option Addr) (len cap : Nat) (ss : List ByteArray) (w : World) (hl : ss.length = len) (hm : len ≤ maxLen) (hc : len ≤ cap) (h : StrsAt w a ss) (hsz : ∀ x ∈ ss, x.size ≤ maxLen) :
    Calls Try.prog 17 #[.slice a len cap] w (SaysT2 (wordsText ss).1 (wordsText ss).2 w) := by
  have HC := Lib.hid (implWordsError_any a len cap ss w hl hm h hsz)
  rcases wordsErr_cases ss with ⟨he, hall, h60⟩ | ⟨he, _⟩ | ⟨he, _⟩
  · have HE := Lib.hid he; rw [he] at HC; clear he
    have hs := allWords_szs hall
    have HJ := Lib.hid (implJoinParts_any a len cap ss w hl hc (by omega) h (by omega))
    have HN := Lib.hid (show wordsText ss = (wordsT ss, 0) by rw [wordsText, if_pos HE.out])
    clear hs hall h60 hl hm hc h hsz
    go_enter Try.func17, Try.ntmps17
    go_wp2_with fail
    refine HC.out.mono ?_; rintro e w' ⟨rfl, rfl⟩
    go_wp2_with fail
    refine HJ.out.mono ?_; rintro e w1 ⟨rfl, hB⟩
    have HB := Lib.hid hB; clear hB
    go_wp2_with fail
    go_ret2
    exact ⟨ret_str2 (by rw [HN.out]) (by rw [HN.out]), HB.out⟩
  all_goals
    have HN := Lib.hid (show wordsText ss = (⟨#[]⟩, wordsErr ss) by rw [wordsText, if_neg (by omega)])
    rw [he] at HC HN; clear he hl hm hc h hsz
    go_enter Try.func17, Try.ntmps17
    go_wp2_with fail
    refine HC.out.mono ?_; rintro e w' ⟨rfl, rfl⟩
    go_wp2_with fail
    go_ret2
    exact ⟨ret_str2 (by rw [HN.out]) (by rw [HN.out]), Below.refl _ _⟩

set_option maxHeartbeats 400000 in
theorem specWordsText_any (a : Option Addr) (len cap : Nat) (ss : List ByteArray) (w : World) (hl : ss.length = len) (hm : len ≤ maxLen) (h : StrsAt w a ss) (hsz : ∀ x ∈ ss, x.size ≤ maxLen) :
    Calls Try.prog 15 #[.slice a len cap] w fun e w' => e = .returned (.tuple #[.string (wordsText ss).1, .int .i64 (wordsText ss).2]) ∧ w = w' := by
  have HC := Lib.hid (specAll_any a len cap ss w hl hm h hsz)
  rcases wordsErr_cases ss with ⟨he, hall, h60⟩ | ⟨he, hall⟩ | ⟨he, hall, h60⟩
  · have hs := allWords_szs hall
    have HJ := Lib.hid (specWords_any a len cap ss comma w hl hm h (by rw [show comma.size = 1 from rfl, Nat.one_mul]; omega) (by rw [show comma.size = 1 from rfl]; omega))
    have HN := Lib.hid (show wordsText ss = (wordsT ss, 0) by rw [wordsText, if_pos he])
    rw [hall] at HC
    rw [hl] at h60
    by_cases h0 : len = 0
    · obtain rfl := len_eq hl h0
      subst h0
      clear hl h hs hsz hall he HJ
      go_enter Try.func15, Try.ntmps15
      go_wp2_with fail
      refine HC.out.mono ?_; rintro e w' ⟨rfl, rfl⟩
      go_wp2_with fail
      go_ret2
      exact ⟨ret_str2 (by rw [HN.out]; rfl) (by rw [HN.out]), rfl⟩
    · have HT := Lib.hid (wordsT_some (len_ne hl h0))
      have hz : ((len : Int) == 0) = false := beq_eq_false_iff_ne.2 (by omega)
      clear hl h hs hsz hall he h0
      go_enter Try.func15, Try.ntmps15
      go_wp2_with fail
      refine HC.out.mono ?_; rintro e w' ⟨rfl, rfl⟩
      go_wp2_with fail
      refine HJ.out.mono ?_; rintro e w' ⟨rfl, rfl⟩
      go_wp2_with fail
      go_ret2
      exact ⟨ret_str2 (by rw [HN.out, HT.out]) (by rw [HN.out]), rfl⟩
  · have HN := Lib.hid (show wordsText ss = (⟨#[]⟩, 1) by rw [wordsText, if_neg (by omega), he])
    rw [hall] at HC; clear he hl hm h hsz hall
    go_enter Try.func15, Try.ntmps15
    go_wp2_with fail
    refine HC.out.mono ?_; rintro e w' ⟨rfl, rfl⟩
    go_wp2_with fail
    go_ret2
    exact ⟨ret_str2 (by rw [HN.out]) (by rw [HN.out]), rfl⟩
  · have HN := Lib.hid (show wordsText ss = (⟨#[]⟩, 3) by rw [wordsText, if_neg (by omega), he])
    have h60' : 60 < (len : Int) := by omega
    rw [hall] at HC; clear he hl hm h hsz hall h60
    go_enter Try.func15, Try.ntmps15
    go_wp2_with fail
    refine HC.out.mono ?_; rintro e w' ⟨rfl, rfl⟩
    go_wp2_with fail
    go_ret2
    exact ⟨ret_str2 (by rw [HN.out]) (by rw [HN.out]), rfl⟩

end Go.Proofs.Ytfadmlgdabamhaa
