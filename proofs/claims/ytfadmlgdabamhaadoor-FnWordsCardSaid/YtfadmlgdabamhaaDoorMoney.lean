/- Contracts: impl.twoDigits, impl.MoneyText, spec.l01Money and spec.MoneyText write cents. -/
import Derived.Test.YtfadmlgdabamhaaDoorChecked
import Derived.Test.YtfadmlgdabamhaaDoorPure4
import Derived.Test.YtfadmlgdabamhaaDoorBase
import Derived.Test.YtfadmlgdabamhaaDoorVals
import Derived.Test.YtfadmlgdabamhaaDoorDec
import Derived.WalkKit
import Derived.WalkSpells
import Derived.WalkLawsBesides
import Derived.Lib.Hide
namespace Go.Proofs.YtfadmlgdabamhaaDoor
open Go.RowKit Pure2 Pure3 Pure4

set_option maxHeartbeats 400000 in
theorem implTwoDigits_any (n : Int) (w : World) (h0 : 0 ≤ n) (h1 : n < 100) (ht : Tabs Tryd.prog w) :
    Calls Tryd.prog 59 #[.int .i64 n] w (SaysT (twoB n) w) := by
  have HC := Lib.hid (implNumberText_any n w (by omega) (by omega) ht); clear ht
  have hs : (decB n).size ≤ 21 := decB_size (by omega) (by omega)
  by_cases h10 : n < 10
  · have HN := Lib.hid (twoB_small h0 h10)
    go_enter Tryd.func59, Tryd.ntmps59
    go_wp2_with fail
    refine HC.out.mono ?_; rintro e w1 ⟨rfl, hB⟩; have HB := Lib.hid hB; clear hB
    go_wp2_with fail
    go_ret
    exact ⟨ret_str HN.out, HB.out⟩
  · have HN := Lib.hid (twoB_big (n := n) (by omega) h1)
    go_enter Tryd.func59, Tryd.ntmps59
    go_wp2_with fail
    refine HC.out.mono ?_; rintro e w1 ⟨rfl, hB⟩; have HB := Lib.hid hB; clear hB
    go_wp2_with fail
    go_ret
    exact ⟨ret_str HN.out, HB.out⟩

set_option maxHeartbeats 400000 in
theorem specMoney_pos (n : Int) (w : World) (h0 : 0 ≤ n) (h1 : n ≤ 9223372036854775807) :
    Calls Tryd.prog 61 #[.int .i64 n] w (SaysT (moneyB n) w) := by
  have HC1 := Lib.hid (specDec_any (n / 100).toNat (n / 100) w (by omega) (by omega) (by omega))
  have HC2 := Lib.hid (fun W => specDec_small (n % 100 / 10) W (by omega) (by omega))
  have HC3 := Lib.hid (fun W => specDec_small (n % 10) W (by omega) (by omega))
  have hs : (decB (n / 100)).size ≤ 21 := decB_size (by omega) (by omega)
  have e2 := Lib.hid (decB_small (n := n % 100 / 10) (by omega) (by omega))
  have e3 := Lib.hid (decB_small (n := n % 10) (by omega) (by omega))
  have hs2 : (decB (n % 100 / 10)).size = 1 := by rw [e2.out]; rfl
  have hs3 : (decB (n % 10)).size = 1 := by rw [e3.out]; rfl
  have hs4 : (decB (n / 100) ++ ⟨#[46]⟩).size ≤ 22 := by rw [ByteArray.size_append]; have e : (⟨#[46]⟩ : ByteArray).size = 1 := rfl; omega
  have hs5 : (decB (n / 100) ++ ⟨#[46]⟩ ++ decB (n % 100 / 10)).size ≤ 23 := by rw [ByteArray.size_append]; omega
  go_enter Tryd.func61, Tryd.ntmps61
  go_wp2_with fail
  refine HC1.out.mono ?_; rintro e w1 ⟨rfl, hB⟩; have HB1 := Lib.hid hB; clear hB
  go_wp2_with fail
  refine (HC2.out _).mono ?_; rintro e w2 ⟨rfl, hB⟩; have HB2 := Lib.hid (HB1.out.trans (hB.mono HB1.out.size)); clear hB
  go_wp2_with fail
  refine (HC3.out _).mono ?_; rintro e w3 ⟨rfl, hB⟩; have HB3 := Lib.hid (HB2.out.trans (hB.mono HB2.out.size)); clear hB
  go_wp2_with fail
  go_ret
  exact ⟨ret_str (by rw [e2.out, e3.out]; rfl), HB3.out⟩

set_option maxHeartbeats 400000 in
theorem specMoney_any (n : Int) (w : World) (h0 : -9223372036854775807 ≤ n) (h1 : n ≤ 9223372036854775807) :
    Calls Tryd.prog 61 #[.int .i64 n] w (SaysT (moneyT n) w) := by
  by_cases h : n < 0
  · rw [moneyT_neg h]
    have HC := Lib.hid (specMoney_pos (-n) w (by omega) (by omega))
    have hs := moneyB_size (n := -n) (by omega) (by omega)
    go_enter Tryd.func61, Tryd.ntmps61
    go_wp2_with fail
    refine HC.out.mono ?_; rintro e w1 ⟨rfl, hB⟩; have HB := Lib.hid hB; clear hB
    go_wp2_with fail
    go_ret
    exact ⟨ret_str rfl, HB.out⟩
  · rw [moneyT_pos (by omega)]
    exact specMoney_pos n w (by omega) h1

set_option maxHeartbeats 400000 in
theorem specMoneyText_any (n : Int) (w : World) :
    Calls Tryd.prog 28 #[.int .i64 n] w (SaysT2 (moneyText n).1 (moneyText n).2 w) := by
  have HC := Lib.hid (specIs_any n w)
  by_cases hv : isVal n = true
  · have hb := (isVal_iff n).1 hv
    have HN := Lib.hid (show moneyText n = (moneyT n, 0) by rw [moneyText, if_pos hv])
    have HM := Lib.hid (specMoney_any n w (by omega) (by omega))
    rw [hv] at HC; clear hv hb
    go_enter Tryd.func28, Tryd.ntmps28
    go_wp2_with fail
    refine HC.out.mono ?_; rintro e w' ⟨rfl, rfl⟩
    go_wp2_with fail
    refine HM.out.mono ?_; rintro e w1 ⟨rfl, hB⟩; have HB := Lib.hid hB; clear hB
    go_wp2_with fail
    go_ret2
    exact ⟨ret_str2 (by rw [HN.out]) (by rw [HN.out]), HB.out⟩
  · have hv' : isVal n = false := by simpa using hv
    have HN := Lib.hid (show moneyText n = (⟨#[]⟩, 2) by rw [moneyText, if_neg hv])
    rw [hv'] at HC; clear hv hv'
    go_enter Tryd.func28, Tryd.ntmps28
    go_wp2_with fail
    refine HC.out.mono ?_; rintro e w' ⟨rfl, rfl⟩
    go_wp2_with fail
    go_ret2
    exact ⟨ret_str2 (by rw [HN.out]) (by rw [HN.out]), Below.refl _ _⟩

set_option maxHeartbeats 400000 in
theorem implMoneyText_any (n : Int) (w : World) (ht : Tabs Tryd.prog w) :
    Calls Tryd.prog 27 #[.int .i64 n] w (SaysT2 (moneyText n).1 (moneyText n).2 w) := by
  have HT := Lib.hid ht; clear ht
  have HC := Lib.hid (implIsValue_any n w)
  by_cases hv : isVal n = true
  · have hb := (isVal_iff n).1 hv
    have HN := Lib.hid (show moneyText n = (moneyT n, 0) by rw [moneyText, if_pos hv])
    rw [hv] at HC
    obtain ⟨hlo, hhi⟩ := hb
    clear hv
    by_cases hneg : n < 0
    · obtain ⟨m, rfl⟩ : ∃ m, n = -m := ⟨-n, by omega⟩
      have hm : 0 < m := by omega
      have HP := Lib.hid (show moneyT (-m) = ⟨#[45]⟩ ++ moneyB m by rw [moneyT_neg hneg, Int.neg_neg])
      clear hneg
      have HQ := Lib.hid (money_impl (n := m) (by omega))
      have hs : (decB (m / 100)).size ≤ 21 := decB_size (by omega) (by omega)
      have hs2 : ((⟨#[45]⟩ : ByteArray) ++ decB (m / 100)).size ≤ 22 := by rw [ByteArray.size_append]; have e : (⟨#[45]⟩ : ByteArray).size = 1 := rfl; omega
      have hs3 : ((⟨#[45]⟩ : ByteArray) ++ decB (m / 100) ++ ⟨#[46]⟩).size ≤ 23 := by rw [ByteArray.size_append]; have e : (⟨#[46]⟩ : ByteArray).size = 1 := rfl; omega
      have hs4 := twoB_size (m % 100)
      have HC1 := Lib.hid (implNumberText_any (m / 100) w (by omega) (by omega) HT.out)
      go_enter Tryd.func27, Tryd.ntmps27
      go_wp2_with fail
      refine HC.out.mono ?_; rintro e w' ⟨rfl, rfl⟩
      go_wp2_with fail
      refine HC1.out.mono ?_; rintro e w1 ⟨rfl, hB⟩; have HB1 := Lib.hid hB; clear hB
      go_wp2_with fail
      refine (implTwoDigits_any (m % 100) w1 (by omega) (by omega) (Tabs.below Tryd.gPow HT.out HB1.out)).mono ?_; rintro e w2 ⟨rfl, hB⟩; have HB2 := Lib.hid (HB1.out.trans (hB.mono HB1.out.size)); clear hB
      go_wp2_with fail
      go_ret2
      exact ⟨ret_str2 (by rw [HN.out, HP.out, ← HQ.out]; simp only [ba_assoc]) (by rw [HN.out]), HB2.out⟩
    · have hpos : 0 ≤ n := by omega
      have HP := Lib.hid (moneyT_pos hpos)
      have HQ := Lib.hid (money_impl hpos)
      have hs : (decB (n / 100)).size ≤ 21 := decB_size (by omega) (by omega)
      have hs2 : ((⟨#[]⟩ : ByteArray) ++ decB (n / 100)).size ≤ 22 := by rw [ByteArray.size_append]; have e : (⟨#[]⟩ : ByteArray).size = 0 := rfl; omega
      have hs3 : ((⟨#[]⟩ : ByteArray) ++ decB (n / 100) ++ ⟨#[46]⟩).size ≤ 23 := by rw [ByteArray.size_append]; have e : (⟨#[46]⟩ : ByteArray).size = 1 := rfl; omega
      have hs4 := twoB_size (n % 100)
      have HC1 := Lib.hid (implNumberText_any (n / 100) w (by omega) (by omega) HT.out)
      clear hneg
      go_enter Tryd.func27, Tryd.ntmps27
      go_wp2_with fail
      refine HC.out.mono ?_; rintro e w' ⟨rfl, rfl⟩
      go_wp2_with fail
      refine HC1.out.mono ?_; rintro e w1 ⟨rfl, hB⟩; have HB1 := Lib.hid hB; clear hB
      go_wp2_with fail
      refine (implTwoDigits_any (n % 100) w1 (by omega) (by omega) (Tabs.below Tryd.gPow HT.out HB1.out)).mono ?_; rintro e w2 ⟨rfl, hB⟩; have HB2 := Lib.hid (HB1.out.trans (hB.mono HB1.out.size)); clear hB
      go_wp2_with fail
      go_ret2
      exact ⟨ret_str2 (by rw [HN.out, HP.out, ← HQ.out]; simp only [ba_nil]) (by rw [HN.out]), HB2.out⟩
  · have hv' : isVal n = false := by simpa using hv
    have HN := Lib.hid (show moneyText n = (⟨#[]⟩, 2) by rw [moneyText, if_neg hv])
    rw [hv'] at HC; clear hv hv'
    go_enter Tryd.func27, Tryd.ntmps27
    go_wp2_with fail
    refine HC.out.mono ?_; rintro e w' ⟨rfl, rfl⟩
    go_wp2_with fail
    go_ret2
    exact ⟨ret_str2 (by rw [HN.out]) (by rw [HN.out]), Below.refl _ _⟩

end Go.Proofs.YtfadmlgdabamhaaDoor
