/- Contract: impl.ReadMoney. -/
import Derived.Test.YtfadmlgdabamhaaDoorChecked
import Derived.Test.YtfadmlgdabamhaaDoorPure9
import Derived.Test.YtfadmlgdabamhaaDoorBase
import Derived.Test.YtfadmlgdabamhaaDoorMoney
import Derived.Test.YtfadmlgdabamhaaDoorNums
import Derived.Test.YtfadmlgdabamhaaDoorSplitI
import Derived.Test.YtfadmlgdabamhaaDoorSpl
import Derived.WalkKit
import Derived.WalkSpells
import Derived.WalkLawsBesides
import Derived.Lib.Hide
import Derived.Outline
namespace Go.Proofs.YtfadmlgdabamhaaDoor
open Go.RowKit Pure2 Pure3 Pure4 Pure7 Pure9

def dot : ByteArray := ⟨#[46]⟩
theorem cut_parts (s : ByteArray) : ∃ a b : ByteArray, (⟨(Lib.cut s.data.toList dot.data.toList).1.toArray⟩ : ByteArray) = a ∧ (⟨(Lib.cut s.data.toList dot.data.toList).2.1.toArray⟩ : ByteArray) = b ∧ (a ++ b).data.toList = joined s.data.toList ∧ a.size ≤ s.size ∧ b.size ≤ s.size := by
  refine ⟨_, _, rfl, rfl, ?_, ?_, ?_⟩
  · rw [ByteArray.data_append, Array.toList_append]; rfl
  · show (Lib.cut s.data.toList dot.data.toList).1.toArray.size ≤ _
    rw [List.size_toArray, ← Pure1.size_eq s]
    unfold Lib.cut; split
    · show (List.take _ _).length ≤ _; rw [List.length_take]; omega
    · exact Nat.le_refl _
  · show (Lib.cut s.data.toList dot.data.toList).2.1.toArray.size ≤ _
    rw [List.size_toArray, ← Pure1.size_eq s]
    unfold Lib.cut; split
    · show (List.drop _ _).length ≤ _; rw [List.length_drop]; omega
    · exact Nat.zero_le _

def SaysM (r : Int × Int) (w : World) (e : Ending) (w' : World) : Prop := e = .returned (.tuple #[.int .i64 r.1, .int .i64 r.2]) ∧ Below w.heap.size w w'
theorem ret_m {r : Int × Int} {a b : Int} (h : r = (a, b)) : Ending.returned (.tuple #[.int .i64 a, .int .i64 b]) = .returned (.tuple #[.int .i64 r.1, .int .i64 r.2]) := by rw [h]

set_option maxRecDepth 100000 in
set_option maxHeartbeats 800000 in
theorem implReadMoney_any (s : ByteArray) (w : World) (hs : s.size ≤ 1048576) (hM : MaxAt w) (hE : ErrsAt w) (hT : Tabs Tryd.prog w) :
    Calls Tryd.prog 30 #[.string s] w (SaysM (readMoney s) w) := by
  obtain ⟨m, hm⟩ := hM
  have hC := Tryd.strings_Cut s dot m w (by omega) hm
  obtain ⟨a, b, ha, hb, hj, ha2, hb2⟩ := cut_parts s
  rw [ha, hb] at hC
  generalize (Lib.cut s.data.toList dot.data.toList).2.2 = found at hC
  have HC := Lib.hid hC
  have HE := Lib.hid hE; have HT := Lib.hid hT
  have hab : (a ++ b).size ≤ 2097152 := by rw [ByteArray.size_append]; omega
  clear hm hE hT ha hb hC
  obtain ⟨t, ht⟩ : ∃ t, t = a ++ b := ⟨_, rfl⟩
  have HTT := Lib.hid ht
  rw [← ht] at hj hab
  clear ht
  rcases numEnd_cases (Lib.parseIntB 64 t.data.toList) with ⟨v, hp⟩ | hp | hp
  ·
    have HU := Lib.hid (show ∀ n, IsMoney s n → n = v from fun n hn => by
      have := joined_money hn.1
      rw [hn.2, ← hj, hp] at this
      exact (Lib.NumEnd.ok.inj this).symm)
    have HP := Lib.hid (fun W => Tryd.strconv_ParseInt_10_at64_ok t (by omega) v hp W)
    clear hp hj
    go_enter Tryd.func30, Tryd.ntmps30
    go_wp2_with fail
    refine HC.out.mono ?_; rintro e w1 ⟨rfl, n1, rfl⟩
    have HB1 := Lib.hid (Go.below_drewN (Below.refl w.heap.size w) n1)
    obtain ⟨w1, hw1⟩ : ∃ w1, w1 = w.drewN n1 := ⟨_, rfl⟩
    rw [← hw1] at HB1 ⊢; clear hw1
    go_wp2_with fail
    rw [← HTT.out]
    refine (HP.out w1).mono ?_; rintro e w2 ⟨rfl, hw⟩
    have HB2 := Lib.hid (HB1.out.trans ((bytes_below hw).mono HB1.out.size)); clear hw
    go_wp2_with fail
    refine (implMoneyText_any v w2 (HT.out.below Tryd.gPow HB2.out)).mono ?_; rintro e w3 ⟨rfl, hB3⟩
    have HB3 := Lib.hid (HB2.out.trans (hB3.mono HB2.out.size)); clear hB3
    by_cases hv : isVal v = true
    · have HMT := Lib.hid (show moneyText v = (moneyT v, 0) by rw [moneyText, if_pos hv])
      rw [HMT.out]
      by_cases hm : moneyT v = s
      · have HR := Lib.hid (readMoney_yes (s := s) ⟨hv, hm⟩)
        have HM := Lib.hid hm
        rw [HM.out]
        clear hm hv
        go_wp2_with fail
        go_ret2
        exact ⟨ret_m HR.out, HB3.out⟩
      · have HR := Lib.hid (readMoney_no (s := s) (fun n hn => hm (by have e := HU.out n hn; rw [← e]; exact hn.2)))
        have hne := text_ne hm
        clear hm hv
        go_wp2_with fail
        go_ret2
        exact ⟨ret_m HR.out, HB3.out⟩
    · have HMT := Lib.hid (show moneyText v = (⟨#[]⟩, 2) by rw [moneyText, if_neg hv])
      have HR := Lib.hid (readMoney_no (s := s) (fun n hn => hv (by have e := HU.out n hn; rw [← e]; exact hn.1)))
      rw [HMT.out]
      clear hv
      go_wp2_with fail
      go_ret2
      exact ⟨ret_m HR.out, HB3.out⟩
  ·
    have HR := Lib.hid (readMoney_no (s := s) (fun n hn => by
      have := joined_money hn.1
      rw [hn.2, ← hj, hp] at this
      cases this))
    have HP := Lib.hid (fun W tp p h => Tryd.strconv_ParseInt_10_at64_syntax_var t (by omega) hp tp p W h)
    clear hp hj
    go_enter Tryd.func30, Tryd.ntmps30
    go_wp2_with fail
    refine HC.out.mono ?_; rintro e w1 ⟨rfl, n1, rfl⟩
    have HB1 := Lib.hid (Go.below_drewN (Below.refl w.heap.size w) n1)
    obtain ⟨w1, hw1⟩ : ∃ w1, w1 = w.drewN n1 := ⟨_, rfl⟩
    rw [← hw1] at HB1 ⊢; clear hw1
    obtain ⟨⟨t1, p1, h1⟩, _⟩ := HE.out.below HB1.out
    have HV := Lib.hid h1; clear h1
    go_wp2_with fail
    rw [← HTT.out]
    refine (HP.out w1 t1 p1 HV.out).mono ?_; rintro e w2 ⟨N, rfl, _, _, hB⟩
    have HB2 := Lib.hid (HB1.out.trans (hB.mono HB1.out.size)); clear hB
    go_wp2_with fail
    go_ret2
    exact ⟨ret_m HR.out, HB2.out⟩
  ·
    have HR := Lib.hid (readMoney_no (s := s) (fun n hn => by
      have := joined_money hn.1
      rw [hn.2, ← hj, hp] at this
      cases this))
    have HP := Lib.hid (fun W tp p h => Tryd.strconv_ParseInt_10_at64_range_var t (by omega) hp tp p W h)
    obtain ⟨q, hq⟩ : ∃ q, q = Lib.intSat 64 t.data.toList := ⟨_, rfl⟩
    rw [← hq] at HP
    clear hp hj hq
    go_enter Tryd.func30, Tryd.ntmps30
    go_wp2_with fail
    refine HC.out.mono ?_; rintro e w1 ⟨rfl, n1, rfl⟩
    have HB1 := Lib.hid (Go.below_drewN (Below.refl w.heap.size w) n1)
    obtain ⟨w1, hw1⟩ : ∃ w1, w1 = w.drewN n1 := ⟨_, rfl⟩
    rw [← hw1] at HB1 ⊢; clear hw1
    obtain ⟨_, ⟨t1, p1, h1⟩⟩ := HE.out.below HB1.out
    have HV := Lib.hid h1; clear h1
    go_wp2_with fail
    rw [← HTT.out]
    refine (HP.out w1 t1 p1 HV.out).mono ?_; rintro e w2 ⟨N, rfl, _, _, hB⟩
    have HB2 := Lib.hid (HB1.out.trans (hB.mono HB1.out.size)); clear hB
    go_wp2_with fail
    go_ret2
    exact ⟨ret_m HR.out, HB2.out⟩

end Go.Proofs.YtfadmlgdabamhaaDoor
