/- Contract: spec.ReadMoney. -/
import Derived.Test.YtfadmlgdabamhaaDoorChecked
import Derived.Test.YtfadmlgdabamhaaDoorPure9
import Derived.Test.YtfadmlgdabamhaaDoorBase
import Derived.Test.YtfadmlgdabamhaaDoorVals
import Derived.Test.YtfadmlgdabamhaaDoorMoney
import Derived.Test.YtfadmlgdabamhaaDoorNums
import Derived.Test.YtfadmlgdabamhaaDoorReadMI
import Derived.WalkKit
import Derived.WalkSpells
import Derived.WalkLawsBesides
import Derived.Lib.Hide
import Derived.Outline
namespace Go.Proofs.YtfadmlgdabamhaaDoor
open Go.RowKit Pure2 Pure3 Pure4 Pure7 Pure9

theorem isMoney_digs {s : ByteArray} {n : Int} (h : IsMoney s n) : digsB s = D n.natAbs := by rw [← h.2]; exact digsB_money h.1
theorem isMoney_sign {s : ByteArray} {n : Int} (h : IsMoney s n) : s.data.toList.head? = some 45 ↔ n < 0 := by rw [← h.2]; exact money_head n
theorem head_of {s : ByteArray} (h : 0 < s.size) : s.data.toList.head? = some s[0] := by
  have := Pure5.drop_cons s 0 h; rw [List.drop_zero] at this; rw [this]; rfl
theorem take_digs (s : ByteArray) (k : Nat) (x : UInt8) (h : s.data.toList[k]? = some x) : digs [] (s.data.toList.take (k + 1)) = dstep (digs [] (s.data.toList.take k)) x := by
  rw [List.take_add_one, h, digs_append]; show digs _ [x] = _; rw [digs_cons, digs_nil]
theorem toList_get {s : ByteArray} {k : Nat} (h : k < s.size) : s.data.toList[k]? = some s[k] := by
  rw [List.getElem?_eq_getElem (by simpa using h)]; rfl
theorem extract_one {s : ByteArray} {k : Nat} (h : k < s.size) : (s.extract k (k + 1)).data.toList = [s[k]] := by
  rw [Lib.extract_data, Pure5.drop_cons s k h, show k + 1 - k = 1 by omega]; rfl
theorem dstep_yes {d : ByteArray} {acc : List UInt8} {s : ByteArray} {k : Nat} (h : k < s.size) (hd : d.data.toList = acc) (hc : (48 ≤ s[k].toNat ∧ s[k].toNat ≤ 57) ∧ (acc ≠ [] ∨ s[k] ≠ 48)) : (d ++ s.extract k (k + 1)).data.toList = dstep acc s[k] := by
  rw [ByteArray.data_append, Array.toList_append, extract_one h, hd, dstep, if_pos hc]
theorem decB_of_digs {s d : ByteArray} {n : Int} (h : IsMoney s n) (hd : d.data.toList = digsB s) (hne : d.data.toList ≠ []) : decB (n.natAbs : Int) = d := by
  have e := isMoney_digs h
  rw [← hd] at e
  have hz : n.natAbs ≠ 0 := by intro hz; rw [hz] at e; exact hne e
  rw [D, if_neg hz] at e
  rw [← mk_toList d, e]
  unfold decB; rw [Lib.itoa_nonneg]
theorem isMoney_bd {s : ByteArray} {n : Int} (h : IsMoney s n) : (n.natAbs : Int) ≤ 1000000000000 := by have := (isVal_iff n).1 h.1; omega

set_option maxRecDepth 100000 in
set_option maxHeartbeats 2000000 in
theorem specReadMoney_any (s : ByteArray) (w : World) (hs : s.size ≤ 1048576) :
    Calls Tryd.prog 31 #[.string s] w (SaysM (readMoney s) w) := by
  go_enter Tryd.func31, Tryd.ntmps31
  go_wp2_with fail
  go_loop [4, 5] (fun v i => ∃ (k : Nat) (d : ByteArray), k ≤ s.size ∧ k ≤ 20 ∧ i = .int .i64 k ∧ v = .string d ∧ d.data.toList = digs [] (s.data.toList.take k) ∧ d.size ≤ k) (fun _ i => s.size - (intOf i).toNat)
  case atStart => exact ⟨0, ⟨#[]⟩, Nat.zero_le _, by omega, rfl, rfl, by rw [List.take_zero, digs_nil], Nat.le_refl _⟩
  case round =>
    obtain ⟨k, d, hk, hk20, rfl, rfl, hd, hds⟩ := hrel
    have HD := Lib.hid hd; clear hd
    by_cases hlt : k < s.size ∧ k < 20
    · obtain ⟨h1, h2⟩ := hlt
      have HT := Lib.hid (take_digs s k _ (toList_get h1))
      by_cases hc : 48 ≤ (s[k].toNat : Int) ∧ (s[k].toNat : Int) ≤ 57
      · obtain ⟨hc1, hc2⟩ := hc
        by_cases hemp : d = ⟨#[]⟩
        · have hE := Lib.hid hemp
          have he1 : d.toList.isEmpty = true := by rw [hemp]; rw [ByteArray.toList_eq]; rfl
          by_cases h48 : s[k] = 48
          · have hz : ((s[k].toNat : Int) == 48) = true := by rw [h48]; rfl
            have HN := Lib.hid (show d.data.toList = digs [] (s.data.toList.take (k + 1)) by
              rw [HT.out, ← HD.out, dstep, if_neg]
              · intro h; rcases h.2 with h | h
                · exact h (by rw [hemp])
                · exact h h48)
            clear hemp h48
            go_wp2_with fail
            go_round
            case rel => exact ⟨k + 1, d, by omega, by omega, by go_num, rfl, HN.out, by omega⟩
            case measure => simp [intOf]; omega
          · have hz : ((s[k].toNat : Int) == 48) = false := by
              rw [beq_eq_false_iff_ne]; intro e; apply h48; apply UInt8.toNat_inj.1; show s[k].toNat = 48; omega
            have HN := Lib.hid (show (d ++ s.extract k (k + 1)).data.toList = digs [] (s.data.toList.take (k + 1)) by
              rw [HT.out]; exact dstep_yes h1 HD.out ⟨⟨by omega, by omega⟩, .inr h48⟩)
            have hsz : (s.extract k (k + 1)).size = 1 := by rw [← Pure1.size_eq, extract_one h1]; rfl
            have HSZ := Lib.hid (show (d ++ s.extract k (k + 1)).size ≤ k + 1 by rw [ByteArray.size_append]; omega)
            clear hemp h48
            go_wp2_with fail
            go_round
            case rel => exact ⟨k + 1, _, by omega, by omega, by go_num, rfl, HN.out, HSZ.out⟩
            case measure => simp [intOf]; omega
        · have he1 : d.toList.isEmpty = false := by
            rw [ByteArray.toList_eq]
            cases hl : d.data.toList with
            | nil => exact absurd (by rw [← mk_toList d, hl]) hemp
            | cons c r => rfl
          have HN := Lib.hid (show (d ++ s.extract k (k + 1)).data.toList = digs [] (s.data.toList.take (k + 1)) by
            rw [HT.out]; exact dstep_yes h1 HD.out ⟨⟨by omega, by omega⟩, .inl (by rw [← HD.out]; intro e; exact hemp (by rw [← mk_toList d, e]))⟩)
          have hsz : (s.extract k (k + 1)).size = 1 := by rw [← Pure1.size_eq, extract_one h1]; rfl
          have HSZ := Lib.hid (show (d ++ s.extract k (k + 1)).size ≤ k + 1 by rw [ByteArray.size_append]; omega)
          clear hemp
          go_wp2_with fail
          go_round
          case rel => exact ⟨k + 1, _, by omega, by omega, by go_num, rfl, HN.out, HSZ.out⟩
          case measure => simp [intOf]; omega
      · have HN := Lib.hid (show d.data.toList = digs [] (s.data.toList.take (k + 1)) by
          rw [HT.out, ← HD.out, dstep_no (by omega)])
        by_cases hlo : (s[k].toNat : Int) < 48
        · clear hc
          go_wp2_with fail
          go_round
          case rel => exact ⟨k + 1, d, by omega, by omega, by go_num, rfl, HN.out, by omega⟩
          case measure => simp [intOf]; omega
        · have hhi : 57 < (s[k].toNat : Int) := by omega
          have hlo' : 48 ≤ (s[k].toNat : Int) := by omega
          clear hc hlo
          go_wp2_with fail
          go_round
          case rel => exact ⟨k + 1, d, by omega, by omega, by go_num, rfl, HN.out, by omega⟩
          case measure => simp [intOf]; omega
    · have HF := Lib.hid (show d.data.toList = digsB s by
        rw [HD.out, digsB]
        by_cases h20 : k = 20
        · rw [h20]
        · rw [List.take_of_length_le (by rw [Pure1.size_eq]; omega), List.take_of_length_le (by rw [Pure1.size_eq]; omega)])
      have HDS := Lib.hid hds
      by_cases hend : k < s.size
      · have hx1 : (k : Int) < s.size := by omega
        have hx2 : 20 ≤ (k : Int) := by omega
        clear hend
        by_cases hemp : d = ⟨#[]⟩
        · have he1 : d.toList.isEmpty = true := by rw [hemp]; rw [ByteArray.toList_eq]; rfl
          have HU := Lib.hid (show ∀ n, IsMoney s n → (n.natAbs : Int) = 0 from fun n hn => by
            have e := isMoney_digs hn
            rw [← HF.out, hemp] at e
            by_cases hz : n.natAbs = 0
            · omega
            · rw [D, if_neg hz] at e; exact absurd e.symm (dec_ne _))
          have HB := Lib.hid (Below.refl w.heap.size w)
          clear hemp hlt
          by_cases hpos : 0 < s.size
          · by_cases h45 : s[0] = 45
            · have hsg : ((s[0].toNat : Int) == 45) = true := by rw [h45]; rfl
              have HSG := Lib.hid (show s.data.toList.head? = some 45 by rw [head_of hpos, h45])
              have hp' : 0 < (s.size : Int) := by omega
              clear h45
              have HU2 := Lib.hid (show ∀ n, IsMoney s n → n = 0 from fun n hn => by
                have h1 := HU.out n hn
                have h2 := (isMoney_sign hn).1 HSG.out
                omega)
              have HIs := Lib.hid (specIs_any (0) w)
              have HMo := Lib.hid (specMoney_any (0) w (by omega) (by omega))
              by_cases hv : isVal (0) = true
              · rw [hv] at HIs
                by_cases hm : moneyT (0) = s
                · have HR := Lib.hid (readMoney_yes (s := s) ⟨hv, hm⟩)
                  have HM := Lib.hid hm
                  clear hm hv
                  go_wp2_with fail
                  refine HIs.out.mono ?_; rintro e w' ⟨rfl, rfl⟩
                  go_wp2_with fail
                  refine HMo.out.mono ?_; rintro e w9 ⟨rfl, hB9⟩; have HB9 := Lib.hid (HB.out.trans (hB9.mono HB.out.size)); clear hB9
                  rw [HM.out]
                  go_wp2_with fail
                  go_ret2
                  exact ⟨ret_m HR.out, HB9.out⟩
                · have HR := Lib.hid (readMoney_no (s := s) (fun n hn => hm (by have e := HU2.out n hn; rw [← e]; exact hn.2)))
                  have hne := text_ne hm
                  clear hm hv
                  go_wp2_with fail
                  refine HIs.out.mono ?_; rintro e w' ⟨rfl, rfl⟩
                  go_wp2_with fail
                  refine HMo.out.mono ?_; rintro e w9 ⟨rfl, hB9⟩; have HB9 := Lib.hid (HB.out.trans (hB9.mono HB.out.size)); clear hB9
                  go_wp2_with fail
                  go_ret2
                  exact ⟨ret_m HR.out, HB9.out⟩
              · have hv' : isVal (0) = false := by simpa using hv
                have HR := Lib.hid (readMoney_no (s := s) (fun n hn => hv (by have e := HU2.out n hn; rw [← e]; exact hn.1)))
                rw [hv'] at HIs
                clear hv hv'
                go_wp2_with fail
                refine HIs.out.mono ?_; rintro e w' ⟨rfl, rfl⟩
                go_wp2_with fail
                go_ret2
                exact ⟨ret_m HR.out, HB.out⟩
            · have hsg : ((s[0].toNat : Int) == 45) = false := by
                rw [beq_eq_false_iff_ne]; intro e; apply h45; apply UInt8.toNat_inj.1; show s[0].toNat = 45; omega
              have HSG := Lib.hid (show s.data.toList.head? ≠ some 45 by rw [head_of hpos]; intro e; exact h45 (Option.some.inj e))
              have hp' : 0 < (s.size : Int) := by omega
              clear h45
              have HU2 := Lib.hid (show ∀ n, IsMoney s n → n = 0 from fun n hn => by
                have h1 := HU.out n hn
                have h2 := (show ¬ n < 0 from fun h => HSG.out ((isMoney_sign hn).2 h))
                omega)
              have HIs := Lib.hid (specIs_any (0) w)
              have HMo := Lib.hid (specMoney_any (0) w (by omega) (by omega))
              by_cases hv : isVal (0) = true
              · rw [hv] at HIs
                by_cases hm : moneyT (0) = s
                · have HR := Lib.hid (readMoney_yes (s := s) ⟨hv, hm⟩)
                  have HM := Lib.hid hm
                  clear hm hv
                  go_wp2_with fail
                  refine HIs.out.mono ?_; rintro e w' ⟨rfl, rfl⟩
                  go_wp2_with fail
                  refine HMo.out.mono ?_; rintro e w9 ⟨rfl, hB9⟩; have HB9 := Lib.hid (HB.out.trans (hB9.mono HB.out.size)); clear hB9
                  rw [HM.out]
                  go_wp2_with fail
                  go_ret2
                  exact ⟨ret_m HR.out, HB9.out⟩
                · have HR := Lib.hid (readMoney_no (s := s) (fun n hn => hm (by have e := HU2.out n hn; rw [← e]; exact hn.2)))
                  have hne := text_ne hm
                  clear hm hv
                  go_wp2_with fail
                  refine HIs.out.mono ?_; rintro e w' ⟨rfl, rfl⟩
                  go_wp2_with fail
                  refine HMo.out.mono ?_; rintro e w9 ⟨rfl, hB9⟩; have HB9 := Lib.hid (HB.out.trans (hB9.mono HB.out.size)); clear hB9
                  go_wp2_with fail
                  go_ret2
                  exact ⟨ret_m HR.out, HB9.out⟩
              · have hv' : isVal (0) = false := by simpa using hv
                have HR := Lib.hid (readMoney_no (s := s) (fun n hn => hv (by have e := HU2.out n hn; rw [← e]; exact hn.1)))
                rw [hv'] at HIs
                clear hv hv'
                go_wp2_with fail
                refine HIs.out.mono ?_; rintro e w' ⟨rfl, rfl⟩
                go_wp2_with fail
                go_ret2
                exact ⟨ret_m HR.out, HB.out⟩
          · exfalso; omega
        · have he1 : d.toList.isEmpty = false := by
            rw [ByteArray.toList_eq]
            cases hl : d.data.toList with
            | nil => exact absurd (by rw [← mk_toList d, hl]) hemp
            | cons c r => rfl
          have HNE := Lib.hid (show d.data.toList ≠ [] from fun e => hemp (by rw [← mk_toList d, e]))
          have HC := Lib.hid (specValue_any d w (by omega))
          clear hemp hlt
          by_cases hpos : 0 < s.size
          · by_cases h45 : s[0] = 45
            · have hsg : ((s[0].toNat : Int) == 45) = true := by rw [h45]; rfl
              have HSG := Lib.hid (show s.data.toList.head? = some 45 by rw [head_of hpos, h45])
              have hp' : 0 < (s.size : Int) := by omega
              clear h45
              go_wp2_with fail
              refine HC.out.mono ?_; rintro e w1 ⟨kk, b, rfl, n0, n1, hR, hB⟩
              have HR0 := Lib.hid hR; have HB := Lib.hid hB; clear hR hB
              cases b with
              | false =>
                have HR := Lib.hid (readMoney_no (s := s) (fun n hn => HR0.out.2 rfl n.natAbs (by omega) (by have := isMoney_bd hn; omega) (decB_of_digs hn HF.out HNE.out)))
                go_wp2_with fail
                go_ret2
                exact ⟨ret_m HR.out, HB.out⟩
              | true =>
              have HU := Lib.hid (show ∀ n, IsMoney s n → (n.natAbs : Int) = kk from fun n hn => by
                have e := (HR0.out.1 rfl).1
                rw [← decB_of_digs hn HF.out HNE.out] at e
                have := isMoney_bd hn
                exact (decB_inj (by omega) (by omega) (by omega) (by omega) e).symm)
              have HU2 := Lib.hid (show ∀ n, IsMoney s n → n = -kk from fun n hn => by
                have h1 := HU.out n hn
                have h2 := (isMoney_sign hn).1 HSG.out
                omega)
              have HIs := Lib.hid (specIs_any (-kk) w1)
              have HMo := Lib.hid (specMoney_any (-kk) w1 (by omega) (by omega))
              by_cases hv : isVal (-kk) = true
              · rw [hv] at HIs
                by_cases hm : moneyT (-kk) = s
                · have HR := Lib.hid (readMoney_yes (s := s) ⟨hv, hm⟩)
                  have HM := Lib.hid hm
                  clear hm hv
                  go_wp2_with fail
                  refine HIs.out.mono ?_; rintro e w' ⟨rfl, rfl⟩
                  go_wp2_with fail
                  refine HMo.out.mono ?_; rintro e w9 ⟨rfl, hB9⟩; have HB9 := Lib.hid (HB.out.trans (hB9.mono HB.out.size)); clear hB9
                  rw [HM.out]
                  go_wp2_with fail
                  go_ret2
                  exact ⟨ret_m HR.out, HB9.out⟩
                · have HR := Lib.hid (readMoney_no (s := s) (fun n hn => hm (by have e := HU2.out n hn; rw [← e]; exact hn.2)))
                  have hne := text_ne hm
                  clear hm hv
                  go_wp2_with fail
                  refine HIs.out.mono ?_; rintro e w' ⟨rfl, rfl⟩
                  go_wp2_with fail
                  refine HMo.out.mono ?_; rintro e w9 ⟨rfl, hB9⟩; have HB9 := Lib.hid (HB.out.trans (hB9.mono HB.out.size)); clear hB9
                  go_wp2_with fail
                  go_ret2
                  exact ⟨ret_m HR.out, HB9.out⟩
              · have hv' : isVal (-kk) = false := by simpa using hv
                have HR := Lib.hid (readMoney_no (s := s) (fun n hn => hv (by have e := HU2.out n hn; rw [← e]; exact hn.1)))
                rw [hv'] at HIs
                clear hv hv'
                go_wp2_with fail
                refine HIs.out.mono ?_; rintro e w' ⟨rfl, rfl⟩
                go_wp2_with fail
                go_ret2
                exact ⟨ret_m HR.out, HB.out⟩
            · have hsg : ((s[0].toNat : Int) == 45) = false := by
                rw [beq_eq_false_iff_ne]; intro e; apply h45; apply UInt8.toNat_inj.1; show s[0].toNat = 45; omega
              have HSG := Lib.hid (show s.data.toList.head? ≠ some 45 by rw [head_of hpos]; intro e; exact h45 (Option.some.inj e))
              have hp' : 0 < (s.size : Int) := by omega
              clear h45
              go_wp2_with fail
              refine HC.out.mono ?_; rintro e w1 ⟨kk, b, rfl, n0, n1, hR, hB⟩
              have HR0 := Lib.hid hR; have HB := Lib.hid hB; clear hR hB
              cases b with
              | false =>
                have HR := Lib.hid (readMoney_no (s := s) (fun n hn => HR0.out.2 rfl n.natAbs (by omega) (by have := isMoney_bd hn; omega) (decB_of_digs hn HF.out HNE.out)))
                go_wp2_with fail
                go_ret2
                exact ⟨ret_m HR.out, HB.out⟩
              | true =>
              have HU := Lib.hid (show ∀ n, IsMoney s n → (n.natAbs : Int) = kk from fun n hn => by
                have e := (HR0.out.1 rfl).1
                rw [← decB_of_digs hn HF.out HNE.out] at e
                have := isMoney_bd hn
                exact (decB_inj (by omega) (by omega) (by omega) (by omega) e).symm)
              have HU2 := Lib.hid (show ∀ n, IsMoney s n → n = kk from fun n hn => by
                have h1 := HU.out n hn
                have h2 := (show ¬ n < 0 from fun h => HSG.out ((isMoney_sign hn).2 h))
                omega)
              have HIs := Lib.hid (specIs_any (kk) w1)
              have HMo := Lib.hid (specMoney_any (kk) w1 (by omega) (by omega))
              by_cases hv : isVal (kk) = true
              · rw [hv] at HIs
                by_cases hm : moneyT (kk) = s
                · have HR := Lib.hid (readMoney_yes (s := s) ⟨hv, hm⟩)
                  have HM := Lib.hid hm
                  clear hm hv
                  go_wp2_with fail
                  refine HIs.out.mono ?_; rintro e w' ⟨rfl, rfl⟩
                  go_wp2_with fail
                  refine HMo.out.mono ?_; rintro e w9 ⟨rfl, hB9⟩; have HB9 := Lib.hid (HB.out.trans (hB9.mono HB.out.size)); clear hB9
                  rw [HM.out]
                  go_wp2_with fail
                  go_ret2
                  exact ⟨ret_m HR.out, HB9.out⟩
                · have HR := Lib.hid (readMoney_no (s := s) (fun n hn => hm (by have e := HU2.out n hn; rw [← e]; exact hn.2)))
                  have hne := text_ne hm
                  clear hm hv
                  go_wp2_with fail
                  refine HIs.out.mono ?_; rintro e w' ⟨rfl, rfl⟩
                  go_wp2_with fail
                  refine HMo.out.mono ?_; rintro e w9 ⟨rfl, hB9⟩; have HB9 := Lib.hid (HB.out.trans (hB9.mono HB.out.size)); clear hB9
                  go_wp2_with fail
                  go_ret2
                  exact ⟨ret_m HR.out, HB9.out⟩
              · have hv' : isVal (kk) = false := by simpa using hv
                have HR := Lib.hid (readMoney_no (s := s) (fun n hn => hv (by have e := HU2.out n hn; rw [← e]; exact hn.1)))
                rw [hv'] at HIs
                clear hv hv'
                go_wp2_with fail
                refine HIs.out.mono ?_; rintro e w' ⟨rfl, rfl⟩
                go_wp2_with fail
                go_ret2
                exact ⟨ret_m HR.out, HB.out⟩
          · exfalso; omega
      · have hx1 : (s.size : Int) ≤ k := by omega
        clear hend
        by_cases hemp : d = ⟨#[]⟩
        · have he1 : d.toList.isEmpty = true := by rw [hemp]; rw [ByteArray.toList_eq]; rfl
          have HU := Lib.hid (show ∀ n, IsMoney s n → (n.natAbs : Int) = 0 from fun n hn => by
            have e := isMoney_digs hn
            rw [← HF.out, hemp] at e
            by_cases hz : n.natAbs = 0
            · omega
            · rw [D, if_neg hz] at e; exact absurd e.symm (dec_ne _))
          have HB := Lib.hid (Below.refl w.heap.size w)
          clear hemp hlt
          by_cases hpos : 0 < s.size
          · by_cases h45 : s[0] = 45
            · have hsg : ((s[0].toNat : Int) == 45) = true := by rw [h45]; rfl
              have HSG := Lib.hid (show s.data.toList.head? = some 45 by rw [head_of hpos, h45])
              have hp' : 0 < (s.size : Int) := by omega
              clear h45
              have HU2 := Lib.hid (show ∀ n, IsMoney s n → n = 0 from fun n hn => by
                have h1 := HU.out n hn
                have h2 := (isMoney_sign hn).1 HSG.out
                omega)
              have HIs := Lib.hid (specIs_any (0) w)
              have HMo := Lib.hid (specMoney_any (0) w (by omega) (by omega))
              by_cases hv : isVal (0) = true
              · rw [hv] at HIs
                by_cases hm : moneyT (0) = s
                · have HR := Lib.hid (readMoney_yes (s := s) ⟨hv, hm⟩)
                  have HM := Lib.hid hm
                  clear hm hv
                  go_wp2_with fail
                  refine HIs.out.mono ?_; rintro e w' ⟨rfl, rfl⟩
                  go_wp2_with fail
                  refine HMo.out.mono ?_; rintro e w9 ⟨rfl, hB9⟩; have HB9 := Lib.hid (HB.out.trans (hB9.mono HB.out.size)); clear hB9
                  rw [HM.out]
                  go_wp2_with fail
                  go_ret2
                  exact ⟨ret_m HR.out, HB9.out⟩
                · have HR := Lib.hid (readMoney_no (s := s) (fun n hn => hm (by have e := HU2.out n hn; rw [← e]; exact hn.2)))
                  have hne := text_ne hm
                  clear hm hv
                  go_wp2_with fail
                  refine HIs.out.mono ?_; rintro e w' ⟨rfl, rfl⟩
                  go_wp2_with fail
                  refine HMo.out.mono ?_; rintro e w9 ⟨rfl, hB9⟩; have HB9 := Lib.hid (HB.out.trans (hB9.mono HB.out.size)); clear hB9
                  go_wp2_with fail
                  go_ret2
                  exact ⟨ret_m HR.out, HB9.out⟩
              · have hv' : isVal (0) = false := by simpa using hv
                have HR := Lib.hid (readMoney_no (s := s) (fun n hn => hv (by have e := HU2.out n hn; rw [← e]; exact hn.1)))
                rw [hv'] at HIs
                clear hv hv'
                go_wp2_with fail
                refine HIs.out.mono ?_; rintro e w' ⟨rfl, rfl⟩
                go_wp2_with fail
                go_ret2
                exact ⟨ret_m HR.out, HB.out⟩
            · have hsg : ((s[0].toNat : Int) == 45) = false := by
                rw [beq_eq_false_iff_ne]; intro e; apply h45; apply UInt8.toNat_inj.1; show s[0].toNat = 45; omega
              have HSG := Lib.hid (show s.data.toList.head? ≠ some 45 by rw [head_of hpos]; intro e; exact h45 (Option.some.inj e))
              have hp' : 0 < (s.size : Int) := by omega
              clear h45
              have HU2 := Lib.hid (show ∀ n, IsMoney s n → n = 0 from fun n hn => by
                have h1 := HU.out n hn
                have h2 := (show ¬ n < 0 from fun h => HSG.out ((isMoney_sign hn).2 h))
                omega)
              have HIs := Lib.hid (specIs_any (0) w)
              have HMo := Lib.hid (specMoney_any (0) w (by omega) (by omega))
              by_cases hv : isVal (0) = true
              · rw [hv] at HIs
                by_cases hm : moneyT (0) = s
                · have HR := Lib.hid (readMoney_yes (s := s) ⟨hv, hm⟩)
                  have HM := Lib.hid hm
                  clear hm hv
                  go_wp2_with fail
                  refine HIs.out.mono ?_; rintro e w' ⟨rfl, rfl⟩
                  go_wp2_with fail
                  refine HMo.out.mono ?_; rintro e w9 ⟨rfl, hB9⟩; have HB9 := Lib.hid (HB.out.trans (hB9.mono HB.out.size)); clear hB9
                  rw [HM.out]
                  go_wp2_with fail
                  go_ret2
                  exact ⟨ret_m HR.out, HB9.out⟩
                · have HR := Lib.hid (readMoney_no (s := s) (fun n hn => hm (by have e := HU2.out n hn; rw [← e]; exact hn.2)))
                  have hne := text_ne hm
                  clear hm hv
                  go_wp2_with fail
                  refine HIs.out.mono ?_; rintro e w' ⟨rfl, rfl⟩
                  go_wp2_with fail
                  refine HMo.out.mono ?_; rintro e w9 ⟨rfl, hB9⟩; have HB9 := Lib.hid (HB.out.trans (hB9.mono HB.out.size)); clear hB9
                  go_wp2_with fail
                  go_ret2
                  exact ⟨ret_m HR.out, HB9.out⟩
              · have hv' : isVal (0) = false := by simpa using hv
                have HR := Lib.hid (readMoney_no (s := s) (fun n hn => hv (by have e := HU2.out n hn; rw [← e]; exact hn.1)))
                rw [hv'] at HIs
                clear hv hv'
                go_wp2_with fail
                refine HIs.out.mono ?_; rintro e w' ⟨rfl, rfl⟩
                go_wp2_with fail
                go_ret2
                exact ⟨ret_m HR.out, HB.out⟩
          · have HSG := Lib.hid (show s.data.toList.head? ≠ some 45 by
              have : s.data.toList = [] := by apply List.length_eq_zero_iff.1; rw [Pure1.size_eq]; omega
              rw [this]; intro e; cases e)
            have hp' : (s.size : Int) ≤ 0 := by omega
            clear hpos
            have HU2 := Lib.hid (show ∀ n, IsMoney s n → n = 0 from fun n hn => by
              have h1 := HU.out n hn
              have h2 := (show ¬ n < 0 from fun h => HSG.out ((isMoney_sign hn).2 h))
              omega)
            have HIs := Lib.hid (specIs_any (0) w)
            have HMo := Lib.hid (specMoney_any (0) w (by omega) (by omega))
            by_cases hv : isVal (0) = true
            · rw [hv] at HIs
              by_cases hm : moneyT (0) = s
              · have HR := Lib.hid (readMoney_yes (s := s) ⟨hv, hm⟩)
                have HM := Lib.hid hm
                clear hm hv
                go_wp2_with fail
                refine HIs.out.mono ?_; rintro e w' ⟨rfl, rfl⟩
                go_wp2_with fail
                refine HMo.out.mono ?_; rintro e w9 ⟨rfl, hB9⟩; have HB9 := Lib.hid (HB.out.trans (hB9.mono HB.out.size)); clear hB9
                rw [HM.out]
                go_wp2_with fail
                go_ret2
                exact ⟨ret_m HR.out, HB9.out⟩
              · have HR := Lib.hid (readMoney_no (s := s) (fun n hn => hm (by have e := HU2.out n hn; rw [← e]; exact hn.2)))
                have hne := text_ne hm
                clear hm hv
                go_wp2_with fail
                refine HIs.out.mono ?_; rintro e w' ⟨rfl, rfl⟩
                go_wp2_with fail
                refine HMo.out.mono ?_; rintro e w9 ⟨rfl, hB9⟩; have HB9 := Lib.hid (HB.out.trans (hB9.mono HB.out.size)); clear hB9
                go_wp2_with fail
                go_ret2
                exact ⟨ret_m HR.out, HB9.out⟩
            · have hv' : isVal (0) = false := by simpa using hv
              have HR := Lib.hid (readMoney_no (s := s) (fun n hn => hv (by have e := HU2.out n hn; rw [← e]; exact hn.1)))
              rw [hv'] at HIs
              clear hv hv'
              go_wp2_with fail
              refine HIs.out.mono ?_; rintro e w' ⟨rfl, rfl⟩
              go_wp2_with fail
              go_ret2
              exact ⟨ret_m HR.out, HB.out⟩
        · have he1 : d.toList.isEmpty = false := by
            rw [ByteArray.toList_eq]
            cases hl : d.data.toList with
            | nil => exact absurd (by rw [← mk_toList d, hl]) hemp
            | cons c r => rfl
          have HNE := Lib.hid (show d.data.toList ≠ [] from fun e => hemp (by rw [← mk_toList d, e]))
          have HC := Lib.hid (specValue_any d w (by omega))
          clear hemp hlt
          by_cases hpos : 0 < s.size
          · by_cases h45 : s[0] = 45
            · have hsg : ((s[0].toNat : Int) == 45) = true := by rw [h45]; rfl
              have HSG := Lib.hid (show s.data.toList.head? = some 45 by rw [head_of hpos, h45])
              have hp' : 0 < (s.size : Int) := by omega
              clear h45
              go_wp2_with fail
              refine HC.out.mono ?_; rintro e w1 ⟨kk, b, rfl, n0, n1, hR, hB⟩
              have HR0 := Lib.hid hR; have HB := Lib.hid hB; clear hR hB
              cases b with
              | false =>
                have HR := Lib.hid (readMoney_no (s := s) (fun n hn => HR0.out.2 rfl n.natAbs (by omega) (by have := isMoney_bd hn; omega) (decB_of_digs hn HF.out HNE.out)))
                go_wp2_with fail
                go_ret2
                exact ⟨ret_m HR.out, HB.out⟩
              | true =>
              have HU := Lib.hid (show ∀ n, IsMoney s n → (n.natAbs : Int) = kk from fun n hn => by
                have e := (HR0.out.1 rfl).1
                rw [← decB_of_digs hn HF.out HNE.out] at e
                have := isMoney_bd hn
                exact (decB_inj (by omega) (by omega) (by omega) (by omega) e).symm)
              have HU2 := Lib.hid (show ∀ n, IsMoney s n → n = -kk from fun n hn => by
                have h1 := HU.out n hn
                have h2 := (isMoney_sign hn).1 HSG.out
                omega)
              have HIs := Lib.hid (specIs_any (-kk) w1)
              have HMo := Lib.hid (specMoney_any (-kk) w1 (by omega) (by omega))
              by_cases hv : isVal (-kk) = true
              · rw [hv] at HIs
                by_cases hm : moneyT (-kk) = s
                · have HR := Lib.hid (readMoney_yes (s := s) ⟨hv, hm⟩)
                  have HM := Lib.hid hm
                  clear hm hv
                  go_wp2_with fail
                  refine HIs.out.mono ?_; rintro e w' ⟨rfl, rfl⟩
                  go_wp2_with fail
                  refine HMo.out.mono ?_; rintro e w9 ⟨rfl, hB9⟩; have HB9 := Lib.hid (HB.out.trans (hB9.mono HB.out.size)); clear hB9
                  rw [HM.out]
                  go_wp2_with fail
                  go_ret2
                  exact ⟨ret_m HR.out, HB9.out⟩
                · have HR := Lib.hid (readMoney_no (s := s) (fun n hn => hm (by have e := HU2.out n hn; rw [← e]; exact hn.2)))
                  have hne := text_ne hm
                  clear hm hv
                  go_wp2_with fail
                  refine HIs.out.mono ?_; rintro e w' ⟨rfl, rfl⟩
                  go_wp2_with fail
                  refine HMo.out.mono ?_; rintro e w9 ⟨rfl, hB9⟩; have HB9 := Lib.hid (HB.out.trans (hB9.mono HB.out.size)); clear hB9
                  go_wp2_with fail
                  go_ret2
                  exact ⟨ret_m HR.out, HB9.out⟩
              · have hv' : isVal (-kk) = false := by simpa using hv
                have HR := Lib.hid (readMoney_no (s := s) (fun n hn => hv (by have e := HU2.out n hn; rw [← e]; exact hn.1)))
                rw [hv'] at HIs
                clear hv hv'
                go_wp2_with fail
                refine HIs.out.mono ?_; rintro e w' ⟨rfl, rfl⟩
                go_wp2_with fail
                go_ret2
                exact ⟨ret_m HR.out, HB.out⟩
            · have hsg : ((s[0].toNat : Int) == 45) = false := by
                rw [beq_eq_false_iff_ne]; intro e; apply h45; apply UInt8.toNat_inj.1; show s[0].toNat = 45; omega
              have HSG := Lib.hid (show s.data.toList.head? ≠ some 45 by rw [head_of hpos]; intro e; exact h45 (Option.some.inj e))
              have hp' : 0 < (s.size : Int) := by omega
              clear h45
              go_wp2_with fail
              refine HC.out.mono ?_; rintro e w1 ⟨kk, b, rfl, n0, n1, hR, hB⟩
              have HR0 := Lib.hid hR; have HB := Lib.hid hB; clear hR hB
              cases b with
              | false =>
                have HR := Lib.hid (readMoney_no (s := s) (fun n hn => HR0.out.2 rfl n.natAbs (by omega) (by have := isMoney_bd hn; omega) (decB_of_digs hn HF.out HNE.out)))
                go_wp2_with fail
                go_ret2
                exact ⟨ret_m HR.out, HB.out⟩
              | true =>
              have HU := Lib.hid (show ∀ n, IsMoney s n → (n.natAbs : Int) = kk from fun n hn => by
                have e := (HR0.out.1 rfl).1
                rw [← decB_of_digs hn HF.out HNE.out] at e
                have := isMoney_bd hn
                exact (decB_inj (by omega) (by omega) (by omega) (by omega) e).symm)
              have HU2 := Lib.hid (show ∀ n, IsMoney s n → n = kk from fun n hn => by
                have h1 := HU.out n hn
                have h2 := (show ¬ n < 0 from fun h => HSG.out ((isMoney_sign hn).2 h))
                omega)
              have HIs := Lib.hid (specIs_any (kk) w1)
              have HMo := Lib.hid (specMoney_any (kk) w1 (by omega) (by omega))
              by_cases hv : isVal (kk) = true
              · rw [hv] at HIs
                by_cases hm : moneyT (kk) = s
                · have HR := Lib.hid (readMoney_yes (s := s) ⟨hv, hm⟩)
                  have HM := Lib.hid hm
                  clear hm hv
                  go_wp2_with fail
                  refine HIs.out.mono ?_; rintro e w' ⟨rfl, rfl⟩
                  go_wp2_with fail
                  refine HMo.out.mono ?_; rintro e w9 ⟨rfl, hB9⟩; have HB9 := Lib.hid (HB.out.trans (hB9.mono HB.out.size)); clear hB9
                  rw [HM.out]
                  go_wp2_with fail
                  go_ret2
                  exact ⟨ret_m HR.out, HB9.out⟩
                · have HR := Lib.hid (readMoney_no (s := s) (fun n hn => hm (by have e := HU2.out n hn; rw [← e]; exact hn.2)))
                  have hne := text_ne hm
                  clear hm hv
                  go_wp2_with fail
                  refine HIs.out.mono ?_; rintro e w' ⟨rfl, rfl⟩
                  go_wp2_with fail
                  refine HMo.out.mono ?_; rintro e w9 ⟨rfl, hB9⟩; have HB9 := Lib.hid (HB.out.trans (hB9.mono HB.out.size)); clear hB9
                  go_wp2_with fail
                  go_ret2
                  exact ⟨ret_m HR.out, HB9.out⟩
              · have hv' : isVal (kk) = false := by simpa using hv
                have HR := Lib.hid (readMoney_no (s := s) (fun n hn => hv (by have e := HU2.out n hn; rw [← e]; exact hn.1)))
                rw [hv'] at HIs
                clear hv hv'
                go_wp2_with fail
                refine HIs.out.mono ?_; rintro e w' ⟨rfl, rfl⟩
                go_wp2_with fail
                go_ret2
                exact ⟨ret_m HR.out, HB.out⟩
          · have HSG := Lib.hid (show s.data.toList.head? ≠ some 45 by
              have : s.data.toList = [] := by apply List.length_eq_zero_iff.1; rw [Pure1.size_eq]; omega
              rw [this]; intro e; cases e)
            have hp' : (s.size : Int) ≤ 0 := by omega
            clear hpos
            go_wp2_with fail
            refine HC.out.mono ?_; rintro e w1 ⟨kk, b, rfl, n0, n1, hR, hB⟩
            have HR0 := Lib.hid hR; have HB := Lib.hid hB; clear hR hB
            cases b with
            | false =>
              have HR := Lib.hid (readMoney_no (s := s) (fun n hn => HR0.out.2 rfl n.natAbs (by omega) (by have := isMoney_bd hn; omega) (decB_of_digs hn HF.out HNE.out)))
              go_wp2_with fail
              go_ret2
              exact ⟨ret_m HR.out, HB.out⟩
            | true =>
            have HU := Lib.hid (show ∀ n, IsMoney s n → (n.natAbs : Int) = kk from fun n hn => by
              have e := (HR0.out.1 rfl).1
              rw [← decB_of_digs hn HF.out HNE.out] at e
              have := isMoney_bd hn
              exact (decB_inj (by omega) (by omega) (by omega) (by omega) e).symm)
            have HU2 := Lib.hid (show ∀ n, IsMoney s n → n = kk from fun n hn => by
              have h1 := HU.out n hn
              have h2 := (show ¬ n < 0 from fun h => HSG.out ((isMoney_sign hn).2 h))
              omega)
            have HIs := Lib.hid (specIs_any (kk) w1)
            have HMo := Lib.hid (specMoney_any (kk) w1 (by omega) (by omega))
            by_cases hv : isVal (kk) = true
            · rw [hv] at HIs
              by_cases hm : moneyT (kk) = s
              · have HR := Lib.hid (readMoney_yes (s := s) ⟨hv, hm⟩)
                have HM := Lib.hid hm
                clear hm hv
                go_wp2_with fail
                refine HIs.out.mono ?_; rintro e w' ⟨rfl, rfl⟩
                go_wp2_with fail
                refine HMo.out.mono ?_; rintro e w9 ⟨rfl, hB9⟩; have HB9 := Lib.hid (HB.out.trans (hB9.mono HB.out.size)); clear hB9
                rw [HM.out]
                go_wp2_with fail
                go_ret2
                exact ⟨ret_m HR.out, HB9.out⟩
              · have HR := Lib.hid (readMoney_no (s := s) (fun n hn => hm (by have e := HU2.out n hn; rw [← e]; exact hn.2)))
                have hne := text_ne hm
                clear hm hv
                go_wp2_with fail
                refine HIs.out.mono ?_; rintro e w' ⟨rfl, rfl⟩
                go_wp2_with fail
                refine HMo.out.mono ?_; rintro e w9 ⟨rfl, hB9⟩; have HB9 := Lib.hid (HB.out.trans (hB9.mono HB.out.size)); clear hB9
                go_wp2_with fail
                go_ret2
                exact ⟨ret_m HR.out, HB9.out⟩
            · have hv' : isVal (kk) = false := by simpa using hv
              have HR := Lib.hid (readMoney_no (s := s) (fun n hn => hv (by have e := HU2.out n hn; rw [← e]; exact hn.1)))
              rw [hv'] at HIs
              clear hv hv'
              go_wp2_with fail
              refine HIs.out.mono ?_; rintro e w' ⟨rfl, rfl⟩
              go_wp2_with fail
              go_ret2
              exact ⟨ret_m HR.out, HB.out⟩

end Go.Proofs.YtfadmlgdabamhaaDoor
