/- Contracts of chapter 9's model: the index of a number, answers. (written by impl9.py) -/
import Derived.Test.YtchffaohmeaccaaGreatDoorChecked
import Derived.Test.YtchffaohmeaccaaGreatDoorBase0
import Derived.Test.YtchffaohmeaccaaGreatDoorSummonsD
import Derived.Test.YtchffaohmeaccaaGreatDoorSpec90
import Derived.Test.YtchffaohmeaccaaGreatDoorSpec91
import Derived.Test.YtchffaohmeaccaaGreatDoorSet9
import Derived.WalkKit
import Derived.WalkSpells
import Derived.WalkLawsBesides
import Derived.Lib.Hide
import Derived.Lib.QuietBelow
import Derived.IntWalk
import Derived.Deep.QuietTactic
import Derived.BigQuiet
import Derived.BigRegion
import Derived.OwnWalk
import Derived.RegionTactic
import Derived.Outline
namespace Go.Proofs.YtchffaohmeaccaaGreatDoor
open Go.RowKit Go.Sort Pure1 Pure2 Pure20 Pure40

/-- the first index of a number, or -1 -/
def FindI (ts : List Summons) (n : Int) (r : Int) : Prop := (r = -1 ∧ ∀ (i : Nat) s, ts[i]? = some s → s.num ≠ n) ∨ ∃ (k : Nat) (s : Summons), r = k ∧ ts[k]? = some s ∧ s.num = n
theorem ne_next9 {ts : List Summons} {n : Int} {k : Nat} {c : Summons} (h : ∀ (i : Nat) s, i < k → ts[i]? = some s → s.num ≠ n) (hc : ts[k]? = some c) (h' : c.num ≠ n) : ∀ (i : Nat) s, i < k + 1 → ts[i]? = some s → s.num ≠ n := by
  intro i s hi hs
  by_cases e : i = k
  · subst e; rw [hc] at hs; cases hs; exact h'
  · exact h i s (by omega) hs
set_option maxRecDepth 100000 in
set_option maxHeartbeats 1000000 in
theorem specFind9_any (a : Option Addr) (len cap : Nat) (ts : List Summons) (n : Int) (w : World) (hl : ts.length = len) (hm : len ≤ 20) (h : Summons.ListAt w a ts) :
    Calls Tryz.prog 35 #[.slice a len cap, .int .i64 n] w fun e w' => (∃ r, e = .returned (.int .i64 r) ∧ FindI ts n r) ∧ Below w.heap.size w w' := by
  have HL := Lib.hid hl; have HI := Lib.hid h; clear hl h
  go_enter Tryz.func35, Tryz.ntmps35
  go_wp2_with fail
  go_loopw [5] (fun i wr => ∃ k : Nat, k ≤ len ∧ i = .int .i64 k ∧ (∀ (i : Nat) s, i < k → ts[i]? = some s → s.num ≠ n) ∧ Below w.heap.size w wr) (fun i _ => len - (intOf i).toNat)
  case atStart => exact ⟨0, Nat.zero_le _, rfl, fun i s hi => by omega, Below.refl _ _⟩
  case round =>
    obtain ⟨k, hk, rfl, hno, hB⟩ := hrel
    have HN := Lib.hid hno; have HB := Lib.hid hB; clear hno hB
    by_cases hlt : k < len
    · obtain ⟨b, off, c, ha, hc, hp⟩ := (HI.out.below HB.out).at HL.out hlt
      have HP := Lib.hid hp; clear hp
      subst ha
      obtain ⟨c0, c1, c2, c3, c4⟩ := hc
      by_cases he : c.num = n
      · have hb : (c.num == n) = true := beq_iff_eq.2 he
        have HE := Lib.hid he
        clear he
        go_wp2_with fail
        go_ret
        exact ⟨⟨_, rfl, .inr ⟨k, c, rfl, HP.out, HE.out⟩⟩, HB.out⟩
      · have hb : (c.num == n) = false := beq_eq_false_iff_ne.2 he
        have HX := Lib.hid (ne_next9 HN.out HP.out he)
        clear he
        go_wp2_with fail
        go_roundw
        case rel => exact ⟨k + 1, by omega, by go_num, HX.out, HB.out⟩
        case measure => simp [intOf]; omega
    · go_wp2_with fail
      go_ret
      exact ⟨⟨_, rfl, .inl ⟨rfl, fun i s hs => HN.out i s (by have := lt_of_getM hs; have := HL.out; omega) hs⟩⟩, HB.out⟩

theorem find_none {ts : List Summons} {n r : Int} (hw : whoM ts n = none) (hA : areM ts = true) (h : FindI ts n r) : r = -1 := by
  rcases h with ⟨h, _⟩ | ⟨k, s, _, hs, he⟩
  · exact h
  · exact absurd he (whoM_none hA hw hs)
theorem find_some {ts : List Summons} {n r : Int} {s : Summons} (hw : whoM ts n = some s) (hA : areM ts = true) (h : FindI ts n r) : r = (placeM ts n : Nat) := by
  obtain ⟨h1, h2⟩ := whoM_some hw
  rcases h with ⟨_, h⟩ | ⟨k, x, hr, hs, he⟩
  · exact absurd h2 (h _ _ h1)
  · rw [hr, place_found hA hs he]
set_option maxRecDepth 100000 in
set_option maxHeartbeats 4000000 in
theorem specAnswerSummons_any (la : Option Addr) (len cap : Nat) (ts : List Summons) (n a d : Int) (w : World) (hl : ts.length = len) (hm : len ≤ maxLen) (h : Summons.ListAt w la ts) :
    Calls Tryz.prog 10 #[.slice la len cap, .int .i64 n, .int .i64 a, .int .i64 d] w (SaysNewM (ansR9 ts n a d).1 (ansR9 ts n a d).2 w) := by
  have HC := Lib.hid (specAreM_any la len cap ts w hl hm h)
  have HD := Lib.hid (fun W => specIs9 d W)
  have HA := Lib.hid (fun W => specIn9 a 1 3 W)
  cases hA : areM ts
  · have HF := Lib.hid (ansR9_bad (n := n) (codeA_1 (a := a) (d := d) hA) (by omega))
    generalize ansR9 ts n a d = v at HF ⊢
    rw [hA] at HC; clear hA
    go_enter Tryz.func10, Tryz.ntmps10
    go_wp2_with fail
    refine HC.out.mono ?_; rintro e w1 ⟨rfl, hB⟩
    have HB := Lib.hid hB; clear hB
    go_wp2_with fail
    go_ret2
    rw [HF.out]
    exact SaysNewM.nil HB.out
  · rw [hA] at HC
    have hlen : len ≤ 20 := by rw [← hl]; exact areM_len hA
    have HL := Lib.hid hl; have HI := Lib.hid h
    have HP := Lib.hid (fun (W : World) (hB : Below w.heap.size w W) => specFind9_any la len cap ts n W hl hlen (h.below hB))
    clear h hm
    cases hd : isDay d
    · have HF := Lib.hid (ansR9_bad (n := n) (codeA_2 (a := a) (d := d) hA (fun hh => by rw [hd] at hh; cases hh.1)) (by omega))
      generalize ansR9 ts n a d = v at HF ⊢
      rw [hd] at HD; clear hd hA hl
      go_enter Tryz.func10, Tryz.ntmps10
      go_wp2_with fail
      refine HC.out.mono ?_; rintro e w1 ⟨rfl, hB⟩
      have HB := Lib.hid hB; clear hB
      go_wp2_with fail
      refine (HD.out _).mono ?_; rintro e w2 ⟨rfl, hw⟩
      subst hw
      go_wp2_with fail
      go_ret2
      rw [HF.out]
      exact SaysNewM.nil HB.out
    · cases ha : inR a 1 3
      · have HF := Lib.hid (ansR9_bad (n := n) (codeA_2 (a := a) (d := d) hA (fun hh => by rw [ha] at hh; cases hh.2)) (by omega))
        generalize ansR9 ts n a d = v at HF ⊢
        rw [hd] at HD; rw [ha] at HA; clear hd ha hA hl
        go_enter Tryz.func10, Tryz.ntmps10
        go_wp2_with fail
        refine HC.out.mono ?_; rintro e w1 ⟨rfl, hB⟩
        have HB := Lib.hid hB; clear hB
        go_wp2_with fail
        refine (HD.out _).mono ?_; rintro e w2 ⟨rfl, hw⟩
        subst hw
        go_wp2_with fail
        refine (HA.out _).mono ?_; rintro e w2 ⟨rfl, hw⟩
        subst hw
        go_wp2_with fail
        go_ret2
        rw [HF.out]
        exact SaysNewM.nil HB.out
      · have HF := Lib.hid (ansR9_ok (n := n) (codeA_0 hA hd ha))
        generalize ansR9 ts n a d = v at HF ⊢
        rw [hd] at HD; rw [ha] at HA; clear hd ha
        cases hw : whoM ts n with
        | none =>
          have HN := Lib.hid (ansL_none (a := a) (d := d) hw)
          have HQ := Lib.hid (fun r => find_none (r := r) hw hA)
          clear hw hA hl
          go_enter Tryz.func10, Tryz.ntmps10
          go_wp2_with fail
          refine HC.out.mono ?_; rintro e w1 ⟨rfl, hB⟩
          have HB := Lib.hid hB; have HP1 := Lib.hid (HP.out w1 hB); clear hB
          go_wp2_with fail
          refine (HD.out _).mono ?_; rintro e w2 ⟨rfl, hw⟩
          subst hw
          go_wp2_with fail
          refine (HA.out _).mono ?_; rintro e w2 ⟨rfl, hw⟩
          subst hw
          go_wp2_with fail
          refine HP1.out.mono ?_; rintro e w3 ⟨⟨r, rfl, hr⟩, hB⟩
          obtain rfl := HQ.out r hr
          have HB3 := Lib.hid (HB.out.trans (hB.mono HB.out.size)); clear hB hr
          go_wp2_with fail
          go_ret2
          rw [HF.out, HN.out]
          exact SaysNewM.nil HB3.out
        | some s =>
          have hwho := whoM_some hw
          have hk := lt_of_getM hwho.1
          have HQ := Lib.hid (fun r => find_some (r := r) hw hA)
          have HS := Lib.hid hwho.1
          by_cases hst : s.ans = 0 ∧ s.sent ≤ d
          · have HN := Lib.hid (ansL_yes (a := a) hw hst)
            obtain ⟨hs0, hs1⟩ := hst
            have hs0b : (s.ans != 0) = false := by rw [hs0]; rfl
            have hs1b : decide (d < s.sent) = false := decide_eq_false (by omega)
            clear hw hA hwho hs0 hs1
            generalize hkk : placeM ts n = k at HQ HS HN hk
            have hkl : k < len := by rw [← hl]; exact hk
            clear hkk hl
            go_enter Tryz.func10, Tryz.ntmps10
            go_wp2_with fail
            refine HC.out.mono ?_; rintro e w1 ⟨rfl, hB⟩
            have HB := Lib.hid hB; have HP1 := Lib.hid (HP.out w1 hB); clear hB
            go_wp2_with fail
            refine (HD.out _).mono ?_; rintro e w2 ⟨rfl, hw⟩
            subst hw
            go_wp2_with fail
            refine (HA.out _).mono ?_; rintro e w2 ⟨rfl, hw⟩
            subst hw
            go_wp2_with fail
            refine HP1.out.mono ?_; rintro e w3 ⟨⟨r, rfl, hr⟩, hB⟩
            obtain rfl := HQ.out r hr
            have HB3 := Lib.hid (HB.out.trans (hB.mono HB.out.size)); clear hB hr
            obtain ⟨b, off, c, ha, hc, hp⟩ := (HI.out.below HB3.out).at HL.out hkl
            rw [HS.out] at hp
            obtain rfl := Option.some.inj hp
            clear hp
            subst ha
            obtain ⟨c0, c1, c2, c3, c4⟩ := hc
            have HE := Lib.hid (show Summons.Bd (w3.alloc (.cells #[] 58)) w3.heap.size (.slice (some ⟨w3.heap.size, 0, none⟩) 0 0) [] from (Summons.L_empty (Nat.le_refl _)).2)
            have HW := Lib.hid (Summons.bx w3 (.cells #[] 58))
            have HCL := Lib.hid (fun (W : World) (hB : Below w.heap.size w W) j u hu => vals_ofM2 (HI.out.below hB) rfl j u hu)
            have HB4 := Lib.hid (HB3.out.trans (HW.out.mono HB3.out.size))
            go_wp2_with (at_builtin; refine wpList_summ_append rfl _ _ rfl _ [] rfl HE.out ⟨b, off, none⟩ len cap ts HL.out rfl (HCL.out _ HB4.out) ?c1 ?c2 ?_)
            case c1 => simp; have := HL.out; omega
            case c2 => simp
            intro v' w6 ho hg
            have HB6 := Lib.hid (HE.out.grew HB4.out HB3.out.size HB4.out.size hg)
            have ho : Summons.Bd w6 w3.heap.size v' ts := ho
            obtain ⟨g, cap6, rfl, hown⟩ := ho.own9 (by omega)
            have HO6 := Lib.hid hown
            have hgB := hown.base9 (by omega)
            obtain ⟨y0, y1, y2, y3, y4⟩ := HO6.out.cells HS.out
            have fy := fun j => HO6.out.frozen (show 0 < ts.length by omega) j
            have hwg : w.heap.size ≤ g := by have := HB3.out.size; omega
            have HG := Lib.hid hwg
            have HP6 := Lib.hid (Summons.Own.ans a d (HO6.out.mono HB3.out.size) HS.out)
            have hfin := (HB6.out.setCell (p := ⟨g, k * 5 + 3, none⟩) HG.out (.int .i64 a)).setCell (p := ⟨g, k * 5 + 4, none⟩) HG.out (.int .i64 d)
            have HFIN := Lib.hid hfin
            clear ho hown hgB hg hfin c0 c1 c2 c3 c4
            go_wp2_with fail
            go_ret2
            rw [HF.out, HN.out]
            exact ⟨some ⟨g, 0, none⟩, cap6, by rw [List.length_set]; rfl, HP6.out, HFIN.out⟩
          · have HN := Lib.hid (ansL_state (a := a) hw hst)
            clear hw hA hwho
            generalize hkk : placeM ts n = k at HQ HS HN hk
            have hkl : k < len := by rw [← hl]; exact hk
            clear hkk hl
            have hcase : (s.ans != 0) = true ∨ ((s.ans != 0) = false ∧ d < s.sent) := by
              by_cases h0 : s.ans = 0
              · refine .inr ⟨by rw [h0]; rfl, ?_⟩
                by_cases h1 : s.sent ≤ d
                · exact absurd ⟨h0, h1⟩ hst
                · omega
              · exact .inl (by simpa using h0)
            clear hst
            rcases hcase with h0b | ⟨h0b, h1⟩
            all_goals
              go_enter Tryz.func10, Tryz.ntmps10
              go_wp2_with fail
              refine HC.out.mono ?_; rintro e w1 ⟨rfl, hB⟩
              have HB := Lib.hid hB; have HP1 := Lib.hid (HP.out w1 hB); clear hB
              go_wp2_with fail
              refine (HD.out _).mono ?_; rintro e w2 ⟨rfl, hw⟩
              subst hw
              go_wp2_with fail
              refine (HA.out _).mono ?_; rintro e w2 ⟨rfl, hw⟩
              subst hw
              go_wp2_with fail
              refine HP1.out.mono ?_; rintro e w3 ⟨⟨r, rfl, hr⟩, hB⟩
              obtain rfl := HQ.out r hr
              have HB3 := Lib.hid (HB.out.trans (hB.mono HB.out.size)); clear hB hr
              obtain ⟨b, off, c, ha, hc, hp⟩ := (HI.out.below HB3.out).at HL.out hkl
              rw [HS.out] at hp
              obtain rfl := Option.some.inj hp
              clear hp
              subst ha
              obtain ⟨c0, c1, c2, c3, c4⟩ := hc
              go_wp2_with fail
              go_ret2
              rw [HF.out, HN.out]
              exact SaysNewM.nil HB3.out
end Go.Proofs.YtchffaohmeaccaaGreatDoor
