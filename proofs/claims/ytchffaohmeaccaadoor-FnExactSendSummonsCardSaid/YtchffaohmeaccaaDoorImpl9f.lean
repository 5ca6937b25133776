/- Contracts of the program's chapter 9: answers in a list. (written by impl9.py) -/
import Derived.Test.YtchffaohmeaccaaDoorChecked
import Derived.Test.YtchffaohmeaccaaDoorBase0
import Derived.Test.YtchffaohmeaccaaDoorInfo
import Derived.Test.YtchffaohmeaccaaDoorMarkI
import Derived.Test.YtchffaohmeaccaaDoorSummonsB
import Derived.Test.YtchffaohmeaccaaDoorSummonsC
import Derived.Test.YtchffaohmeaccaaDoorSummonsD
import Derived.Test.YtchffaohmeaccaaDoorAsR
import Derived.Test.YtchffaohmeaccaaDoorAreDays
import Derived.Test.YtchffaohmeaccaaDoorImpl9a
import Derived.Test.YtchffaohmeaccaaDoorImpl9b
import Derived.Test.YtchffaohmeaccaaDoorImpl9c
import Derived.Test.YtchffaohmeaccaaDoorFind9
import Derived.Test.YtchffaohmeaccaaDoorSet9
import Derived.Test.YtchffaohmeaccaaDoorImpl9e
import Derived.WalkKit
import Derived.WalkSpells
import Derived.WalkLawsBesides
import Derived.Lib.Hide
import Derived.Lib.QuietBelow
import Derived.IntWalk
import Derived.Deep.QuietTactic
import Derived.BigQuiet
import Derived.BigRegion
import Derived.OwnWalk
import Derived.RegionTactic
import Derived.Outline
namespace Go.Proofs.YtchffaohmeaccaaDoor
open Go.RowKit Go.Sort Pure1 Pure2 Pure20 Pure40

theorem codeA_of1 {ts : List Summons} {a d : Int} (h : codeM ts d = 1) : codeA ts a d = 1 := by
  cases hb : areM ts
  · exact codeA_1 hb
  · exfalso
    cases hd : isDay d
    · rw [codeM_2 hb hd] at h; cases h
    · rw [codeM_0 hb hd] at h; cases h
theorem codeA_of2 {ts : List Summons} {a d : Int} (h : codeM ts d = 2) : codeA ts a d = 2 := by
  cases hb : areM ts
  · rw [codeM_1 hb] at h; cases h
  · cases hd : isDay d
    · exact codeA_2 hb (fun hh => by rw [hd] at hh; cases hh.1)
    · rw [codeM_0 hb hd] at h; cases h
/-- a row of our own behind one store of a whole struct -/
def SaysME (ts : List Summons) (c : Int) (w : World) (e : Ending) (w' : World) : Prop :=
  ∃ a cap, e = .returned (.tuple #[.slice a ts.length cap, errV c]) ∧ Summons.Own w.heap.size w' a ts.length (Summons.flat ts) ∧ Below w.heap.size w w'
theorem SaysME.nil {c : Int} {w w' : World} (hB : Below w.heap.size w w') : SaysME [] c w (.returned (.tuple #[.slice none 0 0, errV c])) w' := ⟨_, _, rfl, .inl rfl, hB⟩

set_option maxRecDepth 100000 in
set_option maxHeartbeats 4000000 in
theorem implWithAnswer_any (la : Option Addr) (len cap : Nat) (ts : List Summons) (n a d : Int) (w : World) (hl : ts.length = len) (hm : len ≤ maxLen) (h : Summons.ListAt w la ts) :
    Calls Tryd.prog 65 #[.slice la len cap, .int .i64 n, .int .i64 a, .int .i64 d] w (SaysME (ansR9 ts n a d).1 (ansR9 ts n a d).2 w) := by
  have HC := Lib.hid (implCheck9_any la len cap ts d w hl hm h)
  have HA := Lib.hid (fun W => implIsAnswer_any a W)
  rcases codeM_cases ts d with ⟨hc, hA, hd⟩ | hc | hc
  · have hday := (isDay_iff d).2 hd
    rw [hc, errV_0] at HC; clear hc
    have hlen : len ≤ 20 := by rw [← hl]; exact areM_len hA
    have HL := Lib.hid hl; have HI := Lib.hid h
    have HP := Lib.hid (fun (W : World) (hB : Below w.heap.size w W) => implPlace9_any la len cap ts n W hl hA (h.below hB))
    clear h hm
    cases ha : inR a 1 3
    · have HF := Lib.hid (ansR9_bad (n := n) (codeA_2 (a := a) (d := d) hA (fun hh => by rw [ha] at hh; cases hh.2)) (by omega))
      generalize ansR9 ts n a d = v at HF ⊢
      rw [ha] at HA; clear ha hA hl
      go_enter Tryd.func65, Tryd.ntmps65
      go_wp2_with fail
      refine HC.out.mono ?_; rintro e w1 ⟨rfl, hB⟩
      have HB := Lib.hid hB; clear hB
      go_wp2_with fail
      refine (HA.out _).mono ?_; rintro e w2 ⟨rfl, hw⟩
      subst hw
      go_wp2_with fail
      go_ret2
      rw [HF.out]
      exact SaysME.nil (c := 2) HB.out
    · have HF := Lib.hid (ansR9_ok (n := n) (codeA_0 hA hday ha))
      rw [ha] at HA; clear ha hday
      generalize ansR9 ts n a d = v at HF ⊢
      cases hw : whoM ts n with
      | none =>
        have HN := Lib.hid (ansL_none (a := a) (d := d) hw)
        unfold SaysPlace at HP
        rw [hw] at HP
        clear hw hA hl
        generalize ((placeM ts n : Nat) : Int) = k at HP
        go_enter Tryd.func65, Tryd.ntmps65
        go_wp2_with fail
        refine HC.out.mono ?_; rintro e w1 ⟨rfl, hB⟩
        have HB := Lib.hid hB; have HP1 := Lib.hid (HP.out w1 hB); clear hB
        go_wp2_with fail
        refine (HA.out _).mono ?_; rintro e w2 ⟨rfl, hw⟩
        subst hw
        go_wp2_with fail
        refine HP1.out.mono ?_; rintro e w3 ⟨rfl, hB⟩
        have HB3 := Lib.hid (HB.out.trans (hB.mono HB.out.size)); clear hB
        go_wp2_with fail
        go_ret2
        rw [HF.out, HN.out]
        exact SaysME.nil (c := 4) HB3.out
      | some s =>
        have hwho := whoM_some hw
        have hk := lt_of_getM hwho.1
        unfold SaysPlace at HP
        rw [hw] at HP
        have HS := Lib.hid hwho.1
        by_cases hst : s.ans = 0 ∧ s.sent ≤ d
        · have HN := Lib.hid (ansL_yes (a := a) hw hst)
          have HT := Lib.hid (fun W => implAnswered_yes s a d W hst.1 hst.2)
          clear hw hA hst hwho
          generalize hkk : placeM ts n = k at HP HS HN hk
          have hkl : k < len := by rw [← hl]; exact hk
          clear hkk hl
          go_enter Tryd.func65, Tryd.ntmps65
          go_wp2_with fail
          refine HC.out.mono ?_; rintro e w1 ⟨rfl, hB⟩
          have HB := Lib.hid hB; have HP1 := Lib.hid (HP.out w1 hB); clear hB
          go_wp2_with fail
          refine (HA.out _).mono ?_; rintro e w2 ⟨rfl, hw⟩
          subst hw
          go_wp2_with fail
          refine HP1.out.mono ?_; rintro e w3 ⟨rfl, hB⟩
          have HB3 := Lib.hid (HB.out.trans (hB.mono HB.out.size)); clear hB
          obtain ⟨b, off, c, ha, hc, hp⟩ := (HI.out.below HB3.out).at HL.out hkl
          rw [HS.out] at hp
          obtain rfl := Option.some.inj hp
          clear hp
          have HIx := Lib.hid (HI.out.below HB3.out)
          subst ha
          obtain ⟨c0, c1, c2, c3, c4⟩ := hc
          go_wp2_with fail
          refine (HT.out _).mono ?_; rintro e w4 ⟨rfl, hB⟩
          have HB4 := Lib.hid (HB3.out.trans (hB.mono HB3.out.size)); clear hB c0 c1 c2 c3 c4
          have HX := Lib.hid (Summons.boxed w4 (answered s a d) 53)
          have HW5 := Lib.hid (Summons.bx w4 (.cells #[.int .i64 s.num, .int .i64 s.sent, .int .i64 s.due, .int .i64 a, .int .i64 d] 53))
          have HB5 := Lib.hid (HB4.out.trans (HW5.out.mono HB4.out.size))
          have HCL := Lib.hid (fun (W : World) (hB : Below w.heap.size w W) => implClone9_any (some ⟨b, off, none⟩) len cap ts W HL.out (by omega) (HI.out.below hB))
          go_wp2_with fail
          refine (HCL.out _ HB5.out).mono ?_; rintro e w6 ⟨v6, rfl, ho, hB⟩
          obtain ⟨g, cap6, rfl, hown⟩ := ho.own9 (by omega)
          have HB6 := Lib.hid (HB5.out.trans (hB.mono HB5.out.size))
          have HO6 := Lib.hid hown
          have hx := HX.out.below hB
          have hgB := hown.base9 (by omega)
          have hgb : w4.heap.size + 1 ≤ g := by simpa using hgB
          obtain ⟨y0, y1, y2, y3, y4⟩ := HO6.out.cells HS.out
          have fy := fun j => HO6.out.frozen (show 0 < ts.length by omega) j
          obtain ⟨x0, x1, x2, x3, x4⟩ := hx
          simp only [answered] at x0 x1 x2 x3 x4
          have hwg : w.heap.size ≤ g := by have := HB5.out.size; have := hgB; omega
          have HG := Lib.hid hwg
          have HP6 := Lib.hid (Summons.Own.put (answered s a d) (HO6.out.mono HB5.out.size) hk)
          clear ho hB hown hgB
          go_wp2_with fail
          go_ret2
          rw [HF.out, HN.out]
          have hfin := ((((HB6.out.setCell (p := ⟨g, k * 5, none⟩) HG.out (.int .i64 s.num)).setCell (p := ⟨g, k * 5 + 1, none⟩) HG.out (.int .i64 s.sent)).setCell (p := ⟨g, k * 5 + 2, none⟩) HG.out (.int .i64 s.due)).setCell (p := ⟨g, k * 5 + 3, none⟩) HG.out (.int .i64 a)).setCell (p := ⟨g, k * 5 + 4, none⟩) HG.out (.int .i64 d)
          exact ⟨some ⟨g, 0, none⟩, cap6, by rw [List.length_set]; rfl, HP6.out, hfin⟩
        · have HN := Lib.hid (ansL_state (a := a) hw hst)
          have HT := Lib.hid (fun W => implAnswered_no s a d W hst)
          clear hw hA hst hwho
          generalize hkk : placeM ts n = k at HP HS HN hk
          have hkl : k < len := by rw [← hl]; exact hk
          clear hkk hl
          go_enter Tryd.func65, Tryd.ntmps65
          go_wp2_with fail
          refine HC.out.mono ?_; rintro e w1 ⟨rfl, hB⟩
          have HB := Lib.hid hB; have HP1 := Lib.hid (HP.out w1 hB); clear hB
          go_wp2_with fail
          refine (HA.out _).mono ?_; rintro e w2 ⟨rfl, hw⟩
          subst hw
          go_wp2_with fail
          refine HP1.out.mono ?_; rintro e w3 ⟨rfl, hB⟩
          have HB3 := Lib.hid (HB.out.trans (hB.mono HB.out.size)); clear hB
          obtain ⟨b, off, c, ha, hc, hp⟩ := (HI.out.below HB3.out).at HL.out hkl
          rw [HS.out] at hp
          obtain rfl := Option.some.inj hp
          clear hp
          subst ha
          obtain ⟨c0, c1, c2, c3, c4⟩ := hc
          go_wp2_with fail
          refine (HT.out _).mono ?_; rintro e w4 ⟨rfl, hB⟩
          have HB4 := Lib.hid (HB3.out.trans (hB.mono HB3.out.size)); clear hB c0 c1 c2 c3 c4
          have HB5 := Lib.hid (HB4.out.alloc HB4.out.size (.cells #[.int .i64 0, .int .i64 0, .int .i64 0, .int .i64 0, .int .i64 0] 53))
          go_wp2_with fail
          go_ret2
          rw [HF.out, HN.out]
          exact SaysME.nil (c := 5) HB5.out
  · have HF := Lib.hid (ansR9_bad (n := n) (show codeA ts a d = 1 from codeA_of1 hc) (by omega))
    generalize ansR9 ts n a d = v at HF ⊢
    rw [hc, errV_ne (by omega)] at HC; clear hc
    go_enter Tryd.func65, Tryd.ntmps65
    go_wp2_with fail
    refine HC.out.mono ?_; rintro e w1 ⟨rfl, hB⟩
    have HB := Lib.hid hB; clear hB
    go_wp2_with fail
    go_ret2
    rw [HF.out]
    exact SaysME.nil (c := 1) HB.out
  · have HF := Lib.hid (ansR9_bad (n := n) (show codeA ts a d = 2 from codeA_of2 hc) (by omega))
    generalize ansR9 ts n a d = v at HF ⊢
    rw [hc, errV_ne (by omega)] at HC; clear hc
    go_enter Tryd.func65, Tryd.ntmps65
    go_wp2_with fail
    refine HC.out.mono ?_; rintro e w1 ⟨rfl, hB⟩
    have HB := Lib.hid hB; clear hB
    go_wp2_with fail
    go_ret2
    rw [HF.out]
    exact SaysME.nil (c := 2) HB.out

set_option maxRecDepth 100000 in
set_option maxHeartbeats 1000000 in
theorem implAnswerSummons_any (la : Option Addr) (len cap : Nat) (ts : List Summons) (n a d : Int) (w : World) (hl : ts.length = len) (hm : len ≤ maxLen) (h : Summons.ListAt w la ts) (hg : TypeAt w) :
    Calls Tryd.prog 35 #[.slice la len cap, .int .i64 n, .int .i64 a, .int .i64 d] w (SaysNewM (ansR9 ts n a d).1 (ansR9 ts n a d).2 w) := by
  have HC := Lib.hid (implWithAnswer_any la len cap ts n a d w hl hm h)
  have HT := Lib.hid (fun (W : World) (hB : Below w.heap.size w W) => implCode9 (ansR9 ts n a d).2 W (hg.below hB))
  clear h hg
  obtain ⟨zs, c, hr⟩ : ∃ zs c, ansR9 ts n a d = (zs, c) := ⟨_, _, rfl⟩
  rw [hr] at HC HT ⊢
  clear hr
  go_enter Tryd.func35, Tryd.ntmps35
  go_wp2_with fail
  refine HC.out.mono ?_; rintro e w1 ⟨a1, cap1, rfl, ho, hB⟩
  have HO := Lib.hid ho; have HB := Lib.hid hB
  have HT1 := Lib.hid (HT.out w1 hB); clear ho hB
  (try simp only at HT1 HO)
  go_wp2_with fail
  refine HT1.out.mono ?_; rintro e w2 ⟨rfl, hB⟩
  have HO2 := Lib.hid (HO.out.below hB); have HB2 := Lib.hid (HB.out.trans (hB.mono HB.out.size)); clear hB
  go_wp2_with fail
  go_ret2
  exact ⟨_, _, rfl, HO2.out, HB2.out⟩
end Go.Proofs.YtchffaohmeaccaaDoor
