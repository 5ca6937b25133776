/- Contracts of the program's chapter 10: calls are moved, added, dropped. (written by impl10.py) -/
import Derived.Test.YtekhdggaelppkaaChecked
import Derived.Test.YtekhdggaelppkaaBase0
import Derived.Test.YtekhdggaelppkaaInfo
import Derived.Test.YtekhdggaelppkaaCallB
import Derived.Test.YtekhdggaelppkaaCallC
import Derived.Test.YtekhdggaelppkaaCallD
import Derived.Test.YtekhdggaelppkaaPure100
import Derived.Test.YtekhdggaelppkaaMarkI
import Derived.Test.YtekhdggaelppkaaIntL
import Derived.Test.YtekhdggaelppkaaBuildI
import Derived.Test.YtekhdggaelppkaaPersNum
import Derived.Test.YtekhdggaelppkaaWithin
import Derived.Test.YtekhdggaelppkaaAreDays
import Derived.Test.YtekhdggaelppkaaDay1
import Derived.Test.YtekhdggaelppkaaDay2
import Derived.Test.YtekhdggaelppkaaFind10
import Derived.Test.YtekhdggaelppkaaSet10
import Derived.Test.YtekhdggaelppkaaCopy10
import Derived.Test.YtekhdggaelppkaaIns10
import Derived.Test.YtekhdggaelppkaaIns10b
import Derived.Test.YtekhdggaelppkaaDel10
import Derived.Test.YtekhdggaelppkaaImpl10a
import Derived.Test.YtekhdggaelppkaaImpl10b
import Derived.Test.YtekhdggaelppkaaImpl10c
import Derived.WalkKit
import Derived.WalkSpells
import Derived.WalkLawsBesides
import Derived.Lib.Hide
import Derived.Lib.QuietBelow
import Derived.IntWalk
import Derived.Deep.QuietTactic
import Derived.BigQuiet
import Derived.BigRegion
import Derived.OwnWalk
import Derived.RegionTactic
import Derived.Outline
import Derived.Shelf.Abstract
import Derived.WalkMore
namespace Go.Proofs.Ytekhdggaelppkaa
open Go.Shelf Go.RowKit Go.Sort Pure1 Pure2 Pure20 Pure21 Pure40

set_option maxRecDepth 100000 in
set_option maxHeartbeats 4000000 in
theorem implMoveCall_any (ha : Option Addr) (hn hc : Nat) (hs : List Int) (a : Option Addr) (len cap : Nat) (ts : List Call) (n d : Int) (w : World) (hhl : hs.length = hn) (hhm : hn ≤ maxLen) (hh : IntsAt w ha hs) (hl : ts.length = len) (hm : len ≤ maxLen) (h : Call.ListAt w a ts) :
    Calls Try.prog 15 #[.slice ha hn hc, .slice a len cap, .int .i64 n, .int .i64 d] w (SaysNewC (movR hs ts n d).1 (movR hs ts n d).2 w) := by
  have HD := Lib.hid (fun W => implDays10_one d W)
  have HC := Lib.hid (fun (W : World) (hB : Below w.heap.size w W) => implPlace10_code ha hn hc hs a len cap ts (isDay d) n W hhl hhm (hh.below hB) hl hm (h.below hB))
  unfold SaysPl at HC
  rcases findC_cases hs ts (isDay d) n with ⟨h0, ⟨hH, hA, hb⟩, c, hw⟩ | h0 | h0 | h0
  · obtain ⟨hc1, hn1⟩ := whoC_some hw
    have hk := lt_of_getC hc1
    have hok := areC_at hA hc1
    have hlen : len ≤ 20 := by rw [← hl]; exact areC_len hA
    have HM := Lib.hid (fun (W : World) (hB : Below w.heap.size w W) => implMay10_any c ha hn hc hs d W hok ((isDay_iff d).1 hb) hhl (hh.below hB) ((hol_iff hs).1 hH))
    have HCL := Lib.hid (fun (W : World) (hB : Below w.heap.size w W) => implClone10_any a len cap ts W hl (by omega) (h.below hB))
    have HT := Lib.hid hc1; have HL := Lib.hid hl
    have hmv : 0 ≤ c.moves ∧ c.moves ≤ 2 := (okC_parts hok).2.2.2.1
    cases hmay : mayC hs c d
    · skip
      have HF := Lib.hid (show movR hs ts n d = _ from movR_no h0 hw hmay)
      obtain ⟨b, off, c', ha1, hcc, hp⟩ := h.at hl (show placeC ts n < len by omega)
      rw [hc1] at hp
      obtain rfl := Option.some.inj hp
      have HX := Lib.hid hcc
      have hkl : placeC ts n < len := by omega
      rw [plC_ok h0, h0] at HC
      subst ha1
      generalize hv : movR hs ts n d = v at HF ⊢
      rw [hmay] at HM
      clear hmay HCL HT HL hok hlen h0 hH hA hb hw hn1 hcc hp hv 
      generalize placeC ts n = k at *
      go_enter Try.func15, Try.ntmps15
      go_wp2_with fail
      refine (HD.out w).mono ?_; rintro e w1 ⟨rfl, hw⟩
      have HW1 := Lib.hid (show Below w.heap.size w w1 by rw [hw]; exact (Below.refl _ _).alloc (Nat.le_refl _) _)
      clear hw
      go_wp2_with fail
      refine (HC.out w1 HW1.out).mono ?_; rintro e w2 ⟨rfl, hB⟩
      have HB := Lib.hid (HW1.out.trans (hB.mono HW1.out.size)); clear hB
      obtain ⟨c0, c1, c2, c3⟩ := HX.out.below HB.out
      go_wp2_with fail
      refine (HM.out w2 HB.out).mono ?_; rintro e w3 ⟨rfl, hB⟩
      have HB3 := Lib.hid (HB.out.trans (hB.mono HB.out.size)); clear hB c0 c1 c2 c3
      go_wp2_with fail
      go_ret2
      rw [HF.out]
      exact SaysNewC.nil HB3.out
    · skip
      have HF := Lib.hid (show movR hs ts n d = _ from movR_yes h0 hw hmay)
      obtain ⟨b, off, c', ha1, hcc, hp⟩ := h.at hl (show placeC ts n < len by omega)
      rw [hc1] at hp
      obtain rfl := Option.some.inj hp
      have HX := Lib.hid hcc
      have hkl : placeC ts n < len := by omega
      rw [plC_ok h0, h0] at HC
      subst ha1
      generalize hv : movR hs ts n d = v at HF ⊢
      rw [hmay] at HM
      clear hmay hok h0 hH hA hb hw hn1 hcc hp hv 
      generalize placeC ts n = k at *
      go_enter Try.func15, Try.ntmps15
      go_wp2_with fail
      refine (HD.out w).mono ?_; rintro e w1 ⟨rfl, hw⟩
      have HW1 := Lib.hid (show Below w.heap.size w w1 by rw [hw]; exact (Below.refl _ _).alloc (Nat.le_refl _) _)
      clear hw
      go_wp2_with fail
      refine (HC.out w1 HW1.out).mono ?_; rintro e w2 ⟨rfl, hB⟩
      have HB := Lib.hid (HW1.out.trans (hB.mono HW1.out.size)); clear hB
      obtain ⟨c0, c1, c2, c3⟩ := HX.out.below HB.out
      go_wp2_with fail
      refine (HM.out w2 HB.out).mono ?_; rintro e w3 ⟨rfl, hB⟩
      have HB3 := Lib.hid (HB.out.trans (hB.mono HB.out.size)); clear hB c0 c1 c2 c3
      go_wp2_with fail
      refine (HCL.out w3 HB3.out).mono ?_; rintro e w4 ⟨v4, rfl, ho, hB⟩
      have hBd := ho.base HB3.out.size
      have HB4 := Lib.hid (HB3.out.trans (hB.mono HB3.out.size)); clear hB ho
      obtain ⟨b4, cap4, rfl, hown⟩ := hBd.own10 (by omega)
      obtain ⟨m0, m1, m2, m3⟩ := Call.Own.cells hown HT.out
      have f2 := hown.frozen (by omega) (k * 4 + 2)
      have f3 := hown.frozen (by omega) (k * 4 + 3)
      have hb4 := hown.base10 (by omega)
      have e3 : (w4.setCell ⟨b4, k * 4 + 2, none⟩ (.int .i64 d)).cell? ⟨b4, k * 4 + 3, none⟩ = some (.int .i64 c.moves) := by rw [World.cell?_setCell_other _ _ _ _ (by simp)]; exact m3
      have g3 : (w4.setCell ⟨b4, k * 4 + 2, none⟩ (.int .i64 d)).frozen? ⟨b4, k * 4 + 3, none⟩ = false := by rw [World.frozen?_setCell]; exact f3
      have q1 : IntKind.i64.wrap (c.moves + 1) = c.moves + 1 := IntWalk.i64_in _ (by omega)
      have HO := Lib.hid (Call.Own.moved d hown HT.out)
      have HBF := Lib.hid ((HB4.out.setCell (p := ⟨b4, k * 4 + 2, none⟩) hb4 (.int .i64 d)).setCell (p := ⟨b4, k * 4 + 3, none⟩) hb4 (.int .i64 (c.moves + 1)))
      rw [HL.out]
      clear hown hBd
      go_wp2_with fail
      clear m0 m1 m2 m3 f2 f3 e3 g3
      go_ret2
      rw [HF.out]
      exact ⟨_, cap4, by rw [List.length_set, HL.out]; rfl, HO.out, HBF.out⟩
  · have HF := Lib.hid (movR_bad h0 (by omega))
    rw [plC_bad h0 (by omega), h0] at HC
    generalize hv : movR hs ts n d = v at HF ⊢
    clear h0 hv
    go_enter Try.func15, Try.ntmps15
    go_wp2_with fail
    refine (HD.out w).mono ?_; rintro e w1 ⟨rfl, hw⟩
    have HW1 := Lib.hid (show Below w.heap.size w w1 by rw [hw]; exact (Below.refl _ _).alloc (Nat.le_refl _) _)
    clear hw
    go_wp2_with fail
    refine (HC.out w1 HW1.out).mono ?_; rintro e w2 ⟨rfl, hB⟩
    have HB := Lib.hid (HW1.out.trans (hB.mono HW1.out.size)); clear hB
    go_wp2_with fail
    go_ret2
    rw [HF.out]
    exact SaysNewC.nil HB.out
  · have HF := Lib.hid (movR_bad h0 (by omega))
    rw [plC_bad h0 (by omega), h0] at HC
    generalize hv : movR hs ts n d = v at HF ⊢
    clear h0 hv
    go_enter Try.func15, Try.ntmps15
    go_wp2_with fail
    refine (HD.out w).mono ?_; rintro e w1 ⟨rfl, hw⟩
    have HW1 := Lib.hid (show Below w.heap.size w w1 by rw [hw]; exact (Below.refl _ _).alloc (Nat.le_refl _) _)
    clear hw
    go_wp2_with fail
    refine (HC.out w1 HW1.out).mono ?_; rintro e w2 ⟨rfl, hB⟩
    have HB := Lib.hid (HW1.out.trans (hB.mono HW1.out.size)); clear hB
    go_wp2_with fail
    go_ret2
    rw [HF.out]
    exact SaysNewC.nil HB.out
  · have HF := Lib.hid (movR_bad h0 (by omega))
    rw [plC_bad h0 (by omega), h0] at HC
    generalize hv : movR hs ts n d = v at HF ⊢
    clear h0 hv
    go_enter Try.func15, Try.ntmps15
    go_wp2_with fail
    refine (HD.out w).mono ?_; rintro e w1 ⟨rfl, hw⟩
    have HW1 := Lib.hid (show Below w.heap.size w w1 by rw [hw]; exact (Below.refl _ _).alloc (Nat.le_refl _) _)
    clear hw
    go_wp2_with fail
    refine (HC.out w1 HW1.out).mono ?_; rintro e w2 ⟨rfl, hB⟩
    have HB := Lib.hid (HW1.out.trans (hB.mono HW1.out.size)); clear hB
    go_wp2_with fail
    go_ret2
    rw [HF.out]
    exact SaysNewC.nil HB.out

set_option maxRecDepth 100000 in
set_option maxHeartbeats 4000000 in
theorem implAddCall_any (ha : Option Addr) (hn hc : Nat) (hs : List Int) (a : Option Addr) (len cap : Nat) (ts : List Call) (n d : Int) (w : World) (hhl : hs.length = hn) (hhm : hn ≤ maxLen) (hh : IntsAt w ha hs) (hl : ts.length = len) (hm : len ≤ maxLen) (h : Call.ListAt w a ts) :
    Calls Try.prog 20 #[.slice ha hn hc, .slice a len cap, .int .i64 n, .int .i64 d] w (SaysNewC (addR10 hs ts n d).1 (addR10 hs ts n d).2 w) := by
  have HP := Lib.hid (fun W => implPersNum_any n W)
  have HD := Lib.hid (fun W => implDays10_one d W)
  have HC := Lib.hid (fun (W : World) (hB : Below w.heap.size w W) => implCallsErr_any ha hn hc hs a len cap ts (inR n 1 1000000 && isDay d) W hhl hhm (hh.below hB) hl hm (h.below hB))
  rcases codeC_cases hs ts (inR n 1 1000000 && isDay d) with ⟨hc0, hH, hA, hb⟩ | hc0 | hc0
  · simp only [Bool.and_eq_true] at hb
    have hday := (isDay_iff d).1 hb.2
    have hlen : len ≤ 20 := by rw [← hl]; exact areC_len hA
    have HPL := Lib.hid (fun (W : World) (hB : Below w.heap.size w W) => implPlace10_any a len cap ts n W hl hA (h.below hB))
    have HCO := Lib.hid (fun (W : World) (hB : Below w.heap.size w W) => implCourt_any d ha hn hc hs W hday.1 hhl (hh.below hB) ((hol_iff hs).1 hH))
    have HCL := Lib.hid (fun (W : World) (hB : Below w.heap.size w W) => implClone10_any a len cap ts W hl (by omega) (h.below hB))
    have HL := Lib.hid hl
    have hple := placeC_le ts n
    unfold SaysPlaceC at HPL
    rw [hc0] at HC
    simp only [hb.1, hb.2] at HP HD HC
    simp only [Bool.and_self] at HC
    cases hw : whoC ts n with
    | some c =>
      have HF := Lib.hid (addR10_are (d := d) hc0 (insC_twice (x := ⟨n, d, d, 0⟩) hw))
      rw [hw] at HPL
      generalize addR10 hs ts n d = v at HF ⊢
      generalize placeC ts n = pl at *
      clear hhl hhm hh hl hm h hw hc0 hH hA hb HCL HCO
      go_enter Try.func20, Try.ntmps20
      go_wp2_with fail
      refine (HP.out w).mono ?_; rintro e w1 ⟨rfl, hw⟩
      subst hw
      go_wp2_with fail
      refine (HD.out w1).mono ?_; rintro e w2 ⟨rfl, hw⟩
      have HW1 := Lib.hid (show Below w1.heap.size w1 w2 by rw [hw]; exact (Below.refl _ _).alloc (Nat.le_refl _) _)
      clear hw
      go_wp2_with fail
      refine (HC.out w2 HW1.out).mono ?_; rintro e w3 ⟨rfl, hB⟩
      have HB3 := Lib.hid (HW1.out.trans (hB.mono HW1.out.size)); clear hB
      go_wp2_with fail
      refine (HPL.out w3 HB3.out).mono ?_; rintro e w4 ⟨rfl, hB⟩
      have HB4 := Lib.hid (HB3.out.trans (hB.mono HB3.out.size)); clear hB
      go_wp2_with fail
      go_ret2
      rw [HF.out]
      exact SaysNewC.nil HB4.out
    | none =>
      by_cases hfull : len = 20
      · have HF := Lib.hid (addR10_are (d := d) hc0 (insC_full (x := ⟨n, d, d, 0⟩) (show 20 ≤ ts.length by omega)))
        have hfb : ((len : Int) == 20) = true := beq_iff_eq.2 (by omega)
        rw [hw] at HPL
        generalize addR10 hs ts n d = v at HF ⊢
        generalize placeC ts n = pl at *
        clear hhl hhm hh hl hm h hw hc0 hH hA hb HCL HCO hfull
        go_enter Try.func20, Try.ntmps20
        go_wp2_with fail
        refine (HP.out w).mono ?_; rintro e w1 ⟨rfl, hw⟩
        subst hw
        go_wp2_with fail
        refine (HD.out w1).mono ?_; rintro e w2 ⟨rfl, hw⟩
        have HW1 := Lib.hid (show Below w1.heap.size w1 w2 by rw [hw]; exact (Below.refl _ _).alloc (Nat.le_refl _) _)
        clear hw
        go_wp2_with fail
        refine (HC.out w2 HW1.out).mono ?_; rintro e w3 ⟨rfl, hB⟩
        have HB3 := Lib.hid (HW1.out.trans (hB.mono HW1.out.size)); clear hB
        go_wp2_with fail
        refine (HPL.out w3 HB3.out).mono ?_; rintro e w4 ⟨rfl, hB⟩
        have HB4 := Lib.hid (HB3.out.trans (hB.mono HB3.out.size)); clear hB
        go_wp2_with fail
        go_ret2
        rw [HF.out]
        exact SaysNewC.nil HB4.out
      · have hfb : ((len : Int) == 20) = false := beq_eq_false_iff_ne.2 (by omega)
        cases hco : court hs d
        · have HF := Lib.hid (addR10_court hc0 hco)
          rw [hw] at HPL; rw [hco] at HCO
          generalize addR10 hs ts n d = v at HF ⊢
          generalize placeC ts n = pl at *
          clear hhl hhm hh hl hm h hw hc0 hH hA hb HCL hfull hco
          go_enter Try.func20, Try.ntmps20
          go_wp2_with fail
          refine (HP.out w).mono ?_; rintro e w1 ⟨rfl, hw⟩
          subst hw
          go_wp2_with fail
          refine (HD.out w1).mono ?_; rintro e w2 ⟨rfl, hw⟩
          have HW1 := Lib.hid (show Below w1.heap.size w1 w2 by rw [hw]; exact (Below.refl _ _).alloc (Nat.le_refl _) _)
          clear hw
          go_wp2_with fail
          refine (HC.out w2 HW1.out).mono ?_; rintro e w3 ⟨rfl, hB⟩
          have HB3 := Lib.hid (HW1.out.trans (hB.mono HW1.out.size)); clear hB
          go_wp2_with fail
          refine (HPL.out w3 HB3.out).mono ?_; rintro e w4 ⟨rfl, hB⟩
          have HB4 := Lib.hid (HB3.out.trans (hB.mono HB3.out.size)); clear hB
          go_wp2_with fail
          refine (HCO.out w4 HB4.out).mono ?_; rintro e w5 ⟨rfl, hw5⟩
          subst hw5
          go_wp2_with fail
          go_ret2
          rw [HF.out]
          exact SaysNewC.nil HB4.out
        · have HF := Lib.hid (addR10_yes hc0 hco (insC_are (x := ⟨n, d, d, 0⟩) hA (okC_of (by have := inR_iff.1 hb.1; exact this) hday ⟨hday.1, Int.le_refl _⟩ ⟨by show (0 : Int) ≤ 0; omega, by show (0 : Int) ≤ 2; omega⟩ (by simp)) hw (by omega)))
          have HIL := Lib.hid (show insC ts ⟨n, d, d, 0⟩ = ts.take (placeC ts n) ++ [⟨n, d, d, 0⟩] ++ ts.drop (placeC ts n) from rfl)
          rw [HIL.out] at HF
          have H19 := Lib.hid (show ts.length ≤ 19 by omega)
          rw [hw] at HPL; rw [hco] at HCO
          generalize addR10 hs ts n d = v at HF ⊢
          clear HIL
          generalize placeC ts n = pl at *
          clear hhl hhm hh hl hm h hw hc0 hH hA hb hfull hco
          go_enter Try.func20, Try.ntmps20
          go_wp2_with fail
          refine (HP.out w).mono ?_; rintro e w1 ⟨rfl, hw⟩
          subst hw
          go_wp2_with fail
          refine (HD.out w1).mono ?_; rintro e w2 ⟨rfl, hw⟩
          have HW1 := Lib.hid (show Below w1.heap.size w1 w2 by rw [hw]; exact (Below.refl _ _).alloc (Nat.le_refl _) _)
          clear hw
          go_wp2_with fail
          refine (HC.out w2 HW1.out).mono ?_; rintro e w3 ⟨rfl, hB⟩
          have HB3 := Lib.hid (HW1.out.trans (hB.mono HW1.out.size)); clear hB
          go_wp2_with fail
          refine (HPL.out w3 HB3.out).mono ?_; rintro e w4 ⟨rfl, hB⟩
          have HB4 := Lib.hid (HB3.out.trans (hB.mono HB3.out.size)); clear hB
          go_wp2_with fail
          refine (HCO.out w4 HB4.out).mono ?_; rintro e w5 ⟨rfl, hw5⟩
          subst hw5
          go_wp2_with fail
          refine (HCL.out w4 HB4.out).mono ?_; rintro e w6 ⟨v6, rfl, ho, hB⟩
          have hBd := ho.base HB4.out.size
          have HB6 := Lib.hid (HB4.out.trans (hB.mono HB4.out.size))
          have hbd7 := hBd.alloc (.cells #[.int .i64 n, .int .i64 d, .int .i64 d, .int .i64 0] 41)
          have hrow := Call.box_row w6 ⟨n, d, d, 0⟩ 41
          have hB7 := HB6.out.alloc HB6.out.size (.cells #[.int .i64 n, .int .i64 d, .int .i64 d, .int .i64 0] 41)
          have HIN := Lib.hid (insert10_any w1.heap.size v6 ts pl ⟨n, d, d, 0⟩ w6.heap.size 1 _ hbd7 hB7.size H19.out hple hrow (fun g hg => by have := (hBd.lt g hg).2; omega))
          have HB7 := Lib.hid hB7
          clear ho hB hBd hbd7 hrow hB7
          go_wp2_with fail
          refine HIN.out.mono ?_; rintro e w8 ⟨g, cap8, rfl, hown, hB⟩
          have HO := Lib.hid hown; have HB8 := Lib.hid (HB7.out.trans hB)
          clear hown hB HIN
          generalize ts.take pl ++ [⟨n, d, d, 0⟩] ++ ts.drop pl = us at HF HO ⊢
          go_wp2_with fail
          go_ret2
          rw [HF.out]
          exact ⟨_, _, rfl, HO.out, HB8.out⟩
  · have HF := Lib.hid (addR10_bad hc0 (by omega))
    generalize addR10 hs ts n d = v at HF ⊢
    rw [hc0] at HC
    clear hc0 hhl hhm hh hl hm h
    generalize isDay d = b2 at HD HC
    cases hb1 : inR n 1 1000000
    · rw [hb1] at HP HC
      clear hb1
      simp only [Bool.false_and] at HC
      go_enter Try.func20, Try.ntmps20
      go_wp2_with fail
      refine (HP.out w).mono ?_; rintro e w1 ⟨rfl, hw⟩
      subst hw
      have w2 := w1; clear w2; have HW1 := Lib.hid (Below.refl w1.heap.size w1)
      go_wp2_with fail
      refine (HC.out w1 HW1.out).mono ?_; rintro e w3 ⟨rfl, hB⟩
      have HB3 := Lib.hid (HW1.out.trans (hB.mono HW1.out.size)); clear hB
      go_wp2_with fail
      go_ret2
      rw [HF.out]
      exact SaysNewC.nil HB3.out
    · rw [hb1] at HP HC
      clear hb1
      simp only [Bool.true_and] at HC
      go_enter Try.func20, Try.ntmps20
      go_wp2_with fail
      refine (HP.out w).mono ?_; rintro e w1 ⟨rfl, hw⟩
      subst hw
      go_wp2_with fail
      refine (HD.out w1).mono ?_; rintro e w2 ⟨rfl, hw⟩
      have HW1 := Lib.hid (show Below w1.heap.size w1 w2 by rw [hw]; exact (Below.refl _ _).alloc (Nat.le_refl _) _)
      clear hw
      go_wp2_with fail
      refine (HC.out w2 HW1.out).mono ?_; rintro e w3 ⟨rfl, hB⟩
      have HB3 := Lib.hid (HW1.out.trans (hB.mono HW1.out.size)); clear hB
      go_wp2_with fail
      go_ret2
      rw [HF.out]
      exact SaysNewC.nil HB3.out
  · have HF := Lib.hid (addR10_bad hc0 (by omega))
    generalize addR10 hs ts n d = v at HF ⊢
    rw [hc0] at HC
    clear hc0 hhl hhm hh hl hm h
    generalize isDay d = b2 at HD HC
    cases hb1 : inR n 1 1000000
    · rw [hb1] at HP HC
      clear hb1
      simp only [Bool.false_and] at HC
      go_enter Try.func20, Try.ntmps20
      go_wp2_with fail
      refine (HP.out w).mono ?_; rintro e w1 ⟨rfl, hw⟩
      subst hw
      have w2 := w1; clear w2; have HW1 := Lib.hid (Below.refl w1.heap.size w1)
      go_wp2_with fail
      refine (HC.out w1 HW1.out).mono ?_; rintro e w3 ⟨rfl, hB⟩
      have HB3 := Lib.hid (HW1.out.trans (hB.mono HW1.out.size)); clear hB
      go_wp2_with fail
      go_ret2
      rw [HF.out]
      exact SaysNewC.nil HB3.out
    · rw [hb1] at HP HC
      clear hb1
      simp only [Bool.true_and] at HC
      go_enter Try.func20, Try.ntmps20
      go_wp2_with fail
      refine (HP.out w).mono ?_; rintro e w1 ⟨rfl, hw⟩
      subst hw
      go_wp2_with fail
      refine (HD.out w1).mono ?_; rintro e w2 ⟨rfl, hw⟩
      have HW1 := Lib.hid (show Below w1.heap.size w1 w2 by rw [hw]; exact (Below.refl _ _).alloc (Nat.le_refl _) _)
      clear hw
      go_wp2_with fail
      refine (HC.out w2 HW1.out).mono ?_; rintro e w3 ⟨rfl, hB⟩
      have HB3 := Lib.hid (HW1.out.trans (hB.mono HW1.out.size)); clear hB
      go_wp2_with fail
      go_ret2
      rw [HF.out]
      exact SaysNewC.nil HB3.out

set_option maxRecDepth 100000 in
set_option maxHeartbeats 4000000 in
theorem implDropCall_any (a : Option Addr) (len cap : Nat) (ts : List Call) (n : Int) (w : World) (hl : ts.length = len) (hm : len ≤ maxLen) (h : Call.ListAt w a ts) :
    Calls Try.prog 23 #[.slice a len cap, .int .i64 n] w (SaysNewC (dropR ts n).1 (dropR ts n).2 w) := by
  have HC := Lib.hid (fun (W : World) (hB : Below w.heap.size w W) => implPlace10_code none 0 0 [] a len cap ts (true) n W rfl (by unfold maxLen; omega) (.inl rfl) hl hm (h.below hB))
  unfold SaysPl at HC
  rcases findC_cases [] ts (true) n with ⟨h0, ⟨hH, hA, hb⟩, c, hw⟩ | h0 | h0 | h0
  · obtain ⟨hc1, hn1⟩ := whoC_some hw
    have hk := lt_of_getC hc1
    have HF := Lib.hid (show dropR ts n = _ from dropR_ok h0)
    have hlen : len ≤ 20 := by rw [← hl]; exact areC_len hA
    have HCL := Lib.hid (fun (W : World) (hB : Below w.heap.size w W) => implClone10_any a len cap ts W hl (by omega) (h.below hB))
    have HL := Lib.hid hl
    obtain ⟨b, off, c', ha1, hcc, hp⟩ := h.at hl (show placeC ts n < len by omega)
    rw [hc1] at hp
    obtain rfl := Option.some.inj hp
    have HX := Lib.hid hcc
    have hkl : placeC ts n < len := by omega
    rw [plC_ok h0, h0] at HC
    subst ha1
    generalize hv : dropR ts n = v at HF ⊢
    clear h0 hH hA hb hw hn1 hcc hp hv 
    generalize placeC ts n = k at *
    go_enter Try.func23, Try.ntmps23
    go_wp2_with fail
    refine (HC.out w (Below.refl _ _)).mono ?_; rintro e w2 ⟨rfl, hB⟩
    have HB := Lib.hid hB; clear hB
    obtain ⟨c0, c1, c2, c3⟩ := HX.out.below HB.out
    go_wp2_with fail
    refine (HCL.out w2 HB.out).mono ?_; rintro e w3 ⟨v3, rfl, ho, hB⟩
    have hBd := ho.base HB.out.size
    have HB3 := Lib.hid (HB.out.trans (hB.mono HB.out.size)); clear hB ho
    have HIN := Lib.hid (delete10_any w.heap.size v3 ts k w3 hBd HB3.out.size (by have := HL.out; omega) (by have := HL.out; omega))
    have q1 : IntKind.i64.wrap ((k : Int) + 1) = (k : Int) + 1 := IntWalk.i64_in _ (by omega)
    clear hBd c0 c1 c2 c3
    go_wp2_with fail
    refine HIN.out.mono ?_; rintro e w4 ⟨g, cap8, rfl, hown, hB⟩
    have HO := Lib.hid hown; have HB8 := Lib.hid (HB3.out.trans hB)
    clear hown hB HIN
    generalize ts.take k ++ ts.drop (k + 1) = us at HF HO ⊢
    go_wp2_with fail
    go_ret2
    rw [HF.out]
    exact ⟨_, _, rfl, HO.out, HB8.out⟩
  · have HF := Lib.hid (dropR_bad h0 (by omega))
    rw [plC_bad h0 (by omega), h0] at HC
    generalize hv : dropR ts n = v at HF ⊢
    clear h0 hv
    go_enter Try.func23, Try.ntmps23
    go_wp2_with fail
    refine (HC.out w (Below.refl _ _)).mono ?_; rintro e w2 ⟨rfl, hB⟩
    have HB := Lib.hid hB; clear hB
    go_wp2_with fail
    go_ret2
    rw [HF.out]
    exact SaysNewC.nil HB.out
  · have HF := Lib.hid (dropR_bad h0 (by omega))
    rw [plC_bad h0 (by omega), h0] at HC
    generalize hv : dropR ts n = v at HF ⊢
    clear h0 hv
    go_enter Try.func23, Try.ntmps23
    go_wp2_with fail
    refine (HC.out w (Below.refl _ _)).mono ?_; rintro e w2 ⟨rfl, hB⟩
    have HB := Lib.hid hB; clear hB
    go_wp2_with fail
    go_ret2
    rw [HF.out]
    exact SaysNewC.nil HB.out
  · have HF := Lib.hid (dropR_bad h0 (by omega))
    rw [plC_bad h0 (by omega), h0] at HC
    generalize hv : dropR ts n = v at HF ⊢
    clear h0 hv
    go_enter Try.func23, Try.ntmps23
    go_wp2_with fail
    refine (HC.out w (Below.refl _ _)).mono ?_; rintro e w2 ⟨rfl, hB⟩
    have HB := Lib.hid hB; clear hB
    go_wp2_with fail
    go_ret2
    rw [HF.out]
    exact SaysNewC.nil HB.out

end Go.Proofs.Ytekhdggaelppkaa
