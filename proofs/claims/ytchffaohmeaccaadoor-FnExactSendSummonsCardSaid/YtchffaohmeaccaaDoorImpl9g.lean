/- Contracts of the program's chapter 9: sending a summons. (written by impl9.py) -/
import Derived.Test.YtchffaohmeaccaaDoorChecked
import Derived.Test.YtchffaohmeaccaaDoorBase0
import Derived.Test.YtchffaohmeaccaaDoorInfo
import Derived.Test.YtchffaohmeaccaaDoorPure21
import Derived.Test.YtchffaohmeaccaaDoorMarkI
import Derived.Test.YtchffaohmeaccaaDoorSummonsB
import Derived.Test.YtchffaohmeaccaaDoorSummonsC
import Derived.Test.YtchffaohmeaccaaDoorSummonsD
import Derived.Test.YtchffaohmeaccaaDoorPure91
import Derived.Test.YtchffaohmeaccaaDoorAsR
import Derived.Test.YtchffaohmeaccaaDoorPersNum
import Derived.Test.YtchffaohmeaccaaDoorDay2
import Derived.Test.YtchffaohmeaccaaDoorDay5
import Derived.Test.YtchffaohmeaccaaDoorImpl9a
import Derived.Test.YtchffaohmeaccaaDoorImpl9b
import Derived.Test.YtchffaohmeaccaaDoorImpl9c
import Derived.Test.YtchffaohmeaccaaDoorFind9
import Derived.Test.YtchffaohmeaccaaDoorSet9
import Derived.Test.YtchffaohmeaccaaDoorImpl9f
import Derived.Test.YtchffaohmeaccaaDoorIns9b
import Derived.WalkKit
import Derived.WalkSpells
import Derived.WalkLawsBesides
import Derived.Lib.Hide
import Derived.Lib.QuietBelow
import Derived.IntWalk
import Derived.Deep.QuietTactic
import Derived.BigQuiet
import Derived.BigRegion
import Derived.OwnWalk
import Derived.RegionTactic
import Derived.Outline
namespace Go.Proofs.YtchffaohmeaccaaDoor
open Go.RowKit Go.Sort Pure1 Pure2 Pure20 Pure21 Pure40


set_option maxRecDepth 100000 in
set_option maxHeartbeats 4000000 in
theorem implWithSent_any (ha : Option Addr) (hn hc : Nat) (hs : List Int) (la : Option Addr) (len cap : Nat) (ts : List Summons) (n d k : Int) (w : World) (hhl : hs.length = hn) (hhm : hn ≤ maxLen) (hh : IntsAt w ha hs) (hl : ts.length = len) (hm : len ≤ maxLen) (h : Summons.ListAt w la ts) :
    Calls Tryd.prog 61 #[.slice ha hn hc, .slice la len cap, .int .i64 n, .int .i64 d, .int .i64 k] w (SaysME (sendR hs ts n d k).1 (sendR hs ts n d k).2 w) := by
  have HL := Lib.hid hl; have HI := Lib.hid h
  have HH := Lib.hid (fun (W : World) (hB : Below w.heap.size w W) => implAreHol_any ha hn hc hs W hhl hhm (hh.below hB))
  have HM := Lib.hid (fun (W : World) (hB : Below w.heap.size w W) => implAreM_any la len cap ts W hl hm (h.below hB))
  have HN := Lib.hid (fun W => implPersNum_any n W)
  have HD := Lib.hid (fun (W : World) (hB : Below w.heap.size w W) => implDeadlineOf_any ha hn hc hs d k W hhl hhm (hh.below hB))
  clear h hh hm hhm
  cases hb1 : hol hs
  · have HF := Lib.hid (sendR_1 (hs := hs) (ts := ts) (n := n) (d := d) (k := k) (fun hh => by rw [hb1] at hh; cases hh.1))
    generalize sendR hs ts n d k = v at HF ⊢
    rw [hb1] at HH; clear hb1
    go_enter Tryd.func61, Tryd.ntmps61
    go_wp2_with fail
    refine (HH.out _ (Below.refl _ _)).mono ?_; rintro e w1 ⟨rfl, hw⟩
    have HB1 := Lib.hid (show Below w.heap.size w w1 by rw [← hw]; exact Below.refl _ _)
    clear hw
    go_wp2_with fail
    go_ret2
    rw [HF.out]
    exact SaysME.nil (c := 1) HB1.out
  cases hb2 : areM ts
  · have HF := Lib.hid (sendR_1 (hs := hs) (ts := ts) (n := n) (d := d) (k := k) (fun hh => by rw [hb2] at hh; cases hh.2))
    generalize sendR hs ts n d k = v at HF ⊢
    rw [hb1] at HH; rw [hb2] at HM; clear hb1 hb2
    go_enter Tryd.func61, Tryd.ntmps61
    go_wp2_with fail
    refine (HH.out _ (Below.refl _ _)).mono ?_; rintro e w1 ⟨rfl, hw⟩
    have HB1 := Lib.hid (show Below w.heap.size w w1 by rw [← hw]; exact Below.refl _ _)
    clear hw
    go_wp2_with fail
    refine (HM.out _ HB1.out).mono ?_; rintro e w2 ⟨rfl, hB⟩
    have HB2 := Lib.hid (HB1.out.trans (hB.mono HB1.out.size)); clear hB
    go_wp2_with fail
    go_ret2
    rw [HF.out]
    exact SaysME.nil (c := 1) HB2.out
  cases hb3 : inR n 1 1000000
  · have HF := Lib.hid (sendR_2 (d := d) (k := k) ⟨hb1, hb2⟩ hb3)
    generalize sendR hs ts n d k = v at HF ⊢
    rw [hb1] at HH; rw [hb2] at HM; rw [hb3] at HN; clear hb1 hb2 hb3
    go_enter Tryd.func61, Tryd.ntmps61
    go_wp2_with fail
    refine (HH.out _ (Below.refl _ _)).mono ?_; rintro e w1 ⟨rfl, hw⟩
    have HB1 := Lib.hid (show Below w.heap.size w w1 by rw [← hw]; exact Below.refl _ _)
    clear hw
    go_wp2_with fail
    refine (HM.out _ HB1.out).mono ?_; rintro e w2 ⟨rfl, hB⟩
    have HB2 := Lib.hid (HB1.out.trans (hB.mono HB1.out.size)); clear hB
    go_wp2_with fail
    refine (HN.out _).mono ?_; rintro e w3 ⟨rfl, hw⟩
    subst hw
    go_wp2_with fail
    go_ret2
    rw [HF.out]
    exact SaysME.nil (c := 2) HB2.out
  rcases deadR_cases hs d k with ⟨due, hdd, _, hday, hdue⟩ | ⟨c, hdd, hcc⟩
  rotate_left
  · have HF := Lib.hid (sendR_c ⟨hb1, hb2⟩ hb3 hdd (by omega))
    generalize sendR hs ts n d k = v at HF ⊢
    rw [hb1] at HH; rw [hb2] at HM; rw [hb3] at HN; rw [hdd] at HD; clear hb1 hb2 hb3 hdd
    have hc0 : (c != 0) = true := by simp; omega
    have HC := Lib.hid (show c ≠ 0 by omega)
    clear hcc
    go_enter Tryd.func61, Tryd.ntmps61
    go_wp2_with fail
    refine (HH.out _ (Below.refl _ _)).mono ?_; rintro e w1 ⟨rfl, hw⟩
    have HB1 := Lib.hid (show Below w.heap.size w w1 by rw [← hw]; exact Below.refl _ _)
    clear hw
    go_wp2_with fail
    refine (HM.out _ HB1.out).mono ?_; rintro e w2 ⟨rfl, hB⟩
    have HB2 := Lib.hid (HB1.out.trans (hB.mono HB1.out.size)); clear hB
    go_wp2_with fail
    refine (HN.out _).mono ?_; rintro e w3 ⟨rfl, hw⟩
    subst hw
    go_wp2_with fail
    refine (HD.out _ HB2.out).mono ?_; rintro e w4 hP
    obtain ⟨rfl, hB⟩ := hP
    have HB4 := Lib.hid (HB2.out.trans (hB.mono HB2.out.size)); clear hB
    go_wp2_with fail
    go_ret2
    rw [HF.out]
    exact ⟨none, 0, by rw [errV_ne HC.out]; rfl, .inl rfl, HB4.out⟩
  have HF := Lib.hid (sendR_0 ⟨hb1, hb2⟩ hb3 hdd)
  have hokx : okM ⟨n, d, due, 0, 0⟩ = true := okM_of (inR_iff.1 hb3) hday hdue (.inl ⟨rfl, rfl⟩)
  have hlen : ts.length ≤ 20 := areM_len hb2
  have HP := Lib.hid (fun (W : World) (hB : Below w.heap.size w W) => implPlace9_any la len cap ts n W hl hb2 (HI.out.below hB))
  have hple := placeM_le ts n
  unfold SaysPlace at HP
  generalize sendR hs ts n d k = v at HF ⊢
  rw [hb1] at HH; rw [hb2] at HM; rw [hb3] at HN; rw [hdd] at HD
  cases hw : whoM ts n with
  | some s =>
    rw [if_neg (by rw [insM_twice (x := ⟨n, d, due, 0, 0⟩) hw]; decide)] at HF
    rw [hw] at HP
    clear hb1 hb2 hb3 hdd hw hokx hple
    generalize ((placeM ts n : Nat) : Int) = pl at HP
    go_enter Tryd.func61, Tryd.ntmps61
    go_wp2_with fail
    refine (HH.out _ (Below.refl _ _)).mono ?_; rintro e w1 ⟨rfl, hw⟩
    have HB1 := Lib.hid (show Below w.heap.size w w1 by rw [← hw]; exact Below.refl _ _)
    clear hw
    go_wp2_with fail
    refine (HM.out _ HB1.out).mono ?_; rintro e w2 ⟨rfl, hB⟩
    have HB2 := Lib.hid (HB1.out.trans (hB.mono HB1.out.size)); clear hB
    go_wp2_with fail
    refine (HN.out _).mono ?_; rintro e w3 ⟨rfl, hw⟩
    subst hw
    go_wp2_with fail
    refine (HD.out _ HB2.out).mono ?_; rintro e w4 hP
    obtain ⟨rfl, hB⟩ := hP
    have HB4 := Lib.hid (HB2.out.trans (hB.mono HB2.out.size)); clear hB
    go_wp2_with fail
    refine (HP.out _ HB4.out).mono ?_; rintro e w5 ⟨rfl, hB⟩
    have HB5 := Lib.hid (HB4.out.trans (hB.mono HB4.out.size)); clear hB
    go_wp2_with fail
    go_ret2
    rw [HF.out]
    exact SaysME.nil (c := 5) HB5.out
  | none =>
    rw [hw] at HP
    by_cases h20 : ts.length = 20
    · rw [if_neg (by rw [insM_full (x := ⟨n, d, due, 0, 0⟩) (by omega)]; decide)] at HF
      have hl20 : len = 20 := by rw [← hl]; exact h20
      have hz : ((len : Int) == 20) = true := by rw [hl20]; rfl
      clear hb1 hb2 hb3 hdd hw hokx hple
      generalize ((placeM ts n : Nat) : Int) = pl at HP
      clear hl20
      go_enter Tryd.func61, Tryd.ntmps61
      go_wp2_with fail
      refine (HH.out _ (Below.refl _ _)).mono ?_; rintro e w1 ⟨rfl, hw⟩
      have HB1 := Lib.hid (show Below w.heap.size w w1 by rw [← hw]; exact Below.refl _ _)
      clear hw
      go_wp2_with fail
      refine (HM.out _ HB1.out).mono ?_; rintro e w2 ⟨rfl, hB⟩
      have HB2 := Lib.hid (HB1.out.trans (hB.mono HB1.out.size)); clear hB
      go_wp2_with fail
      refine (HN.out _).mono ?_; rintro e w3 ⟨rfl, hw⟩
      subst hw
      go_wp2_with fail
      refine (HD.out _ HB2.out).mono ?_; rintro e w4 hP
      obtain ⟨rfl, hB⟩ := hP
      have HB4 := Lib.hid (HB2.out.trans (hB.mono HB2.out.size)); clear hB
      go_wp2_with fail
      refine (HP.out _ HB4.out).mono ?_; rintro e w5 ⟨rfl, hB⟩
      have HB5 := Lib.hid (HB4.out.trans (hB.mono HB4.out.size)); clear hB
      go_wp2_with fail
      go_ret2
      rw [HF.out]
      exact SaysME.nil (c := 5) HB5.out
    · have hin := insM_are (x := ⟨n, d, due, 0, 0⟩) hb2 hokx hw (by omega)
      rw [if_pos hin] at HF
      have hinl := insM_len ts ⟨n, d, due, 0, 0⟩
      have hz : ((len : Int) == 20) = false := beq_eq_false_iff_ne.2 (by omega)
      have HE := Lib.hid (show insM ts ⟨n, d, due, 0, 0⟩ = ts.take (placeM ts n) ++ [⟨n, d, due, 0, 0⟩] ++ ts.drop (placeM ts n) from rfl)
      rw [HE.out] at HF hinl
      clear hb1 hb2 hb3 hdd hw hokx hin HE
      generalize placeM ts n = pl at HP HF hple hinl
      have h19 : ts.length ≤ 19 := by omega
      have HPL := Lib.hid hple; have H19 := Lib.hid h19; have HIL := Lib.hid hinl
      clear hple h19 hinl h20
      go_enter Tryd.func61, Tryd.ntmps61
      go_wp2_with fail
      refine (HH.out _ (Below.refl _ _)).mono ?_; rintro e w1 ⟨rfl, hw⟩
      have HB1 := Lib.hid (show Below w.heap.size w w1 by rw [← hw]; exact Below.refl _ _)
      clear hw
      go_wp2_with fail
      refine (HM.out _ HB1.out).mono ?_; rintro e w2 ⟨rfl, hB⟩
      have HB2 := Lib.hid (HB1.out.trans (hB.mono HB1.out.size)); clear hB
      go_wp2_with fail
      refine (HN.out _).mono ?_; rintro e w3 ⟨rfl, hw⟩
      subst hw
      go_wp2_with fail
      refine (HD.out _ HB2.out).mono ?_; rintro e w4 hP
      obtain ⟨rfl, hB⟩ := hP
      have HB4 := Lib.hid (HB2.out.trans (hB.mono HB2.out.size)); clear hB
      go_wp2_with fail
      refine (HP.out _ HB4.out).mono ?_; rintro e w5 ⟨rfl, hB⟩
      have HB5 := Lib.hid (HB4.out.trans (hB.mono HB4.out.size)); clear hB
      have HCL := Lib.hid (implClone9_any la len cap ts w5 HL.out (by omega) (HI.out.below HB5.out))
      go_wp2_with fail
      refine HCL.out.mono ?_; rintro e w6 ⟨v6, rfl, ho, hB⟩
      have hBd := ho.base HB5.out.size
      have HB6 := Lib.hid (HB5.out.trans (hB.mono HB5.out.size))
      have hbd7 := hBd.alloc (.cells #[.int .i64 n, .int .i64 d, .int .i64 due, .int .i64 0, .int .i64 0] 53)
      have hrow := Summons.box_row w6 ⟨n, d, due, 0, 0⟩ 53
      have hB7 := HB6.out.alloc HB6.out.size (.cells #[.int .i64 n, .int .i64 d, .int .i64 due, .int .i64 0, .int .i64 0] 53)
      have HIN := Lib.hid (insert9_any w.heap.size v6 ts pl ⟨n, d, due, 0, 0⟩ w6.heap.size 1 _ hbd7 hB7.size H19.out HPL.out hrow (fun g hg => by have := (hBd.lt g hg).2; omega))
      have HB7 := Lib.hid hB7
      clear ho hB hBd hbd7 hrow hB7
      go_wp2_with fail
      refine HIN.out.mono ?_; rintro e w8 ⟨g, cap8, rfl, hown, hB⟩
      have HO := Lib.hid hown; have HB8 := Lib.hid (HB7.out.trans hB)
      clear hown hB HIL HIN
      generalize ts.take pl ++ [⟨n, d, due, 0, 0⟩] ++ ts.drop pl = us at HF HO ⊢
      go_wp2_with fail
      go_ret2
      rw [HF.out]
      exact ⟨_, _, rfl, HO.out, HB8.out⟩

set_option maxRecDepth 100000 in
set_option maxHeartbeats 1000000 in
theorem implSendSummons_any (ha : Option Addr) (hn hc : Nat) (hs : List Int) (la : Option Addr) (len cap : Nat) (ts : List Summons) (n d k : Int) (w : World) (hhl : hs.length = hn) (hhm : hn ≤ maxLen) (hh : IntsAt w ha hs) (hl : ts.length = len) (hm : len ≤ maxLen) (h : Summons.ListAt w la ts) (hg : TypeAt w) :
    Calls Tryd.prog 28 #[.slice ha hn hc, .slice la len cap, .int .i64 n, .int .i64 d, .int .i64 k] w (SaysNewM (sendR hs ts n d k).1 (sendR hs ts n d k).2 w) := by
  have HC := Lib.hid (implWithSent_any ha hn hc hs la len cap ts n d k w hhl hhm hh hl hm h)
  have HT := Lib.hid (fun (W : World) (hB : Below w.heap.size w W) => implCode9 (sendR hs ts n d k).2 W (hg.below hB))
  clear h hh hg
  obtain ⟨zs, c, hr⟩ : ∃ zs c, sendR hs ts n d k = (zs, c) := ⟨_, _, rfl⟩
  rw [hr] at HC HT ⊢
  clear hr
  go_enter Tryd.func28, Tryd.ntmps28
  go_wp2_with fail
  refine HC.out.mono ?_; rintro e w1 ⟨a1, cap1, rfl, ho, hB⟩
  have HO := Lib.hid ho; have HB := Lib.hid hB
  have HT1 := Lib.hid (HT.out w1 hB); clear ho hB
  (try simp only at HT1 HO)
  go_wp2_with fail
  refine HT1.out.mono ?_; rintro e w2 ⟨rfl, hB⟩
  have HO2 := Lib.hid (HO.out.below hB); have HB2 := Lib.hid (HB.out.trans (hB.mono HB.out.size)); clear hB
  go_wp2_with fail
  go_ret2
  exact ⟨_, _, rfl, HO2.out, HB2.out⟩
end Go.Proofs.YtchffaohmeaccaaDoor
