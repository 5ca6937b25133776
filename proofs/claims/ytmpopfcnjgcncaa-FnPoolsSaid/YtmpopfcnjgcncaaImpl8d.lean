/- Contracts of the program's chapter 8: impl.TakeFrom. (written by impl8.py) -/
import Derived.Test.YtmpopfcnjgcncaaChecked
import Derived.Test.YtmpopfcnjgcncaaBase
import Derived.Test.YtmpopfcnjgcncaaInfo
import Derived.Test.YtmpopfcnjgcncaaMarkI
import Derived.Test.YtmpopfcnjgcncaaPure40
import Derived.Test.YtmpopfcnjgcncaaPure80
import Derived.Test.YtmpopfcnjgcncaaPure83
import Derived.Test.YtmpopfcnjgcncaaIntL
import Derived.Test.YtmpopfcnjgcncaaBuildI
import Derived.Test.YtmpopfcnjgcncaaBuild8
import Derived.Test.YtmpopfcnjgcncaaRowV
import Derived.Test.YtmpopfcnjgcncaaPoolA
import Derived.Test.YtmpopfcnjgcncaaSpec80
import Derived.Test.YtmpopfcnjgcncaaSpec81
import Derived.Test.YtmpopfcnjgcncaaSpec83
import Derived.Test.YtmpopfcnjgcncaaSpec84
import Derived.Test.YtmpopfcnjgcncaaImpl8a
import Derived.Test.YtmpopfcnjgcncaaImpl8b
import Derived.Test.YtmpopfcnjgcncaaImpl8c
import Derived.Test.YtmpopfcnjgcncaaTake8
import Derived.WalkKit
import Derived.WalkSpells
import Derived.WalkLawsBesides
import Derived.Lib.Hide
import Derived.Lib.QuietBelow
import Derived.IntWalk
import Derived.Deep.QuietTactic
import Derived.Deep.RegionHeld3
import Derived.Deep.OwnRows
import Derived.BigQuiet
import Derived.BigRegion
import Derived.Outline
namespace Go.Proofs.Ytmpopfcnjgcncaa
open Go.RowKit Pure1 Pure2 Pure30 Pure40 Pure60 Pure80 Pure83 Rec

set_option maxRecDepth 100000 in
set_option maxHeartbeats 4000000 in
theorem implTake8_any (a0 : Option Addr) (l0 c0 : Nat) (a1 : Option Addr) (l1 c1 : Nat) (p : PoolV) (k : Int) (w : World) (hI : PoolV.In w a0 l0 a1 l1 p) (hc1 : l1 ≤ c1) (hn0 : a0 = none → l0 = 0 ∧ c0 = 0) (hn1 : a1 = none → l1 = 0 ∧ c1 = 0) (hs1 : l1 ≤ 1000000000) :
    Calls Try.prog 14 #[.agg #[.slice a0 l0 c0, .slice a1 l1 c1, .int .i64 p.state], .int .i64 k] w (SaysTake (takeR p k).1 (takeR p k).2.1 (takeR p k).2.2 w) := by
  have hw1 : (w.alloc (.cells #[.slice a0 l0 c0, .slice a1 l1 c1, .int .i64 p.state] 26)).heap.size = w.heap.size + 1 := by simp
  have HW := Lib.hid (boxes2 w (.cells #[.slice a0 l0 c0, .slice a1 l1 c1, .int .i64 p.state] 26) (.cells #[.slice none 0 0, .slice none 0 0, .int .i64 0] 26))
  have HX := Lib.hid ((PoolV.boxed w a0 l0 c0 a1 l1 c1 p 26).below (boxed _ (.cells #[.slice none 0 0, .slice none 0 0, .int .i64 0] 26)))
  have hrow := rowV_box (w.alloc (.cells #[.slice a0 l0 c0, .slice a1 l1 c1, .int .i64 p.state] 26)) 26 [.slice none 0 0, .slice none 0 0, .int .i64 0]
  rw [hw1] at hrow
  have HP := Lib.hid hrow
  have HI := Lib.hid hI
  have HC := Lib.hid (implIsPool8_any a0 l0 c0 a1 l1 c1 p ((w.alloc (.cells #[.slice a0 l0 c0, .slice a1 l1 c1, .int .i64 p.state] 26)).alloc (.cells #[.slice none 0 0, .slice none 0 0, .int .i64 0] 26)) (hI.below HW.out) hc1 hs1)
  have HE := Lib.hid (show takeR p k = if takeC p k = 0 then (drawP p k, outN p.nums p.drawn p.state k.toNat, 0) else (zeroP, [], takeC p k) from rfl)
  have hsz : ((w.alloc (.cells #[.slice a0 l0 c0, .slice a1 l1 c1, .int .i64 p.state] 26)).alloc (.cells #[.slice none 0 0, .slice none 0 0, .int .i64 0] 26)).heap.size = w.heap.size + 1 + 1 := by simp
  have HN0 := Lib.hid hn0; have HN1 := Lib.hid hn1
  clear hrow hI hw1 hn0 hn1
  have hwhy := takeC_why p k
  rw [HI.out.1.1, HI.out.2.1] at hwhy
  generalize hr : takeR p k = r at HE ⊢
  have HRR := Lib.hid hr
  clear hr
  rcases hwhy with ⟨hp, h⟩ | ⟨hp, h1, h⟩ | ⟨hp, h1, h2, h⟩ | ⟨hp, h1, h2, h⟩
  · rw [hp] at HC
    rw [h] at HE
    have HF := Lib.hid (show r = (zeroP, [], 1) by rw [HE.out]; rfl)
    clear hp h HRR HE
    go_enter Try.func14, Try.ntmps14
    obtain ⟨x0, x1, x2⟩ := HX.out
    go_wp2_with fail
    generalize (w.alloc (.cells #[.slice a0 l0 c0, .slice a1 l1 c1, .int .i64 p.state] 26)).alloc (.cells #[.slice none 0 0, .slice none 0 0, .int .i64 0] 26) = w0 at HW HX HP HC hsz x0 x1 x2 ⊢
    refine HC.out.mono ?_; rintro e w1 ⟨rfl, hB⟩
    have HB := Lib.hid (HW.out.trans (hB.mono (by omega)))
    have HX1 := Lib.hid (HX.out.below hB); have HP1 := Lib.hid (HP.out.below hB)
    have hs1 : w.heap.size + 1 + 1 ≤ w1.heap.size := by rw [← hsz]; exact hB.size
    clear hB x0 x1 x2 HX HP HW HC hsz
    obtain ⟨x0, x1, x2⟩ := HX1.out
    have p0 := HP1.out.cell (show _[0]? = some _ from rfl)
    have p1 := HP1.out.cell (show _[1]? = some _ from rfl)
    have p2 := HP1.out.cell (show _[2]? = some _ from rfl)
    have g0 := HP1.out.frozen 0
    have g1 := HP1.out.frozen 1
    have g2 := HP1.out.frozen 2
    go_wp2_with fail
    (try simp only [Exit.inBlock, Exit.then])
    refine bodyPost_ret (v := .tuple #[.agg #[.slice none 0 0, .slice none 0 0, .int .i64 0], .slice none 0 0, .int .i64 1]) ?_ rfl ?_
    · rw [Rec.results_cell_tmp2 rfl]
      go_simp
    · rw [HF.out]
      exact ⟨_, _, _, rfl, BuildI.nil _ _, BuildI.nil _ _, BuildI.nil _ _, none_apartV _, none_apartV _, none_apartV _, ((HB.out.setCell (Nat.le_succ _) _).setCell (Nat.le_succ _) _).setCell (Nat.le_succ _) _⟩
  · rw [hp] at HC
    rw [h] at HE
    have HF := Lib.hid (show r = (zeroP, [], 2) by rw [HE.out]; rfl)
    clear hp h HRR HE
    go_enter Try.func14, Try.ntmps14
    obtain ⟨x0, x1, x2⟩ := HX.out
    go_wp2_with fail
    generalize (w.alloc (.cells #[.slice a0 l0 c0, .slice a1 l1 c1, .int .i64 p.state] 26)).alloc (.cells #[.slice none 0 0, .slice none 0 0, .int .i64 0] 26) = w0 at HW HX HP HC hsz x0 x1 x2 ⊢
    refine HC.out.mono ?_; rintro e w1 ⟨rfl, hB⟩
    have HB := Lib.hid (HW.out.trans (hB.mono (by omega)))
    have HX1 := Lib.hid (HX.out.below hB); have HP1 := Lib.hid (HP.out.below hB)
    have hs1 : w.heap.size + 1 + 1 ≤ w1.heap.size := by rw [← hsz]; exact hB.size
    clear hB x0 x1 x2 HX HP HW HC hsz
    obtain ⟨x0, x1, x2⟩ := HX1.out
    have p0 := HP1.out.cell (show _[0]? = some _ from rfl)
    have p1 := HP1.out.cell (show _[1]? = some _ from rfl)
    have p2 := HP1.out.cell (show _[2]? = some _ from rfl)
    have g0 := HP1.out.frozen 0
    have g1 := HP1.out.frozen 1
    have g2 := HP1.out.frozen 2
    go_wp2_with fail
    (try simp only [Exit.inBlock, Exit.then])
    refine bodyPost_ret (v := .tuple #[.agg #[.slice none 0 0, .slice none 0 0, .int .i64 0], .slice none 0 0, .int .i64 2]) ?_ rfl ?_
    · rw [Rec.results_cell_tmp2 rfl]
      go_simp
    · rw [HF.out]
      exact ⟨_, _, _, rfl, BuildI.nil _ _, BuildI.nil _ _, BuildI.nil _ _, none_apartV _, none_apartV _, none_apartV _, ((HB.out.setCell (Nat.le_succ _) _).setCell (Nat.le_succ _) _).setCell (Nat.le_succ _) _⟩
  · rw [hp] at HC
    rw [h] at HE
    have HF := Lib.hid (show r = (zeroP, [], 3) by rw [HE.out]; rfl)
    have hl60 : l0 ≤ 60 := by have h1 := pool_len hp; have h2 := HI.out.1.1; omega
    clear hp h HRR HE
    go_enter Try.func14, Try.ntmps14
    obtain ⟨x0, x1, x2⟩ := HX.out
    go_wp2_with fail
    generalize (w.alloc (.cells #[.slice a0 l0 c0, .slice a1 l1 c1, .int .i64 p.state] 26)).alloc (.cells #[.slice none 0 0, .slice none 0 0, .int .i64 0] 26) = w0 at HW HX HP HC hsz x0 x1 x2 ⊢
    refine HC.out.mono ?_; rintro e w1 ⟨rfl, hB⟩
    have HB := Lib.hid (HW.out.trans (hB.mono (by omega)))
    have HX1 := Lib.hid (HX.out.below hB); have HP1 := Lib.hid (HP.out.below hB)
    have hs1 : w.heap.size + 1 + 1 ≤ w1.heap.size := by rw [← hsz]; exact hB.size
    clear hB x0 x1 x2 HX HP HW HC hsz
    obtain ⟨x0, x1, x2⟩ := HX1.out
    go_wp2_with fail
    refine (implLeftCount8 a0 l0 c0 a1 l1 c1 p w1 (by omega) (by omega)).mono ?_; rintro e w2 ⟨rfl, hw⟩
    have hal : Below w1.heap.size w1 w2 := by rw [hw]; exact boxed _ _
    have HB2 := Lib.hid (HB.out.trans (hal.mono HB.out.size)); have HX2 := Lib.hid (HX1.out.below hal); have HP2 := Lib.hid (HP1.out.below hal)
    have hs2 : w.heap.size + 1 + 1 ≤ w2.heap.size := Nat.le_trans hs1 hal.size
    clear hal hw x0 x1 x2
    obtain ⟨x0, x1, x2⟩ := HX2.out
    have p0 := HP2.out.cell (show _[0]? = some _ from rfl)
    have p1 := HP2.out.cell (show _[1]? = some _ from rfl)
    have p2 := HP2.out.cell (show _[2]? = some _ from rfl)
    have g0 := HP2.out.frozen 0
    have g1 := HP2.out.frozen 1
    have g2 := HP2.out.frozen 2
    go_wp2_with fail
    (try simp only [Exit.inBlock, Exit.then])
    refine bodyPost_ret (v := .tuple #[.agg #[.slice none 0 0, .slice none 0 0, .int .i64 0], .slice none 0 0, .int .i64 3]) ?_ rfl ?_
    · rw [Rec.results_cell_tmp2 rfl]
      go_simp
    · rw [HF.out]
      exact ⟨_, _, _, rfl, BuildI.nil _ _, BuildI.nil _ _, BuildI.nil _ _, none_apartV _, none_apartV _, none_apartV _, ((HB2.out.setCell (Nat.le_succ _) _).setCell (Nat.le_succ _) _).setCell (Nat.le_succ _) _⟩
  · obtain ⟨K, rfl⟩ : ∃ K : Nat, k = K := ⟨k.toNat, by omega⟩
    obtain ⟨hp', hk0, hkk⟩ := take_good h
    rw [Int.toNat_natCast] at hkk
    have HPP := Lib.hid hp'
    have HKK := Lib.hid hkk
    have hl60 : l0 ≤ 60 := by have h1 := pool_len hp; have h2 := HI.out.1.1; omega
    have hl61 : l1 ≤ 60 := by have h1 := pool_len hp; have h2 := HI.out.2.1; have h3 := pool_dlen hp; omega
    rw [hp] at HC
    rw [h] at HE
    have HF := Lib.hid (show r = (⟨p.nums, (drawN p.nums p.drawn p.state K).1, (drawN p.nums p.drawn p.state K).2⟩, outN p.nums p.drawn p.state K, 0) by rw [HE.out]; rfl)
    clear hp h HRR HE hp' hkk
    go_enter Try.func14, Try.ntmps14
    obtain ⟨x0, x1, x2⟩ := HX.out
    go_wp2_with fail
    generalize (w.alloc (.cells #[.slice a0 l0 c0, .slice a1 l1 c1, .int .i64 p.state] 26)).alloc (.cells #[.slice none 0 0, .slice none 0 0, .int .i64 0] 26) = w0 at HW HX HP HC hsz x0 x1 x2 ⊢
    refine HC.out.mono ?_; rintro e w1 ⟨rfl, hB⟩
    have HB := Lib.hid (HW.out.trans (hB.mono (by omega)))
    have HX1 := Lib.hid (HX.out.below hB); have HP1 := Lib.hid (HP.out.below hB)
    have hs1 : w.heap.size + 1 + 1 ≤ w1.heap.size := by rw [← hsz]; exact hB.size
    clear hB x0 x1 x2 HX HP HW HC hsz
    obtain ⟨x0, x1, x2⟩ := HX1.out
    go_wp2_with fail
    refine (implLeftCount8 a0 l0 c0 a1 l1 c1 p w1 (by omega) (by omega)).mono ?_; rintro e w2 ⟨rfl, hw⟩
    have hal : Below w1.heap.size w1 w2 := by rw [hw]; exact boxed _ _
    have HB2 := Lib.hid (HB.out.trans (hal.mono HB.out.size)); have HX2 := Lib.hid (HX1.out.below hal); have HP2 := Lib.hid (HP1.out.below hal)
    have hs2 : w.heap.size + 1 + 1 ≤ w2.heap.size := Nat.le_trans hs1 hal.size
    clear hal hw x0 x1 x2
    obtain ⟨x0, x1, x2⟩ := HX2.out
    have HD := Lib.hid (implAfter8_any a0 l0 c0 a1 l1 c1 p K w2 (HI.out.below HB2.out) HN0.out HN1.out HPP.out HKK.out)
    go_wp2_with fail
    refine HD.out.mono ?_; rintro e w3 ⟨v0, v1, rfl, ho0, ho1, hA1, hB⟩
    have HP3 := Lib.hid (HP2.out.below hB); have HX3 := Lib.hid (HX2.out.below hB)
    have H0 := Lib.hid (ho0.base hs2); have H1 := Lib.hid (ho1.base hs2)
    have HA1 := Lib.hid hA1
    have HB3 := Lib.hid (HB2.out.trans (hB.mono HB2.out.size))
    have hs3 : w.heap.size + 1 + 1 ≤ w3.heap.size := Nat.le_trans hs2 hB.size
    clear ho0 ho1 hA1 hB HD x0 x1 x2 HX1 HP1 HX2 HP2 hs2 hs1 HB HB2
    simp only at H0 H1
    have HOUT := Lib.hid (show outN p.nums p.drawn p.state K = (drawN p.nums p.drawn p.state K).1.drop l1 by rw [← HI.out.2.1]; rfl)
    have hdl := drawN_length p.nums p.drawn p.state K
    rw [HI.out.2.1] at hdl
    have hdl60 : l1 + K ≤ 60 := by have h1 := HKK.out; have h2 := pool_len HPP.out; have h3 := HI.out.2.1; omega
    generalize hds : drawN p.nums p.drawn p.state K = ds at H1 HOUT hdl
    have HDS := Lib.hid hds
    clear hds
    obtain ⟨dl, s⟩ := ds
    simp only at H1 HOUT hdl
    obtain ⟨b0, e0, rfl, _⟩ := H0.out.slice
    have hcells := H1.out.2
    rw [hdl] at hcells
    have hal := boxed w3 (.cells #[.slice b0 p.nums.length e0, v1, .int .i64 s] 26)
    have HQ4 := Lib.hid (rowV_box w3 26 [.slice b0 p.nums.length e0, v1, .int .i64 s])
    have HP4 := Lib.hid (HP3.out.below hal); have HX4 := Lib.hid (HX3.out.below hal)
    have H04 := Lib.hid (H0.out.below hal); have H14 := Lib.hid (H1.out.below hal)
    have HB4 := Lib.hid (HB3.out.trans (hal.mono HB3.out.size))
    obtain ⟨b1, e1, rfl, hat1⟩ := H1.out.slice
    rw [hdl] at H14 HA1 HQ4 HP4 HX4 H04 HB4 hal ⊢
    have hcap := H14.out.1
    have HAT := Lib.hid (hat1.below hal)
    clear hal HP3 HX3 H0 HB3 hat1
    go_wp2
    generalize hw4 : w3.alloc (.cells #[.slice b0 p.nums.length e0, .slice b1 (l1 + K) e1, .int .i64 s] 26) = w4 at HQ4 HP4 HX4 H04 H14 HB4 HAT ⊢
    obtain ⟨g7, hg7⟩ : ∃ g7, w3.heap.size = g7 := ⟨_, rfl⟩
    have hs4 : w.heap.size + 1 + 1 ≤ w4.heap.size := by rw [← hw4]; simp; omega
    have hg7n : g7 ≠ w.heap.size + 1 := by omega
    have hg7m : w.heap.size + 1 ≠ g7 := by omega
    have i1 : (l1 : Int) ≤ (l1 : Int) + (K : Int) := by omega
    have i2 : (0 : Int) ≤ (l1 : Int) := by omega
    rw [hg7] at HQ4 ⊢
    clear hw4 hg7 H1
    have hdr := Below.drew (Below.refl w4.heap.size w4)
    have HS := Lib.hid (fun (W : World) (h : Below w4.drew.heap.size w4.drew W) => show W.cell? ⟨g7, 0, none⟩ = some (.slice b0 p.nums.length e0) ∧ W.cell? ⟨g7, 1, none⟩ = some (.slice b1 (l1 + K) e1) ∧ W.cell? ⟨g7, 2, none⟩ = some (.int .i64 s) ∧ W.cell? ⟨w.heap.size, 1, none⟩ = some (.slice a1 l1 c1) from ⟨((HQ4.out.below hdr).below h).cell (show _[0]? = some _ from rfl), ((HQ4.out.below hdr).below h).cell (show _[1]? = some _ from rfl), ((HQ4.out.below hdr).below h).cell (show _[2]? = some _ from rfl), ((HX4.out.below hdr).below h).2.1⟩)
    have HdP := Lib.hid (HP4.out.below hdr)
    have hll : (dl.drop l1).length = K := by rw [List.length_drop, hdl]; omega
    rcases hcells with ⟨e, h0⟩ | ⟨g, cap, cur, e, hgB, hgh, hnc, hcm, hcs, hct⟩
    · obtain ⟨rfl, hz, rfl⟩ : b1 = none ∧ dl = [] ∧ e1 = 0 := by simpa using e
      have hlz : l1 + K = 0 := by rw [← hdl, hz]; rfl
      obtain ⟨hl1z, hKz⟩ : l1 = 0 ∧ K = 0 := by omega
      subst hl1z hKz
      simp only [Nat.add_zero] at H14 HA1 HQ4 HS HX4 i1 ⊢
      clear e h0 hz hcap hlz
      have HCl := Lib.hid (implClone8 none 0 0 (dl.drop 0) w4.drew ⟨hll, by unfold maxLen; omega, .inl (List.length_eq_zero_iff.1 hll)⟩ (by omega) (fun _ => ⟨rfl, rfl⟩))
      go_region_held3 (fun W => W.cell? ⟨g7, 0, none⟩ = some (.slice b0 p.nums.length e0) ∧ W.cell? ⟨g7, 1, none⟩ = some (.slice none 0 0) ∧ W.cell? ⟨g7, 2, none⟩ = some (.int .i64 s) ∧ W.cell? ⟨w.heap.size, 1, none⟩ = some (.slice a1 0 c1)) (first | exact HS.out _ (Below.refl _ _) | exact HS.out _ hBa | (have hbb := HS.out _ hBa; obtain ⟨k0, k1, k2, k3⟩ := hbb; go_simp)) ((go_at_call 51; refine HCl.out.mono ?_; rintro e v5 ⟨va, rfl, hoa, hBa⟩; obtain ⟨aa, ca, rfl, _⟩ := hoa.slice; have p0 := (HdP.out.below hBa).cell (show _[0]? = some _ from rfl); have p1 := (HdP.out.below hBa).cell (show _[1]? = some _ from rfl); have p2 := (HdP.out.below hBa).cell (show _[2]? = some _ from rfl); have g0 := (HdP.out.below hBa).frozen 0; have g1 := (HdP.out.below hBa).frozen 1; have g2 := (HdP.out.below hBa).frozen 2))
      have hall : Below w4.heap.size w4 v5 := hdr.trans hBa
      have H05 := Lib.hid (H04.out.below hall); have H15 := Lib.hid (H14.out.below hall)
      have HO5 := Lib.hid (hoa.base (show w.heap.size + 1 + 1 ≤ w4.drew.heap.size from hs4))
      have HA2 := Lib.hid (apartV_later H04.out hoa (Nat.le_refl _)); have HA3 := Lib.hid (apartV_later H14.out hoa (Nat.le_refl _))
      have HB5 := Lib.hid (HB4.out.trans (hall.mono HB4.out.size))
      clear hall hoa hdr hBa HS HdP HCl HP4 HX4 HQ4 H04 H14 HB4 HAT
      try rw [hll]
      go_wp2_with fail
      (try simp only [Exit.inBlock, Exit.then])
      refine bodyPost_ret (v := .tuple #[.agg #[.slice b0 p.nums.length e0, .slice none 0 0, .int .i64 s], .slice aa 0 ca, .int .i64 0]) ?_ rfl ?_
      · rw [Rec.results_cell_tmp2 rfl]
        go_simp
      · have hb : w.heap.size ≤ w.heap.size + 1 + 1 := by omega
        have hl : w.heap.size + 1 < w.heap.size + 1 + 1 := Nat.lt_succ_self _
        have hds := HDS.out
        have ho := HO5.out
        rw [hll] at ho
        rw [HF.out, hds, HOUT.out]
        rw [hll] at HA2 HA3
        exact ⟨_, _, _, rfl, (((H05.out.stored hl _).stored hl _).stored hl _).base hb, (((H15.out.stored hl _).stored hl _).stored hl _).base hb, (((ho.stored hl _).stored hl _).stored hl _).base hb, HA1.out, HA2.out, HA3.out, ((HB5.out.setCell (Nat.le_succ _) _).setCell (Nat.le_succ _) _).setCell (Nat.le_succ _) _⟩
    · obtain ⟨rfl, -, rfl⟩ : b1 = some ⟨g, 0, none⟩ ∧ dl.length = l1 + K ∧ e1 = cap := by simpa using e
      clear e hgh hcs hct hcap
      by_cases hfull : e1 = l1
      · have hf2 := hfull.symm
        clear hfull
        subst hf2
        have hKz : K = 0 := by omega
        subst hKz
        simp only [Nat.add_zero] at H14 HA1 HQ4 HS HX4 i1 ⊢
        have HCl := Lib.hid (implClone8 (some ⟨g, 0, none⟩) 0 0 (dl.drop l1) w4.drew ⟨hll, by unfold maxLen; omega, .inl (List.length_eq_zero_iff.1 hll)⟩ (by omega) (fun h => by cases h))
        go_region_held3 (fun W => W.cell? ⟨g7, 0, none⟩ = some (.slice b0 p.nums.length e0) ∧ W.cell? ⟨g7, 1, none⟩ = some (.slice (some ⟨g, 0, none⟩) l1 l1) ∧ W.cell? ⟨g7, 2, none⟩ = some (.int .i64 s) ∧ W.cell? ⟨w.heap.size, 1, none⟩ = some (.slice a1 l1 c1)) (first | exact HS.out _ (Below.refl _ _) | exact HS.out _ hBa | (have hbb := HS.out _ hBa; obtain ⟨k0, k1, k2, k3⟩ := hbb; go_simp)) ((go_at_call 51; refine HCl.out.mono ?_; rintro e v5 ⟨va, rfl, hoa, hBa⟩; obtain ⟨aa, ca, rfl, _⟩ := hoa.slice; have p0 := (HdP.out.below hBa).cell (show _[0]? = some _ from rfl); have p1 := (HdP.out.below hBa).cell (show _[1]? = some _ from rfl); have p2 := (HdP.out.below hBa).cell (show _[2]? = some _ from rfl); have g0 := (HdP.out.below hBa).frozen 0; have g1 := (HdP.out.below hBa).frozen 1; have g2 := (HdP.out.below hBa).frozen 2))
        have hall : Below w4.heap.size w4 v5 := hdr.trans hBa
        have H05 := Lib.hid (H04.out.below hall); have H15 := Lib.hid (H14.out.below hall)
        have HO5 := Lib.hid (hoa.base (show w.heap.size + 1 + 1 ≤ w4.drew.heap.size from hs4))
        have HA2 := Lib.hid (apartV_later H04.out hoa (Nat.le_refl _)); have HA3 := Lib.hid (apartV_later H14.out hoa (Nat.le_refl _))
        have HB5 := Lib.hid (HB4.out.trans (hall.mono HB4.out.size))
        clear hall hoa hdr hBa HS HdP HCl HP4 HX4 HQ4 H04 H14 HB4 HAT
        try rw [hll]
        go_wp2_with fail
        (try simp only [Exit.inBlock, Exit.then])
        refine bodyPost_ret (v := .tuple #[.agg #[.slice b0 p.nums.length e0, .slice (some ⟨g, 0, none⟩) l1 l1, .int .i64 s], .slice aa 0 ca, .int .i64 0]) ?_ rfl ?_
        · rw [Rec.results_cell_tmp2 rfl]
          go_simp
        · have hb : w.heap.size ≤ w.heap.size + 1 + 1 := by omega
          have hl : w.heap.size + 1 < w.heap.size + 1 + 1 := Nat.lt_succ_self _
          have hds := HDS.out
          have ho := HO5.out
          rw [hll] at ho
          rw [HF.out, hds, HOUT.out]
          rw [hll] at HA2 HA3
          exact ⟨_, _, _, rfl, (((H05.out.stored hl _).stored hl _).stored hl _).base hb, (((H15.out.stored hl _).stored hl _).stored hl _).base hb, (((ho.stored hl _).stored hl _).stored hl _).base hb, HA1.out, HA2.out, HA3.out, ((HB5.out.setCell (Nat.le_succ _) _).setCell (Nat.le_succ _) _).setCell (Nat.le_succ _) _⟩
      · have hints : IntsAt w4.drew (some ⟨g, l1, none⟩) (dl.drop l1) := by
          rcases HAT.out.below hdr with h | ⟨b9, o9, e9, hc9⟩
          · exact .inl (by rw [h]; simp)
          · cases e9
            refine .inr ⟨g, l1, rfl, fun i x hx => ?_⟩
            rw [List.getElem?_drop] at hx
            have := hc9 (l1 + i) x hx
            rwa [Nat.zero_add] at this
        have hlt : ¬ e1 = l1 := hfull
        have HCl := Lib.hid (implClone8 (some ⟨g, l1, none⟩) K (e1 - l1) (dl.drop l1) w4.drew ⟨hll, by unfold maxLen; omega, hints⟩ (by omega) (fun h => by cases h))
        go_region_held3 (fun W => W.cell? ⟨g7, 0, none⟩ = some (.slice b0 p.nums.length e0) ∧ W.cell? ⟨g7, 1, none⟩ = some (.slice (some ⟨g, 0, none⟩) (l1 + K) e1) ∧ W.cell? ⟨g7, 2, none⟩ = some (.int .i64 s) ∧ W.cell? ⟨w.heap.size, 1, none⟩ = some (.slice a1 l1 c1)) (first | exact HS.out _ (Below.refl _ _) | exact HS.out _ hBa | (have hbb := HS.out _ hBa; obtain ⟨k0, k1, k2, k3⟩ := hbb; go_simp)) ((go_at_call 51; refine HCl.out.mono ?_; rintro e v5 ⟨va, rfl, hoa, hBa⟩; obtain ⟨aa, ca, rfl, _⟩ := hoa.slice; have p0 := (HdP.out.below hBa).cell (show _[0]? = some _ from rfl); have p1 := (HdP.out.below hBa).cell (show _[1]? = some _ from rfl); have p2 := (HdP.out.below hBa).cell (show _[2]? = some _ from rfl); have g0 := (HdP.out.below hBa).frozen 0; have g1 := (HdP.out.below hBa).frozen 1; have g2 := (HdP.out.below hBa).frozen 2))
        have hall : Below w4.heap.size w4 v5 := hdr.trans hBa
        have H05 := Lib.hid (H04.out.below hall); have H15 := Lib.hid (H14.out.below hall)
        have HO5 := Lib.hid (hoa.base (show w.heap.size + 1 + 1 ≤ w4.drew.heap.size from hs4))
        have HA2 := Lib.hid (apartV_later H04.out hoa (Nat.le_refl _)); have HA3 := Lib.hid (apartV_later H14.out hoa (Nat.le_refl _))
        have HB5 := Lib.hid (HB4.out.trans (hall.mono HB4.out.size))
        clear hall hoa hdr hBa HS HdP HCl HP4 HX4 HQ4 H04 H14 HB4 HAT
        try rw [hll]
        go_wp2_with fail
        (try simp only [Exit.inBlock, Exit.then])
        refine bodyPost_ret (v := .tuple #[.agg #[.slice b0 p.nums.length e0, .slice (some ⟨g, 0, none⟩) (l1 + K) e1, .int .i64 s], .slice aa K ca, .int .i64 0]) ?_ rfl ?_
        · rw [Rec.results_cell_tmp2 rfl]
          go_simp
        · have hb : w.heap.size ≤ w.heap.size + 1 + 1 := by omega
          have hl : w.heap.size + 1 < w.heap.size + 1 + 1 := Nat.lt_succ_self _
          have hds := HDS.out
          have ho := HO5.out
          rw [hll] at ho
          rw [HF.out, hds, HOUT.out]
          rw [hll] at HA2 HA3
          exact ⟨_, _, _, rfl, (((H05.out.stored hl _).stored hl _).stored hl _).base hb, (((H15.out.stored hl _).stored hl _).stored hl _).base hb, (((ho.stored hl _).stored hl _).stored hl _).base hb, HA1.out, HA2.out, HA3.out, ((HB5.out.setCell (Nat.le_succ _) _).setCell (Nat.le_succ _) _).setCell (Nat.le_succ _) _⟩
end Go.Proofs.Ytmpopfcnjgcncaa
