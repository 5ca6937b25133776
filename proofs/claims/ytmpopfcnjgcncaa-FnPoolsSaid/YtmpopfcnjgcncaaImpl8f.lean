/- Contracts of the program's chapter 8: impl.MakePool, impl.PutBack. (written by impl8.py) -/
import Derived.Test.YtmpopfcnjgcncaaChecked
import Derived.Test.YtmpopfcnjgcncaaBase
import Derived.Test.YtmpopfcnjgcncaaInfo
import Derived.Test.YtmpopfcnjgcncaaMarkI
import Derived.Test.YtmpopfcnjgcncaaPure40
import Derived.Test.YtmpopfcnjgcncaaPure80
import Derived.Test.YtmpopfcnjgcncaaPure83
import Derived.Test.YtmpopfcnjgcncaaIntL
import Derived.Test.YtmpopfcnjgcncaaBuildI
import Derived.Test.YtmpopfcnjgcncaaBuild8
import Derived.Test.YtmpopfcnjgcncaaRowV
import Derived.Test.YtmpopfcnjgcncaaPoolA
import Derived.Test.YtmpopfcnjgcncaaSpec80
import Derived.Test.YtmpopfcnjgcncaaSpec81
import Derived.Test.YtmpopfcnjgcncaaSpec83
import Derived.Test.YtmpopfcnjgcncaaSpec84
import Derived.Test.YtmpopfcnjgcncaaImpl8a
import Derived.Test.YtmpopfcnjgcncaaImpl8b
import Derived.Test.YtmpopfcnjgcncaaImpl8c
import Derived.Test.YtmpopfcnjgcncaaTake8
import Derived.Test.YtmpopfcnjgcncaaDiff8
import Derived.Test.YtmpopfcnjgcncaaWith8
import Derived.WalkKit
import Derived.WalkSpells
import Derived.WalkLawsBesides
import Derived.Lib.Hide
import Derived.Lib.QuietBelow
import Derived.IntWalk
import Derived.Deep.QuietTactic
import Derived.Deep.RegionHeld3
import Derived.Deep.OwnRows
import Derived.BigQuiet
import Derived.BigRegion
import Derived.Outline
namespace Go.Proofs.Ytmpopfcnjgcncaa
open Go.RowKit Pure1 Pure2 Pure30 Pure40 Pure60 Pure80 Pure83 Rec

set_option maxRecDepth 100000 in
set_option maxHeartbeats 4000000 in
theorem implMake8_any (a : Option Addr) (len cap : Nat) (zs : List Int) (s : Int) (w : World) (hI : IntsIn w a len zs) (hn : a = none → len = 0 ∧ cap = 0) (hs : len ≤ 1048576) :
    Calls Try.prog 20 #[.slice a len cap, .int .i64 s] w (SaysPool (makeR zs s).1 (makeR zs s).2 w) := by
  have HW := Lib.hid (boxes2 w (.cells #[.slice none 0 0, .slice none 0 0, .int .i64 0] 26) (.cells #[.slice a len cap, .slice none 0 0, .int .i64 s] 26))
  have HP := Lib.hid ((rowV_box w 26 [.slice none 0 0, .slice none 0 0, .int .i64 0]).below (boxed _ (.cells #[.slice a len cap, .slice none 0 0, .int .i64 s] 26)))
  have hsz : ((w.alloc (.cells #[.slice none 0 0, .slice none 0 0, .int .i64 0] 26)).alloc (.cells #[.slice a len cap, .slice none 0 0, .int .i64 s] 26)).heap.size = w.heap.size + 2 := by simp
  have hq := rowV_box (w.alloc (.cells #[.slice none 0 0, .slice none 0 0, .int .i64 0] 26)) 26 [.slice a len cap, .slice none 0 0, .int .i64 s]
  rw [show (w.alloc (.cells #[.slice none 0 0, .slice none 0 0, .int .i64 0] 26)).heap.size = w.heap.size + 1 by simp] at hq
  have HQ := Lib.hid hq
  have HI := Lib.hid (show PoolV.In ((w.alloc (.cells #[.slice none 0 0, .slice none 0 0, .int .i64 0] 26)).alloc (.cells #[.slice a len cap, .slice none 0 0, .int .i64 s] 26)) a len none 0 ⟨zs, [], s⟩ from ⟨hI.below HW.out, ⟨rfl, by unfold maxLen; omega, .inl rfl⟩⟩)
  have HC := Lib.hid (implIsPool8_any a len cap none 0 0 ⟨zs, [], s⟩ _ HI.out (Nat.le_refl _) (by omega))
  have HE := Lib.hid (show makeR zs s = if isPool ⟨zs, [], s⟩ = true then (⟨zs, [], s⟩, 0) else (zeroP, 1) from rfl)
  have HN := Lib.hid hn
  clear hI hn hq
  generalize makeR zs s = r at HE ⊢
  cases hb : isPool ⟨zs, [], s⟩ with
  | false =>
    rw [hb] at HC HE
    have HF := Lib.hid (show r = (zeroP, 1) by rw [HE.out]; rfl)
    clear hb HE
    go_enter Try.func20, Try.ntmps20
    have q0 := HQ.out.cell (show _[0]? = some _ from rfl); have q1 := HQ.out.cell (show _[1]? = some _ from rfl); have q2 := HQ.out.cell (show _[2]? = some _ from rfl)
    go_wp2_with fail
    generalize (w.alloc (.cells #[.slice none 0 0, .slice none 0 0, .int .i64 0] 26)).alloc (.cells #[.slice a len cap, .slice none 0 0, .int .i64 s] 26) = w0 at HW HP HQ HI HC hsz q0 q1 q2 ⊢
    refine HC.out.mono ?_; rintro e w4 ⟨rfl, hB⟩
    have HB4 := Lib.hid (HW.out.trans (hB.mono (by omega)))
    have HP4 := Lib.hid (HP.out.below hB)
    clear hB q0 q1 q2
    have p0 := HP4.out.cell (show _[0]? = some _ from rfl)
    have p1 := HP4.out.cell (show _[1]? = some _ from rfl)
    have p2 := HP4.out.cell (show _[2]? = some _ from rfl)
    have g0 := HP4.out.frozen 0
    have g1 := HP4.out.frozen 1
    have g2 := HP4.out.frozen 2
    go_wp2_with fail
    (try simp only [Exit.inBlock, Exit.then])
    refine bodyPost_ret (v := .tuple #[.agg #[.slice none 0 0, .slice none 0 0, .int .i64 0], .int .i64 1]) ?_ rfl ?_
    · rw [Rec.results_cell_tmp rfl]
      go_simp
    · rw [HF.out]
      exact ⟨_, _, rfl, BuildI.nil _ _, BuildI.nil _ _, none_apartV _, ((HB4.out.setCell (Nat.le_refl _) _).setCell (Nat.le_refl _) _).setCell (Nat.le_refl _) _⟩
  | true =>
    rw [hb] at HC HE
    have HF := Lib.hid (show r = (⟨zs, [], s⟩, 0) by rw [HE.out]; rfl)
    clear hb HE
    go_enter Try.func20, Try.ntmps20
    have q0 := HQ.out.cell (show _[0]? = some _ from rfl); have q1 := HQ.out.cell (show _[1]? = some _ from rfl); have q2 := HQ.out.cell (show _[2]? = some _ from rfl)
    go_wp2_with fail
    generalize (w.alloc (.cells #[.slice none 0 0, .slice none 0 0, .int .i64 0] 26)).alloc (.cells #[.slice a len cap, .slice none 0 0, .int .i64 s] 26) = w0 at HW HP HQ HI HC hsz q0 q1 q2 ⊢
    refine HC.out.mono ?_; rintro e w4 ⟨rfl, hB⟩
    have HB4 := Lib.hid (HW.out.trans (hB.mono (by omega)))
    have HP4 := Lib.hid (HP.out.below hB)
    have HQ4 := Lib.hid (HQ.out.below hB)
    have HD := Lib.hid (implCopied8 a len cap none 0 0 ⟨zs, [], s⟩ w4 (HI.out.below hB) (by omega) (by omega) HN.out (fun _ => ⟨rfl, rfl⟩))
    have hs4 : w.heap.size + 2 ≤ w4.heap.size := by rw [← hsz]; exact hB.size
    clear hB q0 q1 q2 HC HI HQ HP HW
    have q0 := HQ4.out.cell (show _[0]? = some _ from rfl); have q1 := HQ4.out.cell (show _[1]? = some _ from rfl); have q2 := HQ4.out.cell (show _[2]? = some _ from rfl)
    go_wp2_with fail
    refine HD.out.mono ?_; rintro e w5 ⟨v0, v1, rfl, ho0, ho1, hA, hB⟩
    have HP5 := Lib.hid (HP4.out.below hB)
    have H0 := Lib.hid (ho0.base hs4); have H1 := Lib.hid (ho1.base hs4); have HA := Lib.hid hA
    have HB5 := Lib.hid (HB4.out.trans (hB.mono HB4.out.size))
    clear ho0 ho1 hA hB q0 q1 q2
    obtain ⟨b0, e0, rfl, _⟩ := H0.out.slice
    obtain ⟨b1, e1, rfl, _⟩ := H1.out.slice
    have p0 := HP5.out.cell (show _[0]? = some _ from rfl)
    have p1 := HP5.out.cell (show _[1]? = some _ from rfl)
    have p2 := HP5.out.cell (show _[2]? = some _ from rfl)
    have g0 := HP5.out.frozen 0
    have g1 := HP5.out.frozen 1
    have g2 := HP5.out.frozen 2
    go_wp2_with fail
    (try simp only [Exit.inBlock, Exit.then])
    refine bodyPost_ret (v := .tuple #[.agg #[.slice b0 zs.length e0, .slice b1 ([] : List Int).length e1, .int .i64 s], .int .i64 0]) ?_ rfl ?_
    · rw [Rec.results_cell_tmp rfl]
      go_simp
    · rw [HF.out]
      have hb : w.heap.size ≤ w.heap.size + 2 := by omega
      have hl : w.heap.size < w.heap.size + 2 := by omega
      exact ⟨_, _, rfl, (((H0.out.stored hl _).stored hl _).stored hl _).base hb, (((H1.out.stored hl _).stored hl _).stored hl _).base hb, HA.out, ((HB5.out.setCell (Nat.le_refl _) _).setCell (Nat.le_refl _) _).setCell (Nat.le_refl _) _⟩

set_option maxRecDepth 100000 in
set_option maxHeartbeats 8000000 in
theorem implPut8_any (a0 : Option Addr) (l0 c0 : Nat) (a1 : Option Addr) (l1 c1 : Nat) (p : PoolV) (a2 : Option Addr) (l2 c2 : Nat) (bs : List Int) (w : World) (hI : PoolV.In w a0 l0 a1 l1 p) (hJ : IntsIn w a2 l2 bs) (hc1 : l1 ≤ c1) (hc2 : l2 ≤ c2) (hn0 : a0 = none → l0 = 0 ∧ c0 = 0) (hn1 : a1 = none → l1 = 0 ∧ c1 = 0) (hs1 : l1 ≤ 1000000000) (hs2 : l2 ≤ 1000000000) :
    Calls Try.prog 23 #[.agg #[.slice a0 l0 c0, .slice a1 l1 c1, .int .i64 p.state], .slice a2 l2 c2] w (SaysPool (putR p bs).1 (putR p bs).2 w) := by
  have hw1 : (w.alloc (.cells #[.slice a0 l0 c0, .slice a1 l1 c1, .int .i64 p.state] 26)).heap.size = w.heap.size + 1 := by simp
  have HW := Lib.hid (boxes2 w (.cells #[.slice a0 l0 c0, .slice a1 l1 c1, .int .i64 p.state] 26) (.cells #[.slice none 0 0, .slice none 0 0, .int .i64 0] 26))
  have HX := Lib.hid ((PoolV.boxed w a0 l0 c0 a1 l1 c1 p 26).below (boxed _ (.cells #[.slice none 0 0, .slice none 0 0, .int .i64 0] 26)))
  have hrow := rowV_box (w.alloc (.cells #[.slice a0 l0 c0, .slice a1 l1 c1, .int .i64 p.state] 26)) 26 [.slice none 0 0, .slice none 0 0, .int .i64 0]
  rw [hw1] at hrow
  have HP := Lib.hid hrow
  have HI := Lib.hid hI
  have HJ := Lib.hid hJ
  have HC := Lib.hid (implIsPool8_any a0 l0 c0 a1 l1 c1 p ((w.alloc (.cells #[.slice a0 l0 c0, .slice a1 l1 c1, .int .i64 p.state] 26)).alloc (.cells #[.slice none 0 0, .slice none 0 0, .int .i64 0] 26)) (hI.below HW.out) hc1 hs1)
  have HE := Lib.hid (show putR p bs = if putC p bs = 0 then (⟨p.nums, leftL p.drawn bs, p.state⟩, 0) else (zeroP, putC p bs) from rfl)
  have hsz : ((w.alloc (.cells #[.slice a0 l0 c0, .slice a1 l1 c1, .int .i64 p.state] 26)).alloc (.cells #[.slice none 0 0, .slice none 0 0, .int .i64 0] 26)).heap.size = w.heap.size + 1 + 1 := by simp
  have HN0 := Lib.hid hn0; have HN1 := Lib.hid hn1
  clear hrow hI hJ hw1 hn0 hn1
  generalize putR p bs = r at HE ⊢
  go_enter Try.func23, Try.ntmps23
  obtain ⟨x0, x1, x2⟩ := HX.out
  go_wp2_with fail
  generalize (w.alloc (.cells #[.slice a0 l0 c0, .slice a1 l1 c1, .int .i64 p.state] 26)).alloc (.cells #[.slice none 0 0, .slice none 0 0, .int .i64 0] 26) = w0 at HW HX HP HC hsz x0 x1 x2 ⊢
  cases hp : isPool p with
  | false =>
    have HF := Lib.hid (show r = (zeroP, 1) by rw [HE.out]; unfold putC; rw [hp]; rfl)
    rw [hp] at HC
    clear hp HE
    refine HC.out.mono ?_; rintro e w1 ⟨rfl, hB⟩
    have HB := Lib.hid (HW.out.trans (hB.mono (by omega)))
    have HP1 := Lib.hid (HP.out.below hB)
    clear hB x0 x1 x2 HX HP HW HC hsz
    have p0 := HP1.out.cell (show _[0]? = some _ from rfl)
    have p1 := HP1.out.cell (show _[1]? = some _ from rfl)
    have p2 := HP1.out.cell (show _[2]? = some _ from rfl)
    have g0 := HP1.out.frozen 0
    have g1 := HP1.out.frozen 1
    have g2 := HP1.out.frozen 2
    go_wp2_with fail
    (try simp only [Exit.inBlock, Exit.then])
    refine bodyPost_ret (v := .tuple #[.agg #[.slice none 0 0, .slice none 0 0, .int .i64 0], .int .i64 1]) ?_ rfl ?_
    · rw [Rec.results_cell_tmp rfl]
      go_simp
    · rw [HF.out]
      exact ⟨_, _, rfl, BuildI.nil _ _, BuildI.nil _ _, none_apartV _, ((HB.out.setCell (Nat.le_succ _) _).setCell (Nat.le_succ _) _).setCell (Nat.le_succ _) _⟩
  | true =>
    have HPP := Lib.hid hp
    have hl60 : l0 ≤ 60 := by have h1 := pool_len hp; have h2 := HI.out.1.1; omega
    have hl61 : l1 ≤ 60 := by have h1 := pool_len hp; have h2 := HI.out.2.1; have h3 := pool_dlen hp; have h4 := HI.out.1.1; omega
    rw [hp] at HC
    clear hp
    refine HC.out.mono ?_; rintro e w1 ⟨rfl, hB⟩
    have HB1 := Lib.hid (HW.out.trans (hB.mono (by omega)))
    have HX1 := Lib.hid (HX.out.below hB); have HP1 := Lib.hid (HP.out.below hB)
    have hs1 : w.heap.size + 1 + 1 ≤ w1.heap.size := by rw [← hsz]; exact hB.size
    clear hB x0 x1 x2 HX HP HW HC hsz
    obtain ⟨x0, x1, x2⟩ := HX1.out
    have HA := Lib.hid (implAmong8 a2 l2 c2 bs a1 l1 c1 p.drawn w1 (HJ.out.below HB1.out) (HI.out.below HB1.out).2)
    cases ha : bs.all (mem p.drawn) with
    | false =>
      have HF := Lib.hid (show r = (zeroP, 4) by rw [HE.out]; unfold putC; rw [HPP.out, ha]; rfl)
      rw [ha] at HA
      clear ha HE
      go_wp2_with fail
      refine HA.out.mono ?_; rintro e w2 ⟨rfl, rfl⟩
      have p0 := HP1.out.cell (show _[0]? = some _ from rfl)
      have p1 := HP1.out.cell (show _[1]? = some _ from rfl)
      have p2 := HP1.out.cell (show _[2]? = some _ from rfl)
      have g0 := HP1.out.frozen 0
      have g1 := HP1.out.frozen 1
      have g2 := HP1.out.frozen 2
      go_wp2_with fail
      (try simp only [Exit.inBlock, Exit.then])
      refine bodyPost_ret (v := .tuple #[.agg #[.slice none 0 0, .slice none 0 0, .int .i64 0], .int .i64 4]) ?_ rfl ?_
      · rw [Rec.results_cell_tmp rfl]
        go_simp
      · rw [HF.out]
        exact ⟨_, _, rfl, BuildI.nil _ _, BuildI.nil _ _, none_apartV _, ((HB1.out.setCell (Nat.le_succ _) _).setCell (Nat.le_succ _) _).setCell (Nat.le_succ _) _⟩
    | true =>
      have HAA := Lib.hid ha
      rw [ha] at HA
      clear ha
      have HD := Lib.hid (implDiff8_any a2 l2 c2 bs w1 (HJ.out.below HB1.out) hs2)
      cases hd : diff bs with
      | false =>
        have HF := Lib.hid (show r = (zeroP, 5) by rw [HE.out]; unfold putC; rw [HPP.out, HAA.out, if_pos rfl, if_pos rfl, if_neg ((diff_no _).1 hd)]; rfl)
        rw [hd] at HD
        clear hd HE
        go_wp2_with fail
        refine HA.out.mono ?_; rintro e w2 ⟨rfl, rfl⟩
        go_wp2_with fail
        refine HD.out.mono ?_; rintro e w3 ⟨rfl, hB⟩
        have HB3 := Lib.hid (HB1.out.trans (hB.mono HB1.out.size)); have HP3 := Lib.hid (HP1.out.below hB)
        clear hB
        have p0 := HP3.out.cell (show _[0]? = some _ from rfl)
        have p1 := HP3.out.cell (show _[1]? = some _ from rfl)
        have p2 := HP3.out.cell (show _[2]? = some _ from rfl)
        have g0 := HP3.out.frozen 0
        have g1 := HP3.out.frozen 1
        have g2 := HP3.out.frozen 2
        go_wp2_with fail
        (try simp only [Exit.inBlock, Exit.then])
        refine bodyPost_ret (v := .tuple #[.agg #[.slice none 0 0, .slice none 0 0, .int .i64 0], .int .i64 5]) ?_ rfl ?_
        · rw [Rec.results_cell_tmp rfl]
          go_simp
        · rw [HF.out]
          exact ⟨_, _, rfl, BuildI.nil _ _, BuildI.nil _ _, none_apartV _, ((HB3.out.setCell (Nat.le_succ _) _).setCell (Nat.le_succ _) _).setCell (Nat.le_succ _) _⟩
      | true =>
        have hbn := (diff_iff _).1 hd
        have HBN := Lib.hid hbn
        have HSUB := Lib.hid (show ∀ x ∈ bs, x ∈ p.drawn from fun x hx => (mem_iff _ _).1 (List.all_eq_true.1 HAA.out x hx))
        have HF := Lib.hid (show r = (⟨p.nums, leftL p.drawn bs, p.state⟩, 0) by rw [HE.out]; unfold putC; rw [HPP.out, HAA.out, if_pos rfl, if_pos rfl, if_pos hbn, if_pos rfl])
        rw [hd] at HD
        clear hd HE hbn
        go_wp2_with fail
        refine HA.out.mono ?_; rintro e w2 ⟨rfl, rfl⟩
        go_wp2_with fail
        refine HD.out.mono ?_; rintro e w3 ⟨rfl, hB⟩
        have HB3 := Lib.hid (HB1.out.trans (hB.mono HB1.out.size)); have HP3 := Lib.hid (HP1.out.below hB); have HX3 := Lib.hid (HX1.out.below hB)
        have hs3 : w.heap.size + 1 + 1 ≤ w3.heap.size := Nat.le_trans hs1 hB.size
        clear hB x0 x1 x2 HX1 HP1 HB1 HA HD hs1
        obtain ⟨x0, x1, x2⟩ := HX3.out
        have HE := Lib.hid (implCopied8 a0 l0 c0 a1 l1 c1 p w3 (HI.out.below HB3.out) (by omega) (by omega) HN0.out HN1.out)
        go_wp2_with fail
        refine HE.out.mono ?_; rintro e w4 ⟨v0, v1, rfl, ho0, ho1, hA, hB⟩
        have HB4 := Lib.hid (HB3.out.trans (hB.mono HB3.out.size)); have HP4 := Lib.hid (HP3.out.below hB)
        have H0 := Lib.hid (ho0.base hs3); have H1 := Lib.hid (ho1.base hs3); have HA := Lib.hid hA
        have hs4 : w.heap.size + 1 + 1 ≤ w4.heap.size := Nat.le_trans hs3 hB.size
        clear ho0 ho1 hA hB x0 x1 x2 HX3 HP3 HB3 HE hs3
        obtain ⟨b0, e0, rfl, _⟩ := H0.out.slice
        obtain ⟨b1, e1, rfl, _⟩ := H1.out.slice
        have hal := boxed w4 (.cells #[.slice b0 p.nums.length e0, .slice b1 p.drawn.length e1, .int .i64 p.state] 26)
        have HQ5 := Lib.hid (rowV_box w4 26 [.slice b0 p.nums.length e0, .slice b1 p.drawn.length e1, .int .i64 p.state])
        have HB5 := Lib.hid (HB4.out.trans (hal.mono HB4.out.size)); have HP5 := Lib.hid (HP4.out.below hal)
        have H05 := Lib.hid (H0.out.below hal); have H15 := Lib.hid (H1.out.below hal)
        go_wp2
        generalize hw5 : w4.alloc (.cells #[.slice b0 p.nums.length e0, .slice b1 p.drawn.length e1, .int .i64 p.state] 26) = w5 at HQ5 HB5 HP5 H05 H15 hal ⊢
        obtain ⟨g6, hg6⟩ : ∃ g6, w4.heap.size = g6 := ⟨_, rfl⟩
        have hs5 : w.heap.size + 1 + 1 ≤ w5.heap.size := Nat.le_trans hs4 hal.size
        rw [hg6] at HQ5 hs4 ⊢
        clear hw5 hg6 hal H0 H1 HB4 HP4
        have hg6w : w.heap.size + 1 + 1 ≤ g6 := hs4
        have hne1 : g6 ≠ w.heap.size + 1 := by omega
        go_loopw [8, 27] (fun _ i wr => ∃ k : Nat, k ≤ l2 ∧ i = .int .i64 k ∧ ∃ v1, RowV g6 wr 26 [.slice b0 p.nums.length e0, v1, .int .i64 p.state] ∧ BuildI (w.heap.size + 1 + 1) wr (.slice b0 p.nums.length e0) p.nums ∧ BuildI (w.heap.size + 1 + 1) wr v1 (leftL p.drawn (bs.take k)) ∧ ApartV (.slice b0 p.nums.length e0) v1 ∧ Below w.heap.size w wr ∧ RowV (w.heap.size + 1) wr 26 [.slice none 0 0, .slice none 0 0, .int .i64 0]) (fun _ i _ => l2 - (intOf i).toNat)
        case atStart => exact ⟨0, Nat.zero_le _, rfl, _, HQ5.out, H05.out, by rw [take_zero_left]; exact H15.out, HA.out, HB5.out, HP5.out⟩
        case round =>
          obtain ⟨k, hk, rfl, v1, hq, h0, h1, hap, hB, hP⟩ := hrel
          have HQ := Lib.hid hq; have H0 := Lib.hid h0; have H1 := Lib.hid h1; have HA2 := Lib.hid hap; have HB := Lib.hid hB; have HP := Lib.hid hP
          clear hq h0 h1 hap hB hP HQ5 H05 H15 HA HB5 HP5
          by_cases hlt : k < l2
          · obtain ⟨b, off, y, rfl, hc, _, hy⟩ := (HJ.out.2.2.below HB.out).at HJ.out.1 hlt
            have hlen := leftL_take_len (pool_dnodup HPP.out) HBN.out HSUB.out (show k ≤ bs.length by have := HJ.out.1; omega)
            have hdl : p.drawn.length ≤ 60 := by have := HI.out.2.1; omega
            have hmem := leftL_has HBN.out HSUB.out hy
            have HN := Lib.hid (fun (j : Nat) (hj : (leftL p.drawn (bs.take k))[j]? = some y) => leftL_take (pool_dnodup HPP.out) hy hj)
            generalize leftL p.drawn (bs.take k) = zs at H1 HN hlen hmem
            obtain ⟨m, hm⟩ : ∃ m, zs.length = m + 1 := by
              cases zs with
              | nil => cases hmem
              | cons a r => exact ⟨_, rfl⟩
            obtain ⟨av, cv, rfl, hat⟩ := H1.out.slice
            have hcap := H1.out.lencap.2
            rw [hm] at hcap
            have hdr := Below.drew (Below.refl wr.heap.size wr)
            have HZ := Lib.hid (show IntsIn wr.drew av (m + 1) zs from ⟨hm, by unfold maxLen; omega, hat.below hdr⟩)
            have HC1 := Lib.hid (implIndex8 av (m + 1) cv zs y wr.drew HZ.out)
            have hm60 : m ≤ 60 := by omega
            have HM := Lib.hid hmem
            have HC2 := Lib.hid (fun (j : Nat) (hj : zs[j]? = some y) => implWithout8 av m cv j zs wr.drew HZ.out (by omega) (by have h1 := (List.getElem?_eq_some_iff.1 hj).1; have h2 := HZ.out.1; omega) hcap)
            rw [hm] at HQ H1 HA2
            have HdQ := Lib.hid (HQ.out.below hdr); have HdP := Lib.hid (HP.out.below hdr); have Hd0 := Lib.hid (H0.out.below hdr)
            have y1 := HdQ.out.cell (show _[1]? = some _ from rfl)
            have hwd : w.heap.size + 1 + 1 ≤ wr.drew.heap.size := by have := HQ.out.lt; show _ ≤ wr.heap.size; omega
            clear hlen hmem hat hy hm hdl
            go_wp2
            go_region_with (first | (go_at_call 64; refine HC1.out.mono ?_; rintro e v4 ⟨⟨n, rfl, hf⟩, rfl⟩; obtain ⟨j, hj, rfl⟩ := firstOf_mem hf HM.out; have HJJ := Lib.hid hj; clear hf hj) | (go_at_call 63; refine (HC2.out j HJJ.out).mono ?_; rintro e v5 ⟨vE, rfl, hoE, hBE⟩; obtain ⟨aE, cE, rfl, _⟩ := hoE.slice; have z1 := (HdQ.out.below hBE).cell (show _[1]? = some _ from rfl); have f1 := (HdQ.out.below hBE).frozen 1))
            all_goals
              have HE := Lib.hid (HN.out j HJJ.out)
              have hg := grown_cell v5 g6 1 (.slice aE (zs.eraseIdx j).length cE)
              have r5 := HdQ.out.below hBE
              have HQ6 := Lib.hid (r5.put 1 (.slice aE (zs.eraseIdx j).length cE))
              have n0 := Hd0.out.below hBE
              have nE := hoE.base hwd
              have H06 := Lib.hid (n0.kept hg (fun q hq e => build_ne n0 r5 (by decide) (by rw [hq, e])))
              have H16 := Lib.hid (nE.kept hg (fun q hq e => build_ne nE r5 (by decide) (by rw [hq, e])))
              have HA6 := Lib.hid (apartV_later Hd0.out hoE (Nat.le_refl _))
              have HB6 := Lib.hid ((HB.out.trans ((hdr.trans hBE).mono HB.out.size)).setCell (show w.heap.size ≤ (⟨g6, 1, none⟩ : Addr).block by show w.heap.size ≤ g6; omega) (.slice aE (zs.eraseIdx j).length cE))
              have HP6 := Lib.hid ((HdP.out.below hBE).grown hg (fun q hq => by cases hq; omega))
              clear hg r5 n0 nE hoE hBE hdr HC1 HC2 HdQ HdP Hd0 HQ HP H0 H1 HA2 HB y1 hc
              generalize (zs.eraseIdx j) = zn at HE HQ6 H06 H16 HA6 HB6 HP6 z1 ⊢
              go_wp2
              go_roundw
              case rel => exact ⟨k + 1, by omega, by go_num, _, HQ6.out, H06.out, by rw [← HE.out]; exact H16.out, HA6.out, HB6.out, HP6.out⟩
              case measure => simp [intOf]; omega
          · have HE := Lib.hid (take_all_left p.drawn bs (k := k) (by rw [HJ.out.1]; omega))
            obtain ⟨av, cv, rfl, _⟩ := H1.out.slice
            have q0 := HQ.out.cell (show _[0]? = some _ from rfl); have q1 := HQ.out.cell (show _[1]? = some _ from rfl); have q2 := HQ.out.cell (show _[2]? = some _ from rfl)
            have p0 := HP.out.cell (show _[0]? = some _ from rfl); have p1 := HP.out.cell (show _[1]? = some _ from rfl); have p2 := HP.out.cell (show _[2]? = some _ from rfl)
            have f0 := HP.out.frozen 0; have f1 := HP.out.frozen 1; have f2 := HP.out.frozen 2
            generalize leftL p.drawn (bs.take k) = zs at H1 HE HQ HA2 q1 ⊢
            go_wp2_with fail
            (try simp only [Exit.inBlock, Exit.then])
            refine bodyPost_ret (v := .tuple #[.agg #[.slice b0 p.nums.length e0, .slice av zs.length cv, .int .i64 p.state], .int .i64 0]) ?_ rfl ?_
            · rw [Rec.results_cell_tmp rfl]
              go_simp
            · rw [HF.out, ← HE.out]
              have hb : w.heap.size ≤ w.heap.size + 1 + 1 := by omega
              have hl : w.heap.size + 1 < w.heap.size + 1 + 1 := Nat.lt_succ_self _
              exact ⟨_, _, rfl, (((H0.out.stored hl _).stored hl _).stored hl _).base hb, (((H1.out.stored hl _).stored hl _).stored hl _).base hb, HA2.out, ((HB.out.setCell (Nat.le_succ _) _).setCell (Nat.le_succ _) _).setCell (Nat.le_succ _) _⟩
end Go.Proofs.Ytmpopfcnjgcncaa
