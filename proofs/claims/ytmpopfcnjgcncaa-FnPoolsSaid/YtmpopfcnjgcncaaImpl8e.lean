/- Contracts of the program's chapter 8: impl.LeftOf, impl.IsReplay, impl.ChanceOf. (written by impl8.py) -/
import Derived.Test.YtmpopfcnjgcncaaChecked
import Derived.Test.YtmpopfcnjgcncaaBase
import Derived.Test.YtmpopfcnjgcncaaInfo
import Derived.Test.YtmpopfcnjgcncaaMarkI
import Derived.Test.YtmpopfcnjgcncaaPure40
import Derived.Test.YtmpopfcnjgcncaaPure80
import Derived.Test.YtmpopfcnjgcncaaPure83
import Derived.Test.YtmpopfcnjgcncaaIntL
import Derived.Test.YtmpopfcnjgcncaaBuildI
import Derived.Test.YtmpopfcnjgcncaaBuild8
import Derived.Test.YtmpopfcnjgcncaaRowV
import Derived.Test.YtmpopfcnjgcncaaPoolA
import Derived.Test.YtmpopfcnjgcncaaSpec80
import Derived.Test.YtmpopfcnjgcncaaSpec81
import Derived.Test.YtmpopfcnjgcncaaSpec83
import Derived.Test.YtmpopfcnjgcncaaSpec84
import Derived.Test.YtmpopfcnjgcncaaImpl8a
import Derived.Test.YtmpopfcnjgcncaaImpl8b
import Derived.Test.YtmpopfcnjgcncaaImpl8c
import Derived.Test.YtmpopfcnjgcncaaTake8
import Derived.Test.YtmpopfcnjgcncaaSpec85
import Derived.Test.YtmpopfcnjgcncaaWithin
import Derived.Test.YtmpopfcnjgcncaaSt8
import Derived.WalkKit
import Derived.WalkSpells
import Derived.WalkLawsBesides
import Derived.Lib.Hide
import Derived.Lib.QuietBelow
import Derived.IntWalk
import Derived.Deep.QuietTactic
import Derived.Deep.RegionHeld3
import Derived.Deep.OwnRows
import Derived.BigQuiet
import Derived.BigRegion
import Derived.Outline
namespace Go.Proofs.Ytmpopfcnjgcncaa
open Go.RowKit Pure1 Pure2 Pure30 Pure40 Pure60 Pure80 Pure83 Rec

set_option maxRecDepth 100000 in
set_option maxHeartbeats 2000000 in
theorem implLeftOf8_any (a0 : Option Addr) (l0 c0 : Nat) (a1 : Option Addr) (l1 c1 : Nat) (p : PoolV) (w : World) (hI : PoolV.In w a0 l0 a1 l1 p) (hc1 : l1 ≤ c1) (hn0 : a0 = none → l0 = 0 ∧ c0 = 0) (hs1 : l1 ≤ 1000000000) :
    Calls Try.prog 29 #[.agg #[.slice a0 l0 c0, .slice a1 l1 c1, .int .i64 p.state]] w (SaysBI (leftR p).1 (leftR p).2 w) := by
  have HW := Lib.hid (boxed w (.cells #[.slice a0 l0 c0, .slice a1 l1 c1, .int .i64 p.state] 26))
  have HX := Lib.hid (PoolV.boxed w a0 l0 c0 a1 l1 c1 p 26)
  have HI := Lib.hid hI
  have HC := Lib.hid (implIsPool8_any a0 l0 c0 a1 l1 c1 p (w.alloc (.cells #[.slice a0 l0 c0, .slice a1 l1 c1, .int .i64 p.state] 26)) (hI.below HW.out) hc1 hs1)
  have HE := Lib.hid (show leftR p = if isPool p = true then (leftL p.nums p.drawn, 0) else ([], 1) from rfl)
  have HN0 := Lib.hid hn0
  clear hI hn0
  generalize leftR p = r at HE ⊢
  cases hp : isPool p with
  | false =>
    rw [hp] at HC HE
    have HF := Lib.hid (show r = ([], 1) by rw [HE.out]; rfl)
    clear hp HE
    go_enter Try.func29, Try.ntmps29
    obtain ⟨x0, x1, x2⟩ := HX.out
    go_wp2_with fail
    refine HC.out.mono ?_; rintro e w1 ⟨rfl, hB⟩
    have HB := Lib.hid (HW.out.trans (hB.mono HW.out.size))
    have HX1 := Lib.hid (HX.out.below hB)
    clear hB x0 x1 x2 HX HW HC
    go_wp2_with fail
    go_ret2
    rw [HF.out]
    exact ⟨_, rfl, BuildI.nil _ _, HB.out⟩
  | true =>
    have HPP := Lib.hid hp
    rw [hp] at HC HE
    have HF := Lib.hid (show r = (leftL p.nums p.drawn, 0) by rw [HE.out]; rfl)
    clear hp HE
    go_enter Try.func29, Try.ntmps29
    obtain ⟨x0, x1, x2⟩ := HX.out
    go_wp2_with fail
    refine HC.out.mono ?_; rintro e w1 ⟨rfl, hB⟩
    have HB := Lib.hid (HW.out.trans (hB.mono HW.out.size))
    have HX1 := Lib.hid (HX.out.below hB)
    clear hB x0 x1 x2 HX HW HC
    obtain ⟨x0, x1, x2⟩ := HX1.out
    have HD := Lib.hid (implLeft8 a0 l0 c0 a1 l1 c1 p w1 (HI.out.below HB.out) HPP.out HN0.out)
    generalize leftL p.nums p.drawn = zs at HD HF
    go_wp2_with fail
    refine HD.out.mono ?_; rintro e w2 ⟨v, rfl, ho, hB⟩
    have HO := Lib.hid (ho.base HB.out.size); have HB2 := Lib.hid (HB.out.trans (hB.mono HB.out.size)); clear ho hB
    go_wp2_with fail
    go_ret2
    rw [HF.out]
    exact ⟨_, rfl, HO.out, HB2.out⟩

set_option maxHeartbeats 400000 in
theorem implEqual8 (a a' : Option Addr) (len cap len' cap' : Nat) (xs ys : List Int) (w : World) (hl : xs.length = len) (hl' : ys.length = len') (hm : len ≤ maxLen) (hm' : len' ≤ maxLen) (h : IntsAt w a xs) (h' : IntsAt w a' ys) :
    Calls Try.prog 56 #[.slice a len cap, .slice a' len' cap'] w (SaysB (sameL xs ys) w) := by
  unfold maxLen at hm hm'
  by_cases hne : len = len'
  · subst hne
    have HL := Lib.hid hl; have HL' := Lib.hid hl'; have HI := Lib.hid h; have HI' := Lib.hid h'; clear hl hl' h h'
    go_enter Try.func56, Try.ntmps56
    go_wp2
    go_loopw [5, 13] (fun _ i wr => ∃ k n : Nat, k ≤ len ∧ i = .int .i64 k ∧ wr = w.drewN n ∧ xs.take k = ys.take k) (fun _ i _ => len - (intOf i).toNat)
    case atStart => exact ⟨0, 0, Nat.zero_le _, rfl, rfl, rfl⟩
    case round =>
      obtain ⟨k, n, hk, rfl, rfl, ht⟩ := hrel
      have HT := Lib.hid ht; clear ht
      by_cases hlt : k < len
      · obtain ⟨b, off, x, ha, hc, ht, hx⟩ := HI.out.at HL.out hlt
        obtain ⟨b', off', y, ha', hc', ht', hy⟩ := HI'.out.at HL'.out hlt
        subst ha; subst ha'
        by_cases hxy : x = y
        · subst hxy
          have HN := Lib.hid (show xs.take (k+1) = ys.take (k+1) by rw [ht, ht', HT.out]); clear ht ht' hx hy
          go_wp2
          go_quiet (fail)
          go_wp2
          go_roundw
          case rel => exact ⟨k + 1, _, by omega, by go_num, rfl, HN.out⟩
          case measure => simp [intOf]; omega
        · have HN := Lib.hid (sameL_at hx hy hxy); clear ht ht' hx hy
          have hxy' : (x != y) = true := by rw [bne_iff_ne]; exact hxy
          clear hxy
          go_wp2
          go_quiet (fail)
          go_wp2
          go_ret
          exact ⟨ret_bool' HN.out.symm, _, drewN_add _ _ _⟩
      · have HN := Lib.hid (sameL_end HT.out (by rw [HL.out]; omega) (by rw [HL'.out]; omega))
        go_wp2
        go_ret
        exact ⟨ret_bool' HN.out.symm, _, rfl⟩
  · have HN := Lib.hid (sameL_len (xs := xs) (ys := ys) (by rw [hl, hl']; exact hne))
    have hne' : ((len : Int) != len') = true := by rw [bne_iff_ne]; omega
    clear hl hl' h h' hne
    go_enter Try.func56, Try.ntmps56
    go_wp2
    go_ret
    exact ⟨ret_bool' HN.out.symm, 0, rfl⟩

set_option maxRecDepth 100000 in
set_option maxHeartbeats 4000000 in
theorem implReplay8_any (a0 : Option Addr) (l0 c0 : Nat) (a1 : Option Addr) (l1 c1 : Nat) (p : PoolV) (s : Int) (w : World) (hI : PoolV.In w a0 l0 a1 l1 p) (hc1 : l1 ≤ c1) (hn0 : a0 = none → l0 = 0 ∧ c0 = 0) (hs1 : l1 ≤ 1000000000) :
    Calls Try.prog 17 #[.agg #[.slice a0 l0 c0, .slice a1 l1 c1, .int .i64 p.state], .int .i64 s] w (Says8 (.tuple #[.bool (replayR p s).1, .int .i64 (replayR p s).2]) w) := by
  have HW := Lib.hid (boxed w (.cells #[.slice a0 l0 c0, .slice a1 l1 c1, .int .i64 p.state] 26))
  have HX := Lib.hid (PoolV.boxed w a0 l0 c0 a1 l1 c1 p 26)
  have HI := Lib.hid hI
  have HC := Lib.hid (implIsPool8_any a0 l0 c0 a1 l1 c1 p (w.alloc (.cells #[.slice a0 l0 c0, .slice a1 l1 c1, .int .i64 p.state] 26)) (hI.below HW.out) hc1 hs1)
  have HD := Lib.hid (fun W => implIsState_any s W)
  have HE := Lib.hid (show replayR p s = if isPool p = true then (if isState s = true then (decide (drawN p.nums [] s p.drawn.length = (p.drawn, p.state)), 0) else (false, 2)) else (false, 1) from rfl)
  have HN0 := Lib.hid hn0
  clear hI hn0
  generalize replayR p s = r at HE ⊢
  cases hp : isPool p with
  | false =>
    rw [hp] at HC HE
    have HF := Lib.hid (show r = (false, 1) by rw [HE.out]; rfl)
    clear hp HE
    go_enter Try.func17, Try.ntmps17
    obtain ⟨x0, x1, x2⟩ := HX.out
    go_wp2_with fail
    refine HC.out.mono ?_; rintro e w1 ⟨rfl, hB⟩
    have HB := Lib.hid (HW.out.trans (hB.mono HW.out.size))
    have HX1 := Lib.hid (HX.out.below hB)
    clear hB x0 x1 x2 HX HW HC
    go_wp2_with fail
    go_ret2
    rw [HF.out]
    exact ⟨rfl, HB.out⟩
  | true =>
    have HPP := Lib.hid hp
    rw [hp] at HC HE
    clear hp
    cases hs : isState s with
    | false =>
      rw [hs] at HD HE
      have HF := Lib.hid (show r = (false, 2) by rw [HE.out]; rfl)
      clear hs HE
      go_enter Try.func17, Try.ntmps17
      obtain ⟨x0, x1, x2⟩ := HX.out
      go_wp2_with fail
      refine HC.out.mono ?_; rintro e w1 ⟨rfl, hB⟩
      have HB := Lib.hid (HW.out.trans (hB.mono HW.out.size))
      have HX1 := Lib.hid (HX.out.below hB)
      clear hB x0 x1 x2 HX HW HC
      go_wp2_with fail
      refine (HD.out _).mono ?_; rintro e w2 ⟨rfl, rfl⟩
      go_wp2_with fail
      go_ret2
      rw [HF.out]
      exact ⟨rfl, HB.out⟩
    | true =>
      have HQ := Lib.hid (show isPool ⟨p.nums, [], s⟩ = true from pool_make HPP.out List.nodup_nil (fun x hx => by cases hx) ((isState_iff s).1 hs))
      rw [hs] at HD HE
      clear hs
      have HF := Lib.hid (show r = (decide ((drawN p.nums [] s l1).2 = p.state) && sameL (drawN p.nums [] s l1).1 p.drawn, 0) by rw [HE.out, ← HI.out.2.1, ← replay_eq]; rfl)
      clear HE
      go_enter Try.func17, Try.ntmps17
      obtain ⟨x0, x1, x2⟩ := HX.out
      go_wp2_with fail
      refine HC.out.mono ?_; rintro e w1 ⟨rfl, hB⟩
      have HB := Lib.hid (HW.out.trans (hB.mono HW.out.size))
      have HX1 := Lib.hid (HX.out.below hB)
      clear hB x0 x1 x2 HX HW HC
      go_wp2_with fail
      refine (HD.out _).mono ?_; rintro e w2 ⟨rfl, rfl⟩
      obtain ⟨x0, x1, x2⟩ := HX1.out
      have HG := Lib.hid (show Calls Try.prog 50 #[.agg #[.slice a0 l0 c0, .slice none 0 0, .int .i64 s], .int .i64 (l1 : Int)] w1 (SaysCopy ⟨p.nums, (drawN p.nums [] s l1).1, (drawN p.nums [] s l1).2⟩ w1) from
        implAfter8_any a0 l0 c0 none 0 0 ⟨p.nums, [], s⟩ l1 w1 ⟨HI.out.1.below HB.out, ⟨rfl, by unfold maxLen; omega, .inl rfl⟩⟩ HN0.out (fun _ => ⟨rfl, rfl⟩) HQ.out (by have := pool_dlen HPP.out; have := HI.out.2.1; show ([] : List Int).length + l1 ≤ p.nums.length; rw [List.length_nil]; omega))
      go_wp2_with fail
      refine HG.out.mono ?_; rintro e w3 ⟨v0, v1, rfl, ho0, ho1, _, hB⟩
      have hlen := drawN_length p.nums [] s l1
      obtain ⟨b0, e0, rfl, _⟩ := ho0.slice
      obtain ⟨b1, e1, rfl, hat⟩ := ho1.slice
      have HX3 := Lib.hid (HX1.out.below hB)
      have HB3 := Lib.hid (HB.out.trans (hB.mono HB.out.size))
      have HAT := Lib.hid hat
      have HLEN := Lib.hid (show (drawN p.nums [] s l1).1.length = l1 by rw [hlen]; simp)
      have hl61 : l1 ≤ 60 := by have h1 := pool_len HPP.out; have h2 := HI.out.2.1; have h3 := pool_dlen HPP.out; omega
      clear ho0 ho1 hB hat x0 x1 x2 HX1 hlen HG
      generalize drawN p.nums [] s l1 = ds at HF HAT HLEN ⊢
      obtain ⟨dl, t⟩ := ds
      simp only at HF HAT HLEN ⊢
      have hal := boxed w3 (.cells #[.slice b0 p.nums.length e0, .slice b1 dl.length e1, .int .i64 t] 26)
      have HQ4 := Lib.hid (rowV_box w3 26 [.slice b0 p.nums.length e0, .slice b1 dl.length e1, .int .i64 t])
      have HX4 := Lib.hid (HX3.out.below hal)
      have HB4 := Lib.hid (HB3.out.trans (hal.mono HB3.out.size))
      have HS := Lib.hid (implEqual8 b1 a1 dl.length e1 l1 c1 dl p.drawn (w3.alloc (.cells #[.slice b0 p.nums.length e0, .slice b1 dl.length e1, .int .i64 t] 26)) rfl HI.out.2.1 (by have := HLEN.out; unfold maxLen; omega) HI.out.2.2.1 (HAT.out.below hal) ((HI.out.2.2.2.below HB3.out).below hal))
      clear hal
      obtain ⟨x0, x1, x2⟩ := HX4.out
      have q0 := HQ4.out.cell (show _[0]? = some _ from rfl); have q1 := HQ4.out.cell (show _[1]? = some _ from rfl); have q2 := HQ4.out.cell (show _[2]? = some _ from rfl)
      cases hsm : sameL dl p.drawn with
      | false =>
        rw [hsm] at HS
        have HF2 := Lib.hid (show r = (false, 0) by rw [HF.out, hsm, Bool.and_false])
        clear hsm
        go_wp2_with fail
        refine HS.out.mono ?_; rintro e w5 ⟨rfl, n, rfl⟩
        go_wp2_with fail
        go_ret2
        rw [HF2.out]
        exact ⟨rfl, Go.below_drewN HB4.out _⟩
      | true =>
        rw [hsm] at HS
        have HF2 := Lib.hid (show r = (decide (t = p.state), 0) by rw [HF.out, hsm, Bool.and_true])
        clear hsm
        by_cases ht : t = p.state
        · subst ht
          have HF3 := Lib.hid (show r = (true, 0) by rw [HF2.out]; simp)
          go_wp2_with fail
          refine HS.out.mono ?_; rintro e w5 ⟨rfl, n, rfl⟩
          have y2 : ((w3.alloc (.cells #[.slice b0 p.nums.length e0, .slice b1 dl.length e1, .int .i64 p.state] 26)).drewN n).cell? ⟨w3.heap.size, 2, none⟩ = some (.int .i64 p.state) := q2
          have z2 : ((w3.alloc (.cells #[.slice b0 p.nums.length e0, .slice b1 dl.length e1, .int .i64 p.state] 26)).drewN n).cell? ⟨w.heap.size, 2, none⟩ = some (.int .i64 p.state) := x2
          go_wp2_with fail
          go_ret2
          rw [HF3.out]
          exact ⟨rfl, Go.below_drewN HB4.out _⟩
        · have hbt : (t == p.state) = false := beq_eq_false_iff_ne.2 ht
          have HF3 := Lib.hid (show r = (false, 0) by rw [HF2.out, decide_eq_false ht])
          go_wp2_with fail
          refine HS.out.mono ?_; rintro e w5 ⟨rfl, n, rfl⟩
          have y2 : ((w3.alloc (.cells #[.slice b0 p.nums.length e0, .slice b1 dl.length e1, .int .i64 t] 26)).drewN n).cell? ⟨w3.heap.size, 2, none⟩ = some (.int .i64 t) := q2
          have z2 : ((w3.alloc (.cells #[.slice b0 p.nums.length e0, .slice b1 dl.length e1, .int .i64 t] 26)).drewN n).cell? ⟨w.heap.size, 2, none⟩ = some (.int .i64 p.state) := x2
          go_wp2_with fail
          go_ret2
          rw [HF3.out]
          exact ⟨rfl, Go.below_drewN HB4.out _⟩

set_option maxRecDepth 100000 in
set_option maxHeartbeats 4000000 in
theorem implChance8_any (a0 : Option Addr) (l0 c0 : Nat) (a1 : Option Addr) (l1 c1 : Nat) (p : PoolV) (k : Int) (w : World) (hI : PoolV.In w a0 l0 a1 l1 p) (hc1 : l1 ≤ c1) (hs1 : l1 ≤ 1000000000) :
    Calls Try.prog 32 #[.agg #[.slice a0 l0 c0, .slice a1 l1 c1, .int .i64 p.state], .int .i64 k] w (Says8 (.tuple #[.int .i64 (chanceR p k).1, .int .i64 (chanceR p k).2.1, .int .i64 (chanceR p k).2.2]) w) := by
  have HW := Lib.hid (boxed w (.cells #[.slice a0 l0 c0, .slice a1 l1 c1, .int .i64 p.state] 26))
  have HX := Lib.hid (PoolV.boxed w a0 l0 c0 a1 l1 c1 p 26)
  have HI := Lib.hid hI
  have HC := Lib.hid (implIsPool8_any a0 l0 c0 a1 l1 c1 p (w.alloc (.cells #[.slice a0 l0 c0, .slice a1 l1 c1, .int .i64 p.state] 26)) (hI.below HW.out) hc1 hs1)
  have HD := Lib.hid (fun W => implWithin_any k 0 60 W)
  have HE := Lib.hid (show chanceR p k = if chanceC p k = 0 then (k / Int.gcd k ((p.nums.length : Int) - p.drawn.length), ((p.nums.length : Int) - p.drawn.length) / Int.gcd k ((p.nums.length : Int) - p.drawn.length), 0) else (0, 0, chanceC p k) from rfl)
  have hwhy := chanceC_why (p := p) (k := k) pool_dlen
  have hp60 := pool_len (p := p)
  have hpd := pool_dlen (p := p)
  rw [hI.1.1] at HE hwhy hp60 hpd
  rw [hI.2.1] at HE hwhy hpd
  clear hI HI
  generalize chanceR p k = r at HE ⊢
  rcases hwhy with ⟨hp, h⟩ | ⟨hp, h1, h⟩ | ⟨hp, h1, h2, h⟩ | ⟨hp, h1, h2, h3, h⟩ | ⟨hp, h1, h2, h3, h⟩
  · rw [hp] at HC
    rw [h] at HE
    have HF := Lib.hid (show r = (0, 0, 1) by rw [HE.out]; rfl)
    clear hp h HE hp60 hpd
    go_enter Try.func32, Try.ntmps32
    obtain ⟨x0, x1, x2⟩ := HX.out
    go_wp2_with fail
    refine HC.out.mono ?_; rintro e w1 ⟨rfl, hB⟩
    have HB := Lib.hid (HW.out.trans (hB.mono HW.out.size))
    have HX1 := Lib.hid (HX.out.below hB)
    clear hB x0 x1 x2 HX HW HC
    go_wp2_with fail
    go_ret3
    rw [HF.out]
    exact ⟨rfl, HB.out⟩
  · rw [hp] at HC
    rw [h] at HE
    rw [h1] at HD
    have HF := Lib.hid (show r = (0, 0, 2) by rw [HE.out]; rfl)
    clear hp h HE hp60 hpd h1
    go_enter Try.func32, Try.ntmps32
    obtain ⟨x0, x1, x2⟩ := HX.out
    go_wp2_with fail
    refine HC.out.mono ?_; rintro e w1 ⟨rfl, hB⟩
    have HB := Lib.hid (HW.out.trans (hB.mono HW.out.size))
    have HX1 := Lib.hid (HX.out.below hB)
    clear hB x0 x1 x2 HX HW HC
    go_wp2_with fail
    refine (HD.out _).mono ?_; rintro e w9 ⟨rfl, rfl⟩
    go_wp2_with fail
    go_ret3
    rw [HF.out]
    exact ⟨rfl, HB.out⟩
  · rw [hp] at HC
    rw [h] at HE
    rw [h1] at HD
    have hl60 := hp60 hp
    have hl61 := hpd hp
    have HF := Lib.hid (show r = (0, 0, 4) by rw [HE.out]; rfl)
    clear hp h HE hp60 hpd h1
    go_enter Try.func32, Try.ntmps32
    obtain ⟨x0, x1, x2⟩ := HX.out
    go_wp2_with fail
    refine HC.out.mono ?_; rintro e w1 ⟨rfl, hB⟩
    have HB := Lib.hid (HW.out.trans (hB.mono HW.out.size))
    have HX1 := Lib.hid (HX.out.below hB)
    clear hB x0 x1 x2 HX HW HC
    go_wp2_with fail
    refine (HD.out _).mono ?_; rintro e w9 ⟨rfl, rfl⟩
    obtain ⟨x0, x1, x2⟩ := HX1.out
    go_wp2_with fail
    refine (implLeftCount8 a0 l0 c0 a1 l1 c1 p _ (by omega) (by omega)).mono ?_; rintro e w2 ⟨rfl, hw⟩
    have HB2 := Lib.hid (show Below w.heap.size w w2 by rw [hw]; exact HB.out.alloc HB.out.size _)
    clear hw x0 x1 x2 HX1
    go_wp2_with fail
    go_ret3
    rw [HF.out]
    exact ⟨rfl, HB2.out⟩
  · rw [hp] at HC
    rw [h] at HE
    rw [h1] at HD
    have hl60 := hp60 hp
    have hl61 := hpd hp
    have HF := Lib.hid (show r = (0, 0, 3) by rw [HE.out]; rfl)
    clear hp h HE hp60 hpd h1
    go_enter Try.func32, Try.ntmps32
    obtain ⟨x0, x1, x2⟩ := HX.out
    go_wp2_with fail
    refine HC.out.mono ?_; rintro e w1 ⟨rfl, hB⟩
    have HB := Lib.hid (HW.out.trans (hB.mono HW.out.size))
    have HX1 := Lib.hid (HX.out.below hB)
    clear hB x0 x1 x2 HX HW HC
    go_wp2_with fail
    refine (HD.out _).mono ?_; rintro e w9 ⟨rfl, rfl⟩
    obtain ⟨x0, x1, x2⟩ := HX1.out
    go_wp2_with fail
    refine (implLeftCount8 a0 l0 c0 a1 l1 c1 p _ (by omega) (by omega)).mono ?_; rintro e w2 ⟨rfl, hw⟩
    have HB2 := Lib.hid (show Below w.heap.size w w2 by rw [hw]; exact HB.out.alloc HB.out.size _)
    clear hw x0 x1 x2 HX1
    have hz : ((l0 : Int) - l1 == 0) = false := beq_eq_false_iff_ne.2 h2
    go_wp2_with fail
    go_ret3
    rw [HF.out]
    exact ⟨rfl, HB2.out⟩
  · rw [hp] at HC
    rw [h] at HE
    rw [h1] at HD
    have hl60 := hp60 hp
    have hl61 := hpd hp
    have hk := inR_yes h1
    have HG := Lib.hid (fun W => implGcd8 k ((l0 : Int) - l1) W (by omega) (by omega))
    have HF := Lib.hid (show r = (k / Int.gcd k ((l0 : Int) - l1), ((l0 : Int) - l1) / Int.gcd k ((l0 : Int) - l1), 0) by rw [HE.out]; rfl)
    have hgp : 0 < Int.gcd k ((l0 : Int) - l1) := Int.gcd_pos_of_ne_zero_right _ (by omega)
    have hgle : Int.gcd k ((l0 : Int) - l1) ≤ 1000000 := by
      have := Int.le_of_dvd (show 0 < (l0 : Int) - l1 by omega) (Int.gcd_dvd_right k ((l0 : Int) - l1))
      omega
    generalize Int.gcd k ((l0 : Int) - l1) = g at HF HG hgp hgle
    have hgn : ((g : Int) == 0) = false := beq_eq_false_iff_ne.2 (by omega)
    have hgn2 : (g : Int) ≠ 0 := by omega
    have q1 := Int.ediv_nonneg hk.1 (show (0 : Int) ≤ g by omega)
    have q2 := Int.ediv_nonneg (show (0 : Int) ≤ (l0 : Int) - l1 by omega) (show (0 : Int) ≤ g by omega)
    have q3 : k / (g : Int) ≤ 1000000 := Int.le_trans (Int.ediv_le_self _ hk.1) (by omega)
    have q4 : ((l0 : Int) - l1) / (g : Int) ≤ 1000000 := Int.le_trans (Int.ediv_le_self _ (by omega)) (by omega)
    clear hp h HE hp60 hpd h1
    go_enter Try.func32, Try.ntmps32
    obtain ⟨x0, x1, x2⟩ := HX.out
    go_wp2_with fail
    refine HC.out.mono ?_; rintro e w1 ⟨rfl, hB⟩
    have HB := Lib.hid (HW.out.trans (hB.mono HW.out.size))
    have HX1 := Lib.hid (HX.out.below hB)
    clear hB x0 x1 x2 HX HW HC
    go_wp2_with fail
    refine (HD.out _).mono ?_; rintro e w9 ⟨rfl, rfl⟩
    obtain ⟨x0, x1, x2⟩ := HX1.out
    go_wp2_with fail
    refine (implLeftCount8 a0 l0 c0 a1 l1 c1 p _ (by omega) (by omega)).mono ?_; rintro e w2 ⟨rfl, hw⟩
    have HB2 := Lib.hid (show Below w.heap.size w w2 by rw [hw]; exact HB.out.alloc HB.out.size _)
    clear hw x0 x1 x2 HX1
    have hz : ((l0 : Int) - l1 == 0) = false := beq_eq_false_iff_ne.2 h2
    go_wp2_with fail
    refine (HG.out _).mono ?_; rintro e w3 ⟨rfl, n, rfl⟩
    go_wp2
    go_quiet (fail)
    go_wp2
    go_ret3
    rw [HF.out]
    exact ⟨rfl, Go.below_drewN (Go.below_drewN HB2.out _) _⟩

end Go.Proofs.Ytmpopfcnjgcncaa
