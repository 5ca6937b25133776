/- Contracts of chapter 8's model: replays, putting back. -/
import Derived.Test.YtmpopfcnjgcncaaChecked
import Derived.Test.YtmpopfcnjgcncaaBase
import Derived.Test.YtmpopfcnjgcncaaInfo
import Derived.Test.YtmpopfcnjgcncaaMarkI
import Derived.Test.YtmpopfcnjgcncaaPure30
import Derived.Test.YtmpopfcnjgcncaaPure60
import Derived.Test.YtmpopfcnjgcncaaPure40
import Derived.Test.YtmpopfcnjgcncaaPure80
import Derived.Test.YtmpopfcnjgcncaaIntL
import Derived.Test.YtmpopfcnjgcncaaBuildI
import Derived.Test.YtmpopfcnjgcncaaBuild8
import Derived.Test.YtmpopfcnjgcncaaRowV
import Derived.Test.YtmpopfcnjgcncaaPoolA
import Derived.Test.YtmpopfcnjgcncaaSpec80
import Derived.Test.YtmpopfcnjgcncaaSpec81
import Derived.Test.YtmpopfcnjgcncaaSpec82
import Derived.Test.YtmpopfcnjgcncaaSpec83
import Derived.Test.YtmpopfcnjgcncaaSpec84
import Derived.WalkKit
import Derived.WalkSpells
import Derived.WalkLawsBesides
import Derived.Lib.Hide
import Derived.Lib.QuietBelow
import Derived.IntWalk
import Derived.Deep.QuietTactic
import Derived.Deep.RegionHeld3
import Derived.BigQuiet
import Derived.Outline
namespace Go.Proofs.Ytmpopfcnjgcncaa
open Go.RowKit Pure1 Pure2 Pure30 Pure40 Pure60 Pure80 Rec

theorem replay_eq (d ds : List Int) (t s : Int) : decide ((d, t) = (ds, s)) = (decide (t = s) && sameL d ds) := by
  unfold sameL
  by_cases h1 : t = s <;> by_cases h2 : d = ds <;> simp [h1, h2]
set_option maxRecDepth 100000 in
set_option maxHeartbeats 4000000 in
theorem specReplay8_any (a0 : Option Addr) (l0 c0 : Nat) (a1 : Option Addr) (l1 c1 : Nat) (p : PoolV) (s : Int) (w : World) (hI : PoolV.In w a0 l0 a1 l1 p) (hc1 : l1 ≤ c1) (hn0 : a0 = none → l0 = 0 ∧ c0 = 0) :
    Calls Try.prog 18 #[.agg #[.slice a0 l0 c0, .slice a1 l1 c1, .int .i64 p.state], .int .i64 s] w (Says8 (.tuple #[.bool (replayR p s).1, .int .i64 (replayR p s).2]) w) := by
  have HW := Lib.hid (boxed w (.cells #[.slice a0 l0 c0, .slice a1 l1 c1, .int .i64 p.state] 26))
  have HX := Lib.hid (PoolV.boxed w a0 l0 c0 a1 l1 c1 p 26)
  have HI := Lib.hid hI
  have HC := Lib.hid (specIsPool8_any a0 l0 c0 a1 l1 c1 p (w.alloc (.cells #[.slice a0 l0 c0, .slice a1 l1 c1, .int .i64 p.state] 26)) (hI.below HW.out) hc1)
  have HD := Lib.hid (fun W => specIs8 s W)
  have HE := Lib.hid (show replayR p s = if isPool p = true then (if isState s = true then (decide (drawN p.nums [] s p.drawn.length = (p.drawn, p.state)), 0) else (false, 2)) else (false, 1) from rfl)
  have HN0 := Lib.hid hn0
  clear hI hn0
  generalize replayR p s = r at HE ⊢
  cases hp : isPool p with
  | false =>
    rw [hp] at HC HE
    have HF := Lib.hid (show r = (false, 1) by rw [HE.out]; rfl)
    clear hp HE
    go_enter Try.func18, Try.ntmps18
    obtain ⟨x0, x1, x2⟩ := HX.out
    go_wp2_with fail
    refine HC.out.mono ?_; rintro e w1 ⟨rfl, hB⟩
    have HB := Lib.hid (HW.out.trans (hB.mono HW.out.size))
    clear hB x0 x1 x2 HX HW HC
    go_wp2_with fail
    go_ret2
    rw [HF.out]
    exact ⟨rfl, HB.out⟩
  | true =>
    have HPP := Lib.hid hp
    rw [hp] at HC HE
    clear hp
    cases hs : isState s with
    | false =>
      rw [hs] at HD HE
      have HF := Lib.hid (show r = (false, 2) by rw [HE.out]; rfl)
      clear hs HE
      go_enter Try.func18, Try.ntmps18
      obtain ⟨x0, x1, x2⟩ := HX.out
      go_wp2_with fail
      refine HC.out.mono ?_; rintro e w1 ⟨rfl, hB⟩
      have HB := Lib.hid (HW.out.trans (hB.mono HW.out.size))
      clear hB x0 x1 x2 HX HW HC
      go_wp2_with fail
      refine (HD.out _).mono ?_; rintro e w2 ⟨rfl, rfl⟩
      go_wp2_with fail
      go_ret2
      rw [HF.out]
      exact ⟨rfl, HB.out⟩
    | true =>
      have HQ := Lib.hid (show isPool ⟨p.nums, [], s⟩ = true from pool_make HPP.out List.nodup_nil (fun x hx => by cases hx) ((isState_iff s).1 hs))
      rw [hs] at HD HE
      clear hs
      have HF := Lib.hid (show r = (decide ((drawN p.nums [] s l1).2 = p.state) && sameL (drawN p.nums [] s l1).1 p.drawn, 0) by rw [HE.out, ← HI.out.2.1, ← replay_eq]; rfl)
      clear HE
      have hl1 : l1 ≤ maxLen := HI.out.2.2.1
      unfold maxLen at hl1
      go_enter Try.func18, Try.ntmps18
      obtain ⟨x0, x1, x2⟩ := HX.out
      go_wp2_with fail
      refine HC.out.mono ?_; rintro e w1 ⟨rfl, hB⟩
      have HB := Lib.hid (HW.out.trans (hB.mono HW.out.size))
      have HX1 := Lib.hid (HX.out.below hB)
      clear hB x0 x1 x2 HX HW HC
      go_wp2_with fail
      refine (HD.out _).mono ?_; rintro e w2 ⟨rfl, rfl⟩
      obtain ⟨x0, x1, x2⟩ := HX1.out
      have HG := Lib.hid (show Calls Try.prog 52 #[.agg #[.slice a0 l0 c0, .slice none 0 0, .int .i64 s], .int .i64 (l1 : Int)] w2 (SaysDraw ⟨p.nums, (drawN p.nums [] s l1).1, (drawN p.nums [] s l1).2⟩ (outN p.nums [] s l1) w2) from
        specDraw8_any a0 l0 c0 none 0 0 ⟨p.nums, [], s⟩ l1 w2 ⟨HI.out.1.below HB.out, ⟨rfl, by unfold maxLen; omega, .inl rfl⟩⟩ HN0.out (fun _ => ⟨rfl, rfl⟩) HQ.out (by have := pool_dlen HPP.out; have := HI.out.2.1; show ([] : List Int).length + l1 ≤ p.nums.length; simp; omega))
      go_wp2_with fail
      refine HG.out.mono ?_; rintro e w3 ⟨v0, v1, v2, rfl, ho0, ho1, ho2, _, _, _, hB⟩
      have hlen := outN_length p.nums [] s l1
      rw [outN_none] at ho2 hlen
      obtain ⟨b2, e2, rfl, hat⟩ := ho2.slice
      obtain ⟨b0, e0, rfl, _⟩ := ho0.slice
      obtain ⟨b1, e1, rfl, _⟩ := ho1.slice
      have HX3 := Lib.hid (HX1.out.below hB)
      have HB3 := Lib.hid (HB.out.trans (hB.mono HB.out.size))
      have HAT := Lib.hid hat
      have HLEN := Lib.hid hlen
      clear ho0 ho1 ho2 hB hat x0 x1 x2 HX1 hlen HG
      generalize drawN p.nums [] s l1 = ds at HF HAT HLEN ⊢
      obtain ⟨dl, t⟩ := ds
      simp only at HF HAT HLEN ⊢
      have hal := boxed w3 (.cells #[.slice b0 p.nums.length e0, .slice b1 dl.length e1, .int .i64 t] 26)
      have HX4 := Lib.hid (HX3.out.below hal)
      have HB4 := Lib.hid (HB3.out.trans (hal.mono HB3.out.size))
      have HS := Lib.hid (specSame8 b2 a1 dl.length e2 l1 c1 dl p.drawn (w3.alloc (.cells #[.slice b0 p.nums.length e0, .slice b1 dl.length e1, .int .i64 t] 26)) rfl HI.out.2.1 (by have := HLEN.out; unfold maxLen; omega) HI.out.2.2.1 (HAT.out.below hal) (HI.out.2.2.2.below HB4.out))
      clear hal
      obtain ⟨x0, x1, x2⟩ := HX4.out
      by_cases ht : t = p.state
      · subst ht
        have HF2 := Lib.hid (show r = (sameL dl p.drawn, 0) by rw [HF.out, decide_eq_true rfl, Bool.true_and])
        go_wp2_with fail
        refine HS.out.mono ?_; rintro e w5 ⟨rfl, n, rfl⟩
        go_wp2_with fail
        go_ret2
        rw [HF2.out]
        exact ⟨rfl, Go.below_drewN HB4.out _⟩
      · have HF2 := Lib.hid (show r = (false, 0) by rw [HF.out, decide_eq_false ht, Bool.false_and])
        have hbt : (t == p.state) = false := beq_eq_false_iff_ne.2 ht
        go_wp2_with fail
        go_ret2
        rw [HF2.out]
        exact ⟨rfl, HB4.out⟩
end Go.Proofs.Ytmpopfcnjgcncaa
