/- Contracts of the laws' own helpers hasInt and likePool (at two pools that read the same), and plain facts for FnPools. -/
import Derived.Test.YtjnicmlomjppnaaGreatDoorChecked
import Derived.Test.YtjnicmlomjppnaaGreatDoorBase0
import Derived.Test.YtjnicmlomjppnaaGreatDoorBuildI
import Derived.Test.YtjnicmlomjppnaaGreatDoorBuild8
import Derived.Test.YtjnicmlomjppnaaGreatDoorRowV
import Derived.Test.YtjnicmlomjppnaaGreatDoorPoolA
import Derived.Test.YtjnicmlomjppnaaGreatDoorLikeInt
import Derived.Test.YtjnicmlomjppnaaGreatDoorSpec81
import Derived.Test.YtjnicmlomjppnaaGreatDoorSpec83
import Derived.Test.YtjnicmlomjppnaaGreatDoorDraw8b
import Derived.Test.YtjnicmlomjppnaaGreatDoorLawP8
import Derived.WalkKit
import Derived.WalkSpells
import Derived.WalkLawsBesides
import Derived.Lib.Hide
import Derived.Deep.QuietTactic
import Derived.BigQuiet
import Derived.Outline
import Derived.Deep.RegionHeld3
import Derived.Deep.Cut
import Derived.Deep.CutRange
namespace Go.Proofs.YtjnicmlomjppnaaGreatDoor
open Go.RowKit Pure1 Pure2 Pure30 Pure40 Pure60 Pure80 Rec

/-- does a list have a number? -/
def hasI (zs : List Int) (x : Int) : Bool := decide (x ∈ zs)
set_option maxRecDepth 100000 in
set_option maxHeartbeats 2000000 in
theorem likePool_same8 (a0 a1 b0 b1 : Option Addr) (c0 c1 d0 d1 : Nat) (p : PoolV) (w : World) (hI : PoolV.In w a0 p.nums.length a1 p.drawn.length p) (hJ : PoolV.In w b0 p.nums.length b1 p.drawn.length p) (hq : SmallQ p) :
    Calls Tryz.prog 11 #[.agg #[.slice a0 p.nums.length c0, .slice a1 p.drawn.length c1, .int .i64 p.state], .agg #[.slice b0 p.nums.length d0, .slice b1 p.drawn.length d1, .int .i64 p.state]] w fun e w' => e = .returned (.bool true) ∧ Below w.heap.size w w' := by
  have h61 := hq.1; have h62 := hq.2
  have HW := Lib.hid (boxes2 w (.cells #[.slice a0 p.nums.length c0, .slice a1 p.drawn.length c1, .int .i64 p.state] 26) (.cells #[.slice b0 p.nums.length d0, .slice b1 p.drawn.length d1, .int .i64 p.state] 26))
  have HX := Lib.hid ((PoolV.boxed w a0 p.nums.length c0 a1 p.drawn.length c1 p 26).below (boxed _ (.cells #[.slice b0 p.nums.length d0, .slice b1 p.drawn.length d1, .int .i64 p.state] 26)))
  have hY := PoolV.boxed (w.alloc (.cells #[.slice a0 p.nums.length c0, .slice a1 p.drawn.length c1, .int .i64 p.state] 26)) b0 p.nums.length d0 b1 p.drawn.length d1 p 26
  rw [show (w.alloc (.cells #[.slice a0 p.nums.length c0, .slice a1 p.drawn.length c1, .int .i64 p.state] 26)).heap.size = w.heap.size + 1 by simp] at hY
  have HY := Lib.hid hY
  have HI := Lib.hid (hI.below HW.out); have HJ := Lib.hid (hJ.below HW.out)
  clear hI hJ hY hq
  go_enter Tryz.func11, Tryz.ntmps11
  obtain ⟨x0, x1, x2⟩ := HX.out
  obtain ⟨y0, y1, y2⟩ := HY.out
  go_wp2_with fail
  generalize (w.alloc (.cells #[.slice a0 p.nums.length c0, .slice a1 p.drawn.length c1, .int .i64 p.state] 26)).alloc (.cells #[.slice b0 p.nums.length d0, .slice b1 p.drawn.length d1, .int .i64 p.state] 26) = w1 at HW HX HY HI HJ x0 x1 x2 y0 y1 y2 ⊢
  clear x0 x1 x2 y0 y1 y2
  refine (likeSame8 a0 b0 c0 d0 p.nums w1 (by omega) HI.out.1.2.2 HJ.out.1.2.2).mono ?_; rintro e w2 ⟨rfl, hB⟩
  obtain ⟨x0, x1, x2⟩ := HX.out.below hB
  obtain ⟨y0, y1, y2⟩ := HY.out.below hB
  have HB2 := Lib.hid (HW.out.trans (hB.mono HW.out.size))
  have HI2 := Lib.hid (HI.out.below hB); have HJ2 := Lib.hid (HJ.out.below hB)
  clear hB HW HX HY HI HJ
  go_wp2_with fail
  refine (likeSame8 a1 b1 c1 d1 p.drawn w2 (by omega) HI2.out.2.2.2 HJ2.out.2.2.2).mono ?_; rintro e w3 ⟨rfl, hB⟩
  have HB3 := Lib.hid (HB2.out.trans (hB.mono HB2.out.size))
  clear hB HB2 x0 x1 x2 y0 y1 y2
  go_wp2_with fail
  go_ret
  exact ⟨rfl, HB3.out⟩

theorem zero_small : SmallQ zeroP := ⟨by simp [zeroP], by simp [zeroP]⟩
theorem take_facts {p qt : PoolV} {k kt : Int} {os : List Int} (hq : SmallQ p) (h : takeR p k = (qt, os, kt)) :
    SmallQ qt ∧ os.length ≤ 61 ∧ (kt ≠ 0 ∨ (kt = 0 ∧ leftR p = (leftL p.nums p.drawn, 0) ∧ leftR qt = (leftL qt.nums qt.drawn, 0) ∧ (leftL qt.nums qt.drawn).length + os.length = (leftL p.nums p.drawn).length ∧ (os.length : Int) = k ∧ ∀ x ∈ os, x ∈ leftL p.nums p.drawn ∧ x ∉ leftL qt.nums qt.drawn)) := by
  by_cases hc : takeC p k = 0
  · have hs := take_split hc
    obtain ⟨h1, h2, h3⟩ := take_good hc
    have hp := take_pool hc
    unfold takeR at h
    rw [if_pos hc] at h
    injection h with ha hb
    injection hb with hb hd
    subst ha hb hd
    have hl := leftL_small hq
    have hd2 := pool_dlen hp
    refine ⟨⟨hq.1, Nat.le_trans hd2 hq.1⟩, by have := hs.1; omega, .inr ⟨rfl, by unfold leftR; rw [if_pos h1], by unfold leftR; rw [if_pos hp], hs.1, hs.2.1, hs.2.2⟩⟩
  · unfold takeR at h
    rw [if_neg hc] at h
    injection h with ha hb
    injection hb with hb hd
    subst ha hb hd
    exact ⟨zero_small, by simp, .inl hc⟩
theorem make_facts {ns : List Int} {s km : Int} {qm : PoolV} (hn : ns.length ≤ 61) (h : makeR ns s = (qm, km)) :
    SmallQ qm ∧ (km ≠ 0 ∨ (km = 0 ∧ (ns.length = 0 ∨ (0 < ns.length ∧ ∃ qo oo, takeR qm 1 = (qo, oo, 0) ∧ SmallQ qo ∧ replayR qo s = (true, 0))))) := by
  by_cases hp : isPool ⟨ns, [], s⟩ = true
  · unfold makeR at h
    rw [if_pos hp] at h
    injection h with ha hb
    subst ha hb
    refine ⟨⟨hn, by simp⟩, .inr ⟨rfl, ?_⟩⟩
    by_cases h0 : 0 < ns.length
    · have hc := make_take hp h0
      have ht : takeR ⟨ns, [], s⟩ 1 = (drawP ⟨ns, [], s⟩ 1, outN ns [] s (1 : Int).toNat, 0) := by unfold takeR; rw [if_pos hc]
      exact .inr ⟨h0, _, _, ht, (take_facts ⟨hn, by simp⟩ ht).1, make_replay hp h0⟩
    · exact .inl (by omega)
  · unfold makeR at h
    rw [if_neg hp] at h
    injection h with ha hb
    subst ha hb
    exact ⟨zero_small, .inl (by decide)⟩
theorem put_facts {p qp : PoolV} {bs : List Int} {kp : Int} (hq : SmallQ p) (h : putR p bs = (qp, kp)) :
    SmallQ qp ∧ (kp ≠ 0 ∨ (kp = 0 ∧ qp.drawn.length + bs.length = p.drawn.length)) := by
  by_cases hc : putC p bs = 0
  · have hs := put_count hc
    unfold putR at h
    rw [if_pos hc] at h
    injection h with ha hb
    subst ha hb
    exact ⟨⟨hq.1, Nat.le_trans (List.length_filter_le _ _) hq.2⟩, .inr ⟨rfl, hs⟩⟩
  · unfold putR at h
    rw [if_neg hc] at h
    injection h with ha hb
    subst ha hb
    exact ⟨zero_small, .inl hc⟩
end Go.Proofs.YtjnicmlomjppnaaGreatDoor
