/- Merged: the texts LawP8 LikeP8, in their order. -/
import Derived.Test.YtmpopfcnjgcncaaChecked
import Derived.Test.YtmpopfcnjgcncaaBase
import Derived.Test.YtmpopfcnjgcncaaPure80
import Derived.Test.YtmpopfcnjgcncaaBuildI
import Derived.Test.YtmpopfcnjgcncaaBuild8
import Derived.Test.YtmpopfcnjgcncaaRowV
import Derived.Test.YtmpopfcnjgcncaaPoolA
import Derived.Test.YtmpopfcnjgcncaaLikeInt
import Derived.Test.YtmpopfcnjgcncaaSpec81
import Derived.Test.YtmpopfcnjgcncaaSpec83
import Derived.Test.YtmpopfcnjgcncaaDrawX8
import Derived.WalkKit
import Derived.WalkSpells
import Derived.WalkLawsBesides
import Derived.Lib.Hide
import Derived.Deep.QuietTactic
import Derived.BigQuiet
import Derived.Outline
import Derived.Deep.RegionHeld3
import Derived.Deep.Cut
import Derived.Deep.CutRange
/- Plain facts and small contracts that the laws over drawn pools share. -/
namespace Go.Proofs.Ytmpopfcnjgcncaa
open Go.RowKit Pure1 Pure2 Pure30 Pure40 Pure60 Pure80

theorem poolIn_of_build {B : Nat} {w : World} {a0 a1 : Option Addr} {c0 c1 : Nat} {q : PoolV} (h0 : BuildI B w (.slice a0 q.nums.length c0) q.nums) (h1 : BuildI B w (.slice a1 q.drawn.length c1) q.drawn) (hq : SmallQ q) : PoolV.In w a0 q.nums.length a1 q.drawn.length q := by
  obtain ⟨x0, k0, e0, t0⟩ := h0.slice
  obtain ⟨x1, k1, e1, t1⟩ := h1.slice
  cases e0; cases e1
  have := hq.1; have := hq.2
  exact ⟨⟨rfl, by unfold maxLen; omega, t0⟩, ⟨rfl, by unfold maxLen; omega, t1⟩⟩
theorem leftL_small {q : PoolV} (hq : SmallQ q) : (leftL q.nums q.drawn).length ≤ 61 := Nat.le_trans (List.length_filter_le _ _) hq.1
theorem leftR_small {q : PoolV} (hq : SmallQ q) : (leftR q).1.length ≤ 61 := by
  unfold leftR
  split
  · exact leftL_small hq
  · simp
theorem chance_facts {p : PoolV} {k ca cb cc : Int} (hq : SmallQ p) (h : chanceR p k = (ca, cb, cc)) :
    cc ≠ 0 ∨ (cc = 0 ∧ leftR p = (leftL p.nums p.drawn, 0) ∧ ca * (leftL p.nums p.drawn).length = k * cb ∧ ca ≤ cb ∧ 0 ≤ k * cb ∧ k * cb ≤ 3721) := by
  by_cases hc : chanceC p k = 0
  · have hs := chance_split hc
    obtain ⟨h1, h2, h3, h4⟩ := chance_good hc
    rw [h] at hs
    simp only at hs
    have hl := pool_left h1
    have e : cc = 0 ∧ ca = k / Int.gcd k ((p.nums.length : Int) - p.drawn.length) := by
      unfold chanceR at h
      rw [if_pos hc] at h
      injection h with ha hb
      injection hb with hb hc2
      exact ⟨hc2.symm, ha.symm⟩
    have hca : 0 ≤ ca := by rw [e.2]; exact Int.ediv_nonneg h2 (Int.natCast_nonneg _)
    have hca2 : ca ≤ 61 := by
      have h5 : k / (Int.gcd k ((p.nums.length : Int) - p.drawn.length) : Int) ≤ k := Int.ediv_le_self _ h2
      have h6 := hq.1
      rw [e.2]; omega
    have hL : ((leftL p.nums p.drawn).length : Int) ≤ 61 := by have := leftL_small hq; omega
    refine .inr ⟨e.1, by unfold leftR; rw [if_pos h1], hs.1, hs.2, ?_, ?_⟩
    · rw [← hs.1]; exact Int.mul_nonneg hca (Int.natCast_nonneg _)
    · rw [← hs.1]; exact Int.le_trans (Int.mul_le_mul hca2 hL (Int.natCast_nonneg _) (by decide)) (by decide)
  · refine .inl ?_
    unfold chanceR at h
    rw [if_neg hc] at h
    injection h with ha hb
    injection hb with hb hc2
    rw [← hc2]; exact hc
theorem likeSame8 (a a' : Option Addr) (cap cap' : Nat) (zs : List Int) (w : World) (hm : zs.length ≤ 1000) (h : IntsAt w a zs) (h' : IntsAt w a' zs) :
    Calls Try.prog 26 #[.slice a zs.length cap, .slice a' zs.length cap'] w fun e w' => e = .returned (.bool true) ∧ Below w.heap.size w w' :=
  (likeInts_any a a' zs.length cap zs.length cap' zs zs w rfl rfl (by unfold maxLen; omega) (by unfold maxLen; omega) h h').mono fun e w' hq => by
    rw [sameL_self] at hq
    obtain ⟨h1, n, rfl⟩ := hq
    exact ⟨h1, Go.below_drewN (Below.refl _ _) n⟩
end Go.Proofs.Ytmpopfcnjgcncaa
/- Contracts of the laws' own helpers hasInt and likePool (at two pools that read the same), and plain facts for FnPools. -/
namespace Go.Proofs.Ytmpopfcnjgcncaa
open Go.RowKit Pure1 Pure2 Pure30 Pure40 Pure60 Pure80 Rec

/-- does a list have a number? -/
def hasI (zs : List Int) (x : Int) : Bool := decide (x ∈ zs)
set_option maxHeartbeats 400000 in
theorem lawsHasInt_any (a : Option Addr) (len cap : Nat) (zs : List Int) (x : Int) (w : World) (hl : zs.length = len) (hm : len ≤ maxLen) (h : IntsAt w a zs) :
    Calls Try.prog 30 #[.slice a len cap, .int .i64 x] w fun e w' => e = .returned (.bool (hasI zs x)) ∧ w = w' := by
  unfold maxLen at hm
  have HL := Lib.hid hl; have HI := Lib.hid h; clear hl h
  go_enter Try.func30, Try.ntmps30
  go_wp2
  go_loop [5] (fun i => ∃ j : Nat, j ≤ len ∧ i = .int .i64 j ∧ ∀ k, k < j → zs[k]? ≠ some x) (fun i => len - (intOf i).toNat)
  case atStart => exact ⟨0, Nat.zero_le _, rfl, fun k hk => by omega⟩
  case round =>
    obtain ⟨j, hj, rfl, hno⟩ := hrel
    have HN := Lib.hid hno; clear hno
    by_cases hlt : j < len
    · obtain ⟨b, off, y, ha, hc, ht, hy⟩ := HI.out.at HL.out hlt
      subst ha
      by_cases hyx : y = x
      · subst hyx
        have HT := Lib.hid (show hasI zs y = true from decide_eq_true (List.mem_of_getElem? hy))
        clear ht hy
        go_wp2
        go_ret
        exact ⟨ret_bool' HT.out.symm, rfl⟩
      · have hb : (y == x) = false := beq_eq_false_iff_ne.2 hyx
        have HY := Lib.hid hy; have HX := Lib.hid hyx
        clear ht hy hyx
        go_wp2
        go_round
        case rel => exact ⟨j + 1, by omega, by go_num, fun k hk e => by
          by_cases e2 : k = j
          · subst e2; rw [HY.out] at e; exact HX.out (Option.some.inj e)
          · exact HN.out k (by omega) e⟩
        case measure => simp [intOf]; omega
    · have HT := Lib.hid (show hasI zs x = false from decide_eq_false fun hm => by
        obtain ⟨k, hk⟩ := List.mem_iff_getElem?.1 hm
        exact HN.out k (by have := (List.getElem?_eq_some_iff.1 hk).1; have := HL.out; omega) hk)
      go_wp2
      go_ret
      exact ⟨ret_bool' HT.out.symm, rfl⟩


set_option maxRecDepth 100000 in
set_option maxHeartbeats 2000000 in
theorem likePool_same8 (a0 a1 b0 b1 : Option Addr) (c0 c1 d0 d1 : Nat) (p : PoolV) (w : World) (hI : PoolV.In w a0 p.nums.length a1 p.drawn.length p) (hJ : PoolV.In w b0 p.nums.length b1 p.drawn.length p) (hq : SmallQ p) :
    Calls Try.prog 25 #[.agg #[.slice a0 p.nums.length c0, .slice a1 p.drawn.length c1, .int .i64 p.state], .agg #[.slice b0 p.nums.length d0, .slice b1 p.drawn.length d1, .int .i64 p.state]] w fun e w' => e = .returned (.bool true) ∧ Below w.heap.size w w' := by
  have h61 := hq.1; have h62 := hq.2
  have HW := Lib.hid (boxes2 w (.cells #[.slice a0 p.nums.length c0, .slice a1 p.drawn.length c1, .int .i64 p.state] 26) (.cells #[.slice b0 p.nums.length d0, .slice b1 p.drawn.length d1, .int .i64 p.state] 26))
  have HX := Lib.hid ((PoolV.boxed w a0 p.nums.length c0 a1 p.drawn.length c1 p 26).below (boxed _ (.cells #[.slice b0 p.nums.length d0, .slice b1 p.drawn.length d1, .int .i64 p.state] 26)))
  have hY := PoolV.boxed (w.alloc (.cells #[.slice a0 p.nums.length c0, .slice a1 p.drawn.length c1, .int .i64 p.state] 26)) b0 p.nums.length d0 b1 p.drawn.length d1 p 26
  rw [show (w.alloc (.cells #[.slice a0 p.nums.length c0, .slice a1 p.drawn.length c1, .int .i64 p.state] 26)).heap.size = w.heap.size + 1 by simp] at hY
  have HY := Lib.hid hY
  have HI := Lib.hid (hI.below HW.out); have HJ := Lib.hid (hJ.below HW.out)
  clear hI hJ hY hq
  go_enter Try.func25, Try.ntmps25
  obtain ⟨x0, x1, x2⟩ := HX.out
  obtain ⟨y0, y1, y2⟩ := HY.out
  go_wp2_with fail
  generalize (w.alloc (.cells #[.slice a0 p.nums.length c0, .slice a1 p.drawn.length c1, .int .i64 p.state] 26)).alloc (.cells #[.slice b0 p.nums.length d0, .slice b1 p.drawn.length d1, .int .i64 p.state] 26) = w1 at HW HX HY HI HJ x0 x1 x2 y0 y1 y2 ⊢
  clear x0 x1 x2 y0 y1 y2
  refine (likeSame8 a0 b0 c0 d0 p.nums w1 (by omega) HI.out.1.2.2 HJ.out.1.2.2).mono ?_; rintro e w2 ⟨rfl, hB⟩
  obtain ⟨x0, x1, x2⟩ := HX.out.below hB
  obtain ⟨y0, y1, y2⟩ := HY.out.below hB
  have HB2 := Lib.hid (HW.out.trans (hB.mono HW.out.size))
  have HI2 := Lib.hid (HI.out.below hB); have HJ2 := Lib.hid (HJ.out.below hB)
  clear hB HW HX HY HI HJ
  go_wp2_with fail
  refine (likeSame8 a1 b1 c1 d1 p.drawn w2 (by omega) HI2.out.2.2.2 HJ2.out.2.2.2).mono ?_; rintro e w3 ⟨rfl, hB⟩
  have HB3 := Lib.hid (HB2.out.trans (hB.mono HB2.out.size))
  clear hB HB2 x0 x1 x2 y0 y1 y2
  go_wp2_with fail
  go_ret
  exact ⟨rfl, HB3.out⟩

theorem zero_small : SmallQ zeroP := ⟨by simp [zeroP], by simp [zeroP]⟩
theorem take_facts {p qt : PoolV} {k kt : Int} {os : List Int} (hq : SmallQ p) (h : takeR p k = (qt, os, kt)) :
    SmallQ qt ∧ os.length ≤ 61 ∧ (kt ≠ 0 ∨ (kt = 0 ∧ leftR p = (leftL p.nums p.drawn, 0) ∧ leftR qt = (leftL qt.nums qt.drawn, 0) ∧ (leftL qt.nums qt.drawn).length + os.length = (leftL p.nums p.drawn).length ∧ (os.length : Int) = k ∧ ∀ x ∈ os, x ∈ leftL p.nums p.drawn ∧ x ∉ leftL qt.nums qt.drawn)) := by
  by_cases hc : takeC p k = 0
  · have hs := take_split hc
    obtain ⟨h1, h2, h3⟩ := take_good hc
    have hp := take_pool hc
    unfold takeR at h
    rw [if_pos hc] at h
    injection h with ha hb
    injection hb with hb hd
    subst ha hb hd
    have hl := leftL_small hq
    have hd2 := pool_dlen hp
    refine ⟨⟨hq.1, Nat.le_trans hd2 hq.1⟩, by have := hs.1; omega, .inr ⟨rfl, by unfold leftR; rw [if_pos h1], by unfold leftR; rw [if_pos hp], hs.1, hs.2.1, hs.2.2⟩⟩
  · unfold takeR at h
    rw [if_neg hc] at h
    injection h with ha hb
    injection hb with hb hd
    subst ha hb hd
    exact ⟨zero_small, by simp, .inl hc⟩
theorem make_facts {ns : List Int} {s km : Int} {qm : PoolV} (hn : ns.length ≤ 61) (h : makeR ns s = (qm, km)) :
    SmallQ qm ∧ (km ≠ 0 ∨ (km = 0 ∧ (ns.length = 0 ∨ (0 < ns.length ∧ ∃ qo oo, takeR qm 1 = (qo, oo, 0) ∧ SmallQ qo ∧ replayR qo s = (true, 0))))) := by
  by_cases hp : isPool ⟨ns, [], s⟩ = true
  · unfold makeR at h
    rw [if_pos hp] at h
    injection h with ha hb
    subst ha hb
    refine ⟨⟨hn, by simp⟩, .inr ⟨rfl, ?_⟩⟩
    by_cases h0 : 0 < ns.length
    · have hc := make_take hp h0
      have ht : takeR ⟨ns, [], s⟩ 1 = (drawP ⟨ns, [], s⟩ 1, outN ns [] s (1 : Int).toNat, 0) := by unfold takeR; rw [if_pos hc]
      exact .inr ⟨h0, _, _, ht, (take_facts ⟨hn, by simp⟩ ht).1, make_replay hp h0⟩
    · exact .inl (by omega)
  · unfold makeR at h
    rw [if_neg hp] at h
    injection h with ha hb
    subst ha hb
    exact ⟨zero_small, .inl (by decide)⟩
theorem put_facts {p qp : PoolV} {bs : List Int} {kp : Int} (hq : SmallQ p) (h : putR p bs = (qp, kp)) :
    SmallQ qp ∧ (kp ≠ 0 ∨ (kp = 0 ∧ qp.drawn.length + bs.length = p.drawn.length)) := by
  by_cases hc : putC p bs = 0
  · have hs := put_count hc
    unfold putR at h
    rw [if_pos hc] at h
    injection h with ha hb
    subst ha hb
    exact ⟨⟨hq.1, Nat.le_trans (List.length_filter_le _ _) hq.2⟩, .inr ⟨rfl, hs⟩⟩
  · unfold putR at h
    rw [if_neg hc] at h
    injection h with ha hb
    subst ha hb
    exact ⟨zero_small, .inl hc⟩
end Go.Proofs.Ytmpopfcnjgcncaa
