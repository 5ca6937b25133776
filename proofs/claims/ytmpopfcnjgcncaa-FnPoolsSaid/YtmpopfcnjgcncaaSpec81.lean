/- Contracts of chapter 8's model: who is left, a pool that is made. -/
import Derived.Test.YtmpopfcnjgcncaaChecked
import Derived.Test.YtmpopfcnjgcncaaBase
import Derived.Test.YtmpopfcnjgcncaaInfo
import Derived.Test.YtmpopfcnjgcncaaMarkI
import Derived.Test.YtmpopfcnjgcncaaPure30
import Derived.Test.YtmpopfcnjgcncaaPure60
import Derived.Test.YtmpopfcnjgcncaaPure40
import Derived.Test.YtmpopfcnjgcncaaPure80
import Derived.Test.YtmpopfcnjgcncaaIntL
import Derived.Test.YtmpopfcnjgcncaaBuildI
import Derived.Test.YtmpopfcnjgcncaaBuild8
import Derived.Test.YtmpopfcnjgcncaaRowV
import Derived.Test.YtmpopfcnjgcncaaPoolA
import Derived.Test.YtmpopfcnjgcncaaSpec80
import Derived.WalkKit
import Derived.WalkSpells
import Derived.WalkLawsBesides
import Derived.Lib.Hide
import Derived.Lib.QuietBelow
import Derived.IntWalk
import Derived.Deep.QuietTactic
import Derived.BigQuiet
import Derived.Outline
namespace Go.Proofs.Ytmpopfcnjgcncaa
open Go.RowKit Pure1 Pure2 Pure30 Pure40 Pure60 Pure80 Rec

/-- a list of our own and a code are returned; nothing that was there has turned -/
def SaysBI (zs : List Int) (n : Int) (w : World) (e : Ending) (w' : World) : Prop := ∃ v, e = .returned (.tuple #[v, .int .i64 n]) ∧ BuildI w.heap.size w' v zs ∧ Below w.heap.size w w'
/-- a pool of our own and a code .. -/
def SaysPool (q : PoolV) (n : Int) (w : World) (e : Ending) (w' : World) : Prop :=
  ∃ v0 v1, e = .returned (.tuple #[.agg #[v0, v1, .int .i64 q.state], .int .i64 n]) ∧ BuildI w.heap.size w' v0 q.nums ∧ BuildI w.heap.size w' v1 q.drawn ∧ ApartV v0 v1 ∧ Below w.heap.size w w'

set_option maxRecDepth 100000 in
set_option maxHeartbeats 1000000 in
theorem specLeftOf8_any (a0 : Option Addr) (l0 c0 : Nat) (a1 : Option Addr) (l1 c1 : Nat) (p : PoolV) (w : World) (hI : PoolV.In w a0 l0 a1 l1 p) (hc1 : l1 ≤ c1) (hs : l0 ≤ 1048576) :
    Calls Try.prog 35 #[.agg #[.slice a0 l0 c0, .slice a1 l1 c1, .int .i64 p.state]] w (SaysBI (leftR p).1 (leftR p).2 w) := by
  have HW := Lib.hid (boxed w (.cells #[.slice a0 l0 c0, .slice a1 l1 c1, .int .i64 p.state] 26))
  have HX := Lib.hid (PoolV.boxed w a0 l0 c0 a1 l1 c1 p 26)
  have HC := Lib.hid (specIsPool8_any a0 l0 c0 a1 l1 c1 p (w.alloc (.cells #[.slice a0 l0 c0, .slice a1 l1 c1, .int .i64 p.state] 26)) (hI.below HW.out) hc1)
  have HE := Lib.hid (show leftR p = if isPool p = true then (leftL p.nums p.drawn, 0) else ([], 1) from rfl)
  have HI := Lib.hid hI; clear hI
  generalize leftR p = v at HE ⊢
  cases hb : isPool p
  · rw [hb] at HC HE
    have HF := Lib.hid (show v = ([], 1) by rw [HE.out]; rfl)
    go_enter Try.func35, Try.ntmps35
    obtain ⟨x0, x1, x2⟩ := HX.out
    go_wp2_with fail
    refine HC.out.mono ?_; rintro e w1 ⟨rfl, hB⟩
    have HB := Lib.hid (HW.out.trans (hB.mono HW.out.size)); clear hB
    go_wp2_with fail
    go_ret2
    rw [HF.out]
    exact ⟨_, rfl, BuildI.nil _ _, HB.out⟩
  · rw [hb] at HC HE
    have hl60 : l0 ≤ 60 := by have h1 := pool_len hb; have h2 := HI.out.1.1; omega
    have HF := Lib.hid (show v = (leftL p.nums p.drawn, 0) by rw [HE.out]; rfl)
    clear hb
    go_enter Try.func35, Try.ntmps35
    obtain ⟨x0, x1, x2⟩ := HX.out
    go_wp2_with fail
    refine HC.out.mono ?_; rintro e w1 ⟨rfl, hB⟩
    have HB := Lib.hid (HW.out.trans (hB.mono HW.out.size))
    have HX1 := Lib.hid (HX.out.below hB)
    clear hB x0 x1 x2 HX
    obtain ⟨x0, x1, x2⟩ := HX1.out
    go_wp2_with fail
    refine (specLeft8_any a0 l0 c0 a1 l1 c1 p w1 (HI.out.below HB.out) (by omega)).mono ?_; rintro e w2 ⟨v2, rfl, ho, hB⟩
    have HO := Lib.hid (ho.base HB.out.size)
    have HB2 := Lib.hid (HB.out.trans (hB.mono HB.out.size)); clear hB ho
    go_wp2_with fail
    go_ret2
    rw [HF.out]
    exact ⟨_, rfl, HO.out, HB2.out⟩

set_option maxRecDepth 100000 in
set_option maxHeartbeats 2000000 in
theorem specMake8_any (a : Option Addr) (len cap : Nat) (zs : List Int) (s : Int) (w : World) (hI : IntsIn w a len zs) (hn : a = none → len = 0 ∧ cap = 0) (hs : len ≤ 1048576) :
    Calls Try.prog 21 #[.slice a len cap, .int .i64 s] w (SaysPool (makeR zs s).1 (makeR zs s).2 w) := by
  have HW := Lib.hid (boxed w (.cells #[.slice none 0 0, .slice none 0 0, .int .i64 0] 26))
  have HP := Lib.hid (rowV_box w 26 [.slice none 0 0, .slice none 0 0, .int .i64 0])
  have HC := Lib.hid (specOwn8 a len cap zs (w.alloc (.cells #[.slice none 0 0, .slice none 0 0, .int .i64 0] 26)) (hI.below HW.out) hs hn)
  have HE := Lib.hid (show makeR zs s = if isPool ⟨zs, [], s⟩ = true then (⟨zs, [], s⟩, 0) else (zeroP, 1) from rfl)
  have HL := Lib.hid hI.1
  clear hI hn
  generalize makeR zs s = r at HE ⊢
  go_enter Try.func21, Try.ntmps21
  go_wp2_with fail
  refine HC.out.mono ?_; rintro e w1 ⟨v, rfl, ho, hB⟩
  have hsz : (w.alloc (.cells #[.slice none 0 0, .slice none 0 0, .int .i64 0] 26)).heap.size = w.heap.size + 1 := by simp
  rw [hsz] at ho
  have HB := Lib.hid (HW.out.trans (hB.mono HW.out.size))
  have HP1 := Lib.hid (HP.out.below hB)
  have hsz1 : w.heap.size + 1 ≤ w1.heap.size := by rw [← hsz]; exact hB.size
  obtain ⟨va, vc, rfl, hva⟩ := ho.slice
  have HO := Lib.hid ho
  have HD := Lib.hid (BuildI.empty (B := w1.heap.size) (w := w1) (Nat.le_refl _))
  have hbx := boxes2 w1 (.cells #[] 2) (.cells #[.slice va zs.length vc, .slice (some ⟨w1.heap.size, 0, none⟩) 0 0, .int .i64 s] 26)
  have HQ := Lib.hid (PoolV.boxed (w1.alloc (.cells #[] 2)) va zs.length vc (some ⟨w1.heap.size, 0, none⟩) 0 0 ⟨zs, [], s⟩ 26)
  have hB3 := HB.out.trans (hbx.mono HB.out.size)
  have HB3 := Lib.hid hB3
  have HP3 := Lib.hid (HP1.out.below hbx)
  have HO3 := Lib.hid (HO.out.below hbx)
  have HD3 := Lib.hid ((HD.out.below (boxed _ (.cells #[.slice va zs.length vc, .slice (some ⟨w1.heap.size, 0, none⟩) 0 0, .int .i64 s] 26))).base hsz1)
  have HA3 := Lib.hid (apartV_later ho HD.out (Nat.le_refl _))
  have HC3 := Lib.hid (specIsPool8_any va zs.length vc (some ⟨w1.heap.size, 0, none⟩) 0 0 ⟨zs, [], s⟩ ((w1.alloc (.cells #[] 2)).alloc (.cells #[.slice va zs.length vc, .slice (some ⟨w1.heap.size, 0, none⟩) 0 0, .int .i64 s] 26)) ⟨⟨rfl, by have := HL.out; unfold maxLen; omega, hva.below hbx⟩, ⟨rfl, by unfold maxLen; omega, .inl rfl⟩⟩ (Nat.le_refl _))
  clear ho hB hbx hB3 HC HW hva hsz HD
  have hq := HQ.out
  rw [show (w1.alloc (.cells #[] 2)).heap.size = w1.heap.size + 1 by simp] at hq
  have HQ := Lib.hid hq
  clear hq
  obtain ⟨x0, x1, x2⟩ := HQ.out
  cases hb : isPool ⟨zs, [], s⟩
  · rw [hb] at HC3 HE
    have HF := Lib.hid (show r = (zeroP, 1) by rw [HE.out]; rfl)
    clear hb
    go_wp2_with fail
    refine HC3.out.mono ?_; rintro e w4 ⟨rfl, hB⟩
    have HB4 := Lib.hid (HB3.out.trans (hB.mono HB3.out.size))
    have HP4 := Lib.hid (HP3.out.below hB)
    clear hB x0 x1 x2
    have p0 := HP4.out.cell (show _[0]? = some _ from rfl); have p1 := HP4.out.cell (show _[1]? = some _ from rfl); have p2 := HP4.out.cell (show _[2]? = some _ from rfl)
    have g0 := HP4.out.frozen 0; have g1 := HP4.out.frozen 1; have g2 := HP4.out.frozen 2
    go_wp2_with fail
    (try simp only [Exit.inBlock, Exit.then])
    refine bodyPost_ret (v := .tuple #[.agg #[.slice none 0 0, .slice none 0 0, .int .i64 0], .int .i64 1]) ?_ rfl ?_
    · rw [Rec.results_cell_tmp rfl]
      go_simp
    · rw [HF.out]
      exact ⟨_, _, rfl, BuildI.nil _ _, BuildI.nil _ _, none_apartV _, ((HB4.out.setCell (Nat.le_refl _) _).setCell (Nat.le_refl _) _).setCell (Nat.le_refl _) _⟩
  · rw [hb] at HC3 HE
    have HF := Lib.hid (show r = (⟨zs, [], s⟩, 0) by rw [HE.out]; rfl)
    clear hb
    go_wp2_with fail
    refine HC3.out.mono ?_; rintro e w4 ⟨rfl, hB⟩
    have HB4 := Lib.hid (HB3.out.trans (hB.mono HB3.out.size))
    have HP4 := Lib.hid (HP3.out.below hB)
    have HO4 := Lib.hid (HO3.out.below hB); have HD4 := Lib.hid (HD3.out.below hB); have HQ4 := Lib.hid (HQ.out.below hB)
    clear hB x0 x1 x2
    obtain ⟨x0, x1, x2⟩ := HQ4.out
    have p0 := HP4.out.cell (show _[0]? = some _ from rfl); have p1 := HP4.out.cell (show _[1]? = some _ from rfl); have p2 := HP4.out.cell (show _[2]? = some _ from rfl)
    have g0 := HP4.out.frozen 0; have g1 := HP4.out.frozen 1; have g2 := HP4.out.frozen 2
    go_wp2_with fail
    (try simp only [Exit.inBlock, Exit.then])
    refine bodyPost_ret (v := .tuple #[.agg #[.slice va zs.length vc, .slice (some ⟨w1.heap.size, 0, none⟩) 0 0, .int .i64 s], .int .i64 0]) ?_ rfl ?_
    · rw [Rec.results_cell_tmp rfl]
      go_simp
    · rw [HF.out]
      exact ⟨_, _, rfl, (((HO4.out.stored (Nat.lt_succ_self _) _).stored (Nat.lt_succ_self _) _).stored (Nat.lt_succ_self _) _).base (Nat.le_succ _), (((HD4.out.stored (Nat.lt_succ_self _) _).stored (Nat.lt_succ_self _) _).stored (Nat.lt_succ_self _) _).base (Nat.le_succ _), HA3.out, ((HB4.out.setCell (Nat.le_refl _) _).setCell (Nat.le_refl _) _).setCell (Nat.le_refl _) _⟩
end Go.Proofs.Ytmpopfcnjgcncaa
