/- Contracts: spec.l08Pool and the functions that draw one pool. -/
import Derived.Test.YtjnicmlomjppnaaGreatDoorChecked
import Derived.Test.YtjnicmlomjppnaaGreatDoorBase0
import Derived.Test.YtjnicmlomjppnaaGreatDoorInfo
import Derived.Test.YtjnicmlomjppnaaGreatDoorMidA
import Derived.Test.YtjnicmlomjppnaaGreatDoorIntL
import Derived.Test.YtjnicmlomjppnaaGreatDoorBuildI
import Derived.Test.YtjnicmlomjppnaaGreatDoorBuild8
import Derived.Test.YtjnicmlomjppnaaGreatDoorRowV
import Derived.Test.YtjnicmlomjppnaaGreatDoorPoolA
import Derived.Test.YtjnicmlomjppnaaGreatDoorDraw8a
import Derived.WalkKit
import Derived.WalkSpells
import Derived.WalkLawsBesides
import Derived.Lib.Hide
import Derived.IntWalk
import Derived.Deep.OwnRows
import Derived.OwnWalk
import Derived.Outline
namespace Go.Proofs.YtjnicmlomjppnaaGreatDoor
open Go.RowKit Pure1 Pure2 Pure6 Pure30 Pure40 Pure60 Pure80 Pure85 Rec

/-- a pool of few numbers, good or not -/
def SmallQ (q : PoolV) : Prop := q.nums.length ≤ 61 ∧ q.drawn.length ≤ 61
theorem good_small {q : PoolV} (h : GoodQ q) : SmallQ q := ⟨by have := h.2; omega, by have := h.2; have := pool_dlen h.1; omega⟩
theorem BuildI.two {B : Nat} {w : World} (x y : Int) (hB : B ≤ w.heap.size) : BuildI B (w.alloc (.cells #[.int .i64 x, .int .i64 y] 2)) (.slice (some ⟨w.heap.size, 0, none⟩) 2 2) [x, y] := World.ownsRow_lit (size := 1) w #[.int .i64 x, .int .i64 y] 2 hB (by decide) rfl

/-- a drawn pool in its box, while it is turned -/
structure PoolG (B b C gp rv : Nat) (v0 v1 : Value) (q : PoolV) (w00 w : World) : Prop where
  src : Src B 58 w b
  grown : w00.grownBy w (some b)
  rp : RowV gp w 26 [v0, v1, .int .i64 q.state]
  rr : RowV rv w 26 [.slice none 0 0, .slice none 0 0, .int .i64 0]
  n0 : BuildI C w v0 q.nums
  d0 : BuildI C w v1 q.drawn
section
variable {B b C gp rv : Nat} {v0 v1 : Value} {q : PoolV} {w00 w w' : World}
theorem PoolG.later (h : PoolG B b C gp rv v0 v1 q w00 w) (hb : Below w.heap.size w w') : PoolG B b C gp rv v0 v1 q w00 w' :=
  ⟨src_later8 h.src hb, gb_below8 h.grown hb, h.rp.below hb, h.rr.below hb, h.n0.below hb, h.d0.below hb⟩
theorem PoolG.next (h : PoolG B b C gp rv v0 v1 q w00 w) (hs : Src B 58 w' b) (hg : w.grownBy w' (some b)) (hb : b < C) (h1 : gp ≠ b) (h2 : rv ≠ b) : PoolG B b C gp rv v0 v1 q w00 w' :=
  ⟨hs, grown_trans h.grown hg, row_src h.rp hg h1, row_src h.rr hg h2, build_src h.n0 hg hb, build_src h.d0 hg hb⟩
theorem PoolG.stored (h : PoolG B b C gp rv v0 v1 q w00 w) (hg : w.grownBy w' (some gp)) {v0' v1' : Value} {q' : PoolV} (hr : RowV gp w' 26 [v0', v1', .int .i64 q'.state]) (h0 : BuildI C w v0' q'.nums) (h1 : BuildI C w v1' q'.drawn)
    (hb : b < C) (hC : C ≤ gp) (hne : rv ≠ gp) (hw : w00.heap.size ≤ C) : PoolG B b C gp rv v0' v1' q' w00 w' :=
  ⟨src_own8 h.src hg (by omega) (by have := h.src.base; omega), gb_own8 h.grown hg (by omega), hr, h.rr.grown hg (fun k e => by cases e; exact hne),
    h0.kept hg (fun k hk e => build_ne h0 h.rp (by decide) (by rw [hk, e])), h1.kept hg (fun k hk e => build_ne h1 h.rp (by decide) (by rw [hk, e]))⟩
/-- an append to a list of our own -/
theorem PoolG.appended (h : PoolG B b C gp rv v0 v1 q w00 w) {vx : Value} {xs : List Int} (hx : BuildI C w vx xs) (hg : w.grownBy w' vx.ownBlock) (hb : b < C) (hw : w00.heap.size ≤ C) :
    Src B 58 w' b ∧ w00.grownBy w' (some b) ∧ RowV gp w' 26 [v0, v1, .int .i64 q.state] ∧ RowV rv w' 26 [.slice none 0 0, .slice none 0 0, .int .i64 0] := by
  have hown : ∀ k, vx.ownBlock = some k → C ≤ k := fun k hk => (hx.lt k hk).1
  refine ⟨h.src.kept (hg.block b h.src.lt (fun e => by have := hown b e.symm; omega)) ⟨hg.os, hg.tape, hg.output, hg.size, fun i hi => hg.block i (by have := h.src.lt; have := h.src.base; omega) (fun e => by have := hown i e.symm; have := h.src.base; omega)⟩, ?_, ?_, ?_⟩
  · exact ⟨hg.os.trans h.grown.os, hg.tape.trans h.grown.tape, hg.output.trans h.grown.output, Nat.le_trans h.grown.size hg.size, fun i hi hne => (hg.block i (Nat.lt_of_lt_of_le hi h.grown.size) (fun e => by have := hown i e.symm; omega)).trans (h.grown.block i hi hne)⟩
  · exact h.rp.grown hg (fun k hk => by rintro rfl; exact build_ne hx h.rp (by decide) hk)
  · exact h.rr.grown hg (fun k hk => by rintro rfl; exact build_ne hx h.rr (by decide) hk)
/-- it is handed out -/
theorem PoolG.ret {W W' : World} {s : Nat} (h : PoolG B b (s + 1) gp s v0 v1 q w00 W) (hs : w00.heap.size = s) (hg : W.grownBy W' (some s)) (hlt : b < s) {Q : PoolV → Prop} (hq : Q q) : GaveQ B b Q w00 (.returned (.agg #[v0, v1, .int .i64 q.state])) W' := by
  subst hs
  exact gaveQ_ret h.src h.grown (h.n0.base (Nat.le_succ _)) (h.d0.base (Nat.le_succ _)) h.rr hg hlt hq
end

set_option maxRecDepth 100000 in
set_option maxHeartbeats 8000000 in
theorem specPool8_any (B b : Nat) (w : World) (h : Src B 58 w b) :
    Calls Tryz.prog 13 #[.pointer (some ⟨b, 0, none⟩)] w (GaveQ B b SmallQ w) := by
  have hlt := h.lt
  have HS0 := Lib.hid (h.alloc (.cells #[.slice none 0 0, .slice none 0 0, .int .i64 0] 26))
  have HR0 := Lib.hid (rowV_box w 26 [.slice none 0 0, .slice none 0 0, .int .i64 0])
  have HG0 := Lib.hid (grown_alloc w (.cells #[.slice none 0 0, .slice none 0 0, .int .i64 0] 26) (some b))
  have hsz : (w.alloc (.cells #[.slice none 0 0, .slice none 0 0, .int .i64 0] 26)).heap.size = w.heap.size + 1 := by simp
  clear h
  go_enter Tryz.func13, Tryz.ntmps13
  go_wp2_with fail
  generalize w.alloc (.cells #[.slice none 0 0, .slice none 0 0, .int .i64 0] 26) = w1 at HS0 HR0 HG0 hsz ⊢
  refine (specGood8_any B b w1 HS0.out).mono ?_; rintro e w2 ⟨v0, v1, q, rfl, h0, h1, hq, hS, hg⟩
  rw [hsz] at h0 h1
  obtain ⟨a0, c0, rfl, _⟩ := h0.slice
  obtain ⟨a1, c1, rfl, _⟩ := h1.slice
  have hs2 := hg.size
  have hal := boxed w2 (.cells #[.slice a0 q.nums.length c0, .slice a1 q.drawn.length c1, .int .i64 q.state] 26)
  have hpg : PoolG B b (w.heap.size + 1) w2.heap.size w.heap.size (.slice a0 q.nums.length c0) (.slice a1 q.drawn.length c1) q w (w2.alloc (.cells #[.slice a0 q.nums.length c0, .slice a1 q.drawn.length c1, .int .i64 q.state] 26)) :=
    ⟨src_later8 hS hal, gb_below8 (grown_trans HG0.out hg) hal, rowV_box w2 26 [.slice a0 q.nums.length c0, .slice a1 q.drawn.length c1, .int .i64 q.state], (row_src HR0.out hg (by omega)).below hal, h0.below hal, h1.below hal⟩
  have HP := Lib.hid hpg
  have HQ := Lib.hid (good_small hq)
  have hgp : w.heap.size + 1 ≤ w2.heap.size := by omega
  clear hpg hal h0 h1 hq hS hg HS0 HR0 HG0
  go_wp2_with fail
  obtain ⟨gp, hgpe⟩ : ∃ gp, w2.heap.size = gp := ⟨_, rfl⟩
  rw [hgpe] at HP hgp ⊢
  generalize w2.alloc (.cells #[.slice a0 q.nums.length c0, .slice a1 q.drawn.length c1, .int .i64 q.state] 26) = w3 at HP ⊢
  clear hgpe hs2 hsz
  refine (specNext_any B b 30 w3 (by omega) HP.out.src).mono ?_; rintro e w4 ⟨t, rfl, ht, _, hS, hg⟩
  obtain ⟨l1, u1⟩ := ht (by omega)
  have HP4 := Lib.hid (HP.out.next hS hg (by omega) (by omega) (by omega))
  clear HP hS hg ht
  by_cases t0 : t = 0
  · subst t0
    have hal := boxed w4 (.cells #[.int .i64 1, .int .i64 1] 2)
    have hb2 := BuildI.two (B := w.heap.size + 1) (w := w4) 1 1 (by have := HP4.out.rp.lt; omega)
    have HP5 := Lib.hid (HP4.out.later hal)
    obtain ⟨n4, hn4⟩ : ∃ n4, w4.heap.size = n4 := ⟨_, rfl⟩
    rw [hn4] at hb2
    have HP6 := Lib.hid (HP5.out.stored (q' := ⟨q.nums, [1, 1], q.state⟩) (grown_cell _ gp 1 (.slice (some ⟨n4, 0, none⟩) 2 2)) (HP5.out.rp.put 1 (.slice (some ⟨n4, 0, none⟩) 2 2)) HP5.out.n0 hb2 (by omega) (by omega) (by omega) (by omega))
    have y0 := HP5.out.rp.cell (show _[0]? = some _ from rfl); have y1 := HP5.out.rp.cell (show _[1]? = some _ from rfl); have y2 := HP5.out.rp.cell (show _[2]? = some _ from rfl); have f0 := HP5.out.rp.frozen 0; have f1 := HP5.out.rp.frozen 1; have f2 := HP5.out.rp.frozen 2
    have HQ6 := Lib.hid (show SmallQ ⟨q.nums, [1, 1], q.state⟩ from ⟨HQ.out.1, by simp⟩)
    clear hal hb2 HP4
    have r0 := HP5.out.rr.cell (show _[0]? = some _ from rfl); have r1 := HP5.out.rr.cell (show _[1]? = some _ from rfl); have r2 := HP5.out.rr.cell (show _[2]? = some _ from rfl)
    have k0 := HP5.out.rr.frozen 0; have k1 := HP5.out.rr.frozen 1; have k2 := HP5.out.rr.frozen 2
    have n1 : gp ≠ w.heap.size := by omega
    have n2 : w.heap.size ≠ gp := by omega
    have HF := Lib.hid (PoolG.ret HP6.out rfl (grown_on (grown_on (grown_cell _ w.heap.size 0 (.slice a0 q.nums.length c0)) (grown_cell _ w.heap.size 1 (.slice (some ⟨n4, 0, none⟩) 2 2))) (grown_cell _ w.heap.size 2 (.int .i64 q.state))) hlt HQ6.out)
    clear HP6
    go_wp2_with fail
    (try simp only [Exit.inBlock, Exit.then])
    refine bodyPost_ret (v := .agg #[.slice a0 q.nums.length c0, .slice (some ⟨n4, 0, none⟩) 2 2, .int .i64 q.state]) ?_ rfl HF.out
    rw [Rec.results_cell1 rfl]
    go_simp
  by_cases t1 : t = 1
  · subst t1
    go_wp2_with fail
    refine (specL03State_any B b w4 HP4.out.src).mono ?_; rintro e w5 ⟨x, rfl, hS, hg⟩
    have HP5 := Lib.hid (HP4.out.next hS hg (by omega) (by omega) (by omega))
    have HP6 := Lib.hid (HP5.out.stored (q' := ⟨q.nums, q.drawn, x⟩) (grown_cell _ gp 2 (.int .i64 x)) (HP5.out.rp.put 2 (.int .i64 x)) HP5.out.n0 HP5.out.d0 (by omega) (by omega) (by omega) (by omega))
    have y0 := HP5.out.rp.cell (show _[0]? = some _ from rfl); have y1 := HP5.out.rp.cell (show _[1]? = some _ from rfl); have y2 := HP5.out.rp.cell (show _[2]? = some _ from rfl); have f0 := HP5.out.rp.frozen 0; have f1 := HP5.out.rp.frozen 1; have f2 := HP5.out.rp.frozen 2
    have HQ6 := Lib.hid (show SmallQ ⟨q.nums, q.drawn, x⟩ from HQ.out)
    clear hS hg HP4
    have r0 := HP5.out.rr.cell (show _[0]? = some _ from rfl); have r1 := HP5.out.rr.cell (show _[1]? = some _ from rfl); have r2 := HP5.out.rr.cell (show _[2]? = some _ from rfl)
    have k0 := HP5.out.rr.frozen 0; have k1 := HP5.out.rr.frozen 1; have k2 := HP5.out.rr.frozen 2
    have n1 : gp ≠ w.heap.size := by omega
    have n2 : w.heap.size ≠ gp := by omega
    have HF := Lib.hid (PoolG.ret HP6.out rfl (grown_on (grown_on (grown_cell _ w.heap.size 0 (.slice a0 q.nums.length c0)) (grown_cell _ w.heap.size 1 (.slice a1 q.drawn.length c1))) (grown_cell _ w.heap.size 2 (.int .i64 x))) hlt HQ6.out)
    clear HP6
    go_wp2_with fail
    (try simp only [Exit.inBlock, Exit.then])
    refine bodyPost_ret (v := .agg #[.slice a0 q.nums.length c0, .slice a1 q.drawn.length c1, .int .i64 x]) ?_ rfl HF.out
    rw [Rec.results_cell1 rfl]
    go_simp
  by_cases t2 : t = 2
  · subst t2
    have hal := boxed w4 (.cells #[.int .i64 0, .int .i64 1000000, .int .i64 1000001] 2)
    have HP5 := Lib.hid (HP4.out.later hal)
    have hne4 : w4.heap.size ≠ b := by have := HP4.out.src.lt; omega
    go_wp2_with fail
    refine (specPick_any B b w4.heap.size [0, 1000000, 1000001] 3 3 _ rfl (by omega) (by omega) HP5.out.src hne4 (alloc_ints w4 _ _)).mono ?_
    rintro e w5 ⟨x, rfl, hx, hS, hg⟩
    have hp5 := HP5.out.next hS hg (by omega) (by omega) (by omega)
    have hal5 := boxed w5 (.cells #[.int .i64 x] 2)
    have hb1 := BuildI.one (B := w.heap.size + 1) (w := w5) x (by have := hp5.rp.lt; omega)
    have HP5b := Lib.hid (hp5.later hal5)
    obtain ⟨n5, hn5⟩ : ∃ n5, w5.heap.size = n5 := ⟨_, rfl⟩
    rw [hn5] at hb1
    have HP6 := Lib.hid (HP5b.out.stored (q' := ⟨[x], q.drawn, q.state⟩) (grown_cell _ gp 0 (.slice (some ⟨n5, 0, none⟩) 1 1)) (HP5b.out.rp.put 0 (.slice (some ⟨n5, 0, none⟩) 1 1)) hb1 HP5b.out.d0 (by omega) (by omega) (by omega) (by omega))
    have y0 := HP5b.out.rp.cell (show _[0]? = some _ from rfl); have y1 := HP5b.out.rp.cell (show _[1]? = some _ from rfl); have y2 := HP5b.out.rp.cell (show _[2]? = some _ from rfl); have f0 := HP5b.out.rp.frozen 0; have f1 := HP5b.out.rp.frozen 1; have f2 := HP5b.out.rp.frozen 2
    have HQ6 := Lib.hid (show SmallQ ⟨[x], q.drawn, q.state⟩ from ⟨by simp, HQ.out.2⟩)
    clear hal hal5 hb1 HP4 hS hg hx hp5 HP5
    have r0 := HP5b.out.rr.cell (show _[0]? = some _ from rfl); have r1 := HP5b.out.rr.cell (show _[1]? = some _ from rfl); have r2 := HP5b.out.rr.cell (show _[2]? = some _ from rfl)
    have k0 := HP5b.out.rr.frozen 0; have k1 := HP5b.out.rr.frozen 1; have k2 := HP5b.out.rr.frozen 2
    have n1 : gp ≠ w.heap.size := by omega
    have n2 : w.heap.size ≠ gp := by omega
    have HF := Lib.hid (PoolG.ret HP6.out rfl (grown_on (grown_on (grown_cell _ w.heap.size 0 (.slice (some ⟨n5, 0, none⟩) 1 1)) (grown_cell _ w.heap.size 1 (.slice a1 q.drawn.length c1))) (grown_cell _ w.heap.size 2 (.int .i64 q.state))) hlt HQ6.out)
    clear HP6
    go_wp2_with fail
    (try simp only [Exit.inBlock, Exit.then])
    refine bodyPost_ret (v := .agg #[.slice (some ⟨n5, 0, none⟩) 1 1, .slice a1 q.drawn.length c1, .int .i64 q.state]) ?_ rfl HF.out
    rw [Rec.results_cell1 rfl]
    go_simp
  by_cases t3 : t = 3
  · subst t3
    have y0 := HP4.out.rp.cell (show _[0]? = some _ from rfl); have y1 := HP4.out.rp.cell (show _[1]? = some _ from rfl); have y2 := HP4.out.rp.cell (show _[2]? = some _ from rfl); have f0 := HP4.out.rp.frozen 0; have f1 := HP4.out.rp.frozen 1; have f2 := HP4.out.rp.frozen 2
    have HP6 := Lib.hid (HP4.out.stored (q' := ⟨[], [], 77⟩) (grown_on (grown_on (grown_cell w4 gp 0 (.slice none 0 0)) (grown_cell _ gp 1 (.slice none 0 0))) (grown_cell _ gp 2 (.int .i64 77))) (((HP4.out.rp.put 0 (.slice none 0 0)).put 1 (.slice none 0 0)).put 2 (.int .i64 77)) (BuildI.nil _ _) (BuildI.nil _ _) (by omega) (by omega) (by omega) (by omega))
    go_wp2
    generalize ((w4.setCell ⟨gp, 0, none⟩ (.slice none 0 0)).setCell ⟨gp, 1, none⟩ (.slice none 0 0)).setCell ⟨gp, 2, none⟩ (.int .i64 77) = w6 at HP6 ⊢
    clear y0 y1 y2 f0 f1 f2 HP4
    go_loopw [4] (fun kv wr => ∃ (zs : List Int) (v : Value), kv = .int .i64 ((zs.length : Int) + 1) ∧ zs.length ≤ 61 ∧ PoolG B b (w.heap.size + 1) gp w.heap.size v (.slice none 0 0) ⟨zs, [], 77⟩ w wr) (fun kv _ => (62 - intOf kv).toNat)
    case atStart => exact ⟨[], _, rfl, by simp, HP6.out⟩
    case round =>
      obtain ⟨zs, v, rfl, hz, hpg⟩ := hrel
      have HPR := Lib.hid hpg
      clear hpg HP6
      go_wp2_with fail
      refine (specNext_any B b 2 _ (by omega) HPR.out.src).mono ?_; rintro e w7 ⟨x, rfl, hx, _, hS, hg⟩
      obtain ⟨l2, u2⟩ := hx (by omega)
      have q1 : IntKind.i64.wrap (60 + x) = 60 + x := IntWalk.i64_in _ (by omega)
      have hp7 := HPR.out.next hS hg (by omega) (by omega) (by omega)
      obtain ⟨av, cv, rfl, _⟩ := hp7.n0.slice
      have HP7 := Lib.hid hp7
      clear hS hg hx hp7 HPR
      by_cases hle : (zs.length : Int) + 1 ≤ 60 + x
      · have q2 : IntKind.i64.wrap ((zs.length : Int) + 1 + 1) = (zs.length : Int) + 1 + 1 := IntWalk.i64_in _ (by omega)
        have y0 := HP7.out.rp.cell (show _[0]? = some _ from rfl)
        have HP8 := Lib.hid (HP7.out.later (boxed w7 (.cells #[.int .i64 ((zs.length : Int) + 1)] 2)))
        go_wp2_with (at_builtin; refine wpList_int_append (B := w.heap.size + 1) rfl _ _ rfl _ _ rfl HP8.out.n0 _ ((zs.length : Int) + 1) rfl (BuildI.lit1 _ _ _) (by show zs.length ≤ 1000000; omega) (by have := HP8.out.rp.lt; omega) ?_)
        intro v' w9 h1 h2
        obtain ⟨hs9, hg9, hr9, hrr9⟩ := HP8.out.appended HP8.out.n0 h2 (by omega) (by omega)
        obtain ⟨ax, cx, rfl, _⟩ := h1.slice
        have hpg9 : PoolG B b (w.heap.size + 1) gp w.heap.size (.slice ax (zs ++ [(zs.length : Int) + 1]).length cx) (.slice none 0 0) ⟨zs ++ [(zs.length : Int) + 1], [], 77⟩ w (w9.setCell ⟨gp, 0, none⟩ (.slice ax (zs ++ [(zs.length : Int) + 1]).length cx)) := by
          have hgc := grown_cell w9 gp 0 (.slice ax (zs ++ [(zs.length : Int) + 1]).length cx)
          exact ⟨src_own8 hs9 hgc (by omega) (by have := hs9.base; omega), gb_own8 hg9 hgc (by omega), hr9.put 0 _, hrr9.grown hgc (fun k e => by cases e; omega), h1.kept hgc (fun k hk e => build_ne h1 hr9 (by decide) (by rw [hk, e])), BuildI.nil _ _⟩
        rw [show (zs ++ [(zs.length : Int) + 1]).length = zs.length + 1 by simp] at hpg9
        have HP9 := Lib.hid hpg9
        have z0 := hr9.cell (show _[0]? = some _ from rfl)
        have g0 := hr9.frozen 0
        clear h1 h2 hs9 hg9 hr9 hrr9 hpg9 y0 HP8 HP7
        go_wp2_with fail
        go_roundw
        case rel => exact ⟨zs ++ [(zs.length : Int) + 1], _, by simp, by simp; omega, HP9.out⟩
        case measure => simp [intOf]; omega
      · have HQ6 := Lib.hid (show SmallQ ⟨zs, [], 77⟩ from ⟨hz, by simp⟩)
        have r0 := HP7.out.rr.cell (show _[0]? = some _ from rfl); have r1 := HP7.out.rr.cell (show _[1]? = some _ from rfl); have r2 := HP7.out.rr.cell (show _[2]? = some _ from rfl)
        have f0 := HP7.out.rr.frozen 0; have f1 := HP7.out.rr.frozen 1; have f2 := HP7.out.rr.frozen 2
        have y0 := HP7.out.rp.cell (show _[0]? = some _ from rfl); have y1 := HP7.out.rp.cell (show _[1]? = some _ from rfl); have y2 := HP7.out.rp.cell (show _[2]? = some _ from rfl)
        have HF := Lib.hid (PoolG.ret HP7.out rfl (grown_on (grown_on (grown_cell w7 w.heap.size 0 (.slice av zs.length cv)) (grown_cell _ w.heap.size 1 (.slice none 0 0))) (grown_cell _ w.heap.size 2 (.int .i64 77))) hlt HQ6.out)
        go_wp2_with fail
        (try simp only [Exit.inBlock, Exit.then])
        refine bodyPost_ret (v := .agg #[.slice av zs.length cv, .slice none 0 0, .int .i64 77]) ?_ rfl HF.out
        rw [Rec.results_cell1 rfl]
        go_simp
  · 
    have r0 := HP4.out.rr.cell (show _[0]? = some _ from rfl); have r1 := HP4.out.rr.cell (show _[1]? = some _ from rfl); have r2 := HP4.out.rr.cell (show _[2]? = some _ from rfl)
    have f0 := HP4.out.rr.frozen 0; have f1 := HP4.out.rr.frozen 1; have f2 := HP4.out.rr.frozen 2
    have y0 := HP4.out.rp.cell (show _[0]? = some _ from rfl); have y1 := HP4.out.rp.cell (show _[1]? = some _ from rfl); have y2 := HP4.out.rp.cell (show _[2]? = some _ from rfl)
    have HF := Lib.hid (PoolG.ret HP4.out rfl (grown_on (grown_on (grown_cell w4 w.heap.size 0 (.slice a0 q.nums.length c0)) (grown_cell _ w.heap.size 1 (.slice a1 q.drawn.length c1))) (grown_cell _ w.heap.size 2 (.int .i64 q.state))) hlt HQ.out)
    go_wp2_with fail
    (try simp only [Exit.inBlock, Exit.then])
    refine bodyPost_ret (v := .agg #[.slice a0 q.nums.length c0, .slice a1 q.drawn.length c1, .int .i64 q.state]) ?_ rfl HF.out
    rw [Rec.results_cell1 rfl]
    go_simp

end Go.Proofs.YtjnicmlomjppnaaGreatDoor
