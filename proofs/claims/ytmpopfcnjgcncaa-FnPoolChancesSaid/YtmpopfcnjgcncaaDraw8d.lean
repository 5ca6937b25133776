/- Contracts: the drawing functions of chapter 8 that draw pools, numbers and lists. -/
import Derived.Test.YtmpopfcnjgcncaaChecked
import Derived.Test.YtmpopfcnjgcncaaBase
import Derived.Test.YtmpopfcnjgcncaaInfo
import Derived.Test.YtmpopfcnjgcncaaPure6
import Derived.Test.YtmpopfcnjgcncaaNext
import Derived.Test.YtmpopfcnjgcncaaPick
import Derived.Test.YtmpopfcnjgcncaaPure40
import Derived.Test.YtmpopfcnjgcncaaPure80
import Derived.Test.YtmpopfcnjgcncaaPure85
import Derived.Test.YtmpopfcnjgcncaaIntL
import Derived.Test.YtmpopfcnjgcncaaBuildI
import Derived.Test.YtmpopfcnjgcncaaBuild8
import Derived.Test.YtmpopfcnjgcncaaRowV
import Derived.Test.YtmpopfcnjgcncaaPoolA
import Derived.Test.YtmpopfcnjgcncaaTake8
import Derived.Test.YtmpopfcnjgcncaaStat8
import Derived.Test.YtmpopfcnjgcncaaDraw8a
import Derived.Test.YtmpopfcnjgcncaaFrom
import Derived.Test.YtmpopfcnjgcncaaDraw8b
import Derived.Test.YtmpopfcnjgcncaaDraw8c
import Derived.Deep.RegionHeld3
import Derived.WalkKit
import Derived.WalkSpells
import Derived.WalkLawsBesides
import Derived.Lib.Hide
import Derived.IntWalk
import Derived.Deep.OwnRows
import Derived.OwnWalk
import Derived.Outline
namespace Go.Proofs.Ytmpopfcnjgcncaa
open Go.RowKit Pure1 Pure2 Pure6 Pure30 Pure40 Pure60 Pure80 Pure85 Rec

theorem grownBy_of_below {w w' : World} {r : Option Nat} (h : Below w.heap.size w w') : w.grownBy w' r := ⟨h.os, h.tape, h.output, h.size, fun k hk _ => h.block k hk⟩

set_option maxRecDepth 100000 in
set_option maxHeartbeats 8000000 in
theorem specDrawChanceOf_any (a : Option Addr) (len cap : Nat) (bs : List Int) (w : World) (hl : bs.length = len) (hm : len ≤ 4096) (h : BytesAt w.heap.size w a bs) :
    Calls Try.prog 31 #[.slice a len cap] w (DrewPK w) := by
  have hal := boxed w (.cells #[.slice none 0 0, .slice none 0 0, .int .i64 0] 26)
  have HF := Lib.hid (specFrom_any a len cap bs _ hl hm (h.later hal))
  have HY := Lib.hid (h.later hal)
  have HL := Lib.hid hl
  have HR0 := Lib.hid (rowV_box w 26 [.slice none 0 0, .slice none 0 0, .int .i64 0])
  have HB0 := Lib.hid hal
  have hsz : (w.alloc (.cells #[.slice none 0 0, .slice none 0 0, .int .i64 0] 26)).heap.size = w.heap.size + 1 := by simp
  clear h hal hl
  go_enter Try.func31, Try.ntmps31
  go_wp2_with fail
  generalize w.alloc (.cells #[.slice none 0 0, .slice none 0 0, .int .i64 0] 26) = w1 at HF HY HR0 HB0 hsz ⊢
  refine HF.out.mono ?_; rintro e w2 ⟨b, rfl, hS, hB⟩
  have HY2 := Lib.hid (HY.out.later hB)
  rw [hsz] at hS hB
  have hbb := hS.base; have hbs := hS.lt
  have HR2 := Lib.hid (HR0.out.below (by rw [hsz]; exact hB))
  have HB2 := Lib.hid (HB0.out.trans (hB.mono (Nat.le_succ _)))
  have HS2 := Lib.hid hS
  clear hB hS HF HR0 HB0 HY
  go_wp2_with fail
  refine (specDrawTakeFrom_any a len cap bs w2 HL.out hm HY2.out).mono ?_; rintro e w3 ⟨v0, v1, q, x0, rfl, h0, h1, hq, hB3⟩
  obtain ⟨a0, c0, rfl, _⟩ := h0.slice
  obtain ⟨a1, c1, rfl, _⟩ := h1.slice
  have hs2 := HB2.out.size; have hs3 := hB3.size
  have hal := boxed w3 (.cells #[.slice a0 q.nums.length c0, .slice a1 q.drawn.length c1, .int .i64 q.state] 26)
  have hpg : PoolG (w.heap.size + 1) b w2.heap.size w3.heap.size w.heap.size (.slice a0 q.nums.length c0) (.slice a1 q.drawn.length c1) q w2 (w3.alloc (.cells #[.slice a0 q.nums.length c0, .slice a1 q.drawn.length c1, .int .i64 q.state] 26)) :=
    ⟨src_later8 (src_later8 HS2.out hB3) hal, grownBy_of_below (hB3.trans (hal.mono hs3)), rowV_box w3 26 [.slice a0 q.nums.length c0, .slice a1 q.drawn.length c1, .int .i64 q.state], (HR2.out.below hB3).below hal, h0.below hal, h1.below hal⟩
  have HP := Lib.hid hpg
  have HQ := Lib.hid hq
  clear hpg hal h0 h1 hq hB3 HS2 HR2
  go_wp2_with fail
  obtain ⟨gp, hgpe⟩ : ∃ gp, w3.heap.size = gp := ⟨_, rfl⟩
  rw [hgpe] at HP hs3 ⊢
  generalize w3.alloc (.cells #[.slice a0 q.nums.length c0, .slice a1 q.drawn.length c1, .int .i64 q.state] 26) = w4 at HP ⊢
  clear hgpe
  have n1 : gp ≠ w.heap.size := by omega
  have n2 : w.heap.size ≠ gp := by omega
  have HPd := Lib.hid (HP.out.later (Below.refl _ _).drew)
  clear HP
  go_region_held3 (fun W => W.cell? ⟨gp, 0, none⟩ = some (.slice a0 q.nums.length c0) ∧ W.cell? ⟨gp, 1, none⟩ = some (.slice a1 q.drawn.length c1) ∧ W.cell? ⟨gp, 2, none⟩ = some (.int .i64 q.state)) (first | exact HPd.out.box | exact (HPd.out.later (boxed w4.drew _)).box | exact HP7.out.box | (obtain ⟨z0, z1, z2⟩ := HP7.out.box; go_simp)) (first | (go_at_call 47; refine (specPick_any (w.heap.size + 1) b w4.drew.heap.size [x0, x0, x0, 60, 61] 5 5 _ rfl (by omega) (by omega) (HPd.out.later (boxed w4.drew _)).src (by have := HPd.out.src.lt; omega) (alloc_ints w4.drew _ _)).mono ?_; rintro e w7 ⟨x7, rfl, _, hS7, hg7⟩; have HP7 := Lib.hid ((HPd.out.later (boxed w4.drew _)).next hS7 hg7 (by omega) (by omega) (by omega)); have r0 := HP7.out.rr.cell (show _[0]? = some _ from rfl); have r1 := HP7.out.rr.cell (show _[1]? = some _ from rfl); have r2 := HP7.out.rr.cell (show _[2]? = some _ from rfl); have k0 := HP7.out.rr.frozen 0; have k1 := HP7.out.rr.frozen 1; have k2 := HP7.out.rr.frozen 2))
  have hgw := grown_on (grown_on (grown_cell w7 w.heap.size 0 (.slice a0 q.nums.length c0)) (grown_cell _ w.heap.size 1 (.slice a1 q.drawn.length c1))) (grown_cell _ w.heap.size 2 (.int .i64 q.state))
  have HF := Lib.hid (HP7.out.handed HB2.out rfl (by omega) hgw (by omega))
  clear hgw HPd HP7
  go_wp2_with fail
  (try simp only [Exit.inBlock, Exit.then])
  refine bodyPost_ret (v := .tuple #[.agg #[.slice a0 q.nums.length c0, .slice a1 q.drawn.length c1, .int .i64 q.state], .int .i64 x7]) ?_ rfl ?_
  · rw [Rec.results_cell_tmp rfl]
    go_simp
  · exact ⟨_, _, q, x7, rfl, HF.out.1, HF.out.2.1, HQ.out, HF.out.2.2⟩

set_option maxRecDepth 100000 in
set_option maxHeartbeats 8000000 in
theorem specDrawMakePool_any (a : Option Addr) (len cap : Nat) (bs : List Int) (w : World) (hl : bs.length = len) (hm : len ≤ 4096) (h : BytesAt w.heap.size w a bs) :
    Calls Try.prog 19 #[.slice a len cap] w (DrewLK w) := by
  have HF := Lib.hid (specFrom_any a len cap bs w hl hm h); clear h hl
  go_enter Try.func19, Try.ntmps19
  go_wp2_with fail
  refine HF.out.mono ?_; rintro e w2 ⟨b, rfl, hS, hB⟩
  have hbb := hS.base; have hbs := hS.lt; have hs2 := hB.size
  have HB2 := Lib.hid hB
  have HS2 := Lib.hid hS
  clear hB hS HF
  go_wp2_with fail
  refine (specPool8_any w.heap.size b w2 HS2.out).mono ?_; rintro e w3 ⟨v0, v1, q, rfl, h0, h1, hq, hS, hg⟩
  obtain ⟨a0, c0, rfl, _⟩ := h0.slice
  obtain ⟨a1, c1, rfl, _⟩ := h1.slice
  have hs3 := hg.size
  have hal := (boxed w3 (.cells #[.slice a0 q.nums.length c0, .slice a1 q.drawn.length c1, .int .i64 q.state] 26)).drew
  have HS4 := Lib.hid (src_later8 hS hal)
  have HG4 := Lib.hid (gb_below8 hg hal)
  have HR4 := Lib.hid ((rowV_box w3 26 [.slice a0 q.nums.length c0, .slice a1 q.drawn.length c1, .int .i64 q.state]).below (Below.refl _ _).drew)
  have HO4 := Lib.hid (h0.below hal)
  have HQ := Lib.hid hq
  clear hal h0 h1 hq hS hg HS2
  go_wp2_with fail
  obtain ⟨gp, hgpe⟩ : ∃ gp, w3.heap.size = gp := ⟨_, rfl⟩
  rw [hgpe] at HR4 hs3 ⊢
  generalize w3.alloc (.cells #[.slice a0 q.nums.length c0, .slice a1 q.drawn.length c1, .int .i64 q.state] 26) = w4 at HS4 HG4 HR4 HO4 ⊢
  clear hgpe
  have HC := Lib.hid (specL03State_any w.heap.size b w4.drew HS4.out)
  go_region_held3 (fun W => W.cell? ⟨gp, 0, none⟩ = some (.slice a0 q.nums.length c0)) (first | exact HR4.out.cell (show _[0]? = some _ from rfl) | exact (row_src HR4.out hg5 (by omega)).cell (show _[0]? = some _ from rfl)) (first | (go_at_call 54; refine HC.out.mono ?_; rintro e w5 ⟨x5, rfl, hS5, hg5⟩))
  have HF := Lib.hid (show DrewLK w (.returned (.tuple #[.slice a0 q.nums.length c0, .int .i64 x5])) w5 from ⟨_, q.nums, x5, rfl, (build_src HO4.out hg5 hbs).base hs2, HQ.out.1, HB2.out.trans (grown_below (grown_trans HG4.out hg5) hbb hs2)⟩)
  clear hS5 hg5 HC HR4 HS4 HG4 HO4
  go_wp2_with fail
  go_ret2
  exact HF.out
end Go.Proofs.Ytmpopfcnjgcncaa
