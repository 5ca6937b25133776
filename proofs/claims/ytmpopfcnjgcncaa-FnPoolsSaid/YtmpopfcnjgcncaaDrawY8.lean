/- Merged: the texts Draw8d Draw8e Draw8f, in their order. -/
import Derived.Test.YtmpopfcnjgcncaaChecked
import Derived.Test.YtmpopfcnjgcncaaBase
import Derived.Test.YtmpopfcnjgcncaaInfo
import Derived.Test.YtmpopfcnjgcncaaPure6
import Derived.Test.YtmpopfcnjgcncaaNext
import Derived.Test.YtmpopfcnjgcncaaPick
import Derived.Test.YtmpopfcnjgcncaaPure40
import Derived.Test.YtmpopfcnjgcncaaPure80
import Derived.Test.YtmpopfcnjgcncaaPure85
import Derived.Test.YtmpopfcnjgcncaaIntL
import Derived.Test.YtmpopfcnjgcncaaBuildI
import Derived.Test.YtmpopfcnjgcncaaBuild8
import Derived.Test.YtmpopfcnjgcncaaRowV
import Derived.Test.YtmpopfcnjgcncaaPoolA
import Derived.Test.YtmpopfcnjgcncaaTake8
import Derived.Test.YtmpopfcnjgcncaaDrawX8
import Derived.Test.YtmpopfcnjgcncaaFrom
import Derived.Deep.RegionHeld3
import Derived.WalkKit
import Derived.WalkSpells
import Derived.WalkLawsBesides
import Derived.Lib.Hide
import Derived.IntWalk
import Derived.Deep.OwnRows
import Derived.OwnWalk
import Derived.Outline
import Derived.Test.YtmpopfcnjgcncaaSpec82
import Derived.RegionTactic
/- Contracts: the drawing functions of chapter 8 that draw pools, numbers and lists. -/
namespace Go.Proofs.Ytmpopfcnjgcncaa
open Go.RowKit Pure1 Pure2 Pure6 Pure30 Pure40 Pure60 Pure80 Pure85 Rec

theorem grownBy_of_below {w w' : World} {r : Option Nat} (h : Below w.heap.size w w') : w.grownBy w' r := ⟨h.os, h.tape, h.output, h.size, fun k hk _ => h.block k hk⟩

set_option maxRecDepth 100000 in
set_option maxHeartbeats 8000000 in
theorem specDrawChanceOf_any (a : Option Addr) (len cap : Nat) (bs : List Int) (w : World) (hl : bs.length = len) (hm : len ≤ 4096) (h : BytesAt w.heap.size w a bs) :
    Calls Try.prog 31 #[.slice a len cap] w (DrewPK w) := by
  have hal := boxed w (.cells #[.slice none 0 0, .slice none 0 0, .int .i64 0] 26)
  have HF := Lib.hid (specFrom_any a len cap bs _ hl hm (h.later hal))
  have HY := Lib.hid (h.later hal)
  have HL := Lib.hid hl
  have HR0 := Lib.hid (rowV_box w 26 [.slice none 0 0, .slice none 0 0, .int .i64 0])
  have HB0 := Lib.hid hal
  have hsz : (w.alloc (.cells #[.slice none 0 0, .slice none 0 0, .int .i64 0] 26)).heap.size = w.heap.size + 1 := by simp
  clear h hal hl
  go_enter Try.func31, Try.ntmps31
  go_wp2_with fail
  generalize w.alloc (.cells #[.slice none 0 0, .slice none 0 0, .int .i64 0] 26) = w1 at HF HY HR0 HB0 hsz ⊢
  refine HF.out.mono ?_; rintro e w2 ⟨b, rfl, hS, hB⟩
  have HY2 := Lib.hid (HY.out.later hB)
  rw [hsz] at hS hB
  have hbb := hS.base; have hbs := hS.lt
  have HR2 := Lib.hid (HR0.out.below (by rw [hsz]; exact hB))
  have HB2 := Lib.hid (HB0.out.trans (hB.mono (Nat.le_succ _)))
  have HS2 := Lib.hid hS
  clear hB hS HF HR0 HB0 HY
  go_wp2_with fail
  refine (specDrawTakeFrom_any a len cap bs w2 HL.out hm HY2.out).mono ?_; rintro e w3 ⟨v0, v1, q, x0, rfl, h0, h1, hq, hB3⟩
  obtain ⟨a0, c0, rfl, _⟩ := h0.slice
  obtain ⟨a1, c1, rfl, _⟩ := h1.slice
  have hs2 := HB2.out.size; have hs3 := hB3.size
  have hal := boxed w3 (.cells #[.slice a0 q.nums.length c0, .slice a1 q.drawn.length c1, .int .i64 q.state] 26)
  have hpg : PoolG (w.heap.size + 1) b w2.heap.size w3.heap.size w.heap.size (.slice a0 q.nums.length c0) (.slice a1 q.drawn.length c1) q w2 (w3.alloc (.cells #[.slice a0 q.nums.length c0, .slice a1 q.drawn.length c1, .int .i64 q.state] 26)) :=
    ⟨src_later8 (src_later8 HS2.out hB3) hal, grownBy_of_below (hB3.trans (hal.mono hs3)), rowV_box w3 26 [.slice a0 q.nums.length c0, .slice a1 q.drawn.length c1, .int .i64 q.state], (HR2.out.below hB3).below hal, h0.below hal, h1.below hal⟩
  have HP := Lib.hid hpg
  have HQ := Lib.hid hq
  clear hpg hal h0 h1 hq hB3 HS2 HR2
  go_wp2_with fail
  obtain ⟨gp, hgpe⟩ : ∃ gp, w3.heap.size = gp := ⟨_, rfl⟩
  rw [hgpe] at HP hs3 ⊢
  generalize w3.alloc (.cells #[.slice a0 q.nums.length c0, .slice a1 q.drawn.length c1, .int .i64 q.state] 26) = w4 at HP ⊢
  clear hgpe
  have n1 : gp ≠ w.heap.size := by omega
  have n2 : w.heap.size ≠ gp := by omega
  have HPd := Lib.hid (HP.out.later (Below.refl _ _).drew)
  clear HP
  go_region_held3 (fun W => W.cell? ⟨gp, 0, none⟩ = some (.slice a0 q.nums.length c0) ∧ W.cell? ⟨gp, 1, none⟩ = some (.slice a1 q.drawn.length c1) ∧ W.cell? ⟨gp, 2, none⟩ = some (.int .i64 q.state)) (first | exact HPd.out.box | exact (HPd.out.later (boxed w4.drew _)).box | exact HP7.out.box | (obtain ⟨z0, z1, z2⟩ := HP7.out.box; go_simp)) (first | (go_at_call 47; refine (specPick_any (w.heap.size + 1) b w4.drew.heap.size [x0, x0, x0, 60, 61] 5 5 _ rfl (by omega) (by omega) (HPd.out.later (boxed w4.drew _)).src (by have := HPd.out.src.lt; omega) (alloc_ints w4.drew _ _)).mono ?_; rintro e w7 ⟨x7, rfl, _, hS7, hg7⟩; have HP7 := Lib.hid ((HPd.out.later (boxed w4.drew _)).next hS7 hg7 (by omega) (by omega) (by omega)); have r0 := HP7.out.rr.cell (show _[0]? = some _ from rfl); have r1 := HP7.out.rr.cell (show _[1]? = some _ from rfl); have r2 := HP7.out.rr.cell (show _[2]? = some _ from rfl); have k0 := HP7.out.rr.frozen 0; have k1 := HP7.out.rr.frozen 1; have k2 := HP7.out.rr.frozen 2))
  have hgw := grown_on (grown_on (grown_cell w7 w.heap.size 0 (.slice a0 q.nums.length c0)) (grown_cell _ w.heap.size 1 (.slice a1 q.drawn.length c1))) (grown_cell _ w.heap.size 2 (.int .i64 q.state))
  have HF := Lib.hid (HP7.out.handed HB2.out rfl (by omega) hgw (by omega))
  clear hgw HPd HP7
  go_wp2_with fail
  (try simp only [Exit.inBlock, Exit.then])
  refine bodyPost_ret (v := .tuple #[.agg #[.slice a0 q.nums.length c0, .slice a1 q.drawn.length c1, .int .i64 q.state], .int .i64 x7]) ?_ rfl ?_
  · rw [Rec.results_cell_tmp rfl]
    go_simp
  · exact ⟨_, _, q, x7, rfl, HF.out.1, HF.out.2.1, HQ.out, HF.out.2.2⟩

set_option maxRecDepth 100000 in
set_option maxHeartbeats 8000000 in
theorem specDrawMakePool_any (a : Option Addr) (len cap : Nat) (bs : List Int) (w : World) (hl : bs.length = len) (hm : len ≤ 4096) (h : BytesAt w.heap.size w a bs) :
    Calls Try.prog 19 #[.slice a len cap] w (DrewLK w) := by
  have HF := Lib.hid (specFrom_any a len cap bs w hl hm h); clear h hl
  go_enter Try.func19, Try.ntmps19
  go_wp2_with fail
  refine HF.out.mono ?_; rintro e w2 ⟨b, rfl, hS, hB⟩
  have hbb := hS.base; have hbs := hS.lt; have hs2 := hB.size
  have HB2 := Lib.hid hB
  have HS2 := Lib.hid hS
  clear hB hS HF
  go_wp2_with fail
  refine (specPool8_any w.heap.size b w2 HS2.out).mono ?_; rintro e w3 ⟨v0, v1, q, rfl, h0, h1, hq, hS, hg⟩
  obtain ⟨a0, c0, rfl, _⟩ := h0.slice
  obtain ⟨a1, c1, rfl, _⟩ := h1.slice
  have hs3 := hg.size
  have hal := (boxed w3 (.cells #[.slice a0 q.nums.length c0, .slice a1 q.drawn.length c1, .int .i64 q.state] 26)).drew
  have HS4 := Lib.hid (src_later8 hS hal)
  have HG4 := Lib.hid (gb_below8 hg hal)
  have HR4 := Lib.hid ((rowV_box w3 26 [.slice a0 q.nums.length c0, .slice a1 q.drawn.length c1, .int .i64 q.state]).below (Below.refl _ _).drew)
  have HO4 := Lib.hid (h0.below hal)
  have HQ := Lib.hid hq
  clear hal h0 h1 hq hS hg HS2
  go_wp2_with fail
  obtain ⟨gp, hgpe⟩ : ∃ gp, w3.heap.size = gp := ⟨_, rfl⟩
  rw [hgpe] at HR4 hs3 ⊢
  generalize w3.alloc (.cells #[.slice a0 q.nums.length c0, .slice a1 q.drawn.length c1, .int .i64 q.state] 26) = w4 at HS4 HG4 HR4 HO4 ⊢
  clear hgpe
  have HC := Lib.hid (specL03State_any w.heap.size b w4.drew HS4.out)
  go_region_held3 (fun W => W.cell? ⟨gp, 0, none⟩ = some (.slice a0 q.nums.length c0)) (first | exact HR4.out.cell (show _[0]? = some _ from rfl) | exact (row_src HR4.out hg5 (by omega)).cell (show _[0]? = some _ from rfl)) (first | (go_at_call 54; refine HC.out.mono ?_; rintro e w5 ⟨x5, rfl, hS5, hg5⟩))
  have HF := Lib.hid (show DrewLK w (.returned (.tuple #[.slice a0 q.nums.length c0, .int .i64 x5])) w5 from ⟨_, q.nums, x5, rfl, (build_src HO4.out hg5 hbs).base hs2, HQ.out.1, HB2.out.trans (grown_below (grown_trans HG4.out hg5) hbb hs2)⟩)
  clear hS5 hg5 HC HR4 HS4 HG4 HO4
  go_wp2_with fail
  go_ret2
  exact HF.out
end Go.Proofs.Ytmpopfcnjgcncaa
/- Contracts: the drawing functions of chapter 8, second half: DrawPutBack and DrawIsReplay. -/
namespace Go.Proofs.Ytmpopfcnjgcncaa
open Go.RowKit Pure1 Pure2 Pure6 Pure30 Pure40 Pure60 Pure80 Pure85 Rec

theorem PoolG.grew {B b C gp rv D : Nat} {v0 v1 v2 : Value} {zs : List Int} {q : PoolV} {w00 W W' : World} (h : PoolG B b C gp rv v0 v1 q w00 W) (h2 : BuildI D W v2 zs) (hg : W.grownBy W' v2.ownBlock) (hb : b < C) (hw : w00.heap.size ≤ C) (hCD : C ≤ D)
    (k0 : ∀ k, v0.ownBlock = some k → k < D) (k1 : ∀ k, v1.ownBlock = some k → k < D) : PoolG B b C gp rv v0 v1 q w00 W' := by
  obtain ⟨hs, hg2, hr, hrr⟩ := h.appended (h2.base hCD) hg hb hw
  exact ⟨hs, hg2, hr, hrr, h.n0.kept hg (fun k hk e => by have := k0 k hk; have := (h2.lt k e).1; omega), h.d0.kept hg (fun k hk e => by have := k1 k hk; have := (h2.lt k e).1; omega)⟩

set_option maxRecDepth 100000 in
set_option maxHeartbeats 8000000 in
theorem specDrawPutBack_any (a : Option Addr) (len cap : Nat) (bs : List Int) (w : World) (hl : bs.length = len) (hm : len ≤ 4096) (h : BytesAt w.heap.size w a bs) :
    Calls Try.prog 22 #[.slice a len cap] w (DrewPL w) := by
  have hal := boxed w (.cells #[.slice none 0 0, .slice none 0 0, .int .i64 0] 26)
  have HF := Lib.hid (specFrom_any a len cap bs _ hl hm (h.later hal))
  have HR0 := Lib.hid (rowV_box w 26 [.slice none 0 0, .slice none 0 0, .int .i64 0])
  have HB0 := Lib.hid hal
  have hsz : (w.alloc (.cells #[.slice none 0 0, .slice none 0 0, .int .i64 0] 26)).heap.size = w.heap.size + 1 := by simp
  clear h hal hl
  go_enter Try.func22, Try.ntmps22
  go_wp2_with fail
  generalize w.alloc (.cells #[.slice none 0 0, .slice none 0 0, .int .i64 0] 26) = w1 at HF HR0 HB0 hsz ⊢
  refine HF.out.mono ?_; rintro e w2 ⟨b, rfl, hS, hB⟩
  rw [hsz] at hS hB
  have hbb := hS.base; have hbs := hS.lt
  have HR2 := Lib.hid (HR0.out.below (by rw [hsz]; exact hB))
  have HB2 := Lib.hid (HB0.out.trans (hB.mono (Nat.le_succ _)))
  have HS2 := Lib.hid hS
  clear hB hS HF HR0 HB0
  go_wp2_with fail
  refine (specPool8_any (w.heap.size + 1) b w2 HS2.out).mono ?_; rintro e w3 ⟨v0, v1, q, rfl, h0, h1, hq, hS, hg⟩
  obtain ⟨a0, c0, rfl, _⟩ := h0.slice
  obtain ⟨a1, c1, rfl, _⟩ := h1.slice
  have hs2 := HB2.out.size; have hs3 := hg.size
  have hal := boxed w3 (.cells #[.slice a0 q.nums.length c0, .slice a1 q.drawn.length c1, .int .i64 q.state] 26)
  have hpg : PoolG (w.heap.size + 1) b w2.heap.size w3.heap.size w.heap.size (.slice a0 q.nums.length c0) (.slice a1 q.drawn.length c1) q w2 (w3.alloc (.cells #[.slice a0 q.nums.length c0, .slice a1 q.drawn.length c1, .int .i64 q.state] 26)) :=
    ⟨src_later8 hS hal, gb_below8 hg hal, rowV_box w3 26 [.slice a0 q.nums.length c0, .slice a1 q.drawn.length c1, .int .i64 q.state], (row_src HR2.out hg (by omega)).below hal, h0.below hal, h1.below hal⟩
  have HP := Lib.hid hpg
  have HQ := Lib.hid hq
  have K0 := Lib.hid (fun k (hk : (Value.slice a0 q.nums.length c0).ownBlock = some k) => show k < w3.heap.size + 1 by have := (h0.lt k hk).2; omega)
  have K1 := Lib.hid (fun k (hk : (Value.slice a1 q.drawn.length c1).ownBlock = some k) => show k < w3.heap.size + 1 by have := (h1.lt k hk).2; omega)
  have hd61 := hq.2
  have hsz4 : (w3.alloc (.cells #[.slice a0 q.nums.length c0, .slice a1 q.drawn.length c1, .int .i64 q.state] 26)).heap.size = w3.heap.size + 1 := by simp
  have hE := BuildI.empty (B := w3.heap.size + 1) (w := w3.alloc (.cells #[.slice a0 q.nums.length c0, .slice a1 q.drawn.length c1, .int .i64 q.state] 26)) (by simp)
  have HP5 := Lib.hid (HP.out.later (boxed _ (.cells #[] 2)))
  rw [hsz4] at hE
  have HE5 := Lib.hid hE
  clear hpg hal h0 h1 hq hS hg HS2 HR2 HP hE
  go_wp2
  obtain ⟨gp, hgpe⟩ : ∃ gp, w3.heap.size = gp := ⟨_, rfl⟩
  rw [hgpe] at HP5 HE5 K0 K1 hs3 ⊢
  generalize (w3.alloc (.cells #[.slice a0 q.nums.length c0, .slice a1 q.drawn.length c1, .int .i64 q.state] 26)).alloc (.cells #[] 2) = w5 at HP5 HE5 ⊢
  clear hgpe hsz4
  have n1 : gp ≠ w.heap.size := by omega
  have n2 : w.heap.size ≠ gp := by omega
  go_loopw [6, 7] (fun ov iv wr => ∃ (j : Nat) (zs : List Int), iv = .int .i64 (j : Int) ∧ j ≤ q.drawn.length ∧ zs.length ≤ j ∧ BuildI (gp + 1) wr ov zs ∧ PoolG (w.heap.size + 1) b w2.heap.size gp w.heap.size (.slice a0 q.nums.length c0) (.slice a1 q.drawn.length c1) q w2 wr) (fun _ iv _ => (61 - intOf iv).toNat)
  case atStart => exact ⟨0, [], rfl, Nat.zero_le _, Nat.le_refl _, HE5.out, HP5.out⟩
  case round =>
    obtain ⟨j, zs, rfl, hj, hz, ho, hp⟩ := hrel
    obtain ⟨av, cv, rfl, _⟩ := ho.slice
    have HO := Lib.hid ho; have HPR := Lib.hid hp
    have y1 := hp.rp.cell (show _[1]? = some _ from rfl)
    clear ho hp HP5 HE5
    by_cases hlt : j < q.drawn.length
    · have qj : IntKind.i64.wrap ((j : Int) + 1) = (j : Int) + 1 := IntWalk.i64_in _ (by omega)
      go_wp2_with fail
      refine (specNext_any (w.heap.size + 1) b 2 _ (by omega) HPR.out.src).mono ?_; rintro e w6 ⟨x, rfl, hx, _, hS, hg⟩
      obtain ⟨l2, u2⟩ := hx (by omega)
      have HP6 := Lib.hid (HPR.out.next hS hg (by omega) (by omega) (by omega))
      have HO6 := Lib.hid (build_src HO.out hg (by omega))
      clear hS hg hx HPR HO y1
      by_cases hx0 : x = 0
      · subst hx0
        have z1 := HP6.out.rp.cell (show _[1]? = some _ from rfl)
        obtain ⟨_, _, e1, t1⟩ := HP6.out.d0.slice
        cases e1
        obtain ⟨bD, oD, y, ha, hc, _, hy⟩ := t1.at rfl hlt
        subst ha
        have HP7 := Lib.hid (HP6.out.later (boxed w6 (.cells #[.int .i64 y] 2)))
        have HO7 := Lib.hid (HO6.out.below (boxed w6 (.cells #[.int .i64 y] 2)))
        clear t1 hy
        go_wp2_with (at_builtin; refine wpList_int_append (B := gp + 1) rfl _ _ rfl _ _ rfl HO7.out _ y rfl (BuildI.lit1 _ _ _) (by omega) (by have := HP7.out.rp.lt; omega) ?_)
        intro v' w9 h1 h2
        have hp9 := HP7.out.grew HO7.out h2 (by omega) (Nat.le_refl _) (by omega) K0.out K1.out
        have HP9 := Lib.hid hp9; have HO9 := Lib.hid h1
        clear h1 h2 hp9 z1 hc HP7 HO7 HP6 HO6
        go_wp2
        go_roundw
        case rel => exact ⟨j + 1, zs ++ [y], by go_num, by omega, by rw [List.length_append, List.length_singleton]; omega, HO9.out, HP9.out⟩
        case measure => simp [intOf]; omega
      · go_wp2
        go_roundw
        case rel => exact ⟨j + 1, zs, by go_num, by omega, by omega, HO6.out, HP6.out⟩
        case measure => simp [intOf]; omega
    · go_wp2_with fail
      refine (specNext_any (w.heap.size + 1) b 8 _ (by omega) HPR.out.src).mono ?_; rintro e w6 ⟨x, rfl, hx, _, hS, hg⟩
      obtain ⟨l2, u2⟩ := hx (by omega)
      have HP6 := Lib.hid (HPR.out.next hS hg (by omega) (by omega) (by omega))
      have HO6 := Lib.hid (build_src HO.out hg (by omega))
      clear hS hg hx HPR HO y1
      by_cases hx0 : x = 0
      · subst hx0
        go_wp2_with fail
        refine (specNext_any (w.heap.size + 1) b 20 _ (by omega) HP6.out.src).mono ?_; rintro e w7 ⟨y, rfl, hy, _, hS, hg⟩
        obtain ⟨l3, u3⟩ := hy (by omega)
        have qy : IntKind.i64.wrap (1 + y) = 1 + y := IntWalk.i64_in _ (by omega)
        have HP7 := Lib.hid ((HP6.out.next hS hg (by omega) (by omega) (by omega)).later (boxed w7 (.cells #[.int .i64 (1 + y)] 2)))
        have HO7 := Lib.hid ((build_src HO6.out hg (by omega)).below (boxed w7 (.cells #[.int .i64 (1 + y)] 2)))
        clear hS hg hy HP6 HO6
        go_wp2_with (at_builtin; refine wpList_int_append (B := gp + 1) rfl _ _ rfl _ _ rfl HO7.out _ (1 + y) rfl (BuildI.lit1 _ _ _) (by omega) (by have := HP7.out.rp.lt; omega) ?_)
        intro v' w9 h1 h2
        have hp9 := HP7.out.grew HO7.out h2 (by omega) (Nat.le_refl _) (by omega) K0.out K1.out
        obtain ⟨ax, cx, rfl, _⟩ := h1.slice
        have HP9 := Lib.hid hp9; have HO9 := Lib.hid h1
        clear h1 h2 hp9 HP7 HO7
        have r0 := HP9.out.rr.cell (show _[0]? = some _ from rfl); have r1 := HP9.out.rr.cell (show _[1]? = some _ from rfl); have r2 := HP9.out.rr.cell (show _[2]? = some _ from rfl)
        have k0 := HP9.out.rr.frozen 0; have k1 := HP9.out.rr.frozen 1; have k2 := HP9.out.rr.frozen 2
        have y0 := HP9.out.rp.cell (show _[0]? = some _ from rfl); have y1 := HP9.out.rp.cell (show _[1]? = some _ from rfl); have y2 := HP9.out.rp.cell (show _[2]? = some _ from rfl)
        have hgw := grown_on (grown_on (grown_cell w9 w.heap.size 0 (.slice a0 q.nums.length c0)) (grown_cell _ w.heap.size 1 (.slice a1 q.drawn.length c1))) (grown_cell _ w.heap.size 2 (.int .i64 q.state))
        have HF := Lib.hid (HP9.out.handed HB2.out rfl (by omega) hgw (by omega))
        have HL := Lib.hid ((build_src HO9.out hgw (by omega)).base (show w.heap.size ≤ gp + 1 by omega))
        clear hgw
        go_wp2_with fail
        (try simp only [Exit.inBlock, Exit.then])
        refine bodyPost_ret (v := .tuple #[.agg #[.slice a0 q.nums.length c0, .slice a1 q.drawn.length c1, .int .i64 q.state], .slice ax (zs ++ [1 + y]).length cx]) ?_ rfl ?_
        · rw [Rec.results_cell_tmp rfl]
          go_simp
        · exact ⟨_, _, q, _, (zs ++ [1 + y]), rfl, HF.out.1, HF.out.2.1, HL.out, by rw [List.length_append, List.length_singleton]; omega, HQ.out, HF.out.2.2⟩
      · have r0 := HP6.out.rr.cell (show _[0]? = some _ from rfl); have r1 := HP6.out.rr.cell (show _[1]? = some _ from rfl); have r2 := HP6.out.rr.cell (show _[2]? = some _ from rfl)
        have k0 := HP6.out.rr.frozen 0; have k1 := HP6.out.rr.frozen 1; have k2 := HP6.out.rr.frozen 2
        have y0 := HP6.out.rp.cell (show _[0]? = some _ from rfl); have y1 := HP6.out.rp.cell (show _[1]? = some _ from rfl); have y2 := HP6.out.rp.cell (show _[2]? = some _ from rfl)
        have hgw := grown_on (grown_on (grown_cell w6 w.heap.size 0 (.slice a0 q.nums.length c0)) (grown_cell _ w.heap.size 1 (.slice a1 q.drawn.length c1))) (grown_cell _ w.heap.size 2 (.int .i64 q.state))
        have HF := Lib.hid (HP6.out.handed HB2.out rfl (by omega) hgw (by omega))
        have HL := Lib.hid ((build_src HO6.out hgw (by omega)).base (show w.heap.size ≤ gp + 1 by omega))
        clear hgw
        go_wp2_with fail
        (try simp only [Exit.inBlock, Exit.then])
        refine bodyPost_ret (v := .tuple #[.agg #[.slice a0 q.nums.length c0, .slice a1 q.drawn.length c1, .int .i64 q.state], .slice av zs.length cv]) ?_ rfl ?_
        · rw [Rec.results_cell_tmp rfl]
          go_simp
        · exact ⟨_, _, q, _, zs, rfl, HF.out.1, HF.out.2.1, HL.out, by omega, HQ.out, HF.out.2.2⟩
end Go.Proofs.Ytmpopfcnjgcncaa
/- Contract: spec.DrawIsReplay. -/
namespace Go.Proofs.Ytmpopfcnjgcncaa
open Go.RowKit Pure1 Pure2 Pure6 Pure30 Pure40 Pure60 Pure80 Pure85 Rec

theorem fresh_pool {q : PoolV} (h : isPool q = true) {s : Int} (hs : 1 ≤ s ∧ s ≤ 2147483646) : isPool ⟨q.nums, [], s⟩ = true :=
  (isPool_iff _).2 ⟨((isPool_iff q).1 h).1, fun i y hi => by simp at hi, (isState_iff s).2 hs⟩

theorem nat_below8 {n : Nat} {k : Int} (h1 : 1 < (n : Int) + 1 → 0 ≤ k ∧ k < (n : Int) + 1) (h0 : (n : Int) + 1 ≤ 1 → k = 0) : ∃ m : Nat, k = m ∧ m ≤ n := by
  by_cases h : 1 < (n : Int) + 1
  · have := h1 h; exact ⟨k.toNat, by omega, by omega⟩
  · have := h0 (by omega); exact ⟨0, by omega, Nat.zero_le _⟩

set_option maxRecDepth 100000 in
set_option maxHeartbeats 8000000 in
theorem specDrawIsReplay_any (a : Option Addr) (len cap : Nat) (bs : List Int) (w : World) (hl : bs.length = len) (hm : len ≤ 4096) (h : BytesAt w.heap.size w a bs) :
    Calls Try.prog 16 #[.slice a len cap] w (DrewPK w) := by
  have hal := boxed w (.cells #[.slice none 0 0, .slice none 0 0, .int .i64 0] 26)
  have HF := Lib.hid (specFrom_any a len cap bs _ hl hm (h.later hal))
  have HR0 := Lib.hid (rowV_box w 26 [.slice none 0 0, .slice none 0 0, .int .i64 0])
  have HB0 := Lib.hid hal
  have hsz : (w.alloc (.cells #[.slice none 0 0, .slice none 0 0, .int .i64 0] 26)).heap.size = w.heap.size + 1 := by simp
  clear h hal hl
  go_enter Try.func16, Try.ntmps16
  go_wp2_with fail
  generalize w.alloc (.cells #[.slice none 0 0, .slice none 0 0, .int .i64 0] 26) = w1 at HF HR0 HB0 hsz ⊢
  refine HF.out.mono ?_; rintro e w2 ⟨b, rfl, hS, hB⟩
  rw [hsz] at hS hB
  have hbb := hS.base; have hbs := hS.lt
  have HR2 := Lib.hid (HR0.out.below (by rw [hsz]; exact hB))
  have HB2 := Lib.hid (HB0.out.trans (hB.mono (Nat.le_succ _)))
  have HS2 := Lib.hid hS
  clear hB hS HF HR0 HB0
  go_wp2_with fail
  refine (specGood8_any (w.heap.size + 1) b w2 HS2.out).mono ?_; rintro e w3 ⟨v0, v1, q, rfl, h0, h1, hq, hS, hg⟩
  obtain ⟨a0, c0, rfl, _⟩ := h0.slice
  obtain ⟨a1, c1, rfl, _⟩ := h1.slice
  have hs2 := HB2.out.size; have hs3 := hg.size
  have hal := boxed w3 (.cells #[.slice a0 q.nums.length c0, .slice a1 q.drawn.length c1, .int .i64 q.state] 26)
  have hpg : PoolG (w.heap.size + 1) b w2.heap.size w3.heap.size w.heap.size (.slice a0 q.nums.length c0) (.slice a1 q.drawn.length c1) q w2 (w3.alloc (.cells #[.slice a0 q.nums.length c0, .slice a1 q.drawn.length c1, .int .i64 q.state] 26)) :=
    ⟨src_later8 hS hal, gb_below8 hg hal, rowV_box w3 26 [.slice a0 q.nums.length c0, .slice a1 q.drawn.length c1, .int .i64 q.state], (row_src HR2.out hg (by omega)).below hal, h0.below hal, h1.below hal⟩
  have HP := Lib.hid hpg
  have HQ := Lib.hid (good_small hq)
  have HGD := Lib.hid hq
  have hn10 := hq.2
  have N0 := Lib.hid h0.nilcap
  clear hpg hal h0 h1 hq hS hg HS2 HR2
  go_wp2_with fail
  obtain ⟨gp, hgpe⟩ : ∃ gp, w3.heap.size = gp := ⟨_, rfl⟩
  rw [hgpe] at HP hs3 ⊢
  generalize w3.alloc (.cells #[.slice a0 q.nums.length c0, .slice a1 q.drawn.length c1, .int .i64 q.state] 26) = w4 at HP ⊢
  clear hgpe
  have n1 : gp ≠ w.heap.size := by omega
  have n2 : w.heap.size ≠ gp := by omega
  refine (specNext_any (w.heap.size + 1) b 2000000000 _ (by omega) HP.out.src).mono ?_; rintro e w5 ⟨y, rfl, hy, _, hS, hg⟩
  obtain ⟨l2, u2⟩ := hy (by omega)
  have HP5 := Lib.hid (HP.out.next hS hg (by omega) (by omega) (by omega))
  have qy : IntKind.i64.wrap (1 + y) = 1 + y := IntWalk.i64_in _ (by omega)
  clear hS hg hy HP
  obtain ⟨st, hst⟩ : ∃ st, 1 + y = st := ⟨_, rfl⟩
  rw [hst] at qy
  have hst1 : 1 ≤ st ∧ st ≤ 2147483646 := by omega
  go_wp2_with fail
  try rw [hst]
  clear hst qy
  refine (specNext_any (w.heap.size + 1) b 3 _ (by omega) HP5.out.src).mono ?_; rintro e w6 ⟨t, rfl, ht, _, hS, hg⟩
  obtain ⟨l3, u3⟩ := ht (by omega)
  have HP6 := Lib.hid (HP5.out.next hS hg (by omega) (by omega) (by omega))
  clear hS hg ht HP5
  by_cases ht0 : 0 < t
  · have y0 := HP6.out.rp.cell (show _[0]? = some _ from rfl)
    have hgp6 := HP6.out.rp.lt
    have HP7 := Lib.hid ((HP6.out.later (boxed w6 (.cells #[.slice a0 q.nums.length c0, .slice none 0 0, .int .i64 st] 26))).later (Below.refl _ _).drew)
    have HR7 := Lib.hid ((rowV_box w6 26 [.slice a0 q.nums.length c0, .slice none 0 0, .int .i64 st]).below (Below.refl _ _).drew)
    go_wp2_with fail
    obtain ⟨gf, hgf⟩ : ∃ gf, w6.heap.size = gf := ⟨_, rfl⟩
    rw [hgf] at HR7 hgp6 ⊢
    generalize w6.alloc (.cells #[.slice a0 q.nums.length c0, .slice none 0 0, .int .i64 st] 26) = w7 at HP7 HR7 ⊢
    clear y0 HP6 hgf
    have y0 := HP7.out.rp.cell (show _[0]? = some _ from rfl)
    have g0 := HR7.out.cell (show _[0]? = some _ from rfl); have g1 := HR7.out.cell (show _[1]? = some _ from rfl); have g2 := HR7.out.cell (show _[2]? = some _ from rfl)
    have ql : IntKind.i64.wrap ((q.nums.length : Int) + 1) = (q.nums.length : Int) + 1 := IntWalk.i64_in _ (by omega)
    have n3 : gf ≠ gp := by omega
    have n4 : gp ≠ gf := by omega
    have HPD := Lib.hid (fun (K : Nat) (hK : K ≤ q.nums.length) (W : World) (hI : PoolG (w.heap.size + 1) b w2.heap.size gp w.heap.size (.slice a0 q.nums.length c0) (.slice a1 q.drawn.length c1) q w2 W) => specDraw8_any a0 q.nums.length c0 none 0 0 ⟨q.nums, [], st⟩ K W ⟨by obtain ⟨_, _, e, t⟩ := hI.n0.slice; cases e; exact ⟨rfl, by unfold maxLen; omega, t⟩, ⟨rfl, Nat.zero_le _, .inl rfl⟩⟩ N0.out (fun _ => ⟨rfl, rfl⟩) (fresh_pool HGD.out.1 hst1) (by simpa using hK))
    go_region_with (first | (go_at_call 48; refine (specNext_any (w.heap.size + 1) b ((q.nums.length : Int) + 1) _ (by omega) HP7.out.src).mono ?_; rintro e w8 ⟨k, rfl, hk1, hk0, hS8, hg8⟩; obtain ⟨K, rfl, hK⟩ := nat_below8 hk1 hk0; have HP8 := Lib.hid (HP7.out.next hS8 hg8 (by omega) (by omega) (by omega)); have hr8 := row_src HR7.out hg8 (by omega); have j0 := hr8.cell (show _[0]? = some _ from rfl); have j1 := hr8.cell (show _[1]? = some _ from rfl); have j2 := hr8.cell (show _[2]? = some _ from rfl)) | (go_at_call 52; refine (HPD.out K hK w8 HP8.out).mono ?_; rintro e w9 ⟨s0, s1, s2, rfl, h0, h1, _, _, _, _, hB9⟩; obtain ⟨x0, z0, rfl, _⟩ := h0.slice; obtain ⟨x1, z1, rfl, _⟩ := h1.slice; have HP9 := Lib.hid (HP8.out.later hB9); have p0 := HP9.out.rp.cell (show _[0]? = some _ from rfl); have p1 := HP9.out.rp.cell (show _[1]? = some _ from rfl); have p2 := HP9.out.rp.cell (show _[2]? = some _ from rfl); have m0 := HP9.out.rp.frozen 0; have m1 := HP9.out.rp.frozen 1; have m2 := HP9.out.rp.frozen 2))
    all_goals
      have HQX := Lib.hid (show SmallQ ⟨q.nums, (drawN q.nums [] st K).1, (drawN q.nums [] st K).2⟩ from ⟨by show q.nums.length ≤ 61; omega, by show (drawN q.nums [] st K).1.length ≤ 61; rw [drawN_length]; simp; omega⟩)
      have hgw9 := grown_on (grown_on (grown_cell w9 gp 0 (.slice x0 q.nums.length z0)) (grown_cell _ gp 1 (.slice x1 (drawN q.nums [] st K).1.length z1))) (grown_cell _ gp 2 (.int .i64 (drawN q.nums [] st K).2))
      have hw8 := HP8.out.grown.size
      have HPX := Lib.hid (HP9.out.stored (q' := ⟨q.nums, (drawN q.nums [] st K).1, (drawN q.nums [] st K).2⟩) hgw9 (((HP9.out.rp.put 0 (.slice x0 q.nums.length z0)).put 1 (.slice x1 (drawN q.nums [] st K).1.length z1)).put 2 (.int .i64 (drawN q.nums [] st K).2)) (h0.base hw8) (h1.base hw8) (by omega) (by omega) (by omega) (by omega))
      generalize ((w9.setCell ⟨gp, 0, none⟩ (.slice x0 q.nums.length z0)).setCell ⟨gp, 1, none⟩ (.slice x1 (drawN q.nums [] st K).1.length z1)).setCell ⟨gp, 2, none⟩ (.int .i64 (drawN q.nums [] st K).2) = wx at HPX ⊢
      clear hgw9 h0 h1 hB9 HP9 HP8 HP7 HR7 HPD p0 p1 p2 m0 m1 m2 y0 g0 g1 g2 j0 j1 j2 hr8 hS8 hg8 hk1 hk0
      go_wp2_with fail
      refine (specNext_any (w.heap.size + 1) b 16 _ (by omega) HPX.out.src).mono ?_; rintro e wn ⟨x16, rfl, hx16, _, hS16, hg16⟩
      obtain ⟨l16, u16⟩ := hx16 (by omega)
      have HPn := Lib.hid (HPX.out.next hS16 hg16 (by omega) (by omega) (by omega))
      clear hS16 hg16 hx16 HPX
      have hwn := HPn.out.grown.size
      by_cases h16 : x16 = 0
      · subst h16
        go_wp2_with fail
        refine (specPool8_any (w.heap.size + 1) b wn HPn.out.src).mono ?_; rintro e wp ⟨u0, u1, q9, rfl, h0, h1, hq9, hS, hg⟩
        obtain ⟨x0, z0, rfl, _⟩ := h0.slice
        obtain ⟨x1, z1, rfl, _⟩ := h1.slice
        have HS9 := Lib.hid hS; have HG9 := Lib.hid hg; have H09 := Lib.hid h0; have H19 := Lib.hid h1; have HQ9 := Lib.hid hq9
        have HR9 := Lib.hid (row_src HPn.out.rr hg (by omega))
        have hwp := hg.size
        clear hS hg h0 h1 hq9
        go_wp2_with fail
        refine (specL03State_any (w.heap.size + 1) b wp HS9.out).mono ?_; rintro e wl ⟨xs, rfl, _, hg⟩
        have hrl := row_src HR9.out hg (by omega)
        have r0 := hrl.cell (show _[0]? = some _ from rfl); have r1 := hrl.cell (show _[1]? = some _ from rfl); have r2 := hrl.cell (show _[2]? = some _ from rfl)
        have k0 := hrl.frozen 0; have k1 := hrl.frozen 1; have k2 := hrl.frozen 2
        have hgw := grown_on (grown_on (grown_cell wl w.heap.size 0 (.slice x0 q9.nums.length z0)) (grown_cell _ w.heap.size 1 (.slice x1 q9.drawn.length z1))) (grown_cell _ w.heap.size 2 (.int .i64 q9.state))
        have HF0 := Lib.hid ((build_src (build_src H09.out hg (by omega)) hgw (by omega)).base (show w.heap.size ≤ wn.heap.size by omega))
        have HF1 := Lib.hid ((build_src (build_src H19.out hg (by omega)) hgw (by omega)).base (show w.heap.size ≤ wn.heap.size by omega))
        have HF2 := Lib.hid ((((HB2.out.trans (grown_below HPn.out.grown (by omega) hs2)).trans (grown_below HG9.out (by omega) (show w.heap.size ≤ wn.heap.size by omega))).trans (grown_below hg (by omega) (show w.heap.size ≤ wp.heap.size by omega))).trans (grown_below hgw (Nat.le_refl _) (show w.heap.size ≤ wl.heap.size by have := hg.size; omega)))
        clear hg hrl hgw
        go_wp2_with fail
        (try simp only [Exit.inBlock, Exit.then])
        refine bodyPost_ret (v := .tuple #[.agg #[.slice x0 q9.nums.length z0, .slice x1 q9.drawn.length z1, .int .i64 q9.state], .int .i64 xs]) ?_ rfl ?_
        · rw [Rec.results_cell_tmp rfl]
          go_simp
        · exact ⟨_, _, q9, xs, rfl, HF0.out, HF1.out, HQ9.out, HF2.out⟩
      · have r0 := HPn.out.rr.cell (show _[0]? = some _ from rfl); have r1 := HPn.out.rr.cell (show _[1]? = some _ from rfl); have r2 := HPn.out.rr.cell (show _[2]? = some _ from rfl)
        have k0 := HPn.out.rr.frozen 0; have k1 := HPn.out.rr.frozen 1; have k2 := HPn.out.rr.frozen 2
        have y0 := HPn.out.rp.cell (show _[0]? = some _ from rfl); have y1 := HPn.out.rp.cell (show _[1]? = some _ from rfl); have y2 := HPn.out.rp.cell (show _[2]? = some _ from rfl)
        have hgw := grown_on (grown_on (grown_cell wn w.heap.size 0 (.slice x0 q.nums.length z0)) (grown_cell _ w.heap.size 1 (.slice x1 (drawN q.nums [] st K).1.length z1))) (grown_cell _ w.heap.size 2 (.int .i64 ((drawN q.nums [] st K).2)))
        have HF := Lib.hid (HPn.out.handed HB2.out rfl (by omega) hgw (by omega))
        clear hgw
        go_wp2_with fail
        (try simp only [Exit.inBlock, Exit.then])
        refine bodyPost_ret (v := .tuple #[.agg #[.slice x0 q.nums.length z0, .slice x1 (drawN q.nums [] st K).1.length z1, .int .i64 ((drawN q.nums [] st K).2)], .int .i64 st]) ?_ rfl ?_
        · rw [Rec.results_cell_tmp rfl]
          go_simp
        · exact ⟨_, _, ⟨q.nums, (drawN q.nums [] st K).1, (drawN q.nums [] st K).2⟩, st, rfl, HF.out.1, HF.out.2.1, HQX.out, HF.out.2.2⟩
  · go_wp2_with fail
    refine (specNext_any (w.heap.size + 1) b 16 _ (by omega) HP6.out.src).mono ?_; rintro e wn ⟨x16, rfl, hx16, _, hS16, hg16⟩
    obtain ⟨l16, u16⟩ := hx16 (by omega)
    have HPn := Lib.hid (HP6.out.next hS16 hg16 (by omega) (by omega) (by omega))
    clear hS16 hg16 hx16 HP6
    have hwn := HPn.out.grown.size
    by_cases h16 : x16 = 0
    · subst h16
      go_wp2_with fail
      refine (specPool8_any (w.heap.size + 1) b wn HPn.out.src).mono ?_; rintro e wp ⟨u0, u1, q9, rfl, h0, h1, hq9, hS, hg⟩
      obtain ⟨x0, z0, rfl, _⟩ := h0.slice
      obtain ⟨x1, z1, rfl, _⟩ := h1.slice
      have HS9 := Lib.hid hS; have HG9 := Lib.hid hg; have H09 := Lib.hid h0; have H19 := Lib.hid h1; have HQ9 := Lib.hid hq9
      have HR9 := Lib.hid (row_src HPn.out.rr hg (by omega))
      have hwp := hg.size
      clear hS hg h0 h1 hq9
      go_wp2_with fail
      refine (specL03State_any (w.heap.size + 1) b wp HS9.out).mono ?_; rintro e wl ⟨xs, rfl, _, hg⟩
      have hrl := row_src HR9.out hg (by omega)
      have r0 := hrl.cell (show _[0]? = some _ from rfl); have r1 := hrl.cell (show _[1]? = some _ from rfl); have r2 := hrl.cell (show _[2]? = some _ from rfl)
      have k0 := hrl.frozen 0; have k1 := hrl.frozen 1; have k2 := hrl.frozen 2
      have hgw := grown_on (grown_on (grown_cell wl w.heap.size 0 (.slice x0 q9.nums.length z0)) (grown_cell _ w.heap.size 1 (.slice x1 q9.drawn.length z1))) (grown_cell _ w.heap.size 2 (.int .i64 q9.state))
      have HF0 := Lib.hid ((build_src (build_src H09.out hg (by omega)) hgw (by omega)).base (show w.heap.size ≤ wn.heap.size by omega))
      have HF1 := Lib.hid ((build_src (build_src H19.out hg (by omega)) hgw (by omega)).base (show w.heap.size ≤ wn.heap.size by omega))
      have HF2 := Lib.hid ((((HB2.out.trans (grown_below HPn.out.grown (by omega) hs2)).trans (grown_below HG9.out (by omega) (show w.heap.size ≤ wn.heap.size by omega))).trans (grown_below hg (by omega) (show w.heap.size ≤ wp.heap.size by omega))).trans (grown_below hgw (Nat.le_refl _) (show w.heap.size ≤ wl.heap.size by have := hg.size; omega)))
      clear hg hrl hgw
      go_wp2_with fail
      (try simp only [Exit.inBlock, Exit.then])
      refine bodyPost_ret (v := .tuple #[.agg #[.slice x0 q9.nums.length z0, .slice x1 q9.drawn.length z1, .int .i64 q9.state], .int .i64 xs]) ?_ rfl ?_
      · rw [Rec.results_cell_tmp rfl]
        go_simp
      · exact ⟨_, _, q9, xs, rfl, HF0.out, HF1.out, HQ9.out, HF2.out⟩
    · have r0 := HPn.out.rr.cell (show _[0]? = some _ from rfl); have r1 := HPn.out.rr.cell (show _[1]? = some _ from rfl); have r2 := HPn.out.rr.cell (show _[2]? = some _ from rfl)
      have k0 := HPn.out.rr.frozen 0; have k1 := HPn.out.rr.frozen 1; have k2 := HPn.out.rr.frozen 2
      have y0 := HPn.out.rp.cell (show _[0]? = some _ from rfl); have y1 := HPn.out.rp.cell (show _[1]? = some _ from rfl); have y2 := HPn.out.rp.cell (show _[2]? = some _ from rfl)
      have hgw := grown_on (grown_on (grown_cell wn w.heap.size 0 (.slice a0 q.nums.length c0)) (grown_cell _ w.heap.size 1 (.slice a1 q.drawn.length c1))) (grown_cell _ w.heap.size 2 (.int .i64 (q.state)))
      have HF := Lib.hid (HPn.out.handed HB2.out rfl (by omega) hgw (by omega))
      clear hgw
      go_wp2_with fail
      (try simp only [Exit.inBlock, Exit.then])
      refine bodyPost_ret (v := .tuple #[.agg #[.slice a0 q.nums.length c0, .slice a1 q.drawn.length c1, .int .i64 (q.state)], .int .i64 st]) ?_ rfl ?_
      · rw [Rec.results_cell_tmp rfl]
        go_simp
      · exact ⟨_, _, q, st, rfl, HF.out.1, HF.out.2.1, HQ.out, HF.out.2.2⟩
end Go.Proofs.Ytmpopfcnjgcncaa
