/- Contracts: the drawing functions of chapter 8 that draw pools. -/
import Derived.Test.YtmpopfcnjgcncaaChecked
import Derived.Test.YtmpopfcnjgcncaaBase
import Derived.Test.YtmpopfcnjgcncaaInfo
import Derived.Test.YtmpopfcnjgcncaaPure6
import Derived.Test.YtmpopfcnjgcncaaNext
import Derived.Test.YtmpopfcnjgcncaaPick
import Derived.Test.YtmpopfcnjgcncaaPure40
import Derived.Test.YtmpopfcnjgcncaaPure80
import Derived.Test.YtmpopfcnjgcncaaPure85
import Derived.Test.YtmpopfcnjgcncaaIntL
import Derived.Test.YtmpopfcnjgcncaaBuildI
import Derived.Test.YtmpopfcnjgcncaaBuild8
import Derived.Test.YtmpopfcnjgcncaaRowV
import Derived.Test.YtmpopfcnjgcncaaPoolA
import Derived.Test.YtmpopfcnjgcncaaTake8
import Derived.Test.YtmpopfcnjgcncaaStat8
import Derived.Test.YtmpopfcnjgcncaaDraw8a
import Derived.Test.YtmpopfcnjgcncaaFrom
import Derived.Test.YtmpopfcnjgcncaaDraw8b
import Derived.Deep.RegionHeld3
import Derived.WalkKit
import Derived.WalkSpells
import Derived.WalkLawsBesides
import Derived.Lib.Hide
import Derived.IntWalk
import Derived.Deep.OwnRows
import Derived.OwnWalk
import Derived.Outline
namespace Go.Proofs.Ytmpopfcnjgcncaa
open Go.RowKit Pure1 Pure2 Pure6 Pure30 Pure40 Pure60 Pure80 Pure85 Rec

/-- a pool is drawn -/
def DrewP (w : World) (e : Ending) (w' : World) : Prop := ∃ v0 v1 q, e = .returned (.agg #[v0, v1, .int .i64 q.state]) ∧ BuildI w.heap.size w' v0 q.nums ∧ BuildI w.heap.size w' v1 q.drawn ∧ SmallQ q ∧ Below w.heap.size w w'
/-- .. and a number -/
def DrewPK (w : World) (e : Ending) (w' : World) : Prop := ∃ v0 v1 q k, e = .returned (.tuple #[.agg #[v0, v1, .int .i64 q.state], .int .i64 k]) ∧ BuildI w.heap.size w' v0 q.nums ∧ BuildI w.heap.size w' v1 q.drawn ∧ SmallQ q ∧ Below w.heap.size w w'
/-- .. and a list -/
def DrewPL (w : World) (e : Ending) (w' : World) : Prop := ∃ v0 v1 q v2 bs, e = .returned (.tuple #[.agg #[v0, v1, .int .i64 q.state], v2]) ∧ BuildI w.heap.size w' v0 q.nums ∧ BuildI w.heap.size w' v1 q.drawn ∧ BuildI w.heap.size w' v2 bs ∧ bs.length ≤ 62 ∧ SmallQ q ∧ Below w.heap.size w w'
/-- a list and a number are drawn -/
def DrewLK (w : World) (e : Ending) (w' : World) : Prop := ∃ v0 ns k, e = .returned (.tuple #[v0, .int .i64 k]) ∧ BuildI w.heap.size w' v0 ns ∧ ns.length ≤ 61 ∧ Below w.heap.size w w'

theorem PoolG.handed {B b C gp rv : Nat} {v0 v1 : Value} {q : PoolV} {w w00 W W' : World} (h : PoolG B b C gp rv v0 v1 q w00 W) (hB : Below w.heap.size w w00) (hrv : rv = w.heap.size) (hC : rv + 1 ≤ C) (hg : W.grownBy W' (some rv)) (hb : w.heap.size ≤ b) :
    BuildI w.heap.size W' v0 q.nums ∧ BuildI w.heap.size W' v1 q.drawn ∧ Below w.heap.size w W' := by
  subst hrv
  have hne : ∀ {v : Value} {zs : List Int}, BuildI C W v zs → ∀ k, v.ownBlock = some k → some w.heap.size ≠ some k := fun hv k hk e => by
    have := (hv.lt k hk).1; cases e; omega
  exact ⟨(h.n0.kept hg (hne h.n0)).base (by omega), (h.d0.kept hg (hne h.d0)).base (by omega), (hB.trans (grown_below h.grown hb hB.size)).trans (grown_below hg (Nat.le_refl _) (Nat.le_trans hB.size h.grown.size))⟩
theorem PoolG.box {B b C gp rv : Nat} {v0 v1 : Value} {q : PoolV} {w00 W : World} (h : PoolG B b C gp rv v0 v1 q w00 W) : W.cell? ⟨gp, 0, none⟩ = some v0 ∧ W.cell? ⟨gp, 1, none⟩ = some v1 ∧ W.cell? ⟨gp, 2, none⟩ = some (.int .i64 q.state) :=
  ⟨h.rp.cell (show _[0]? = some _ from rfl), h.rp.cell (show _[1]? = some _ from rfl), h.rp.cell (show _[2]? = some _ from rfl)⟩

set_option maxRecDepth 100000 in
set_option maxHeartbeats 2000000 in
theorem specDrawLeftOf_any (a : Option Addr) (len cap : Nat) (bs : List Int) (w : World) (hl : bs.length = len) (hm : len ≤ 4096) (h : BytesAt w.heap.size w a bs) :
    Calls Try.prog 34 #[.slice a len cap] w (DrewP w) := by
  have hal := boxed w (.cells #[.slice none 0 0, .slice none 0 0, .int .i64 0] 26)
  have HF := Lib.hid (specFrom_any a len cap bs _ hl hm (h.later hal))
  have HR0 := Lib.hid (rowV_box w 26 [.slice none 0 0, .slice none 0 0, .int .i64 0])
  have HB0 := Lib.hid hal
  have hsz : (w.alloc (.cells #[.slice none 0 0, .slice none 0 0, .int .i64 0] 26)).heap.size = w.heap.size + 1 := by simp
  clear h hal
  go_enter Try.func34, Try.ntmps34
  go_wp2_with fail
  generalize w.alloc (.cells #[.slice none 0 0, .slice none 0 0, .int .i64 0] 26) = w1 at HF HR0 HB0 hsz ⊢
  refine HF.out.mono ?_; rintro e w2 ⟨b, rfl, hS, hB⟩
  rw [hsz] at hS hB
  have hbb := hS.base; have hbs := hS.lt
  have HR2 := Lib.hid (HR0.out.below (by rw [hsz]; exact hB))
  have HB2 := Lib.hid (HB0.out.trans (hB.mono (Nat.le_succ _)))
  have HS2 := Lib.hid hS
  clear hB hS HF HR0 HB0
  go_wp2_with fail
  refine (specPool8_any (w.heap.size + 1) b w2 HS2.out).mono ?_; rintro e w3 ⟨v0, v1, q, rfl, h0, h1, hq, hS, hg⟩
  obtain ⟨a0, c0, rfl, _⟩ := h0.slice
  obtain ⟨a1, c1, rfl, _⟩ := h1.slice
  have hr3 := row_src HR2.out hg (by omega)
  have r0 := hr3.cell (show _[0]? = some _ from rfl); have r1 := hr3.cell (show _[1]? = some _ from rfl); have r2 := hr3.cell (show _[2]? = some _ from rfl)
  have k0 := hr3.frozen 0; have k1 := hr3.frozen 1; have k2 := hr3.frozen 2
  have hs2 := HB2.out.size
  have HO0 := Lib.hid h0; have HO1 := Lib.hid h1; have HQ := Lib.hid hq
  have HB3 := Lib.hid (HB2.out.trans (grown_below hg (by omega) hs2))
  clear h0 h1 hq hS hg hr3
  go_wp2_with fail
  (try simp only [Exit.inBlock, Exit.then])
  refine bodyPost_ret (v := .agg #[.slice a0 q.nums.length c0, .slice a1 q.drawn.length c1, .int .i64 q.state]) ?_ rfl ?_
  · rw [Rec.results_cell1 rfl]
    go_simp
  · have hl : w.heap.size < w2.heap.size := by omega
    exact ⟨_, _, q, rfl, (((HO0.out.stored hl _).stored hl _).stored hl _).base (by omega), (((HO1.out.stored hl _).stored hl _).stored hl _).base (by omega), HQ.out, ((HB3.out.setCell (Nat.le_refl _) _).setCell (Nat.le_refl _) _).setCell (Nat.le_refl _) _⟩

set_option maxRecDepth 100000 in
set_option maxHeartbeats 8000000 in
theorem specDrawTakeFrom_any (a : Option Addr) (len cap : Nat) (bs : List Int) (w : World) (hl : bs.length = len) (hm : len ≤ 4096) (h : BytesAt w.heap.size w a bs) :
    Calls Try.prog 13 #[.slice a len cap] w (DrewPK w) := by
  have hal := boxed w (.cells #[.slice none 0 0, .slice none 0 0, .int .i64 0] 26)
  have HF := Lib.hid (specFrom_any a len cap bs _ hl hm (h.later hal))
  have HR0 := Lib.hid (rowV_box w 26 [.slice none 0 0, .slice none 0 0, .int .i64 0])
  have HB0 := Lib.hid hal
  have hsz : (w.alloc (.cells #[.slice none 0 0, .slice none 0 0, .int .i64 0] 26)).heap.size = w.heap.size + 1 := by simp
  clear h hal
  go_enter Try.func13, Try.ntmps13
  go_wp2_with fail
  generalize w.alloc (.cells #[.slice none 0 0, .slice none 0 0, .int .i64 0] 26) = w1 at HF HR0 HB0 hsz ⊢
  refine HF.out.mono ?_; rintro e w2 ⟨b, rfl, hS, hB⟩
  rw [hsz] at hS hB
  have hbb := hS.base; have hbs := hS.lt
  have HR2 := Lib.hid (HR0.out.below (by rw [hsz]; exact hB))
  have HB2 := Lib.hid (HB0.out.trans (hB.mono (Nat.le_succ _)))
  have HS2 := Lib.hid hS
  clear hB hS HF HR0 HB0
  go_wp2_with fail
  refine (specPool8_any (w.heap.size + 1) b w2 HS2.out).mono ?_; rintro e w3 ⟨v0, v1, q, rfl, h0, h1, hq, hS, hg⟩
  obtain ⟨a0, c0, rfl, _⟩ := h0.slice
  obtain ⟨a1, c1, rfl, _⟩ := h1.slice
  have hs2 := HB2.out.size; have hs3 := hg.size
  have hal := boxed w3 (.cells #[.slice a0 q.nums.length c0, .slice a1 q.drawn.length c1, .int .i64 q.state] 26)
  have hpg : PoolG (w.heap.size + 1) b w2.heap.size w3.heap.size w.heap.size (.slice a0 q.nums.length c0) (.slice a1 q.drawn.length c1) q w2 (w3.alloc (.cells #[.slice a0 q.nums.length c0, .slice a1 q.drawn.length c1, .int .i64 q.state] 26)) :=
    ⟨src_later8 hS hal, gb_below8 hg hal, rowV_box w3 26 [.slice a0 q.nums.length c0, .slice a1 q.drawn.length c1, .int .i64 q.state], (row_src HR2.out hg (by omega)).below hal, h0.below hal, h1.below hal⟩
  have HP := Lib.hid hpg
  have HQ := Lib.hid hq
  have hn61 := hq.1; have hd61 := hq.2
  clear hpg hal h0 h1 hq hS hg HS2 HR2
  go_wp2_with fail
  obtain ⟨gp, hgpe⟩ : ∃ gp, w3.heap.size = gp := ⟨_, rfl⟩
  rw [hgpe] at HP hs3 ⊢
  generalize w3.alloc (.cells #[.slice a0 q.nums.length c0, .slice a1 q.drawn.length c1, .int .i64 q.state] 26) = w4 at HP ⊢
  clear hgpe
  have q1 : IntKind.i64.wrap ((q.nums.length : Int) - (q.drawn.length : Int)) = (q.nums.length : Int) - (q.drawn.length : Int) := IntWalk.i64_in _ (by omega)
  have q2 : IntKind.i64.wrap ((q.nums.length : Int) - (q.drawn.length : Int) + 1) = (q.nums.length : Int) - (q.drawn.length : Int) + 1 := IntWalk.i64_in _ (by omega)
  have n1 : gp ≠ w.heap.size := by omega
  have n2 : w.heap.size ≠ gp := by omega
  have HPd := Lib.hid (HP.out.later (Below.refl _ _).drew)
  clear HP
  have HC1 := Lib.hid (specNext_any (w.heap.size + 1) b 4 w4.drew (by omega) HPd.out.src)
  go_region_held3 (fun W => W.cell? ⟨gp, 0, none⟩ = some (.slice a0 q.nums.length c0) ∧ W.cell? ⟨gp, 1, none⟩ = some (.slice a1 q.drawn.length c1) ∧ W.cell? ⟨gp, 2, none⟩ = some (.int .i64 q.state)) (first | exact HPd.out.box | exact HP5.out.box | exact HP6.out.box | exact (HP6.out.later (boxed w6 _)).box | exact HP7.out.box | (obtain ⟨z0, z1, z2⟩ := HP7.out.box; go_simp)) (first | (go_at_call 47; refine (specPick_any (w.heap.size + 1) b w6.heap.size [x4, (q.nums.length : Int) - (q.drawn.length : Int), (q.nums.length : Int) - (q.drawn.length : Int) + 1, -1, 1, x6] 6 6 _ rfl (by omega) (by omega) (HP6.out.later (boxed w6 _)).src (by have := HP6.out.src.lt; omega) (alloc_ints w6 _ _)).mono ?_; rintro e w7 ⟨x7, rfl, _, hS7, hg7⟩; have HP7 := Lib.hid ((HP6.out.later (boxed w6 _)).next hS7 hg7 (by omega) (by omega) (by omega)); have r0 := HP7.out.rr.cell (show _[0]? = some _ from rfl); have r1 := HP7.out.rr.cell (show _[1]? = some _ from rfl); have r2 := HP7.out.rr.cell (show _[2]? = some _ from rfl); have k0 := HP7.out.rr.frozen 0; have k1 := HP7.out.rr.frozen 1; have k2 := HP7.out.rr.frozen 2) | (go_at_call 48; refine HC1.out.mono ?_; rintro e w5 ⟨x4, rfl, _, _, hS5, hg5⟩; have HP5 := Lib.hid (HPd.out.next hS5 hg5 (by omega) (by omega) (by omega)); clear HC1) | (go_at_call 48; refine (specNext_any (w.heap.size + 1) b 6 w5 (by omega) HP5.out.src).mono ?_; rintro e w6 ⟨x6, rfl, _, _, hS6, hg6⟩; have HP6 := Lib.hid (HP5.out.next hS6 hg6 (by omega) (by omega) (by omega))))
  have hgw := grown_on (grown_on (grown_cell w7 w.heap.size 0 (.slice a0 q.nums.length c0)) (grown_cell _ w.heap.size 1 (.slice a1 q.drawn.length c1))) (grown_cell _ w.heap.size 2 (.int .i64 q.state))
  have HF := Lib.hid (HP7.out.handed HB2.out rfl (by omega) hgw (by omega))
  clear hgw HPd HP5 HP6 HP7
  go_wp2_with fail
  (try simp only [Exit.inBlock, Exit.then])
  refine bodyPost_ret (v := .tuple #[.agg #[.slice a0 q.nums.length c0, .slice a1 q.drawn.length c1, .int .i64 q.state], .int .i64 x7]) ?_ rfl ?_
  · rw [Rec.results_cell_tmp rfl]
    go_simp
  · exact ⟨_, _, q, x7, rfl, HF.out.1, HF.out.2.1, HQ.out, HF.out.2.2⟩
end Go.Proofs.Ytmpopfcnjgcncaa
