/- Contracts: spec.DrawPoolText, spec.DrawReadPool. -/
import Derived.Test.YtjnicmlomjppnaaGreatDoorChecked
import Derived.Test.YtjnicmlomjppnaaGreatDoorBase0
import Derived.Test.YtjnicmlomjppnaaGreatDoorInfo
import Derived.Test.YtjnicmlomjppnaaGreatDoorMidA
import Derived.Test.YtjnicmlomjppnaaGreatDoorFrom
import Derived.Test.YtjnicmlomjppnaaGreatDoorPure87
import Derived.Test.YtjnicmlomjppnaaGreatDoorIntL
import Derived.Test.YtjnicmlomjppnaaGreatDoorBuildI
import Derived.Test.YtjnicmlomjppnaaGreatDoorBuild8
import Derived.Test.YtjnicmlomjppnaaGreatDoorRowV
import Derived.Test.YtjnicmlomjppnaaGreatDoorPoolA
import Derived.Test.YtjnicmlomjppnaaGreatDoorDrawW
import Derived.Test.YtjnicmlomjppnaaGreatDoorDamage
import Derived.Test.YtjnicmlomjppnaaGreatDoorText8
import Derived.Test.YtjnicmlomjppnaaGreatDoorDraw8a
import Derived.Test.YtjnicmlomjppnaaGreatDoorDraw8b
import Derived.Test.YtjnicmlomjppnaaGreatDoorDraw8c
import Derived.Test.YtjnicmlomjppnaaGreatDoorLawP8
import Derived.WalkKit
import Derived.WalkSpells
import Derived.WalkLawsBesides
import Derived.Lib.Hide
import Derived.IntWalk
import Derived.OwnWalk
import Derived.Outline
import Derived.Deep.RegionHeld3
import Derived.Deep.OwnRows
namespace Go.Proofs.YtjnicmlomjppnaaGreatDoor
open Go.RowKit Pure1 Pure2 Pure6 Pure30 Pure40 Pure60 Pure80 Pure85 Rec

set_option maxRecDepth 100000 in
set_option maxHeartbeats 2000000 in
theorem specDrawPoolText_any (a : Option Addr) (len cap : Nat) (bs : List Int) (w : World) (hl : bs.length = len) (hm : len ≤ 4096) (h : BytesAt w.heap.size w a bs) :
    Calls Tryz.prog 5 #[.slice a len cap] w (DrewP w) := by
  have hal := boxed w (.cells #[.slice none 0 0, .slice none 0 0, .int .i64 0] 26)
  have HF := Lib.hid (specFrom_any a len cap bs _ hl hm (h.later hal))
  have HR0 := Lib.hid (rowV_box w 26 [.slice none 0 0, .slice none 0 0, .int .i64 0])
  have HB0 := Lib.hid hal
  have hsz : (w.alloc (.cells #[.slice none 0 0, .slice none 0 0, .int .i64 0] 26)).heap.size = w.heap.size + 1 := by simp
  clear h hal
  go_enter Tryz.func5, Tryz.ntmps5
  go_wp2_with fail
  generalize w.alloc (.cells #[.slice none 0 0, .slice none 0 0, .int .i64 0] 26) = w1 at HF HR0 HB0 hsz ⊢
  refine HF.out.mono ?_; rintro e w2 ⟨b, rfl, hS, hB⟩
  rw [hsz] at hS hB
  have hbb := hS.base; have hbs := hS.lt
  have HR2 := Lib.hid (HR0.out.below (by rw [hsz]; exact hB))
  have HB2 := Lib.hid (HB0.out.trans (hB.mono (Nat.le_succ _)))
  have HS2 := Lib.hid hS
  clear hB hS HF HR0 HB0
  go_wp2_with fail
  refine (specPool8_any (w.heap.size + 1) b w2 HS2.out).mono ?_; rintro e w3 ⟨v0, v1, q, rfl, h0, h1, hq, hS, hg⟩
  obtain ⟨a0, c0, rfl, _⟩ := h0.slice
  obtain ⟨a1, c1, rfl, _⟩ := h1.slice
  have hr3 := row_src HR2.out hg (by omega)
  have r0 := hr3.cell (show _[0]? = some _ from rfl); have r1 := hr3.cell (show _[1]? = some _ from rfl); have r2 := hr3.cell (show _[2]? = some _ from rfl)
  have k0 := hr3.frozen 0; have k1 := hr3.frozen 1; have k2 := hr3.frozen 2
  have hs2 := HB2.out.size
  have HO0 := Lib.hid h0; have HO1 := Lib.hid h1; have HQ := Lib.hid hq
  have HB3 := Lib.hid (HB2.out.trans (grown_below hg (by omega) hs2))
  clear h0 h1 hq hS hg hr3
  go_wp2_with fail
  (try simp only [Exit.inBlock, Exit.then])
  refine bodyPost_ret (v := .agg #[.slice a0 q.nums.length c0, .slice a1 q.drawn.length c1, .int .i64 q.state]) ?_ rfl ?_
  · rw [Rec.results_cell1 rfl]
    go_simp
  · have hl : w.heap.size < w2.heap.size := by omega
    exact ⟨_, _, q, rfl, (((HO0.out.stored hl _).stored hl _).stored hl _).base (by omega), (((HO1.out.stored hl _).stored hl _).stored hl _).base (by omega), HQ.out, ((HB3.out.setCell (Nat.le_refl _) _).setCell (Nat.le_refl _) _).setCell (Nat.le_refl _) _⟩

set_option maxRecDepth 100000 in
set_option maxHeartbeats 4000000 in
theorem specDrawReadPool_any (a : Option Addr) (len cap : Nat) (bs : List Int) (w : World) (hl : bs.length = len) (hm : len ≤ 4096) (h : BytesAt w.heap.size w a bs) :
    Calls Tryz.prog 8 #[.slice a len cap] w (DrewS 2701 w) := by
  have HC := Lib.hid (specFrom_any a len cap bs w hl hm h)
  clear h hl
  go_enter Tryz.func8, Tryz.ntmps8
  go_wp2_with fail
  refine HC.out.mono ?_; rintro e w1 ⟨b, rfl, hS, hB⟩
  have HB := Lib.hid hB; have hsz := hB.size; have hbs := hS.base; have hb1 := hS.lt
  have HL := Lib.hid (specGood8_any w.heap.size b w1 hS); clear hS hB HC
  go_wp2_with fail
  refine HL.out.mono ?_; rintro e w2 ⟨v0, v1, q, rfl, h0, h1, hq, hS, hg⟩
  have HB2 := Lib.hid (HB.out.trans (grown_below hg hbs hsz)); have hsz2 := hg.size
  have HS2 := Lib.hid hS
  obtain ⟨a0, c0, rfl, _⟩ := h0.slice
  obtain ⟨a1, c1, rfl, _⟩ := h1.slice
  have HI := Lib.hid (poolIn_of_build h0 h1 (good_small hq))
  have htx := textQ_small hq.1
  have HT := Lib.hid (specText8_any a0 q.nums.length c0 a1 q.drawn.length c1 q w2 HI.out hq.1)
  clear h0 h1 hq hS hg HL
  obtain ⟨t, ht⟩ : ∃ t, textQ q = t := ⟨_, rfl⟩
  rw [ht] at htx HT
  clear ht
  go_wp2_with fail
  refine HT.out.mono ?_; rintro e w3 ⟨rfl, hB⟩
  have HB3 := Lib.hid (HB2.out.trans (hB.mono HB2.out.size)); have HS3 := Lib.hid (src_later8 HS2.out hB); have hsz3 := hB.size
  clear hB HT HI HS2
  go_wp2_with fail
  refine (specNext_any w.heap.size b 3 w3 (by omega) HS3.out).mono ?_; rintro e w4 ⟨x, rfl, hx, _, hS, hg⟩
  have HS4 := Lib.hid hS; have HB4 := Lib.hid (HB3.out.trans (grown_below hg hbs (by omega))); have hsz4 := hg.size
  clear hx hS hg
  by_cases hx0 : x = 0
  · have hxb : (x == 0) = true := beq_iff_eq.2 hx0
    clear hx0
    go_wp2_with fail
    refine (specDamage_any w.heap.size b t w4 (by omega) HS4.out).mono ?_; rintro e w5 ⟨s, rfl, hs, hS, hg⟩
    have HB5 := Lib.hid (HB4.out.trans (grown_below hg hbs (by omega)))
    have hs2 : s.size ≤ 2701 := by omega
    clear hS hg hs
    go_wp2_with fail
    go_ret
    exact ⟨s, rfl, hs2, HB5.out⟩
  · have hxb : (x == 0) = false := beq_eq_false_iff_ne.2 hx0
    clear hx0
    go_wp2_with fail
    go_ret
    exact ⟨t, rfl, by omega, HB4.out⟩
end Go.Proofs.YtjnicmlomjppnaaGreatDoor
