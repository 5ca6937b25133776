/- Contracts of chapter 8's model: draws. -/
import Derived.Test.YtjnicmlomjppnaaGreatDoorChecked
import Derived.Test.YtjnicmlomjppnaaGreatDoorBase0
import Derived.Test.YtjnicmlomjppnaaGreatDoorInfo
import Derived.Test.YtjnicmlomjppnaaGreatDoorIntL
import Derived.Test.YtjnicmlomjppnaaGreatDoorBuildI
import Derived.Test.YtjnicmlomjppnaaGreatDoorBuild8
import Derived.Test.YtjnicmlomjppnaaGreatDoorRowV
import Derived.Test.YtjnicmlomjppnaaGreatDoorPoolA
import Derived.Test.YtjnicmlomjppnaaGreatDoorSpec80
import Derived.Test.YtjnicmlomjppnaaGreatDoorSpec81
import Derived.WalkKit
import Derived.WalkSpells
import Derived.WalkLawsBesides
import Derived.Lib.Hide
import Derived.Lib.QuietBelow
import Derived.IntWalk
import Derived.Deep.QuietTactic
import Derived.Deep.RegionHeld3
import Derived.BigQuiet
import Derived.Outline
namespace Go.Proofs.YtjnicmlomjppnaaGreatDoor
open Go.RowKit Pure1 Pure2 Pure30 Pure40 Pure60 Pure80 Rec

/-- a pool of our own and a list of our own are returned; nothing that was there has turned -/
def SaysDraw (q : PoolV) (out : List Int) (w : World) (e : Ending) (w' : World) : Prop :=
  ∃ v0 v1 v2, e = .returned (.tuple #[.agg #[v0, v1, .int .i64 q.state], v2]) ∧ BuildI w.heap.size w' v0 q.nums ∧ BuildI w.heap.size w' v1 q.drawn ∧ BuildI w.heap.size w' v2 out ∧ ApartV v0 v1 ∧ ApartV v0 v2 ∧ ApartV v1 v2 ∧ Below w.heap.size w w'
/-- what a list that grew has in common with another one -/
theorem apartV_grew {B : Nat} {w : World} {v v' u : Value} {zs : List Int} (h : ApartV v u) (hu : BuildI B w u zs) (hv : v'.ownBlock = v.ownBlock ∨ v'.ownBlock = some w.heap.size) : ApartV v' u := by
  intro k h1 h2
  rcases hv with hv | hv
  · exact h k (by rw [← hv]; exact h1) h2
  · rw [hv] at h1
    cases h1
    have := (hu.lt _ h2).2
    omega
theorem below_int {s : Int} {n : Nat} (h : 0 ≤ s) : s * (n : Int) / 2147483647 = below s n := rfl

set_option maxRecDepth 100000 in
set_option maxHeartbeats 8000000 in
theorem specDraw8_any (a0 : Option Addr) (l0 c0 : Nat) (a1 : Option Addr) (l1 c1 : Nat) (p : PoolV) (K : Nat) (w : World) (hI : PoolV.In w a0 l0 a1 l1 p) (hn0 : a0 = none → l0 = 0 ∧ c0 = 0) (hn1 : a1 = none → l1 = 0 ∧ c1 = 0) (hp : isPool p = true) (hK : p.drawn.length + K ≤ p.nums.length) :
    Calls Tryz.prog 63 #[.agg #[.slice a0 l0 c0, .slice a1 l1 c1, .int .i64 p.state], .int .i64 (K : Int)] w (SaysDraw ⟨p.nums, (drawN p.nums p.drawn p.state K).1, (drawN p.nums p.drawn p.state K).2⟩ (outN p.nums p.drawn p.state K) w) := by
  have hl60 : l0 ≤ 60 := by have h1 := pool_len hp; have h2 := hI.1.1; omega
  have hl61 : l1 ≤ 60 := by have h1 := pool_len hp; have h2 := hI.2.1; have h3 := pool_dlen hp; omega
  have hK60 : K ≤ 60 := by have h1 := pool_len hp; omega
  have hw1 : (w.alloc (.cells #[.slice a0 l0 c0, .slice a1 l1 c1, .int .i64 p.state] 26)).heap.size = w.heap.size + 1 := by simp
  have hw2 : ((w.alloc (.cells #[.slice a0 l0 c0, .slice a1 l1 c1, .int .i64 p.state] 26)).alloc (.cells #[.slice none 0 0, .slice none 0 0, .int .i64 0] 26)).heap.size = w.heap.size + 1 + 1 := by simp
  have hw3 : (((w.alloc (.cells #[.slice a0 l0 c0, .slice a1 l1 c1, .int .i64 p.state] 26)).alloc (.cells #[.slice none 0 0, .slice none 0 0, .int .i64 0] 26)).alloc (.cells #[] 2)).heap.size = w.heap.size + 1 + 1 + 1 := by simp
  have HW := Lib.hid (boxes3 w (.cells #[.slice a0 l0 c0, .slice a1 l1 c1, .int .i64 p.state] 26) (.cells #[.slice none 0 0, .slice none 0 0, .int .i64 0] 26) (.cells #[] 2))
  have HX := Lib.hid (((PoolV.boxed w a0 l0 c0 a1 l1 c1 p 26).below (boxed _ (.cells #[.slice none 0 0, .slice none 0 0, .int .i64 0] 26))).below (boxed _ (.cells #[] 2)))
  have hrow := (rowV_box (w.alloc (.cells #[.slice a0 l0 c0, .slice a1 l1 c1, .int .i64 p.state] 26)) 26 [.slice none 0 0, .slice none 0 0, .int .i64 0]).below (boxed _ (.cells #[] 2))
  have hout := BuildI.empty (B := w.heap.size + 1 + 1) (w := (w.alloc (.cells #[.slice a0 l0 c0, .slice a1 l1 c1, .int .i64 p.state] 26)).alloc (.cells #[.slice none 0 0, .slice none 0 0, .int .i64 0] 26)) (by simp)
  rw [hw1] at hrow
  rw [hw2] at hout
  have HP := Lib.hid hrow; have HE := Lib.hid hout
  have HI := Lib.hid hI
  have HH := Lib.hid hp
  have HN0 := Lib.hid hn0; have HN1 := Lib.hid hn1
  have HKK := Lib.hid hK
  clear hrow hout hI hw1 hw2 hp hn0 hn1 hK
  go_enter Tryz.func63, Tryz.ntmps63
  go_wp2_with fail
  generalize ((w.alloc (.cells #[.slice a0 l0 c0, .slice a1 l1 c1, .int .i64 p.state] 26)).alloc (.cells #[.slice none 0 0, .slice none 0 0, .int .i64 0] 26)).alloc (.cells #[] 2) = w0 at HW HX HP HE hw3 ⊢
  have hdr := Below.drew (Below.refl w0.heap.size w0)
  have HdX := Lib.hid (HX.out.below hdr)
  have HC := Lib.hid (specOwn8 a1 l1 c1 p.drawn w0.drew ((HI.out.2.below HW.out).below hdr) (by omega) HN1.out)
  go_region_held3 (fun W => W.cell? ⟨w.heap.size, 1, none⟩ = some (.slice a1 l1 c1) ∧ W.cell? ⟨w.heap.size, 2, none⟩ = some (.int .i64 p.state)) (first | exact HdX.out.2 | exact (HdX.out.below hBq).2) ((go_at_call 82; refine HC.out.mono ?_; rintro e v1 ⟨vd, rfl, hod, hBq⟩))
  have hall : Below w0.heap.size w0 v1 := hdr.trans hBq
  have hC : w.heap.size + 1 + 1 ≤ w0.heap.size := by omega
  have HX1 := Lib.hid (HX.out.below hall); have HP1 := Lib.hid (HP.out.below hall); have HE1 := Lib.hid (HE.out.below hall)
  have HD1 := Lib.hid (hod.base (show w.heap.size + 1 + 1 ≤ w0.drew.heap.size from hC))
  have HA1 := Lib.hid (apartV_later HE.out hod (Nat.le_refl _))
  have HW1 := Lib.hid (HW.out.trans (hall.mono (by omega)))
  have hsz1 : w.heap.size + 1 + 1 ≤ v1.heap.size := Nat.le_trans hC hall.size
  clear hdr HdX HC hod hBq hall HX HP HE HW hw3 hC
  go_wp2
  go_loopw [1, 6, 7, 8] (fun kv v6 v7 sv wr => ∃ j : Nat, j ≤ K ∧ kv = .int .i64 ((K - j : Nat) : Int) ∧ sv = .int .i64 (drawN p.nums p.drawn p.state j).2 ∧ BuildI (w.heap.size + 1 + 1) wr v6 (outN p.nums p.drawn p.state j) ∧ BuildI (w.heap.size + 1 + 1) wr v7 (drawN p.nums p.drawn p.state j).1 ∧ ApartV v6 v7 ∧ Below w.heap.size w wr ∧ PoolV.Box wr w.heap.size a0 l0 c0 a1 l1 c1 p ∧ RowV (w.heap.size + 1) wr 26 [.slice none 0 0, .slice none 0 0, .int .i64 0] ∧ w.heap.size + 1 + 1 ≤ wr.heap.size) (fun kv _ _ _ _ => (intOf kv).toNat)
  case atStart => exact ⟨0, Nat.zero_le _, by simp, rfl, by rw [outN_zero]; exact HE1.out, HD1.out, HA1.out, HW1.out, HX1.out, HP1.out, hsz1⟩
  case round =>
    obtain ⟨j, hj, rfl, rfl, ho, hd, ha, hW, hX, hP, hs⟩ := hrel
    clear HX1 HP1 HE1 HD1 HA1 HW1
    have hst := drawN_state p.nums p.drawn (pool_state HH.out) j
    have HN1 := Lib.hid (outN_step p.nums p.drawn p.state j)
    have HN2 := Lib.hid (show drawN p.nums p.drawn p.state (j + 1) = ((drawN p.nums p.drawn p.state j).1 ++ [pick p.nums (drawN p.nums p.drawn p.state j).1 (nx (drawN p.nums p.drawn p.state j).2)], nx (drawN p.nums p.drawn p.state j).2) from rfl)
    have hlen := outN_length p.nums p.drawn p.state j
    have hdlen := drawN_length p.nums p.drawn p.state j
    have hleft := drawN_left (pool_state HH.out) (pool_nodup HH.out) (pool_dnodup HH.out) (pool_sub HH.out) j (by have := HKK.out; omega)
    have hnl := HI.out.1.1
    by_cases hlt : j < K
    · have hpos : 0 < (leftL p.nums (drawN p.nums p.drawn p.state j).1).length := by have := HKK.out; omega
      have hll : (leftL p.nums (drawN p.nums p.drawn p.state j).1).length ≤ 60 := by omega
      have hns := nx_state hst
      have hpick := pick_at hns hpos
      have hbl := below_left hns hpos
      have hgt : 0 < ((K - j : Nat) : Int) := by omega
      have hd60 : (drawN p.nums p.drawn p.state j).1.length ≤ 60 := by omega
      have ho60 : (outN p.nums p.drawn p.state j).length ≤ 60 := by omega
      clear hlen hdlen hleft hnl
      obtain ⟨idx, hid⟩ : ∃ idx : Nat, (below (nx (drawN p.nums p.drawn p.state j).2) ((leftL p.nums (drawN p.nums p.drawn p.state j).1).length : Int)).toNat = idx := ⟨_, rfl⟩
      rw [hid] at hpick hbl
      have hidx : below (nx (drawN p.nums p.drawn p.state j).2) ((leftL p.nums (drawN p.nums p.drawn p.state j).1).length : Int) = idx := by
        rw [← hid, Int.toNat_of_nonneg hbl.1]
      replace hbl := hbl.2
      clear hid
      generalize outN p.nums p.drawn p.state j = os at ho HN1 ho60 ⊢
      generalize drawN p.nums p.drawn p.state j = ds at hd hst HN1 HN2 hd60 hpos hll hns hpick hbl hidx ⊢
      obtain ⟨dl, s⟩ := ds
      simp only at hd hst HN1 HN2 hd60 hpos hll hns hpick hbl hidx
      obtain ⟨a6, c6, rfl, _⟩ := ho.slice
      obtain ⟨a7, c7, rfl, hat7⟩ := hd.slice
      have HO := Lib.hid ho; have HD := Lib.hid hd; have HA := Lib.hid ha; have HW := Lib.hid hW; have HX := Lib.hid hX; have HP := Lib.hid hP
      have HC := Lib.hid (show Calls Tryz.prog 83 #[.agg #[.slice a0 l0 c0, .slice a7 dl.length c7, .int .i64 0]] wr (NewB (leftL p.nums dl) wr) from specLeft8_any a0 l0 c0 a7 dl.length c7 ⟨p.nums, dl, 0⟩ wr ⟨HI.out.1.below hW, ⟨rfl, by unfold maxLen; omega, hat7⟩⟩ (by omega))
      clear ho hd ha hW hX hP hat7
      obtain ⟨x0, x1, x2⟩ := HX.out
      go_wp2_with fail
      refine HC.out.mono ?_; rintro e w1 ⟨vL, rfl, hoL, hB⟩
      obtain ⟨aL, cL, rfl, hatL⟩ := hoL.slice
      obtain ⟨bL, off, y, rfl, hc, _, hy⟩ := hatL.at rfl hbl
      obtain rfl : y = pick p.nums dl (nx s) := Option.some.inj (hy.symm.trans hpick)
      have HO1 := Lib.hid (HO.out.below hB); have HD1 := Lib.hid (HD.out.below hB); have HW1 := Lib.hid (HW.out.trans (hB.mono HW.out.size)); have HX1 := Lib.hid (HX.out.below hB); have HP1 := Lib.hid (HP.out.below hB)
      have hs1 : w.heap.size + 1 + 1 ≤ w1.heap.size := Nat.le_trans hs hB.size
      have HC2 := Lib.hid (specNext8 s w1 (by omega))
      clear hoL hatL hy hpick hB HC HO HD HW HX HP x0 x1 x2
      generalize hxx : pick p.nums dl (nx s) = x at hc HN1 HN2
      clear hxx
      generalize (leftL p.nums dl).length = ll at hidx hbl hll hpos hc ⊢
      go_wp2_with fail
      refine HC2.out.mono ?_; rintro e w2 ⟨rfl, rfl⟩
      have q0 : 0 ≤ nx s * (ll : Int) ∧ nx s * (ll : Int) ≤ 2147483646 * 60 := by
        refine ⟨Int.mul_nonneg (by omega) (by omega), ?_⟩
        have := Int.mul_le_mul hns.2 (show (ll : Int) ≤ 60 by omega) (by omega) (by omega)
        omega
      have q1 : IntKind.i64.wrap (nx s * (ll : Int)) = nx s * (ll : Int) := IntWalk.i64_in _ (by omega)
      have q2 : nx s * (ll : Int) / 2147483647 = (idx : Int) := hidx
      go_wp2_with (at_builtin; refine wpList_int_appendA (B := w.heap.size + 1 + 1) rfl _ _ rfl _ _ rfl (HO1.out.alloc _) _ x rfl (BuildI.lit1 _ _ _) (by omega) (by simp; omega) ?_)
      intro v6 w3 h1 h2 h3
      have hal := boxed w2 (.cells #[.int .i64 x] 2)
      have hne : ∀ q, (Value.slice a6 os.length c6).ownBlock = some q → w.heap.size + 1 + 1 ≤ q := fun q hq => (HO1.out.lt q hq).1
      have HO3 := Lib.hid h1
      have hd3 := HD1.out.below hal
      have HD3 := Lib.hid (hd3.kept h2 (fun k hk hk2 => HA.out k hk2 hk))
      have h4 : v6.ownBlock = (Value.slice a6 os.length c6).ownBlock ∨ v6.ownBlock = some (w2.alloc (.cells #[.int .i64 x] 2)).heap.size := by rw [show (w2.alloc (.cells #[.int .i64 x] 2)).heap.size = w2.heap.size + 1 by simp]; exact h3
      have HA3 := Lib.hid (apartV_grew HA.out hd3 h4)
      have HW3 := Lib.hid ((HO1.out.below hal).grew (HW1.out.trans (hal.mono (by omega))) (by omega) (by simp; omega) h2)
      have HX3 := Lib.hid ((HX1.out.below hal).grown h2 (fun q hq => by have := hne q hq; omega))
      have HP3 := Lib.hid ((HP1.out.below hal).grown h2 (fun q hq => by have := hne q hq; omega))
      have hs3 : w.heap.size + 1 + 1 ≤ w3.heap.size := Nat.le_trans (by simp; omega) h2.size
      clear h1 h2 h3 h4 hal hne hd3 HO1 HD1 HA HW1 HX1 HP1 hs1 hc q0 q1 q2 HC2
      go_wp2_with (at_builtin; refine wpList_int_appendA (B := w.heap.size + 1 + 1) rfl _ _ rfl _ _ rfl (HD3.out.alloc _) _ x rfl (BuildI.lit1 _ _ _) (by omega) (by simp; omega) ?_)
      intro v7 w4 h1 h2 h3
      have hal := boxed w3 (.cells #[.int .i64 x] 2)
      have hne : ∀ q, (Value.slice a7 dl.length c7).ownBlock = some q → w.heap.size + 1 + 1 ≤ q := fun q hq => (HD3.out.lt q hq).1
      have ho4 := HO3.out.below hal
      have HD4 := Lib.hid h1
      have HO4 := Lib.hid (ho4.kept h2 (fun k hk hk2 => HA3.out k hk hk2))
      have h4 : v7.ownBlock = (Value.slice a7 dl.length c7).ownBlock ∨ v7.ownBlock = some (w3.alloc (.cells #[.int .i64 x] 2)).heap.size := by rw [show (w3.alloc (.cells #[.int .i64 x] 2)).heap.size = w3.heap.size + 1 by simp]; exact h3
      have HA4 := Lib.hid (apartV_grew HA3.out.symm ho4 h4).symm
      have HW4 := Lib.hid ((HD3.out.below hal).grew (HW3.out.trans (hal.mono (by omega))) (by omega) (by simp; omega) h2)
      have HX4 := Lib.hid ((HX3.out.below hal).grown h2 (fun q hq => by have := hne q hq; omega))
      have HP4 := Lib.hid ((HP3.out.below hal).grown h2 (fun q hq => by have := hne q hq; omega))
      have hs4 : w.heap.size + 1 + 1 ≤ w4.heap.size := Nat.le_trans (by simp; omega) h2.size
      clear h1 h2 h3 h4 hal hne ho4 HO3 HD3 HA3 HW3 HX3 HP3 hs3
      have hk1 : IntKind.i64.wrap (((K - j : Nat) : Int) - 1) = ((K - j : Nat) : Int) - 1 := IntWalk.i64_in _ (by omega)
      go_wp2
      go_roundw
      case rel => exact ⟨j + 1, by omega, by first | go_num | (congr 1; omega), by rw [HN2.out], by rw [HN1.out]; exact HO4.out, by rw [HN2.out]; exact HD4.out, HA4.out, HW4.out, HX4.out, HP4.out, hs4⟩
      case measure => simp [intOf]; omega
    · obtain rfl : j = K := by omega
      have HO := Lib.hid ho; have HD := Lib.hid hd; have HA := Lib.hid ha; have HW := Lib.hid hW; have HX := Lib.hid hX; have HP := Lib.hid hP
      have HC := Lib.hid (specOwn8 a0 l0 c0 p.nums wr (HI.out.1.below hW) (by omega) HN0.out)
      have hz : ((j - j : Nat) : Int) = 0 := by omega
      rw [hz]
      clear ho hd ha hW hX hP hz hlen hdlen hleft hnl HN1 HN2 hlt
      generalize hos : outN p.nums p.drawn p.state j = os at HO ⊢
      have HOS := Lib.hid hos
      clear hos
      generalize hds : drawN p.nums p.drawn p.state j = ds at HD hst ⊢
      obtain ⟨dl, s⟩ := ds
      have HDS := Lib.hid hds
      clear hds
      simp only at HD hst ⊢
      obtain ⟨x0, x1, x2⟩ := HX.out
      go_wp2_with fail
      refine HC.out.mono ?_; rintro e w1 ⟨v0, rfl, h0, hB⟩
      have HO1 := Lib.hid (HO.out.below hB); have HD1 := Lib.hid (HD.out.below hB); have HW1 := Lib.hid (HW.out.trans (hB.mono HW.out.size)); have HP1 := Lib.hid (HP.out.below hB)
      have H0 := Lib.hid (h0.base hs)
      have HA6 := Lib.hid (apartV_later HO.out h0 (Nat.le_refl _)).symm; have HA7 := Lib.hid (apartV_later HD.out h0 (Nat.le_refl _)).symm
      clear h0 hB HC HO HD HW HX HP x0 x1 x2
      have p0 := HP1.out.cell (show _[0]? = some _ from rfl); have p1 := HP1.out.cell (show _[1]? = some _ from rfl); have p2 := HP1.out.cell (show _[2]? = some _ from rfl)
      have g0 := HP1.out.frozen 0; have g1 := HP1.out.frozen 1; have g2 := HP1.out.frozen 2
      obtain ⟨a6, c6, rfl, _⟩ := HO1.out.slice
      obtain ⟨a7, c7, rfl, _⟩ := HD1.out.slice
      obtain ⟨b0, e0, rfl, _⟩ := H0.out.slice
      go_wp2_with fail
      (try simp only [Exit.inBlock, Exit.then])
      refine bodyPost_ret (v := .tuple #[.agg #[.slice b0 p.nums.length e0, .slice a7 dl.length c7, .int .i64 s], .slice a6 os.length c6]) ?_ rfl ?_
      · rw [Rec.results_cell_tmp rfl]
        go_simp
      · have hb : w.heap.size ≤ w.heap.size + 1 + 1 := by omega
        have hl : w.heap.size + 1 < w.heap.size + 1 + 1 := Nat.lt_succ_self _
        have hos := HOS.out
        have hds := HDS.out
        rw [hos, hds]
        exact ⟨_, _, _, rfl, (((H0.out.stored hl _).stored hl _).stored hl _).base hb, (((HD1.out.stored hl _).stored hl _).stored hl _).base hb, (((HO1.out.stored hl _).stored hl _).stored hl _).base hb, HA7.out, HA6.out, HA.out.symm, ((HW1.out.setCell (Nat.le_succ _) _).setCell (Nat.le_succ _) _).setCell (Nat.le_succ _) _⟩
end Go.Proofs.YtjnicmlomjppnaaGreatDoor
