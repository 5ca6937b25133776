/- Contracts of chapter 8's model: taking, putting back, replays, chances. -/
import Derived.Test.YtjnicmlomjppnaaGreatDoorChecked
import Derived.Test.YtjnicmlomjppnaaGreatDoorBase0
import Derived.Test.YtjnicmlomjppnaaGreatDoorInfo
import Derived.Test.YtjnicmlomjppnaaGreatDoorIntL
import Derived.Test.YtjnicmlomjppnaaGreatDoorBuildI
import Derived.Test.YtjnicmlomjppnaaGreatDoorBuild8
import Derived.Test.YtjnicmlomjppnaaGreatDoorRowV
import Derived.Test.YtjnicmlomjppnaaGreatDoorPoolA
import Derived.Test.YtjnicmlomjppnaaGreatDoorSpec80
import Derived.Test.YtjnicmlomjppnaaGreatDoorSpec81
import Derived.Test.YtjnicmlomjppnaaGreatDoorSpec82
import Derived.WalkKit
import Derived.WalkSpells
import Derived.WalkLawsBesides
import Derived.Lib.Hide
import Derived.Lib.QuietBelow
import Derived.IntWalk
import Derived.Deep.QuietTactic
import Derived.Deep.RegionHeld3
import Derived.BigQuiet
import Derived.Outline
namespace Go.Proofs.YtjnicmlomjppnaaGreatDoor
open Go.RowKit Pure1 Pure2 Pure30 Pure40 Pure60 Pure80 Rec

/-- a pool of our own, a list of our own and a code are returned; nothing that was there has turned -/
def SaysTake (q : PoolV) (out : List Int) (n : Int) (w : World) (e : Ending) (w' : World) : Prop :=
  ∃ v0 v1 v2, e = .returned (.tuple #[.agg #[v0, v1, .int .i64 q.state], v2, .int .i64 n]) ∧ BuildI w.heap.size w' v0 q.nums ∧ BuildI w.heap.size w' v1 q.drawn ∧ BuildI w.heap.size w' v2 out ∧ ApartV v0 v1 ∧ ApartV v0 v2 ∧ ApartV v1 v2 ∧ Below w.heap.size w w'
theorem takeC_why (p : PoolV) (k : Int) : (isPool p = false ∧ takeC p k = 1) ∨ (isPool p = true ∧ k < 0 ∧ takeC p k = 2) ∨ (isPool p = true ∧ ¬ k < 0 ∧ (p.nums.length : Int) - p.drawn.length < k ∧ takeC p k = 3) ∨ (isPool p = true ∧ ¬ k < 0 ∧ ¬ (p.nums.length : Int) - p.drawn.length < k ∧ takeC p k = 0) := by
  unfold takeC
  cases hp : isPool p with
  | false => exact .inl ⟨rfl, by simp⟩
  | true =>
    by_cases h1 : k < 0
    · exact .inr (.inl ⟨rfl, h1, by simp [h1]⟩)
    · by_cases h2 : (p.nums.length : Int) - p.drawn.length < k
      · exact .inr (.inr (.inl ⟨rfl, h1, h2, by simp [h1, h2]⟩))
      · exact .inr (.inr (.inr ⟨rfl, h1, h2, by simp [h1, h2]⟩))

set_option maxRecDepth 100000 in
set_option maxHeartbeats 4000000 in
theorem specTake8_any (a0 : Option Addr) (l0 c0 : Nat) (a1 : Option Addr) (l1 c1 : Nat) (p : PoolV) (k : Int) (w : World) (hI : PoolV.In w a0 l0 a1 l1 p) (hc1 : l1 ≤ c1) (hn0 : a0 = none → l0 = 0 ∧ c0 = 0) (hn1 : a1 = none → l1 = 0 ∧ c1 = 0) :
    Calls Tryz.prog 47 #[.agg #[.slice a0 l0 c0, .slice a1 l1 c1, .int .i64 p.state], .int .i64 k] w (SaysTake (takeR p k).1 (takeR p k).2.1 (takeR p k).2.2 w) := by
  have hw1 : (w.alloc (.cells #[.slice a0 l0 c0, .slice a1 l1 c1, .int .i64 p.state] 26)).heap.size = w.heap.size + 1 := by simp
  have HW := Lib.hid (boxes2 w (.cells #[.slice a0 l0 c0, .slice a1 l1 c1, .int .i64 p.state] 26) (.cells #[.slice none 0 0, .slice none 0 0, .int .i64 0] 26))
  have HX := Lib.hid ((PoolV.boxed w a0 l0 c0 a1 l1 c1 p 26).below (boxed _ (.cells #[.slice none 0 0, .slice none 0 0, .int .i64 0] 26)))
  have hrow := rowV_box (w.alloc (.cells #[.slice a0 l0 c0, .slice a1 l1 c1, .int .i64 p.state] 26)) 26 [.slice none 0 0, .slice none 0 0, .int .i64 0]
  rw [hw1] at hrow
  have HP := Lib.hid hrow
  have HI := Lib.hid hI
  have hm0 := hI.1.2.1
  have hm1 := hI.2.2.1
  unfold maxLen at hm0 hm1
  have HC := Lib.hid (specIsPool8_any a0 l0 c0 a1 l1 c1 p ((w.alloc (.cells #[.slice a0 l0 c0, .slice a1 l1 c1, .int .i64 p.state] 26)).alloc (.cells #[.slice none 0 0, .slice none 0 0, .int .i64 0] 26)) (hI.below HW.out) hc1)
  have HE := Lib.hid (show takeR p k = if takeC p k = 0 then (drawP p k, outN p.nums p.drawn p.state k.toNat, 0) else (zeroP, [], takeC p k) from rfl)
  have hsz : ((w.alloc (.cells #[.slice a0 l0 c0, .slice a1 l1 c1, .int .i64 p.state] 26)).alloc (.cells #[.slice none 0 0, .slice none 0 0, .int .i64 0] 26)).heap.size = w.heap.size + 1 + 1 := by simp
  have HN0 := Lib.hid hn0; have HN1 := Lib.hid hn1
  clear hrow hI hw1 hn0 hn1
  have hwhy := takeC_why p k
  rw [HI.out.1.1, HI.out.2.1] at hwhy
  generalize hr : takeR p k = r at HE ⊢
  have HRR := Lib.hid hr
  clear hr
  rcases hwhy with ⟨hp, h⟩ | ⟨hp, h1, h⟩ | ⟨hp, h1, h2, h⟩ | ⟨hp, h1, h2, h⟩
  · rw [hp] at HC
    rw [h] at HE
    have HF := Lib.hid (show r = (zeroP, [], 1) by rw [HE.out]; rfl)
    clear hp h HRR HE
    go_enter Tryz.func47, Tryz.ntmps47
    obtain ⟨x0, x1, x2⟩ := HX.out
    go_wp2_with fail
    generalize (w.alloc (.cells #[.slice a0 l0 c0, .slice a1 l1 c1, .int .i64 p.state] 26)).alloc (.cells #[.slice none 0 0, .slice none 0 0, .int .i64 0] 26) = w0 at HW HX HP HC hsz x0 x1 x2 ⊢
    refine HC.out.mono ?_; rintro e w1 ⟨rfl, hB⟩
    have HB := Lib.hid (HW.out.trans (hB.mono (by omega)))
    have HX1 := Lib.hid (HX.out.below hB); have HP1 := Lib.hid (HP.out.below hB)
    clear hB x0 x1 x2 HX HP HW HC hsz
    obtain ⟨x0, x1, x2⟩ := HX1.out
    have p0 := HP1.out.cell (show _[0]? = some _ from rfl); have p1 := HP1.out.cell (show _[1]? = some _ from rfl); have p2 := HP1.out.cell (show _[2]? = some _ from rfl)
    have g0 := HP1.out.frozen 0; have g1 := HP1.out.frozen 1; have g2 := HP1.out.frozen 2
    go_wp2_with fail
    (try simp only [Exit.inBlock, Exit.then])
    refine bodyPost_ret (v := .tuple #[.agg #[.slice none 0 0, .slice none 0 0, .int .i64 0], .slice none 0 0, .int .i64 1]) ?_ rfl ?_
    · rw [Rec.results_cell_tmp2 rfl]
      go_simp
    · rw [HF.out]
      exact ⟨_, _, _, rfl, BuildI.nil _ _, BuildI.nil _ _, BuildI.nil _ _, none_apartV _, none_apartV _, none_apartV _, ((HB.out.setCell (Nat.le_succ _) _).setCell (Nat.le_succ _) _).setCell (Nat.le_succ _) _⟩
  · rw [hp] at HC
    rw [h] at HE
    have HF := Lib.hid (show r = (zeroP, [], 2) by rw [HE.out]; rfl)
    clear hp h HRR HE
    go_enter Tryz.func47, Tryz.ntmps47
    obtain ⟨x0, x1, x2⟩ := HX.out
    go_wp2_with fail
    generalize (w.alloc (.cells #[.slice a0 l0 c0, .slice a1 l1 c1, .int .i64 p.state] 26)).alloc (.cells #[.slice none 0 0, .slice none 0 0, .int .i64 0] 26) = w0 at HW HX HP HC hsz x0 x1 x2 ⊢
    refine HC.out.mono ?_; rintro e w1 ⟨rfl, hB⟩
    have HB := Lib.hid (HW.out.trans (hB.mono (by omega)))
    have HX1 := Lib.hid (HX.out.below hB); have HP1 := Lib.hid (HP.out.below hB)
    clear hB x0 x1 x2 HX HP HW HC hsz
    obtain ⟨x0, x1, x2⟩ := HX1.out
    have p0 := HP1.out.cell (show _[0]? = some _ from rfl); have p1 := HP1.out.cell (show _[1]? = some _ from rfl); have p2 := HP1.out.cell (show _[2]? = some _ from rfl)
    have g0 := HP1.out.frozen 0; have g1 := HP1.out.frozen 1; have g2 := HP1.out.frozen 2
    go_wp2_with fail
    (try simp only [Exit.inBlock, Exit.then])
    refine bodyPost_ret (v := .tuple #[.agg #[.slice none 0 0, .slice none 0 0, .int .i64 0], .slice none 0 0, .int .i64 2]) ?_ rfl ?_
    · rw [Rec.results_cell_tmp2 rfl]
      go_simp
    · rw [HF.out]
      exact ⟨_, _, _, rfl, BuildI.nil _ _, BuildI.nil _ _, BuildI.nil _ _, none_apartV _, none_apartV _, none_apartV _, ((HB.out.setCell (Nat.le_succ _) _).setCell (Nat.le_succ _) _).setCell (Nat.le_succ _) _⟩
  · rw [hp] at HC
    rw [h] at HE
    have HF := Lib.hid (show r = (zeroP, [], 3) by rw [HE.out]; rfl)
    clear hp h HRR HE
    go_enter Tryz.func47, Tryz.ntmps47
    obtain ⟨x0, x1, x2⟩ := HX.out
    go_wp2_with fail
    generalize (w.alloc (.cells #[.slice a0 l0 c0, .slice a1 l1 c1, .int .i64 p.state] 26)).alloc (.cells #[.slice none 0 0, .slice none 0 0, .int .i64 0] 26) = w0 at HW HX HP HC hsz x0 x1 x2 ⊢
    refine HC.out.mono ?_; rintro e w1 ⟨rfl, hB⟩
    have HB := Lib.hid (HW.out.trans (hB.mono (by omega)))
    have HX1 := Lib.hid (HX.out.below hB); have HP1 := Lib.hid (HP.out.below hB)
    clear hB x0 x1 x2 HX HP HW HC hsz
    obtain ⟨x0, x1, x2⟩ := HX1.out
    have p0 := HP1.out.cell (show _[0]? = some _ from rfl); have p1 := HP1.out.cell (show _[1]? = some _ from rfl); have p2 := HP1.out.cell (show _[2]? = some _ from rfl)
    have g0 := HP1.out.frozen 0; have g1 := HP1.out.frozen 1; have g2 := HP1.out.frozen 2
    have hw0 : IntKind.i64.wrap ((l0 : Int) - l1) = (l0 : Int) - l1 := IntWalk.i64_in _ (by omega)
    go_wp2_with fail
    (try simp only [Exit.inBlock, Exit.then])
    refine bodyPost_ret (v := .tuple #[.agg #[.slice none 0 0, .slice none 0 0, .int .i64 0], .slice none 0 0, .int .i64 3]) ?_ rfl ?_
    · rw [Rec.results_cell_tmp2 rfl]
      go_simp
    · rw [HF.out]
      exact ⟨_, _, _, rfl, BuildI.nil _ _, BuildI.nil _ _, BuildI.nil _ _, none_apartV _, none_apartV _, none_apartV _, ((HB.out.setCell (Nat.le_succ _) _).setCell (Nat.le_succ _) _).setCell (Nat.le_succ _) _⟩
  · obtain ⟨K, rfl⟩ : ∃ K : Nat, k = K := ⟨k.toNat, by omega⟩
    obtain ⟨hp', hk0, hkk⟩ := take_good h
    rw [Int.toNat_natCast] at hkk
    have HPP := Lib.hid hp'
    have HKK := Lib.hid hkk
    rw [hp] at HC
    rw [h] at HE
    have HF := Lib.hid (show r = (⟨p.nums, (drawN p.nums p.drawn p.state K).1, (drawN p.nums p.drawn p.state K).2⟩, outN p.nums p.drawn p.state K, 0) by rw [HE.out]; rfl)
    have hw0 : IntKind.i64.wrap ((l0 : Int) - l1) = (l0 : Int) - l1 := IntWalk.i64_in _ (by omega)
    clear hp h HRR HE hp' hkk
    go_enter Tryz.func47, Tryz.ntmps47
    obtain ⟨x0, x1, x2⟩ := HX.out
    go_wp2_with fail
    generalize (w.alloc (.cells #[.slice a0 l0 c0, .slice a1 l1 c1, .int .i64 p.state] 26)).alloc (.cells #[.slice none 0 0, .slice none 0 0, .int .i64 0] 26) = w0 at HW HX HP HC hsz x0 x1 x2 ⊢
    refine HC.out.mono ?_; rintro e w1 ⟨rfl, hB⟩
    have HB := Lib.hid (HW.out.trans (hB.mono (by omega)))
    have HX1 := Lib.hid (HX.out.below hB); have HP1 := Lib.hid (HP.out.below hB)
    have hs1 : w.heap.size + 1 + 1 ≤ w1.heap.size := by rw [← hsz]; exact hB.size
    clear hB x0 x1 x2 HX HP HW HC hsz
    obtain ⟨x0, x1, x2⟩ := HX1.out
    have HD := Lib.hid (specDraw8_any a0 l0 c0 a1 l1 c1 p K w1 (HI.out.below HB.out) HN0.out HN1.out HPP.out HKK.out)
    go_wp2_with fail
    refine HD.out.mono ?_; rintro e w2 ⟨v0, v1, v2, rfl, ho0, ho1, ho2, hA1, hA2, hA3, hB⟩
    have HP2 := Lib.hid (HP1.out.below hB)
    have H0 := Lib.hid (ho0.base hs1); have H1 := Lib.hid (ho1.base hs1); have H2 := Lib.hid (ho2.base hs1)
    have HA1 := Lib.hid hA1; have HA2 := Lib.hid hA2; have HA3 := Lib.hid hA3
    have HB2 := Lib.hid (HB.out.trans (hB.mono HB.out.size))
    clear ho0 ho1 ho2 hA1 hA2 hA3 hB HD x0 x1 x2 HX1 HP1
    simp only at H0 H1
    obtain ⟨b0, e0, rfl, _⟩ := H0.out.slice
    obtain ⟨b1, e1, rfl, _⟩ := H1.out.slice
    obtain ⟨b2, e2, rfl, _⟩ := H2.out.slice
    generalize hds : drawN p.nums p.drawn p.state K = ds at H1 HA1 HA3 ⊢
    have HDS := Lib.hid hds
    clear hds
    obtain ⟨dl, s⟩ := ds
    simp only at H1 HA1 HA3 ⊢
    have hal := boxed w2 (.cells #[.slice b0 p.nums.length e0, .slice b1 dl.length e1, .int .i64 s] 26)
    have HP3 := Lib.hid (HP2.out.below hal)
    have p0 := HP3.out.cell (show _[0]? = some _ from rfl); have p1 := HP3.out.cell (show _[1]? = some _ from rfl); have p2 := HP3.out.cell (show _[2]? = some _ from rfl)
    have g0 := HP3.out.frozen 0; have g1 := HP3.out.frozen 1; have g2 := HP3.out.frozen 2
    have H03 := Lib.hid (H0.out.below hal); have H13 := Lib.hid (H1.out.below hal); have H23 := Lib.hid (H2.out.below hal)
    have HB3 := Lib.hid (HB2.out.trans (hal.mono HB2.out.size))
    clear hal
    go_wp2_with fail
    (try simp only [Exit.inBlock, Exit.then])
    refine bodyPost_ret (v := .tuple #[.agg #[.slice b0 p.nums.length e0, .slice b1 dl.length e1, .int .i64 s], .slice b2 (outN p.nums p.drawn p.state K).length e2, .int .i64 0]) ?_ rfl ?_
    · rw [Rec.results_cell_tmp2 rfl]
      go_simp
    · have hb : w.heap.size ≤ w.heap.size + 1 + 1 := by omega
      have hl : w.heap.size + 1 < w.heap.size + 1 + 1 := Nat.lt_succ_self _
      have hds := HDS.out
      rw [HF.out, hds]
      exact ⟨_, _, _, rfl, (((H03.out.stored hl _).stored hl _).stored hl _).base hb, (((H13.out.stored hl _).stored hl _).stored hl _).base hb, (((H23.out.stored hl _).stored hl _).stored hl _).base hb, HA1.out, HA2.out, HA3.out, ((HB3.out.setCell (Nat.le_succ _) _).setCell (Nat.le_succ _) _).setCell (Nat.le_succ _) _⟩
end Go.Proofs.YtjnicmlomjppnaaGreatDoor
