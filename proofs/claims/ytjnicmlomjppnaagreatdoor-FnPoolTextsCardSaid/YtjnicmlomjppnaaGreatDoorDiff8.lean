/- Contracts: slices.Sort, slices.Sorted, slices.Compact at int64; impl.areDifferent tells whether no number is told twice. -/
import Derived.Test.YtjnicmlomjppnaaGreatDoorChecked
import Derived.Test.YtjnicmlomjppnaaGreatDoorBase0
import Derived.Test.YtjnicmlomjppnaaGreatDoorInfo
import Derived.Test.YtjnicmlomjppnaaGreatDoorPure83
import Derived.Test.YtjnicmlomjppnaaGreatDoorIntL
import Derived.Test.YtjnicmlomjppnaaGreatDoorBuildI
import Derived.Test.YtjnicmlomjppnaaGreatDoorBuild8
import Derived.Test.YtjnicmlomjppnaaGreatDoorRowV
import Derived.Test.YtjnicmlomjppnaaGreatDoorMidC
import Derived.Test.YtjnicmlomjppnaaGreatDoorLay8
import Derived.Lib.SlKeysI
import Derived.Lib.RowBridge
import Derived.WalkKit
import Derived.WalkSpells
import Derived.WalkLawsBesides
import Derived.Lib.Hide
import Derived.Lib.OwnBridge
import Derived.IntWalk
import Derived.Deep.QuietTactic
import Derived.BigQuiet
import Derived.Outline
namespace Go.Proofs.YtjnicmlomjppnaaGreatDoor
open Go.RowKit Go.Sort Go.Shelf Pure1 Pure2 Pure40 Pure83

theorem compact_small8 {zs : List Int} (h : zs.length < 2) : Go.Lib.compact zs = zs := Go.Lib.compact_all zs fun j hj => Go.Lib.keeps_lt_one _ j (by omega)
theorem compact_le8 (zs : List Int) : (Go.Lib.compact zs).length ≤ zs.length := by
  unfold Go.Lib.compact Go.Lib.compactUpTo
  rw [List.length_map]
  have := List.length_filter_le (Go.Lib.keeps zs.toArray) (List.range zs.length)
  rw [List.length_range] at this; exact this
set_option maxHeartbeats 1000000 in
theorem implCompact8_any (B : Nat) (v : Value) (zs : List Int) (w : World) (hB : B ≤ w.heap.size) (ho : BuildI B w v zs) (hm : zs.length ≤ 1000000000) :
    Calls Tryz.prog 57 #[v] w fun e w' => ∃ v', e = .returned v' ∧ BuildI B w' v' (Go.Lib.compact zs) ∧ Below B w w' := by
  by_cases h2 : zs.length < 2
  · have HE := Lib.hid (compact_small8 h2)
    have HO := Lib.hid ho
    obtain ⟨a, cap, rfl, _⟩ := ho.slice
    have z1 : decide ((zs.length : Int) < 2) = true := decide_eq_true (by omega)
    generalize Go.Lib.compact zs = ys at HE ⊢
    clear ho
    go_enter Tryz.func57, Tryz.ntmps57
    go_wp2_with fail
    go_ret
    rw [HE.out]
    exact ⟨_, rfl, HO.out, Below.refl _ _⟩
  · have hv : v ≠ .slice none 0 0 := by
      rintro rfl
      rcases ho.parts with ⟨_, rfl⟩ | ⟨⟨g, cap, e⟩, _⟩
      · simp at h2
      · cases e
    obtain ⟨g, cap, rfl, hg, hlt, hn, hc, hl, hH⟩ := Go.Lib.holds_of_ownsRow (enc := Value.int .i64) ho hv
    have hz : (zs.toArray).size = zs.length := by simp
    have hc2 := AnyE.slices_Compact Tryz.layComp (Value.int .i64) (fun _ => rfl) (EqlAt.intD _ _ .i64) (NeqAt.intD _ _ .i64) 0 Tryz.zeroValue2 g 0 cap zs.toArray w hH (by rw [hz]; omega) (by rw [hz]; exact hn)
    change Calls Tryz.prog 57 _ _ _ at hc2
    rw [hz] at hc2
    refine hc2.mono ?_
    rintro e w' ⟨rfl, q, rfl⟩
    have hlc := compact_le8 zs
    have ho' := Go.Lib.ownsRow_putRow (enc := Value.int .i64) (q := q) (k := (Go.Lib.compactUpTo zs.toArray zs.length).length) (ys := Go.Lib.compactUpTo zs.toArray zs.length ++ List.replicate (zs.length - (Go.Lib.compactUpTo zs.toArray zs.length).length) 0) ho (by unfold Go.Lib.compact at hlc; simp; omega) hlc
    rw [List.take_append_of_le_length (Nat.le_refl _), List.take_length] at ho'
    exact ⟨_, rfl, ho', Go.Lib.below_putRow (Below.refl _ _) hg⟩

theorem implSort8_any (B : Nat) (v : Value) (zs : List Int) (w : World) (hB : B ≤ w.heap.size) (ho : BuildI B w v zs) (hm : zs.length ≤ 1000000000) :
    Calls Tryz.prog 73 #[v] w fun e w' => e = .returned (.tuple #[]) ∧ BuildI B w' v (sortI zs) ∧ Below B w w' := by
  rcases ho.2 with ⟨rfl, h0⟩ | ⟨g, cap, cur, rfl, hg, hh, hn, hc, hs, hr⟩
  · have e := List.length_eq_zero_iff.1 h0
    subst e
    have hc2 := AnyM.slices_Sort_int_none Tryz.laySort none 0 w
    change Calls Tryz.prog 73 _ _ _ at hc2
    refine hc2.mono ?_
    rintro e w' ⟨rfl, rfl⟩
    exact ⟨rfl, by rw [List.length_eq_zero_iff.1 (sortI_length [])]; exact ho, Below.refl _ _⟩
  · obtain ⟨g', cap', e, hg', hlt, _, _, _, hH⟩ := Go.Lib.holds_of_ownsRow (enc := Value.int .i64) ho (by intro e; cases e)
    cases e
    have hc2 := AnyM.slices_Sort_int Tryz.laySort g 0 cap zs w hH hlt (by omega)
    change Calls Tryz.prog 73 _ _ _ at hc2
    refine hc2.mono ?_
    rintro e w' ⟨rfl, n, os, rfl⟩
    refine ⟨rfl, ?_, (Below.refl _ _).grown (grownBy_sorted_i _) hB (fun k e => by cases e; exact hg)⟩
    have h := ownsRow_sorted_i (w := w) (n := n) (os := os) (ss := zs) (ts := sortI zs) (sortI_length zs) hg hh hn hc hs
    unfold BuildI
    rw [sortI_length]
    exact h

set_option maxHeartbeats 1000000 in
theorem implSorted8_any (a : Option Addr) (len cap b1 : Nat) (zs : List Int) (w0 w : World) (hl : zs.length = len) (hm : len ≤ 1000000000) (hI : IntsAt w0 a zs) (hb0 : Below w0.heap.size w0 w) (hb1 : b1 < w.heap.size) (h1 : w.cell? ⟨b1, 0, none⟩ = some (.slice a len cap)) :
    Calls Tryz.prog 55 #[.func (.func 74) #[] #[.pointer (some ⟨b1, 0, none⟩)]] w (NewB (sortI zs) w) := by
  have HC := Lib.hid (implCollect_any a len cap b1 zs w0 w hl hm hI hb0 hb1 h1)
  have HL := Lib.hid hl
  clear hl hI hb0 h1
  go_enter Tryz.func55, Tryz.ntmps55
  go_wp2_with fail
  refine HC.out.mono ?_; rintro e w1 ⟨v, rfl, ho, hB⟩
  have HS := Lib.hid (implSort8_any w.heap.size v zs w1 hB.size ho (by rw [HL.out]; exact hm))
  have HB := Lib.hid hB; clear ho hB
  go_wp2_with fail
  refine HS.out.mono ?_; rintro e w2 ⟨rfl, ho, hB⟩
  have HO := Lib.hid ho; have HB2 := Lib.hid (HB.out.trans hB); clear ho hB
  go_wp2_with fail
  go_ret
  exact ⟨_, rfl, HO.out, HB2.out⟩

set_option maxHeartbeats 1000000 in
theorem implDiff8_any (a : Option Addr) (len cap : Nat) (zs : List Int) (w : World) (hI : IntsIn w a len zs) (hm : len ≤ 1000000000) :
    Calls Tryz.prog 32 #[.slice a len cap] w fun e w' => e = .returned (.bool (diff zs)) ∧ Below w.heap.size w w' := by
  have HB1 := Lib.hid (boxed w (.cells #[.slice a len cap] 24))
  have HS := Lib.hid (implSorted8_any a len cap w.heap.size zs w (w.alloc (.cells #[.slice a len cap] 24)) hI.1 hm hI.2.2 (boxed w _) (by simp) (by unfold World.cell?; rw [heap_alloc_new]; rfl))
  have HL := Lib.hid (show zs.length = len from hI.1)
  have HD := Lib.hid (diff_of zs)
  have hcl := Nat.le_trans (compact_le8 (sortI zs)) (Nat.le_of_eq (sortI_length zs))
  rw [HL.out] at hcl
  rw [HL.out] at HD
  have hsl : (sortI zs).length ≤ 1000000000 := by rw [sortI_length, HL.out]; exact hm
  generalize sortI zs = ss at HS HD hsl hcl
  generalize diff zs = r at HD ⊢
  clear hI
  go_enter Tryz.func32, Tryz.ntmps32
  go_wp2_with fail
  refine (implValues_any a len cap w).mono ?_; rintro e w1 ⟨rfl, hw⟩
  subst hw
  go_wp2_with fail
  refine HS.out.mono ?_; rintro e w2 ⟨v, rfl, ho, hB⟩
  have HC := Lib.hid (implCompact8_any w.heap.size v ss w2 (Nat.le_trans HB1.out.size hB.size) (ho.base HB1.out.size) hsl)
  have HB2 := Lib.hid (HB1.out.trans (hB.mono HB1.out.size)); clear ho hB
  go_wp2_with fail
  refine HC.out.mono ?_; rintro e w3 ⟨v3, rfl, ho, hB⟩
  obtain ⟨a3, c3, rfl, _⟩ := ho.slice
  have HB3 := Lib.hid (HB2.out.trans hB); clear ho hB
  generalize (Go.Lib.compact ss).length = cl at HD hcl
  go_wp2_with fail
  go_ret
  refine ⟨ret_bool' ?_, HB3.out⟩
  rw [← HD.out]
  first | rfl | (simp; done) | (rw [Bool.eq_iff_iff]; simp; omega)
end Go.Proofs.YtjnicmlomjppnaaGreatDoor
