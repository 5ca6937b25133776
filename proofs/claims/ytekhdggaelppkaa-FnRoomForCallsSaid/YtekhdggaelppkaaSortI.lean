/- Contracts: slices.Sort and slices.Compact at int64, over a list of our own (out of XDiff8). -/
import Derived.Test.YtekhdggaelppkaaChecked
import Derived.Test.YtekhdggaelppkaaBase0
import Derived.Test.YtekhdggaelppkaaInfo
import Derived.Test.YtekhdggaelppkaaIntL
import Derived.Test.YtekhdggaelppkaaBuildI
import Derived.Test.YtekhdggaelppkaaLay8
import Derived.Lib.SlKeysI
import Derived.Lib.RowBridge
import Derived.WalkKit
import Derived.WalkSpells
import Derived.WalkLawsBesides
import Derived.Lib.Hide
import Derived.Lib.OwnBridge
import Derived.IntWalk
import Derived.Deep.QuietTactic
import Derived.BigQuiet
import Derived.Outline
namespace Go.Proofs.Ytekhdggaelppkaa
open Go.RowKit Go.Sort Go.Shelf Pure1 Pure2 Pure40

theorem compact_smallI {zs : List Int} (h : zs.length < 2) : Go.Lib.compact zs = zs := Go.Lib.compact_all zs fun j hj => Go.Lib.keeps_lt_one _ j (by omega)
theorem compact_leI (zs : List Int) : (Go.Lib.compact zs).length ≤ zs.length := by
  unfold Go.Lib.compact Go.Lib.compactUpTo
  rw [List.length_map]
  have := List.length_filter_le (Go.Lib.keeps zs.toArray) (List.range zs.length)
  rw [List.length_range] at this; exact this
set_option maxHeartbeats 1000000 in
theorem implCompactI_any (B : Nat) (v : Value) (zs : List Int) (w : World) (hB : B ≤ w.heap.size) (ho : BuildI B w v zs) (hm : zs.length ≤ 1000000000) :
    Calls Try.prog 83 #[v] w fun e w' => ∃ v', e = .returned v' ∧ BuildI B w' v' (Go.Lib.compact zs) ∧ Below B w w' := by
  by_cases h2 : zs.length < 2
  · have HE := Lib.hid (compact_smallI h2)
    have HO := Lib.hid ho
    obtain ⟨a, cap, rfl, _⟩ := ho.slice
    have z1 : decide ((zs.length : Int) < 2) = true := decide_eq_true (by omega)
    generalize Go.Lib.compact zs = ys at HE ⊢
    clear ho
    go_enter Try.func83, Try.ntmps83
    go_wp2_with fail
    go_ret
    rw [HE.out]
    exact ⟨_, rfl, HO.out, Below.refl _ _⟩
  · have hv : v ≠ .slice none 0 0 := by
      rintro rfl
      rcases ho.parts with ⟨_, rfl⟩ | ⟨⟨g, cap, e⟩, _⟩
      · simp at h2
      · cases e
    obtain ⟨g, cap, rfl, hg, hlt, hn, hc, hl, hH⟩ := Go.Lib.holds_of_ownsRow (enc := Value.int .i64) ho hv
    have hz : (zs.toArray).size = zs.length := by simp
    have hc2 := AnyE.slices_Compact Try.layComp (Value.int .i64) (fun _ => rfl) (EqlAt.intD _ _ .i64) (NeqAt.intD _ _ .i64) 0 Try.zeroValue2 g 0 cap zs.toArray w hH (by rw [hz]; omega) (by rw [hz]; exact hn)
    change Calls Try.prog 83 _ _ _ at hc2
    rw [hz] at hc2
    refine hc2.mono ?_
    rintro e w' ⟨rfl, q, rfl⟩
    have hlc := compact_leI zs
    have ho' := Go.Lib.ownsRow_putRow (enc := Value.int .i64) (q := q) (k := (Go.Lib.compactUpTo zs.toArray zs.length).length) (ys := Go.Lib.compactUpTo zs.toArray zs.length ++ List.replicate (zs.length - (Go.Lib.compactUpTo zs.toArray zs.length).length) 0) ho (by unfold Go.Lib.compact at hlc; simp; omega) hlc
    rw [List.take_append_of_le_length (Nat.le_refl _), List.take_length] at ho'
    exact ⟨_, rfl, ho', Go.Lib.below_putRow (Below.refl _ _) hg⟩

theorem implSortI_any (B : Nat) (v : Value) (zs : List Int) (w : World) (hB : B ≤ w.heap.size) (ho : BuildI B w v zs) (hm : zs.length ≤ 1000000000) :
    Calls Try.prog 82 #[v] w fun e w' => e = .returned (.tuple #[]) ∧ BuildI B w' v (sortI zs) ∧ Below B w w' := by
  rcases ho.2 with ⟨rfl, h0⟩ | ⟨g, cap, cur, rfl, hg, hh, hn, hc, hs, hr⟩
  · have e := List.length_eq_zero_iff.1 h0
    subst e
    have hc2 := AnyM.slices_Sort_int_none Try.laySort none 0 w
    change Calls Try.prog 82 _ _ _ at hc2
    refine hc2.mono ?_
    rintro e w' ⟨rfl, rfl⟩
    exact ⟨rfl, by rw [List.length_eq_zero_iff.1 (sortI_length [])]; exact ho, Below.refl _ _⟩
  · obtain ⟨g', cap', e, hg', hlt, _, _, _, hH⟩ := Go.Lib.holds_of_ownsRow (enc := Value.int .i64) ho (by intro e; cases e)
    cases e
    have hc2 := AnyM.slices_Sort_int Try.laySort g 0 cap zs w hH hlt (by omega)
    change Calls Try.prog 82 _ _ _ at hc2
    refine hc2.mono ?_
    rintro e w' ⟨rfl, n, os, rfl⟩
    refine ⟨rfl, ?_, (Below.refl _ _).grown (grownBy_sorted_i _) hB (fun k e => by cases e; exact hg)⟩
    have h := ownsRow_sorted_i (w := w) (n := n) (os := os) (ss := zs) (ts := sortI zs) (sortI_length zs) hg hh hn hc hs
    unfold BuildI
    rw [sortI_length]
    exact h

end Go.Proofs.Ytekhdggaelppkaa
