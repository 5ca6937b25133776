/- Contract: impl.without returns a list without the number at a place, in new memory. -/
import Derived.Test.YtmpopfcnjgcncaaChecked
import Derived.Test.YtmpopfcnjgcncaaBase
import Derived.Test.YtmpopfcnjgcncaaInfo
import Derived.Test.YtmpopfcnjgcncaaMarkI
import Derived.Test.YtmpopfcnjgcncaaPure40
import Derived.Test.YtmpopfcnjgcncaaPure80
import Derived.Test.YtmpopfcnjgcncaaPure83
import Derived.Test.YtmpopfcnjgcncaaIntL
import Derived.Test.YtmpopfcnjgcncaaBuildI
import Derived.Test.YtmpopfcnjgcncaaBuild8
import Derived.Test.YtmpopfcnjgcncaaRowV
import Derived.WalkKit
import Derived.WalkSpells
import Derived.WalkLawsBesides
import Derived.Lib.Hide
import Derived.Laws.CopyOwn
import Derived.Laws.OwnMore
import Derived.IntWalk
import Derived.Deep.RegionLaw
import Derived.Deep.OwnRows
import Derived.BigQuiet
import Derived.Outline
namespace Go.Proofs.Ytmpopfcnjgcncaa
open Go.RowKit Pure1 Pure2 Pure40 Pure83

theorem splice_erase {zs : List Int} {m k : Nat} (hl : zs.length = m + 1) (hk : k ≤ m) (L : List Value) (hL : L.length = m) :
    splice (splice L 0 ((zs.take k).map (Value.int .i64))) k ((zs.drop (k + 1)).map (Value.int .i64)) = (zs.eraseIdx k).map (Value.int .i64) := by
  have h1 : ((zs.take k).map (Value.int .i64)).length = k := by simp; omega
  have h2 : ((zs.drop (k + 1)).map (Value.int .i64)).length = m - k := by simp; omega
  generalize hA : (zs.take k).map (Value.int .i64) = A at h1
  generalize hB : (zs.drop (k + 1)).map (Value.int .i64) = B at h2
  have h3 : (zs.eraseIdx k).map (Value.int .i64) = A ++ B := by rw [List.eraseIdx_eq_take_drop_succ, List.map_append, hA, hB]
  rw [h3]
  unfold splice
  rw [List.take_zero, List.nil_append, Nat.zero_add, h1]
  rw [List.take_append_of_le_length (by omega), List.take_of_length_le (by omega), List.drop_append, List.drop_of_length_le (by omega), List.nil_append, List.drop_drop, List.drop_of_length_le (by rw [hL]; omega), List.append_nil]
theorem made_toArray (m : Nat) : madeCells #[Value.int .i64 0] m = (List.replicate m (Value.int .i64 0)).toArray := by
  rw [← toList_madeCells_one]
theorem build_of_row {B g : Nat} {w : World} {cs : List Value} {zs : List Int} (hh : w.heap[g]? = some (.cells cs.toArray 2 (0, 0))) (hB : B ≤ g) (hcs : cs = zs.map (Value.int .i64)) (hm : zs.length ≤ maxLen) :
    BuildI B w (.slice (some ⟨g, 0, none⟩) zs.length zs.length) zs := by
  subst hcs
  exact ⟨by simp, .inr ⟨g, zs.length, _, rfl, hB, hh, Nat.le_refl _, hm, by simp, by rw [Nat.mul_one]; exact List.take_of_length_le (by simp)⟩⟩
theorem run_info1 : (Try.prog.info? 2).map (·.size) = some 1 := by
  obtain ⟨i0, hi, hz0, hz1, hz2⟩ := info_parts Try.info_i64
  rw [hi, ← hz1]; rfl

set_option maxRecDepth 100000 in
set_option maxHeartbeats 4000000 in
theorem implWithout8 (a : Option Addr) (m cap k : Nat) (zs : List Int) (w : World) (hI : IntsIn w a (m + 1) zs) (hm : m ≤ 1000000) (hk : k ≤ m) (hc : m + 1 ≤ cap) :
    Calls Try.prog 63 #[.slice a ((m + 1 : Nat)) cap, .int .i64 (k : Int)] w (NewB (zs.eraseIdx k) w) := by
  obtain ⟨hl, _, hz⟩ := hI
  rcases hz with rfl | ⟨b, off, rfl, hcz⟩
  · cases hl
  have hmk := run_make_row' (P := Try.prog) 24 2 (.int .i64 0) 8 Try.underlying24 Try.info_i64 rfl .i64 .i64 m (by omega) (by omega)
  obtain ⟨A1, hA1⟩ : ∃ A1, A1 = (zs.take k).map (Value.int .i64) := ⟨_, rfl⟩
  obtain ⟨A2, hA2⟩ : ∃ A2, A2 = (zs.drop (k + 1)).map (Value.int .i64) := ⟨_, rfl⟩
  have hA1l : A1.length = k := by rw [hA1]; simp; omega
  have hA2l : A2.length = m - k := by rw [hA2]; simp; omega
  have h11 : ∀ v ∈ A1, v.oneCell' = true := fun v hv => by rw [hA1] at hv; obtain ⟨y, _, rfl⟩ := List.mem_map.1 hv; rfl
  have h12 : ∀ v ∈ A2, v.oneCell' = true := fun v hv => by rw [hA2] at hv; obtain ⟨y, _, rfl⟩ := List.mem_map.1 hv; rfl
  have hbl : 0 < zs.length := by omega
  have hbw : b < w.heap.size := World.block_lt_of_cell? w _ (hcz 0 _ (List.getElem?_eq_getElem hbl))
  have HC1 := Lib.hid (fun (W : World) (h : Below w.heap.size w W) => show ∀ j v, A1[j]? = some v → W.cell? ⟨b, off + j, none⟩ = some v from fun j v hv => by
    rw [hA1, List.getElem?_map, List.getElem?_take] at hv
    split at hv
    · obtain ⟨y, hy, rfl⟩ := Option.map_eq_some_iff.1 hv
      exact (h.cell (p := ⟨b, off + j, none⟩) hbw).trans (hcz j y hy)
    · cases hv)
  have HC2 := Lib.hid (fun (W : World) (h : Below w.heap.size w W) => show ∀ j v, A2[j]? = some v → W.cell? ⟨b, off + (k + 1) + j, none⟩ = some v from fun j v hv => by
    rw [hA2, List.getElem?_map, List.getElem?_drop] at hv
    obtain ⟨y, hy, rfl⟩ := Option.map_eq_some_iff.1 hv
    have h1 := (h.cell (p := ⟨b, off + (k + 1 + j), none⟩) hbw).trans (hcz (k + 1 + j) y hy)
    rw [← Nat.add_assoc] at h1; exact h1)
  obtain ⟨Z, hZ⟩ : ∃ Z, Z = (List.replicate m (Value.int .i64 0)) := ⟨_, rfl⟩
  have hZl : Z.length = m := by rw [hZ]; simp
  have HE := Lib.hid (show splice (splice Z 0 A1) k A2 = (zs.eraseIdx k).map (Value.int .i64) by rw [hA1, hA2]; exact splice_erase hl hk Z hZl)
  have HEl := Lib.hid (show (zs.eraseIdx k).length = m by rw [List.length_eraseIdx]; rw [if_pos (by omega)]; omega)
  have HS1 := Lib.hid (length_splice Z 0 A1 (by omega))
  have q0 : IntKind.i64.wrap ((m : Int) + 1 - 1) = (m : Int) := by rw [IntWalk.i64_in _ (by omega)]; omega
  have q1 : IntKind.i64.wrap ((k : Int) + 1) = (k : Int) + 1 := IntWalk.i64_in _ (by omega)
  have HG := Lib.hid (show (w.alloc (.cells (madeCells #[.int .i64 0] m) 2)).heap[w.heap.size]? = some (.cells Z.toArray 2 (0, 0)) by
    rw [heap_alloc_new, hZ]
    exact congrArg some (congrArg (fun c => Obj.cells c 2 (0, 0)) (made_toArray m)))
  clear hcz hl hA1 hA2 hZ
  go_enter Try.func63, Try.ntmps63
  have hq1 : ∀ j v, A1[j]? = some v → w.cell? ⟨b, off + j, none⟩ = some v := HC1.out w (Below.refl _ _)
  go_wp2_with (refine wpList_copy_splice rfl _ _ 24 24 rfl 2 Try.underlying24 run_info1 _ _ _ _ _ _ rfl rfl w.heap.size 0 Z 2 HG.out A1 ?d1 ?d2 ?d3 h11 w.heap.size w (boxed w _) (Nat.le_refl _) ?_)
  case d1 => rw [hA1l]; exact (Nat.min_eq_left hk).symm
  case d2 => exact fun _ => hq1
  case d3 => omega
  intro w2 HG2 hB2
  have HB2 := Lib.hid hB2
  have hq2 : ∀ j v, A2[j]? = some v → w2.cell? ⟨b, off + (k + 1) + j, none⟩ = some v := HC2.out w2 HB2.out
  clear hB2 hq1 hmk
  have hwb := HB2.out.size
  have HG3 := Lib.hid (show w2.drew.heap[w.heap.size]? = some (.cells (splice Z 0 A1).toArray 2 (0, 0)) from HG2.out)
  have HB3 := Lib.hid (show Below w.heap.size w w2.drew from HB2.out.drew)
  have hq3 : ∀ j v, A2[j]? = some v → w2.drew.cell? ⟨b, off + (k + 1) + j, none⟩ = some v := fun j v hv => hq2 j v hv
  by_cases hkm : k < m
  · have e1 : ¬ (m = k) := by omega
    have e2 : ¬ (cap = k + 1) := by omega
    have e3 : (0 : Int) ≤ (k : Int) + 1 := by omega
    go_wp2
    go_region_law (refine step_copy_splice rfl (.tmp 17) (.tmp 21) 24 24 rfl 2 Try.underlying24 run_info1 (some ⟨w.heap.size, k, none⟩) (some ⟨b, off + (k + 1), none⟩) (m - k) (m - k) (m - k) (cap - (k + 1)) (by simp [Act.eval, Act.put]) (by simp [Act.eval, Act.put]) w.heap.size k (splice Z 0 A1) 2 HG3.out A2 (by rw [hA2l]; exact (Nat.min_self _).symm) (fun _ => ⟨rfl, ⟨b, off + (k + 1), none⟩, rfl, fun j v hv => by rw [Addr.add_lit]; exact hq3 j v hv⟩) (by rw [HS1.out, hZl, hA2l]; omega) h12 w.heap.size w HB3.out (Nat.le_refl _) ?_; intro w4 hg4 hb4)
    clear hq3 hq2 HG3 HB3 HG2 HB2
    have HG5 := Lib.hid (build_of_row (B := w.heap.size) hg4.out (Nat.le_refl _) HE.out (by rw [HEl.out]; unfold maxLen; omega)); have HB5 := Lib.hid hb4
    clear hg4 hb4
    go_wp2
    go_ret
    have h := HG5.out
    rw [HEl.out] at h
    exact ⟨_, rfl, h, HB5.out⟩
  · obtain rfl : k = m := by omega
    have e3 : (0 : Int) ≤ (k : Int) + 1 := by omega
    by_cases e2 : cap = k + 1
    · subst e2
      go_wp2
      go_region_law (refine step_copy_splice rfl (.tmp 17) (.tmp 21) 24 24 rfl 2 Try.underlying24 run_info1 (some ⟨w.heap.size, 0, none⟩) (some ⟨b, off, none⟩) 0 0 0 0 (by simp [Act.eval, Act.put]) (by simp [Act.eval, Act.put]) w.heap.size k (splice Z 0 A1) 2 HG3.out A2 (by rw [hA2l]; simp) (fun h => by rw [hA2l] at h; omega) (by rw [HS1.out, hZl, hA2l]; omega) h12 w.heap.size w HB3.out (Nat.le_refl _) ?_; intro w4 hg4 hb4)
      clear hq3 hq2 HG3 HB3 HG2 HB2
      have HG5 := Lib.hid (build_of_row (B := w.heap.size) hg4.out (Nat.le_refl _) HE.out (by rw [HEl.out]; unfold maxLen; omega)); have HB5 := Lib.hid hb4
      clear hg4 hb4
      go_wp2
      go_ret
      have h := HG5.out
      rw [HEl.out] at h
      exact ⟨_, rfl, h, HB5.out⟩
    · go_wp2
      go_region_law (refine step_copy_splice rfl (.tmp 17) (.tmp 21) 24 24 rfl 2 Try.underlying24 run_info1 (some ⟨w.heap.size, 0, none⟩) (some ⟨b, off + (k + 1), none⟩) 0 0 0 (cap - (k + 1)) (by simp [Act.eval, Act.put]) (by simp [Act.eval, Act.put]) w.heap.size k (splice Z 0 A1) 2 HG3.out A2 (by rw [hA2l]; simp) (fun h => by rw [hA2l] at h; omega) (by rw [HS1.out, hZl, hA2l]; omega) h12 w.heap.size w HB3.out (Nat.le_refl _) ?_; intro w4 hg4 hb4)
      clear hq3 hq2 HG3 HB3 HG2 HB2
      have HG5 := Lib.hid (build_of_row (B := w.heap.size) hg4.out (Nat.le_refl _) HE.out (by rw [HEl.out]; unfold maxLen; omega)); have HB5 := Lib.hid hb4
      clear hg4 hb4
      go_wp2
      go_ret
      have h := HG5.out
      rw [HEl.out] at h
      exact ⟨_, rfl, h, HB5.out⟩
end Go.Proofs.Ytmpopfcnjgcncaa
