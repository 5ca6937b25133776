/- Contract: spec.l01From makes a source out of a code of at most 4096 bytes. -/
import Derived.Test.YtekhdggaelppkaaChecked
import Derived.Test.YtekhdggaelppkaaBase0
import Derived.WalkKit
import Derived.WalkSpells
import Derived.WalkLawsBesides
import Derived.Lib.Hide
import Derived.IntWalk
import Derived.RegionTactic
import Derived.Outline
namespace Go.Proofs.Ytekhdggaelppkaa
open Go.RowKit Pure2 Pure6

/-- a new source -/
def NewSrc (w : World) (e : Ending) (w' : World) : Prop := ∃ b, e = .returned (.pointer (some ⟨b, 0, none⟩)) ∧ Src w.heap.size 93 w' b ∧ Below w.heap.size w w'

theorem from_end {B len cap : Nat} {T : TypeId} {a : Option Addr} {bs : List Int} {seed : Int} {wr : World} (hh : wr.heap[B]? = some (.cells #[.slice a len cap, .int .i64 0, .int .i64 seed] T (0, 0))) (hl : bs.length = len) (hm : len ≤ 4096)
    (h0 : 0 ≤ seed) (h1 : seed < 2147483647) (hy : BytesAt B wr a bs) : Src B T wr B := by
  subst hl
  exact ⟨a, cap, bs, 0, seed, Nat.le_refl _, hh, Nat.zero_le _, hm, h0, h1, hy⟩

set_option maxRecDepth 100000 in
set_option maxHeartbeats 1000000 in
theorem specFrom_any (a : Option Addr) (len cap : Nat) (bs : List Int) (w : World) (hl : bs.length = len) (hm : len ≤ 4096) (h : BytesAt w.heap.size w a bs) :
    Calls Try.prog 57 #[.slice a len cap] w (NewSrc w) := by
  have HL := Lib.hid hl; have HY := Lib.hid h; clear hl h
  go_enter Try.func57, Try.ntmps57
  go_wp2
  go_loopw [4] (fun i wr => ∃ (k : Nat) (seed : Int), k ≤ len ∧ i = .int .i64 k ∧ wr.heap[w.heap.size]? = some (.cells #[.slice a len cap, .int .i64 0, .int .i64 seed] 93 (0, 0)) ∧ 0 ≤ seed ∧ seed < 2147483647 ∧ Below w.heap.size w wr) (fun i _ => len - (intOf i).toNat)
  case atStart => exact ⟨0, 61043, Nat.zero_le _, rfl, heap_alloc_new w _, by omega, by omega, (Below.refl _ _).alloc (Nat.le_refl _) _⟩
  case round =>
    obtain ⟨k, seed, hk, rfl, hh, hs0, hs1, hB⟩ := hrel
    obtain ⟨c0, c1, c2, f0, f1, f2⟩ := src_cells hh
    have HH := Lib.hid hh; have HB := Lib.hid hB; clear hh hB
    by_cases hlt : k < len
    · by_cases h64 : (k : Int) < 64
      · obtain ⟨ba, off, y, ha, hbB, hcy, hy0, hy1⟩ := (HY.out.below HB.out).at HL.out hlt
        subst ha
        have hne : w.heap.size ≠ ba := by omega
        have q0 : IntKind.i64.wrap (seed * 83) = seed * 83 := IntWalk.i64_in _ (by omega)
        have q1 : IntKind.i64.wrap (seed * 83 + y) = seed * 83 + y := IntWalk.i64_in _ (by omega)
        have q2 : (seed * 83 + y).tmod 2147483647 = (seed * 83 + y) % 2147483647 := Int.tmod_eq_emod_of_nonneg (by omega)
        have q3 : IntKind.i64.wrap ((seed * 83 + y) % 2147483647) = (seed * 83 + y) % 2147483647 := IntWalk.i64_in _ (by omega)
        go_wp2
        go_region
        all_goals
          go_wp2
          go_roundw
          case rel => exact ⟨k + 1, _, by omega, by go_num, (block_set HH.out).1, by omega, by omega, (HB.out.setCell (Nat.le_refl _) _).drew⟩
          case measure => simp [intOf]; omega
      · go_wp2
        go_ret
        exact ⟨w.heap.size, rfl, from_end HH.out HL.out hm hs0 hs1 (HY.out.below HB.out), HB.out⟩
    · go_wp2
      go_ret
      exact ⟨w.heap.size, rfl, from_end HH.out HL.out hm hs0 hs1 (HY.out.below HB.out), HB.out⟩

end Go.Proofs.Ytekhdggaelppkaa
