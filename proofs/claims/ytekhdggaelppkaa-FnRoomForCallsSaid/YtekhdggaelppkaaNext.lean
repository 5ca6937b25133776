/- Contract: spec.l01Next hands out a number below n. -/
import Derived.Test.YtekhdggaelppkaaChecked
import Derived.Test.YtekhdggaelppkaaBase0
import Derived.WalkKit
import Derived.WalkSpells
import Derived.WalkLawsBesides
import Derived.Lib.Hide
import Derived.IntWalk
import Derived.Deep.QuietTactic
import Derived.BigQuiet
import Derived.Outline
namespace Go.Proofs.Ytekhdggaelppkaa
open Go.RowKit Pure2 Pure6

theorem ret_i64' {a b : Int} (h : a = b) : Ending.returned (.int .i64 a) = .returned (.int .i64 b) := by rw [h]

set_option maxRecDepth 100000 in
set_option maxHeartbeats 1000000 in
theorem specNext_any (B b : Nat) (n : Int) (w : World) (hn : n ≤ 4611686018427387904) (h : Src B 93 w b) :
    Calls Try.prog 61 #[.pointer (some ⟨b, 0, none⟩), .int .i64 n] w (Drawn B 93 b n w) := by
  by_cases hn1 : n ≤ 1
  · have H := Lib.hid h; clear h
    go_enter Try.func61, Try.ntmps61
    go_wp2
    go_ret
    exact ⟨0, rfl, fun h => by omega, fun _ => rfl, H.out, grown_refl _ _⟩
  · have hn2 : 1 < n := by omega
    have hBw : B ≤ w.heap.size := Nat.le_trans h.base (Nat.le_of_lt h.lt)
    obtain ⟨a, cap, bs, k, seed, hBb, hh, hk, hbl, hs0, hs1, hby⟩ := h
    obtain ⟨c0, c1, c2, f0, f1, f2⟩ := src_cells hh
    have HH := Lib.hid hh; have HY := Lib.hid hby; clear hh hby hn1
    obtain ⟨len, hlen⟩ : ∃ len, len = bs.length := ⟨_, rfl⟩
    rw [← hlen] at c0 hk hbl
    have HL := Lib.hid hlen; clear hlen
    have hx0 : 0 ≤ (seed * 48271 + 29) % 2147483647 := by omega
    have hx1 : (seed * 48271 + 29) % 2147483647 < 2147483647 := by omega
    by_cases hlt : k < len
    · obtain ⟨ba, off, y, ha, hbB, hcy, hy0, hy1⟩ := HY.out.at HL.out.symm hlt
      subst ha
      have hbne : b ≠ ba := by omega
      have q1 : IntKind.i64.wrap ((seed * 48271 + 29) % 2147483647 / 31 + y) = (seed * 48271 + 29) % 2147483647 / 31 + y := IntWalk.i64_in _ (by omega)
      have q2 : IntKind.i64.wrap ((k : Int) + 1 - 1) = (k : Int) := by rw [IntWalk.i64_in _ (by omega)]; omega
      have q3 : (k : Int) + 1 - 1 = (k : Int) := by omega
      have hb0 : 0 ≤ (seed * 48271 + 29) % 2147483647 / 31 + y := by omega
      have hb1 : (seed * 48271 + 29) % 2147483647 / 31 + y ≤ 9223372036854775807 := by omega
      have hm := Int.emod_nonneg ((seed * 48271 + 29) % 2147483647 / 31 + y) (show n ≠ 0 by omega)
      have hm' := Int.emod_lt_of_pos ((seed * 48271 + 29) % 2147483647 / 31 + y) (show 0 < n by omega)
      have hy := Int.emod_nonneg y (show n ≠ 0 by omega)
      have hy' := Int.emod_lt_of_pos y (show 0 < n by omega)
      by_cases h256 : n ≤ 256
      · by_cases hev : ((k : Int) + 1) % 2 = 0
        · have hev' : (((k : Int) + 1) % 2 == 0) = true := beq_iff_eq.2 hev
          clear hev
          go_enter Try.func61, Try.ntmps61
          go_wp2
          go_quiet (fail)
          go_wp2
          go_quiet (fail)
          go_wp2
          go_quiet (fail)
          go_wp2
          go_ret
          exact drawn_one hBb hBw HH.out HL.out hlt hbl hx0 hx1 HY.out hn2 hy hy' _ _
        · have hev' : (((k : Int) + 1) % 2 == 0) = false := beq_eq_false_iff_ne.2 hev
          clear hev
          go_enter Try.func61, Try.ntmps61
          go_wp2
          go_quiet (fail)
          go_wp2
          go_quiet (fail)
          go_wp2
          go_ret
          exact drawn_one hBb hBw HH.out HL.out hlt hbl hx0 hx1 HY.out hn2 hm hm' _ 0
      · go_enter Try.func61, Try.ntmps61
        go_wp2
        go_quiet (fail)
        go_wp2
        go_quiet (fail)
        go_wp2
        go_ret
        exact drawn_one hBb hBw HH.out HL.out hlt hbl hx0 hx1 HY.out hn2 hm hm' _ 0
    · have hm := Int.emod_nonneg ((seed * 48271 + 29) % 2147483647 / 31) (show n ≠ 0 by omega)
      have hm' := Int.emod_lt_of_pos ((seed * 48271 + 29) % 2147483647 / 31) (show 0 < n by omega)
      go_enter Try.func61, Try.ntmps61
      go_wp2
      go_quiet (fail)
      go_wp2
      go_ret
      exact drawn_none hBb hBw HH.out HL.out hk hbl hx0 hx1 HY.out hn2 hm hm' _

end Go.Proofs.Ytekhdggaelppkaa
