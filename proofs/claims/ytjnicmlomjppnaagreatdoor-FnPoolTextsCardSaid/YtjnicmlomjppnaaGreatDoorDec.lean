/- Contracts: impl.numberText writes a number in decimal, and so does spec.l01Dec (for numbers of at least 0). -/
import Derived.Test.YtjnicmlomjppnaaGreatDoorChecked
import Derived.Test.YtjnicmlomjppnaaGreatDoorBase0
import Derived.Test.YtjnicmlomjppnaaGreatDoorFmt
import Derived.WalkKit
import Derived.WalkSpells
import Derived.WalkLawsBesides
import Derived.Lib.Hide
import Derived.Deep.RegionWith
import Derived.Outline
import Derived.IntWalk
namespace Go.Proofs.YtjnicmlomjppnaaGreatDoor
open Go.RowKit Pure2 Pure3 Pure4

theorem Tryz.gPow : Tryz.prog.globalNamed "internal/strconv.uint64pow10" = some 1 := by kernel_rfl

set_option maxHeartbeats 400000 in
theorem implNumberText_any (n : Int) (w : World) (h0 : -9223372036854775808 ≤ n) (h1 : n ≤ 9223372036854775807) (ht : Tabs Tryz.prog w) :
    Calls Tryz.prog 17 #[.int .i64 n] w (SaysT (decB n) w) := by
  have HF := Lib.hid (Tryz.strconv_FormatInt_10 n h0 h1 w ht); clear ht
  go_enter Tryz.func17, Tryz.ntmps17
  go_wp2_with fail
  refine HF.out.mono ?_
  rintro e w1 ⟨rfl, k, os, rfl⟩
  have HB := Lib.hid (below_grow w k os)
  obtain ⟨w1, rfl⟩ : ∃ w1, w1 = Go.Sort.grow (w.drewN k) os := ⟨_, rfl⟩
  go_wp2_with fail
  go_ret
  exact ⟨ret_str rfl, HB.out⟩

set_option maxRecDepth 100000 in
set_option maxHeartbeats 400000 in
theorem specDec_small (n : Int) (w : World) (h0 : 0 ≤ n) (h10 : n < 10) :
    Calls Tryz.prog 46 #[.int .i64 n] w (SaysT (decB n) w) := by
  have HN := Lib.hid (decB_small h0 h10)
  have hcv := run_string_one (P := Tryz.prog) 22 9 5 Tryz.underlying22 Tryz.underlying5 Tryz.underlying9
  go_enter Tryz.func46, Tryz.ntmps46
  go_wp2_with fail
  go_ret
  exact ⟨ret_str (by rw [HN.out]; rfl), (Below.refl _ _).alloc (Nat.le_refl _) _⟩

set_option maxRecDepth 100000 in
set_option maxHeartbeats 200000 in
theorem specDec_any (k : Nat) : ∀ (n : Int) (w : World), n ≤ k → 0 ≤ n → n ≤ 9223372036854775807 →
    Calls Tryz.prog 46 #[.int .i64 n] w (SaysT (decB n) w) := by
  induction k with
  | zero => exact fun n w hk h0 h1 => specDec_small n w h0 (by omega)
  | succ k ih =>
    intro n w hk h0 h1
    by_cases h10 : n < 10
    · exact specDec_small n w h0 h10
    · have h10' : 10 ≤ n := by omega
      have HI := Lib.hid (fun W => ih (n / 10) W (by omega) (by omega) (by omega))
      have HN := Lib.hid (decB_big h10')
      have hsz : (decB (n / 10)).size ≤ 21 := decB_size (by omega) (by omega)
      have hm0 : 0 ≤ n % 10 := by omega
      have hm1 : n % 10 < 10 := by omega
      have hcv := run_string_one (P := Tryz.prog) 22 9 5 Tryz.underlying22 Tryz.underlying5 Tryz.underlying9
      have q1 : n.tdiv 10 = n / 10 := Int.tdiv_eq_ediv_of_nonneg h0
      have q2 : n.tmod 10 = n % 10 := Int.tmod_eq_emod_of_nonneg h0
      have q3 : IntKind.i64.wrap (n / 10) = n / 10 := IntWalk.i64_in _ (by omega)
      have q4 : IntKind.i64.wrap (n % 10) = n % 10 := IntWalk.i64_in _ (by omega)
      have q5 : IntKind.i64.wrap (48 + n % 10) = 48 + n % 10 := IntWalk.i64_in _ (by omega)
      have q6 : IntKind.u8.wrap (48 + n % 10) = 48 + n % 10 := IntWalk.u8_in _ (by omega)
      clear ih hk
      go_enter Tryz.func46, Tryz.ntmps46
      go_wp2_with fail
      go_region_with (go_at_call 46; refine (HI.out _).mono ?_; rintro e w1 ⟨rfl, hB⟩; obtain ⟨hc, hf⟩ := bcell hB; have HB := Lib.hid hB; clear hB)
      all_goals
        go_wp2_with fail
        go_ret
        refine ⟨ret_str (by rw [HN.out]; rfl), ?_⟩
        first
          | exact ((Below.drew (Below.refl w.heap.size w)).trans HB.out).alloc HB.out.size _
          | exact ((((Below.refl w.heap.size w).alloc (Nat.le_refl _) _).drew).trans (HB.out.mono (by simp)))

end Go.Proofs.YtjnicmlomjppnaaGreatDoor
