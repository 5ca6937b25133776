/- Contract of the laws' own helper toInt64S, which lays a copy. -/
import Derived.Test.YtchffaohmeaccaaDoorChecked
import Derived.Test.YtchffaohmeaccaaDoorBase0
import Derived.Test.YtchffaohmeaccaaDoorInfo
import Derived.WalkKit
import Derived.WalkSpells
import Derived.WalkLawsBesides
import Derived.Lib.Hide
import Derived.Deep.OwnRows
namespace Go.Proofs.YtchffaohmeaccaaDoor
open Go.RowKit Pure2

set_option maxHeartbeats 400000 in
theorem toInt64S_any (a : Option Addr) (len cap : Nat) (zs : List Int) (w : World) (hl : zs.length = len) (hm : len ≤ 1048576) (h : IntsAt w a zs) :
    Calls Tryd.prog 26 #[.slice a len cap] w (IsCopy w len zs) := by
  have HL := Lib.hid hl; clear hl
  have HI := Lib.hid h; clear h
  have hmk := run_make_row' (P := Tryd.prog) 27 2 (.int .i64 0) 8 Tryd.underlying27 Tryd.info_i64 rfl .i64 .i64 len (by omega) (by omega)
  go_enter Tryd.func26, Tryd.ntmps26
  go_wp2
  go_loopw [4] (fun i wr => ∃ k : Nat, k ≤ len ∧ i = .int .i64 k ∧ Below w.heap.size w wr ∧ ∃ f, wr.rowIs w.heap.size 2 len f ∧ ∀ i x, i < k → zs[i]? = some x → f i = .int .i64 x) (fun i _ => len - (intOf i).toNat)
  case atStart => exact ⟨0, Nat.zero_le _, rfl, (Below.refl _ _).alloc (Nat.le_refl _) _, _, World.rowIs_made _ _ _ _, fun i x hi => by omega⟩
  case round =>
    obtain ⟨k, hk, rfl, hB, f, hr, hf⟩ := hrel
    have HB := Lib.hid hB; have HR := Lib.hid hr; have HF := Lib.hid hf; clear hB hr hf
    by_cases hlt : k < len
    · obtain ⟨b, off, x, ha, hc, ht, hx⟩ := (HI.out.below HB.out).at HL.out hlt
      have HX := Lib.hid hx; clear hx ht
      have hc2 := HR.out.cell hlt
      have hf2 := HR.out.frozen k
      subst ha
      go_wp2
      go_roundw
      case rel => exact ⟨k + 1, by omega, by go_num, HB.out.setCell (Nat.le_refl _) _, _, HR.out.set _ _, copy_step HF.out HX.out⟩
      case measure => simp [intOf]; omega
    · go_wp2
      go_ret
      exact copied HR.out HL.out (fun i x hi hx => HF.out i x (by omega) hx) HB.out

end Go.Proofs.YtchffaohmeaccaaDoor
