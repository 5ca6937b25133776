/- Contract of the laws' own helper markText. -/
import Derived.Test.YtjnjmoiilapbiaaChecked
import Derived.Test.YtjnjmoiilapbiaaBase
import Derived.Test.YtjnjmoiilapbiaaPure4
import Derived.WalkKit
import Derived.WalkSpells
import Derived.WalkLawsBesides
import Derived.Lib.Hide
import Derived.IntWalk
import Derived.Outline
namespace Go.Proofs.Ytjnjmoiilapbiaa
open Go.RowKit Pure1 Pure3 Pure4

set_option maxRecDepth 100000 in
set_option maxHeartbeats 400000 in
theorem markText_any (k : Int) (w : World) (h0 : 0 < k) (h1 : k ≤ 1000000000000) :
    Calls Try.prog 69 #[.int .i64 k] w (SaysT (mk k) w) := by
  have hcv := run_string_one (P := Try.prog) 22 9 5 Try.underlying22 Try.underlying5 Try.underlying9
  go_enter Try.func69, Try.ntmps69
  go_wp2
  go_loopw [0, 3] (fun kk out wr => ∃ (c : Int) (o : ByteArray), kk = .int .i64 c ∧ out = .string o ∧ 0 ≤ c ∧ c ≤ k ∧ MkMid k c o ∧ Below w.heap.size w wr) (fun kk _ _ => (intOf kk).toNat)
  case atStart => exact ⟨k, ⟨#[]⟩, rfl, rfl, by omega, by omega, MkMid.start k h0, Below.refl _ _⟩
  case round =>
    obtain ⟨c, o, rfl, rfl, hc0, hck, hm, hB⟩ := hrel
    have HM := Lib.hid hm; have HB := Lib.hid hB
    have ho : o.size ≤ 21 := hm.size (by omega) (by omega)
    clear hm hB
    by_cases hc : 0 < c
    · have HN := Lib.hid (HM.out.step hc)
      have hs1 : (dig1 (c % 10)).size = 1 := rfl
      have hm0 : 0 ≤ c % 10 := by omega
      have hm1 : c % 10 < 10 := by omega
      go_wp2
      go_roundw
      case rel => exact ⟨c / 10, dig1 (c % 10) ++ o, rfl, rfl, by omega, by omega, HN.out, HB.out.alloc HB.out.size _⟩
      case measure => simp [intOf]; omega
    · have hz : c = 0 := by omega
      have HF := Lib.hid (show (⟨#[109]⟩ : ByteArray) ++ o = mk k by have := HM.out; rw [hz] at this; exact this.fin)
      have hc' : c ≤ 0 := by omega
      clear hz hc
      go_wp2
      go_ret
      exact ⟨ret_str HF.out, HB.out⟩

theorem grown_below1 {w w' : World} {r : Option Nat} (h : Below w.heap.size w w') : w.grownBy w' r := ⟨h.os, h.tape, h.output, h.size, fun k hk _ => h.block k hk⟩
end Go.Proofs.Ytjnjmoiilapbiaa
