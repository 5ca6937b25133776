/- Contract of the laws' own helper likeCalls (at two lists that read the same). -/
import Derived.Test.YtekhdggaelppkaaChecked
import Derived.Test.YtekhdggaelppkaaBase0
import Derived.Test.YtekhdggaelppkaaCallB
import Derived.Test.YtekhdggaelppkaaPure100
import Derived.WalkKit
import Derived.WalkSpells
import Derived.WalkLawsBesides
import Derived.Lib.Hide
import Derived.Deep.QuietTactic
import Derived.BigQuiet
import Derived.Outline
namespace Go.Proofs.Ytekhdggaelppkaa
open Go.RowKit Pure1 Pure2 Pure20 Pure40

set_option maxRecDepth 100000 in
set_option maxHeartbeats 2000000 in
/-- two slices that read the same terms are told to be the same -/
theorem likeCalls_same (a a' : Option Addr) (len cap cap' : Nat) (ts : List Call) (w : World) (hl : ts.length = len) (hm : len ≤ 1048576) (h : Call.ListAt w a ts) (h' : Call.ListAt w a' ts) :
    Calls Try.prog 25 #[.slice a len cap, .slice a' len cap'] w (fun e w' => e = .returned (.bool true) ∧ Below w.heap.size w w') := by
  have HL := Lib.hid hl; have HI := Lib.hid h; have HI' := Lib.hid h'; clear hl h h'
  go_enter Try.func25, Try.ntmps25
  go_wp2
  go_loopw [5] (fun i wr => ∃ k n : Nat, k ≤ len ∧ i = .int .i64 k ∧ wr = w.drewN n) (fun i _ => len - (intOf i).toNat)
  case atStart => exact ⟨0, 0, Nat.zero_le _, rfl, rfl⟩
  case round =>
    obtain ⟨k, n, hk, rfl, rfl⟩ := hrel
    by_cases hlt : k < len
    · obtain ⟨b, off, p, rfl, hc, hp⟩ := HI.out.at HL.out hlt
      obtain ⟨b', off', p', rfl, hc', hp'⟩ := HI'.out.at HL.out hlt
      obtain rfl : p = p' := Option.some.inj (hp.symm.trans hp')
      obtain ⟨c0, c1, c2, c3⟩ := hc
      obtain ⟨d0, d1, d2, d3⟩ := hc'
      clear hp hp'
      go_wp2
      go_quiet (fail)
      go_wp2
      go_roundw
      case rel => exact ⟨k + 1, _, by omega, by go_num, rfl⟩
      case measure => simp [intOf]; omega
    · go_wp2
      go_ret
      exact ⟨rfl, Go.below_drewN (Below.refl _ _) _⟩

end Go.Proofs.Ytekhdggaelppkaa
