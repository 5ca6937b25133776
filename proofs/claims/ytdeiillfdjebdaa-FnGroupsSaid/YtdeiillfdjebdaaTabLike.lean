/- Contract of the laws' own helper likeTables at two tables that read the same. -/
import Derived.Test.YtdeiillfdjebdaaChecked
import Derived.Test.YtdeiillfdjebdaaBase
import Derived.Test.YtdeiillfdjebdaaLikeInt
import Derived.Test.YtdeiillfdjebdaaTab
import Derived.Test.YtdeiillfdjebdaaPersSlice
import Derived.WalkKit
import Derived.WalkSpells
import Derived.WalkLawsBesides
import Derived.Lib.Hide
import Derived.Lib.QuietBelow
import Derived.IntWalk
import Derived.Deep.QuietTactic
import Derived.BigQuiet
import Derived.Outline
namespace Go.Proofs.Ytdeiillfdjebdaa
open Go.RowKit Go.Sort Pure2

set_option maxRecDepth 100000 in
set_option maxHeartbeats 2000000 in
/-- two tables that read the same are told to be the same -/
theorem likeTables_same (a a' : Option Addr) (len cap cap' : Nat) (xss : List (List Int)) (w : World) (hl : xss.length = len) (hm : len ≤ 1048576) (hs : SmallT xss) (h : TabAt w a xss) (h' : TabAt w a' xss) :
    Calls Try.prog 26 #[.slice a len cap, .slice a' len cap'] w (fun e w' => e = .returned (.bool true) ∧ Below w.heap.size w w') := by
  have HL := Lib.hid hl; have HI := Lib.hid h; have HI' := Lib.hid h'; have HS := Lib.hid hs; clear hl h h' hs
  go_enter Try.func26, Try.ntmps26
  go_wp2
  go_loopw [5] (fun i wr => ∃ k : Nat, k ≤ len ∧ i = .int .i64 k ∧ Below w.heap.size w wr) (fun i _ => len - (intOf i).toNat)
  case atStart => exact ⟨0, Nat.zero_le _, rfl, Below.refl _ _⟩
  case round =>
    obtain ⟨k, hk, rfl, hB⟩ := hrel
    have HB := Lib.hid hB; clear hB
    by_cases hlt : k < len
    · obtain ⟨b, off, a1, c1, xs, rfl, hc, hx, hp⟩ := (HI.out.below HB.out).at HL.out hlt
      obtain ⟨b', off', a2, c2, ys, rfl, hc', hy, hp'⟩ := (HI'.out.below HB.out).at HL.out hlt
      obtain rfl : xs = ys := Option.some.inj (hp.symm.trans hp')
      have hsm : xs.length ≤ maxLen := HS.out xs (List.mem_of_getElem? hp)
      have hcall := regr_call (w := wr) (fun W hW => show Calls Try.prog 37 #[.slice a1 xs.length c1, .slice a2 xs.length c2] W _ from sameB (likeInts_any a1 a2 xs.length c1 xs.length c2 xs xs W rfl rfl hsm hsm (hx.below hW) (hy.below hW)))
      have k0 := cell_regrown hc; have k1 := cell_regrown hc'
      clear hx hy hp hp' hc hc' hsm
      go_wp2_with fail
      refine wp_region_quiet_below (by kernel_rfl) (by kernel_rfl) ?_
      iterate 10 (go_big_quiet_step (exact hcall _ _))
      refine wpQuiet_nil ?_
      intro _ hw'
      obtain ⟨⟨dq, osq⟩, hw''⟩ := hw'
      subst hw''
      have HB5 := Lib.hid (HB.out.trans ((below_regrown wr dq osq).mono HB.out.size))
      clear hcall k0 k1
      generalize grow (redrawn wr dq) osq = w5 at HB5 ⊢
      go_wp2_with fail
      go_roundw
      case rel => exact ⟨k + 1, by omega, by go_num, HB5.out⟩
      case measure => simp [intOf]; omega
    · go_wp2_with fail
      go_ret
      exact ⟨rfl, HB.out⟩

end Go.Proofs.Ytdeiillfdjebdaa
