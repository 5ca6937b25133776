/- Contracts: spec.DrawSumOf and spec.DrawIsWord. -/
import Derived.Test.YtfadmlgdabamhaaChecked
import Derived.Test.YtfadmlgdabamhaaPure6
import Derived.Test.YtfadmlgdabamhaaFrom
import Derived.Test.YtfadmlgdabamhaaDrawV
import Derived.Test.YtfadmlgdabamhaaDrawW
import Derived.WalkKit
import Derived.WalkSpells
import Derived.WalkLawsBesides
import Derived.Lib.Hide
namespace Go.Proofs.Ytfadmlgdabamhaa
open Go.RowKit Pure2 Pure6

/-- a text of at most 20 bytes is drawn -/
def DrewT (B : Nat) (w : World) (e : Ending) (w' : World) : Prop := ∃ s : ByteArray, e = .returned (.string s) ∧ s.size ≤ 20 ∧ Below B w w'

set_option maxHeartbeats 400000 in
theorem specDrawSumOf_any (a : Option Addr) (len cap : Nat) (bs : List Int) (w : World) (hl : bs.length = len) (hm : len ≤ 4096) (h : BytesAt w.heap.size w a bs) :
    Calls Try.prog 8 #[.slice a len cap] w (DrewInts w.heap.size w) := by
  have HF := Lib.hid (specFrom_any a len cap bs w hl hm h); clear h hl
  go_enter Try.func8, Try.ntmps8
  go_wp2_with fail
  refine HF.out.mono ?_; rintro e w1 ⟨b, rfl, hS, hB⟩
  have HB := Lib.hid hB
  go_wp2_with fail
  refine (specDrawList_any w.heap.size b w1 hS).mono ?_; rintro e w2 ⟨a2, cap2, zs, rfl, hc, hz, hI, hB2⟩
  have HR := Lib.hid (⟨a2, cap2, zs, rfl, hc, hz, hI, HB.out.trans hB2⟩ : DrewInts w.heap.size w (.returned (.slice a2 zs.length cap2)) w2)
  clear hS hB hc hz hI hB2
  go_wp2_with fail
  go_ret
  exact HR.out

set_option maxHeartbeats 400000 in
theorem specDrawIsWord_any (a : Option Addr) (len cap : Nat) (bs : List Int) (w : World) (hl : bs.length = len) (hm : len ≤ 4096) (h : BytesAt w.heap.size w a bs) :
    Calls Try.prog 11 #[.slice a len cap] w (DrewT w.heap.size w) := by
  have HF := Lib.hid (specFrom_any a len cap bs w hl hm h); clear h hl
  go_enter Try.func11, Try.ntmps11
  go_wp2_with fail
  refine HF.out.mono ?_; rintro e w1 ⟨b, rfl, hS, hB⟩
  have HB := Lib.hid hB
  go_wp2_with fail
  refine (specDrawWord_any w.heap.size b w1 hS).mono ?_; rintro e w2 ⟨s, rfl, hs, _, hg⟩
  have HS := Lib.hid hs; have HB2 := Lib.hid (HB.out.trans (grown_below hg hS.base HB.out.size))
  clear hS hB hs hg
  go_wp2_with fail
  go_ret
  exact ⟨s, rfl, HS.out, HB2.out⟩

end Go.Proofs.Ytfadmlgdabamhaa
