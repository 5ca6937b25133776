/- Contract: spec.l03State draws a state, as in DrawS3. -/
import Derived.Test.YtmpopfcnjgcncaaChecked
import Derived.Test.YtmpopfcnjgcncaaPure6
import Derived.Test.YtmpopfcnjgcncaaNext
import Derived.Test.YtmpopfcnjgcncaaPick
import Derived.Test.YtmpopfcnjgcncaaRowV
import Derived.WalkKit
import Derived.WalkSpells
import Derived.WalkLawsBesides
import Derived.Lib.Hide
import Derived.IntWalk
namespace Go.Proofs.Ytmpopfcnjgcncaa
open Go.RowKit Pure2 Pure6

set_option maxRecDepth 100000 in
set_option maxHeartbeats 800000 in
theorem specL03State_any (B b : Nat) (w : World) (h : Src B 78 w b) :
    Calls Try.prog 54 #[.pointer (some ⟨b, 0, none⟩)] w (Gave B 78 b w) := by
  have hbB := h.base
  have HS0 := Lib.hid h; clear h
  go_enter Try.func54, Try.ntmps54
  go_wp2_with fail
  refine (specNext_any B b 2000000000 w (by omega) HS0.out).mono ?_; rintro e w11 ⟨x1, rfl, hx, hz, hS, hg⟩
  obtain ⟨l1, u1⟩ := hx (by omega)
  have HS1 := Lib.hid hS
  have HG1 := Lib.hid (hg)
  clear hS hg hx hz
  go_wp2_with fail
  refine (specNext_any B b 2000000000 w11 (by omega) HS1.out).mono ?_; rintro e w12 ⟨x2, rfl, hx, hz, hS, hg⟩
  obtain ⟨l2, u2⟩ := hx (by omega)
  have HS2 := Lib.hid hS
  have HG2 := Lib.hid (grown_trans HG1.out (hg))
  clear hS hg hx hz
  go_wp2_with fail
  refine (specNext_any B b 1000 w12 (by omega) HS2.out).mono ?_; rintro e w13 ⟨x3, rfl, hx, hz, hS, hg⟩
  obtain ⟨l3, u3⟩ := hx (by omega)
  have HS3 := Lib.hid hS
  have HG3 := Lib.hid (grown_trans HG2.out (hg))
  clear hS hg hx hz
  go_wp2_with fail
  refine (specNext_any B b 20 w13 (by omega) HS3.out).mono ?_; rintro e w14 ⟨x4, rfl, hx, hz, hS, hg⟩
  obtain ⟨l4, u4⟩ := hx (by omega)
  have HS4 := Lib.hid hS
  have HG4 := Lib.hid (grown_trans HG3.out (hg))
  clear hS hg hx hz
  go_wp2_with fail
  refine (specPick_any B b w14.heap.size [1, 2, 0, 2147483647, -1] 5 5 _ rfl (by omega) (by omega) (HS4.out.alloc _) (by have := HS4.out.lt; omega) (alloc_ints w14 _ _)).mono ?_
  rintro e w15 ⟨x5, rfl, hx, hS, hg⟩
  have HS5 := Lib.hid hS
  have HG5 := Lib.hid (grown_trans HG4.out (grown_trans (grown_alloc _ _ _) hg))
  clear hS hg hx
  go_wp2_with fail
  refine (specNext_any B b 2000000000 w15 (by omega) HS5.out).mono ?_; rintro e w16 ⟨x6, rfl, hx, hz, hS, hg⟩
  obtain ⟨l6, u6⟩ := hx (by omega)
  have HS6 := Lib.hid hS
  have HG6 := Lib.hid (grown_trans HG5.out (hg))
  clear hS hg hx hz
  go_wp2_with fail
  refine (specPick_any B b w16.heap.size [1 + x1, 1 + x2, 1 + x3, 2147483646 - x4 / 19, x5, 1 + x6] 6 6 _ rfl (by omega) (by omega) (HS6.out.alloc _) (by have := HS6.out.lt; omega) (alloc_ints w16 _ _)).mono ?_
  rintro e w17 ⟨x7, rfl, hx, hS, hg⟩
  have HS7 := Lib.hid hS
  have HG7 := Lib.hid (grown_trans HG6.out (grown_trans (grown_alloc _ _ _) hg))
  clear hS hg hx
  go_wp2_with fail
  go_ret
  exact ⟨_, rfl, HS7.out, HG7.out⟩


end Go.Proofs.Ytmpopfcnjgcncaa
