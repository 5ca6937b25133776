/- Contracts: the drawing functions of chapter 2. -/
import Derived.Test.YtbmfekhhfacjeaaChecked
import Derived.Test.YtbmfekhhfacjeaaPure6
import Derived.Test.YtbmfekhhfacjeaaNext
import Derived.Test.YtbmfekhhfacjeaaFrom
import Derived.Test.YtbmfekhhfacjeaaPick
import Derived.Test.YtbmfekhhfacjeaaOwnK
import Derived.Test.YtbmfekhhfacjeaaDrawH
import Derived.WalkKit
import Derived.WalkSpells
import Derived.WalkLawsBesides
import Derived.OwnWalk
import Derived.Lib.Hide
import Derived.Outline
namespace Go.Proofs.Ytbmfekhhfacjeaa
open Go.RowKit Pure2 Pure6

theorem below_lit' (w : World) (o : Obj) : Below w.heap.size w (w.alloc o) := (Below.refl _ _).alloc (Nat.le_refl _) _
/-- a list and a day are drawn; the list lies from block B on, and below it nothing has turned -/
def DrewHD (B : Nat) (w : World) (e : Ending) (w' : World) : Prop :=
  ∃ a cap zs d, e = .returned (.tuple #[.slice a zs.length cap, .int .i64 d]) ∧ zs.length ≤ 41 ∧ IntsAt w' a zs ∧ (∀ x, a = some x → B ≤ x.block) ∧ -1 ≤ d ∧ d ≤ 20001 ∧ Below B w w'
/-- .. and a number beside them -/
def DrewHDN (B : Nat) (w : World) (e : Ending) (w' : World) : Prop :=
  ∃ a cap zs d k, e = .returned (.tuple #[.slice a zs.length cap, .int .i64 d, .int .i64 k]) ∧ zs.length ≤ 41 ∧ IntsAt w' a zs ∧ (∀ x, a = some x → B ≤ x.block) ∧ -1 ≤ d ∧ d ≤ 20001 ∧ Below B w w'
/-- .. and another day beside them -/
def DrewHDD (B : Nat) (w : World) (e : Ending) (w' : World) : Prop :=
  ∃ a cap zs d k, e = .returned (.tuple #[.slice a zs.length cap, .int .i64 d, .int .i64 k]) ∧ zs.length ≤ 41 ∧ IntsAt w' a zs ∧ (∀ x, a = some x → B ≤ x.block) ∧ (-1 ≤ d ∧ d ≤ 20001) ∧ (-1 ≤ k ∧ k ≤ 20001) ∧ Below B w w'

set_option maxHeartbeats 800000 in
theorem specDrawIsCourtDay_any (a : Option Addr) (len cap : Nat) (bs : List Int) (w : World) (hl : bs.length = len) (hm : len ≤ 4096) (h : BytesAt w.heap.size w a bs) :
    Calls Try.prog 20 #[.slice a len cap] w (DrewHD w.heap.size w) := by
  have HF := Lib.hid (specFrom_any a len cap bs w hl hm h); clear h hl
  go_enter Try.func20, Try.ntmps20
  go_wp2_with fail
  refine HF.out.mono ?_; rintro e w1 ⟨b, rfl, hS, hB⟩
  have hbw := hS.lt; have hbB := hS.base; have hsz := hB.size
  have HB := Lib.hid hB; have HS := Lib.hid hS; clear hS hB
  go_wp2_with fail
  refine (specHolidays_any w.heap.size b w1 HS.out).mono ?_; rintro e w2 ⟨a2, cap2, zs, rfl, hz, hI2, ha2, hS2, hB2⟩
  have HI2 := Lib.hid hI2; have HA2 := Lib.hid ha2; have HS2 := Lib.hid hS2; have HB2 := Lib.hid (HB.out.trans hB2)
  have hbw2 := hS2.lt; clear hI2 ha2 hS2 hB2
  go_wp2_with fail
  refine (specDay_any w.heap.size b w2 HS2.out).mono ?_; rintro e w3 ⟨d, rfl, hd0, hd1, hS3, hB3, hk3⟩
  have HI3 := Lib.hid (hk3 (b + 1) (by omega) (by omega) _ _ HA2.out HI2.out); have HS3 := Lib.hid hS3; have HB3 := Lib.hid (HB2.out.trans hB3)
  have hbw3 := hS3.lt; clear hk3 hS3 hB3
  go_wp2_with fail
  go_ret2
  exact ⟨a2, cap2, zs, d, rfl, hz, HI3.out, fun x hx => by have := HA2.out x hx; omega, hd0, hd1, HB3.out⟩

set_option maxHeartbeats 800000 in
theorem specDrawNextCourtDay_any (a : Option Addr) (len cap : Nat) (bs : List Int) (w : World) (hl : bs.length = len) (hm : len ≤ 4096) (h : BytesAt w.heap.size w a bs) :
    Calls Try.prog 28 #[.slice a len cap] w (DrewHD w.heap.size w) := by
  have HF := Lib.hid (specDrawIsCourtDay_any a len cap bs w hl hm h); clear h hl
  go_enter Try.func28, Try.ntmps28
  go_wp2_with fail
  refine HF.out.mono ?_; rintro e w2 ⟨a2, cap2, zs, d, rfl, hz, hI2, ha2, hd0, hd1, hB2⟩
  have HI2 := Lib.hid hI2; have HA2 := Lib.hid ha2; have HB2 := Lib.hid hB2; clear hI2 ha2 hB2
  go_wp2_with fail
  go_ret2
  exact ⟨a2, cap2, zs, d, rfl, hz, HI2.out, HA2.out, hd0, hd1, HB2.out⟩

set_option maxHeartbeats 800000 in
theorem specDrawCountCourtDays_any (a : Option Addr) (len cap : Nat) (bs : List Int) (w : World) (hl : bs.length = len) (hm : len ≤ 4096) (h : BytesAt w.heap.size w a bs) :
    Calls Try.prog 17 #[.slice a len cap] w (DrewHDD w.heap.size w) := by
  have HF := Lib.hid (specFrom_any a len cap bs w hl hm h); clear h hl
  go_enter Try.func17, Try.ntmps17
  go_wp2_with fail
  refine HF.out.mono ?_; rintro e w1 ⟨b, rfl, hS, hB⟩
  have hbw := hS.lt; have hbB := hS.base; have hsz := hB.size
  have HB := Lib.hid hB; have HS := Lib.hid hS; clear hS hB
  go_wp2_with fail
  refine (specHolidays_any w.heap.size b w1 HS.out).mono ?_; rintro e w2 ⟨a2, cap2, zs, rfl, hz, hI2, ha2, hS2, hB2⟩
  have HI2 := Lib.hid hI2; have HA2 := Lib.hid ha2; have HS2 := Lib.hid hS2; have HB2 := Lib.hid (HB.out.trans hB2)
  have hbw2 := hS2.lt; clear hI2 ha2 hS2 hB2
  go_wp2_with fail
  refine (specDay_any w.heap.size b w2 HS2.out).mono ?_; rintro e w3 ⟨d, rfl, hd0, hd1, hS3, hB3, hk3⟩
  have HI3 := Lib.hid (hk3 (b + 1) (by omega) (by omega) _ _ HA2.out HI2.out); have HS3 := Lib.hid hS3; have HB3 := Lib.hid (HB2.out.trans hB3)
  have hbw3 := hS3.lt; clear hk3 hS3 hB3
  go_wp2_with fail
  refine (specDay_any w.heap.size b w3 HS3.out).mono ?_; rintro e w4 ⟨k, rfl, hk0, hk1, hS4, hB4, hk4⟩
  have HI4 := Lib.hid (hk4 (b + 1) (by omega) (by omega) _ _ HA2.out HI3.out); have HB4 := Lib.hid (HB3.out.trans hB4); clear hk4 hS4 hB4
  go_wp2_with fail
  go_ret3
  exact ⟨a2, cap2, zs, d, k, rfl, hz, HI4.out, fun x hx => by have := HA2.out x hx; omega, ⟨hd0, hd1⟩, ⟨hk0, hk1⟩, HB4.out⟩

set_option maxHeartbeats 800000 in
theorem specDrawAddCourtDays_any (a : Option Addr) (len cap : Nat) (bs : List Int) (w : World) (hl : bs.length = len) (hm : len ≤ 4096) (h : BytesAt w.heap.size w a bs) :
    Calls Try.prog 14 #[.slice a len cap] w (DrewHDN w.heap.size w) := by
  have HY := Lib.hid h; have HL := Lib.hid hl
  have HF := Lib.hid (specFrom_any a len cap bs w hl hm h); clear h hl
  go_enter Try.func14, Try.ntmps14
  go_wp2_with fail
  refine HF.out.mono ?_; rintro e w1 ⟨b, rfl, hS, hB⟩
  have hbw := hS.lt; have hbB := hS.base; have hsz := hB.size
  have HB := Lib.hid hB; have HS := Lib.hid hS; clear hS hB
  go_wp2_with fail
  refine (specDrawIsCourtDay_any a len cap bs w1 HL.out hm (HY.out.later HB.out)).mono ?_; rintro e w2 ⟨a2, cap2, zs, d, rfl, hz, hI2, ha2, hd0, hd1, hB2⟩
  have hsz2 := hB2.size
  have HI2 := Lib.hid hI2; have HA2 := Lib.hid ha2
  have hB2' := hB2.mono hsz
  have HS2 := Lib.hid (HS.out.kept (hB2.block b hbw) hB2'); have HB2 := Lib.hid (HB.out.trans hB2'); clear hI2 ha2 hB2 hB2' HS HB
  go_wp2_with fail
  refine (specNext_any w.heap.size b 40 w2 (by omega) HS2.out).mono ?_; rintro e w3 ⟨x3, rfl, hx3, _, hS3, hg3⟩
  have hsz3 := hg3.size; have H3 := Lib.hid (hx3 (by omega))
  have HI3 := Lib.hid (ints_keep HI2.out HA2.out hg3 hbw)
  have HS3 := Lib.hid hS3; have HB3 := Lib.hid (HB2.out.trans (grown_below hg3 hbB (by omega))); clear hS3 hg3 hx3
  go_wp2_with fail
  refine (specNext_any w.heap.size b 10 w3 (by omega) HS3.out).mono ?_; rintro e w4 ⟨x4, rfl, hx4, _, hS4, hg4⟩
  have hsz4 := hg4.size; have H4 := Lib.hid (hx4 (by omega))
  have HI4 := Lib.hid (ints_keep HI3.out HA2.out hg4 hbw)
  have HS4 := Lib.hid hS4; have HB4 := Lib.hid (HB3.out.trans (grown_below hg4 hbB (by omega))); clear hS4 hg4 hx4
  go_wp2_with fail
  refine (specPick_any w.heap.size b w4.heap.size [0, 1, x3, 400, 401, -1, x4] 7 7 _ rfl (by omega) (by omega) (HS4.out.alloc _) (by omega) (alloc_ints w4 _ _)).mono ?_
  rintro e w5 ⟨x5, rfl, hx5, hS5, hg5⟩
  have HI5 := Lib.hid (ints_keep (HI4.out.below (below_lit' _ _)) HA2.out hg5 hbw)
  have HB5 := Lib.hid ((HB4.out.alloc (by omega) _).trans (grown_below hg5 hbB (by simp; omega)))
  clear hS5 hg5 hx5
  go_wp2_with fail
  go_ret3
  exact ⟨a2, cap2, zs, d, x5, rfl, hz, HI5.out, fun x hx => by have := HA2.out x hx; omega, hd0, hd1, HB5.out⟩

set_option maxHeartbeats 800000 in
theorem specDrawDeadlineOf_any (a : Option Addr) (len cap : Nat) (bs : List Int) (w : World) (hl : bs.length = len) (hm : len ≤ 4096) (h : BytesAt w.heap.size w a bs) :
    Calls Try.prog 25 #[.slice a len cap] w (DrewHDN w.heap.size w) := by
  have HY := Lib.hid h; have HL := Lib.hid hl
  have HF := Lib.hid (specFrom_any a len cap bs w hl hm h); clear h hl
  go_enter Try.func25, Try.ntmps25
  go_wp2_with fail
  refine HF.out.mono ?_; rintro e w1 ⟨b, rfl, hS, hB⟩
  have hbw := hS.lt; have hbB := hS.base; have hsz := hB.size
  have HB := Lib.hid hB; have HS := Lib.hid hS; clear hS hB
  go_wp2_with fail
  refine (specDrawIsCourtDay_any a len cap bs w1 HL.out hm (HY.out.later HB.out)).mono ?_; rintro e w2 ⟨a2, cap2, zs, d, rfl, hz, hI2, ha2, hd0, hd1, hB2⟩
  have hsz2 := hB2.size
  have HI2 := Lib.hid hI2; have HA2 := Lib.hid ha2
  have hB2' := hB2.mono hsz
  have HS2 := Lib.hid (HS.out.kept (hB2.block b hbw) hB2'); have HB2 := Lib.hid (HB.out.trans hB2'); clear hI2 ha2 hB2 hB2' HS HB
  go_wp2_with fail
  refine (specNext_any w.heap.size b 60 w2 (by omega) HS2.out).mono ?_; rintro e w3 ⟨x3, rfl, hx3, _, hS3, hg3⟩
  have hsz3 := hg3.size; have H3 := Lib.hid (hx3 (by omega))
  have HI3 := Lib.hid (ints_keep HI2.out HA2.out hg3 hbw)
  have HS3 := Lib.hid hS3; have HB3 := Lib.hid (HB2.out.trans (grown_below hg3 hbB (by omega))); clear hS3 hg3 hx3
  go_wp2_with fail
  refine (specPick_any w.heap.size b w3.heap.size [0, 30, x3, 1000, 1001, -1, 14] 7 7 _ rfl (by omega) (by omega) (HS3.out.alloc _) (by omega) (alloc_ints w3 _ _)).mono ?_
  rintro e w4 ⟨x4, rfl, hx4, hS4, hg4⟩
  have HI4 := Lib.hid (ints_keep (HI3.out.below (below_lit' _ _)) HA2.out hg4 hbw)
  have HB4 := Lib.hid ((HB3.out.alloc (by omega) _).trans (grown_below hg4 hbB (by simp; omega)))
  clear hS4 hg4 hx4
  go_wp2_with fail
  go_ret3
  exact ⟨a2, cap2, zs, d, x4, rfl, hz, HI4.out, fun x hx => by have := HA2.out x hx; omega, hd0, hd1, HB4.out⟩

set_option maxHeartbeats 800000 in
theorem specDrawLongestBreak_any (a : Option Addr) (len cap : Nat) (bs : List Int) (w : World) (hl : bs.length = len) (hm : len ≤ 4096) (h : BytesAt w.heap.size w a bs) :
    Calls Try.prog 33 #[.slice a len cap] w (DrewHDN w.heap.size w) := by
  have HY := Lib.hid h; have HL := Lib.hid hl
  have HF := Lib.hid (specFrom_any a len cap bs w hl hm h); clear h hl
  go_enter Try.func33, Try.ntmps33
  go_wp2_with fail
  refine HF.out.mono ?_; rintro e w1 ⟨b, rfl, hS, hB⟩
  have hbw := hS.lt; have hbB := hS.base; have hsz := hB.size
  have HB := Lib.hid hB; have HS := Lib.hid hS; clear hS hB
  go_wp2_with fail
  refine (specDrawCountCourtDays_any a len cap bs w1 HL.out hm (HY.out.later HB.out)).mono ?_; rintro e w2 ⟨a2, cap2, zs, d, k, rfl, hz, hI2, ha2, ⟨hd0, hd1⟩, ⟨hk0, hk1⟩, hB2⟩
  have hsz2 := hB2.size
  have HI2 := Lib.hid hI2; have HA2 := Lib.hid ha2
  have hB2' := hB2.mono hsz
  have HS2 := Lib.hid (HS.out.kept (hB2.block b hbw) hB2'); have HB2 := Lib.hid (HB.out.trans hB2'); clear hI2 ha2 hB2 hB2' HS HB
  go_wp2_with fail
  refine (specNext_any w.heap.size b 4 w2 (by omega) HS2.out).mono ?_; rintro e w3 ⟨x3, rfl, hx3, _, hS3, hg3⟩
  have hsz3 := hg3.size; have H3 := Lib.hid (hx3 (by omega))
  have HI3 := Lib.hid (ints_keep HI2.out HA2.out hg3 hbw)
  have HS3 := Lib.hid hS3; have HB3 := Lib.hid (HB2.out.trans (grown_below hg3 hbB (by omega))); clear hS3 hg3 hx3
  obtain ⟨l3, u3⟩ := H3.out
  by_cases h3 : 0 < x3
  · by_cases hdk : d ≤ k
    all_goals
      go_wp2_with fail
      all_goals
        go_ret3
        exact ⟨a2, cap2, zs, _, _, rfl, hz, HI3.out, fun x hx => by have := HA2.out x hx; omega, by omega, by omega, HB3.out⟩
  · go_wp2_with fail
    refine (specPick_any w.heap.size b w3.heap.size [d + 999, d + 1000, d, d - 1] 4 4 _ rfl (by omega) (by omega) (HS3.out.alloc _) (by omega) (alloc_ints w3 _ _)).mono ?_
    rintro e w4 ⟨x4, rfl, hx4, hS4, hg4⟩
    have HI4 := Lib.hid (ints_keep (HI3.out.below (below_lit' _ _)) HA2.out hg4 hbw)
    have HB4 := Lib.hid ((HB3.out.alloc (by omega) _).trans (grown_below hg4 hbB (by simp; omega)))
    clear hS4 hg4 hx4
    go_wp2_with fail
    go_ret3
    exact ⟨a2, cap2, zs, d, x4, rfl, hz, HI4.out, fun x hx => by have := HA2.out x hx; omega, hd0, hd1, HB4.out⟩

end Go.Proofs.Ytbmfekhhfacjeaa
