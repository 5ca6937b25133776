/- Contracts: the drawing functions of chapter 3. -/
import Derived.Test.YtfblkggfdmnpmaaChecked
import Derived.Test.YtfblkggfdmnpmaaPure6
import Derived.Test.YtfblkggfdmnpmaaNext
import Derived.Test.YtfblkggfdmnpmaaFrom
import Derived.Test.YtfblkggfdmnpmaaPick
import Derived.Test.YtfblkggfdmnpmaaInfo
import Derived.Test.YtfblkggfdmnpmaaMarkI
import Derived.Test.YtfblkggfdmnpmaaPure31
import Derived.Test.YtfblkggfdmnpmaaShuf8
import Derived.WalkKit
import Derived.WalkSpells
import Derived.WalkLawsBesides
import Derived.Lib.Hide
import Derived.Deep.OwnRows
import Derived.Outline
namespace Go.Proofs.Ytfblkggfdmnpmaa
open Go.RowKit Pure2 Pure6 Pure30 Pure31

theorem grown_of_below {w w' : World} {r : Option Nat} (h : Below w.heap.size w w') : w.grownBy w' r := ⟨h.os, h.tape, h.output, h.size, fun k hk _ => h.block k hk⟩
/-- a list of our own is kept where another block changes -/
theorem ownI_keep {base b : Nat} {w w' : World} {a : Option Addr} {len : Nat} {g : Nat → Int} (h : OwnI base w a len g) (hg : w.grownBy w' (some b)) (hb : b < base) : OwnI base w' a len g := by
  rcases h with h | ⟨c, f, N, rfl, hB, hN, hr, hf⟩
  · exact .inl h
  · exact .inr ⟨c, f, N, rfl, hB, hN, hr.of_block (hg.block c hr.lt (by intro e; cases e; omega)), hf⟩
theorem next_bd {n x : Int} (h : 1 < n → 0 ≤ x ∧ x < n) (h' : n ≤ 1 → x = 0) : 0 ≤ x ∧ (x < n ∨ x = 0) := by
  by_cases h1 : 1 < n
  · have := h h1; omega
  · have := h' (by omega); omega
/-- one number is drawn -/
def Drew1 (w : World) (e : Ending) (w' : World) : Prop := ∃ x : Int, e = .returned (.int .i64 x) ∧ Below w.heap.size w w'
/-- two numbers are drawn -/
def Drew2 (w : World) (e : Ending) (w' : World) : Prop := ∃ x y : Int, e = .returned (.tuple #[.int .i64 x, .int .i64 y]) ∧ Below w.heap.size w w'
/-- .. the second between -1 and 201 -/
def Drew2B (w : World) (e : Ending) (w' : World) : Prop := ∃ x y : Int, e = .returned (.tuple #[.int .i64 x, .int .i64 y]) ∧ -1 ≤ y ∧ y ≤ 201 ∧ Below w.heap.size w w'
/-- three numbers are drawn -/
def Drew3 (w : World) (e : Ending) (w' : World) : Prop := ∃ x y z : Int, e = .returned (.tuple #[.int .i64 x, .int .i64 y, .int .i64 z]) ∧ Below w.heap.size w w'
/-- four numbers and a list are drawn -/
def Drew4L (w : World) (e : Ending) (w' : World) : Prop := ∃ (c s t n : Int) (a : Option Addr) (cap : Nat) (zs : List Int), e = .returned (.tuple #[.int .i64 c, .int .i64 s, .int .i64 t, .int .i64 n, .slice a zs.length cap]) ∧ zs.length ≤ 200 ∧ IntsAt w' a zs ∧ Below w.heap.size w w'

set_option maxRecDepth 100000 in
set_option maxHeartbeats 800000 in
theorem specL03State_any (B b : Nat) (w : World) (h : Src B 62 w b) :
    Calls Try.prog 54 #[.pointer (some ⟨b, 0, none⟩)] w (Gave B 62 b w) := by
  have hbB := h.base
  have HS0 := Lib.hid h; clear h
  go_enter Try.func54, Try.ntmps54
  go_wp2_with fail
  refine (specNext_any B b 2000000000 w (by omega) HS0.out).mono ?_; rintro e w11 ⟨x1, rfl, hx, hz, hS, hg⟩
  obtain ⟨l1, u1⟩ := hx (by omega)
  have HS1 := Lib.hid hS
  have HG1 := Lib.hid (hg)
  clear hS hg hx hz
  go_wp2_with fail
  refine (specNext_any B b 2000000000 w11 (by omega) HS1.out).mono ?_; rintro e w12 ⟨x2, rfl, hx, hz, hS, hg⟩
  obtain ⟨l2, u2⟩ := hx (by omega)
  have HS2 := Lib.hid hS
  have HG2 := Lib.hid (grown_trans HG1.out (hg))
  clear hS hg hx hz
  go_wp2_with fail
  refine (specNext_any B b 1000 w12 (by omega) HS2.out).mono ?_; rintro e w13 ⟨x3, rfl, hx, hz, hS, hg⟩
  obtain ⟨l3, u3⟩ := hx (by omega)
  have HS3 := Lib.hid hS
  have HG3 := Lib.hid (grown_trans HG2.out (hg))
  clear hS hg hx hz
  go_wp2_with fail
  refine (specNext_any B b 20 w13 (by omega) HS3.out).mono ?_; rintro e w14 ⟨x4, rfl, hx, hz, hS, hg⟩
  obtain ⟨l4, u4⟩ := hx (by omega)
  have HS4 := Lib.hid hS
  have HG4 := Lib.hid (grown_trans HG3.out (hg))
  clear hS hg hx hz
  go_wp2_with fail
  refine (specPick_any B b w14.heap.size [1, 2, 0, 2147483647, -1] 5 5 _ rfl (by omega) (by omega) (HS4.out.alloc _) (by have := HS4.out.lt; omega) (alloc_ints w14 _ _)).mono ?_
  rintro e w15 ⟨x5, rfl, hx, hS, hg⟩
  have HS5 := Lib.hid hS
  have HG5 := Lib.hid (grown_trans HG4.out (grown_trans (grown_alloc _ _ _) hg))
  clear hS hg hx
  go_wp2_with fail
  refine (specNext_any B b 2000000000 w15 (by omega) HS5.out).mono ?_; rintro e w16 ⟨x6, rfl, hx, hz, hS, hg⟩
  obtain ⟨l6, u6⟩ := hx (by omega)
  have HS6 := Lib.hid hS
  have HG6 := Lib.hid (grown_trans HG5.out (hg))
  clear hS hg hx hz
  go_wp2_with fail
  refine (specPick_any B b w16.heap.size [1 + x1, 1 + x2, 1 + x3, 2147483646 - x4 / 19, x5, 1 + x6] 6 6 _ rfl (by omega) (by omega) (HS6.out.alloc _) (by have := HS6.out.lt; omega) (alloc_ints w16 _ _)).mono ?_
  rintro e w17 ⟨x7, rfl, hx, hS, hg⟩
  have HS7 := Lib.hid hS
  have HG7 := Lib.hid (grown_trans HG6.out (grown_trans (grown_alloc _ _ _) hg))
  clear hS hg hx
  go_wp2_with fail
  go_ret
  exact ⟨_, rfl, HS7.out, HG7.out⟩

set_option maxRecDepth 100000 in
set_option maxHeartbeats 800000 in
theorem specDrawNextState_any (a : Option Addr) (len cap : Nat) (bs : List Int) (w : World) (hl : bs.length = len) (hm : len ≤ 4096) (h : BytesAt w.heap.size w a bs) :
    Calls Try.prog 32 #[.slice a len cap] w (Drew1 w) := by
  have HY := Lib.hid h; have HL := Lib.hid hl
  have HF := Lib.hid (specFrom_any a len cap bs w hl hm h); clear h hl
  go_enter Try.func32, Try.ntmps32
  go_wp2_with fail
  refine HF.out.mono ?_; rintro e w1 ⟨b, rfl, hS, hB⟩
  have hbw := hS.lt; have hbB := hS.base; have hsz := hB.size
  have HB := Lib.hid hB; have HS0 := Lib.hid hS; clear hS hB HF
  go_wp2_with fail
  refine (specL03State_any w.heap.size b w1 HS0.out).mono ?_; rintro e w11 ⟨x1, rfl, hS, hg⟩
  have HS1 := Lib.hid hS
  have HG1 := Lib.hid (hg)
  clear hS hg
  go_wp2_with fail
  go_ret
  exact ⟨_, rfl, HB.out.trans (grown_below HG1.out hbB hsz)⟩

set_option maxRecDepth 100000 in
set_option maxHeartbeats 800000 in
theorem specDrawNumberBelow_any (a : Option Addr) (len cap : Nat) (bs : List Int) (w : World) (hl : bs.length = len) (hm : len ≤ 4096) (h : BytesAt w.heap.size w a bs) :
    Calls Try.prog 26 #[.slice a len cap] w (Drew2 w) := by
  have HY := Lib.hid h; have HL := Lib.hid hl
  have HF := Lib.hid (specFrom_any a len cap bs w hl hm h); clear h hl
  go_enter Try.func26, Try.ntmps26
  go_wp2_with fail
  refine HF.out.mono ?_; rintro e w1 ⟨b, rfl, hS, hB⟩
  have hbw := hS.lt; have hbB := hS.base; have hsz := hB.size
  have HB := Lib.hid hB; have HS0 := Lib.hid hS; clear hS hB HF
  go_wp2_with fail
  refine (specL03State_any w.heap.size b w1 HS0.out).mono ?_; rintro e w11 ⟨x1, rfl, hS, hg⟩
  have HS1 := Lib.hid hS
  have HG1 := Lib.hid (hg)
  clear hS hg
  go_wp2_with fail
  refine (specNext_any w.heap.size b 12 w11 (by omega) HS1.out).mono ?_; rintro e w12 ⟨x2, rfl, hx, hz, hS, hg⟩
  obtain ⟨l2, u2⟩ := hx (by omega)
  have HS2 := Lib.hid hS
  have HG2 := Lib.hid (grown_trans HG1.out (hg))
  clear hS hg hx hz
  go_wp2_with fail
  refine (specNext_any w.heap.size b 12 w12 (by omega) HS2.out).mono ?_; rintro e w13 ⟨x3, rfl, hx, hz, hS, hg⟩
  obtain ⟨l3, u3⟩ := hx (by omega)
  have HS3 := Lib.hid hS
  have HG3 := Lib.hid (grown_trans HG2.out (hg))
  clear hS hg hx hz
  go_wp2_with fail
  refine (specPick_any w.heap.size b w13.heap.size [1, 1 + x2, 1 + x3, 1000000, 1000001, 0] 6 6 _ rfl (by omega) (by omega) (HS3.out.alloc _) (by have := HS3.out.lt; omega) (alloc_ints w13 _ _)).mono ?_
  rintro e w14 ⟨x4, rfl, hx, hS, hg⟩
  have HS4 := Lib.hid hS
  have HG4 := Lib.hid (grown_trans HG3.out (grown_trans (grown_alloc _ _ _) hg))
  clear hS hg hx
  go_wp2_with fail
  go_ret2
  exact ⟨_, _, rfl, HB.out.trans (grown_below HG4.out hbB hsz)⟩

set_option maxRecDepth 100000 in
set_option maxHeartbeats 800000 in
theorem specDrawShuffleNumbers_any (a : Option Addr) (len cap : Nat) (bs : List Int) (w : World) (hl : bs.length = len) (hm : len ≤ 4096) (h : BytesAt w.heap.size w a bs) :
    Calls Try.prog 18 #[.slice a len cap] w (Drew2B w) := by
  have HY := Lib.hid h; have HL := Lib.hid hl
  have HF := Lib.hid (specFrom_any a len cap bs w hl hm h); clear h hl
  go_enter Try.func18, Try.ntmps18
  go_wp2_with fail
  refine HF.out.mono ?_; rintro e w1 ⟨b, rfl, hS, hB⟩
  have hbw := hS.lt; have hbB := hS.base; have hsz := hB.size
  have HB := Lib.hid hB; have HS0 := Lib.hid hS; clear hS hB HF
  go_wp2_with fail
  refine (specL03State_any w.heap.size b w1 HS0.out).mono ?_; rintro e w11 ⟨x1, rfl, hS, hg⟩
  have HS1 := Lib.hid hS
  have HG1 := Lib.hid (hg)
  clear hS hg
  go_wp2_with fail
  refine (specNext_any w.heap.size b 12 w11 (by omega) HS1.out).mono ?_; rintro e w12 ⟨x2, rfl, hx, hz, hS, hg⟩
  obtain ⟨l2, u2⟩ := hx (by omega)
  have HS2 := Lib.hid hS
  have HG2 := Lib.hid (grown_trans HG1.out (hg))
  clear hS hg hx hz
  go_wp2_with fail
  refine (specNext_any w.heap.size b 40 w12 (by omega) HS2.out).mono ?_; rintro e w13 ⟨x3, rfl, hx, hz, hS, hg⟩
  obtain ⟨l3, u3⟩ := hx (by omega)
  have HS3 := Lib.hid hS
  have HG3 := Lib.hid (grown_trans HG2.out (hg))
  clear hS hg hx hz
  go_wp2_with fail
  refine (specNext_any w.heap.size b 12 w13 (by omega) HS3.out).mono ?_; rintro e w14 ⟨x4, rfl, hx, hz, hS, hg⟩
  obtain ⟨l4, u4⟩ := hx (by omega)
  have HS4 := Lib.hid hS
  have HG4 := Lib.hid (grown_trans HG3.out (hg))
  clear hS hg hx hz
  go_wp2_with fail
  refine (specPick_any w.heap.size b w14.heap.size [x2, x3, 200, 201, -1, x4] 6 6 _ rfl (by omega) (by omega) (HS4.out.alloc _) (by have := HS4.out.lt; omega) (alloc_ints w14 _ _)).mono ?_
  rintro e w15 ⟨x5, rfl, hx, hS, hg⟩
  have HS5 := Lib.hid hS
  have HG5 := Lib.hid (grown_trans HG4.out (grown_trans (grown_alloc _ _ _) hg))
  clear hS hg
  have hbd : -1 ≤ x5 ∧ x5 ≤ 201 := by simp only [List.mem_cons, List.not_mem_nil, or_false] at hx; omega
  clear hx
  go_wp2_with fail
  go_ret2
  exact ⟨_, _, rfl, hbd.1, hbd.2, HB.out.trans (grown_below HG5.out hbB hsz)⟩

set_option maxRecDepth 100000 in
set_option maxHeartbeats 800000 in
theorem specDrawStatesAfter_any (a : Option Addr) (len cap : Nat) (bs : List Int) (w : World) (hl : bs.length = len) (hm : len ≤ 4096) (h : BytesAt w.heap.size w a bs) :
    Calls Try.prog 29 #[.slice a len cap] w (Drew2B w) := by
  have HC := Lib.hid (specDrawShuffleNumbers_any a len cap bs w hl hm h); clear h hl
  go_enter Try.func29, Try.ntmps29
  go_wp2_with fail
  refine HC.out.mono ?_; rintro e w1 ⟨x, y, rfl, hy0, hy1, hB⟩
  have HB := Lib.hid hB; clear hB
  go_wp2_with fail
  go_ret2
  exact ⟨_, _, rfl, hy0, hy1, HB.out⟩

set_option maxRecDepth 100000 in
set_option maxHeartbeats 800000 in
theorem specDrawSampleOf_any (a : Option Addr) (len cap : Nat) (bs : List Int) (w : World) (hl : bs.length = len) (hm : len ≤ 4096) (h : BytesAt w.heap.size w a bs) :
    Calls Try.prog 15 #[.slice a len cap] w (Drew3 w) := by
  have HY := Lib.hid h; have HL := Lib.hid hl
  have HF := Lib.hid (specFrom_any a len cap bs w hl hm h); clear h hl
  go_enter Try.func15, Try.ntmps15
  go_wp2_with fail
  refine HF.out.mono ?_; rintro e w1 ⟨b, rfl, hS, hB⟩
  have hbw := hS.lt; have hbB := hS.base; have hsz := hB.size
  have HB := Lib.hid hB; have HS0 := Lib.hid hS; clear hS hB HF
  go_wp2_with fail
  refine (specDrawShuffleNumbers_any a len cap bs w1 HL.out hm (HY.out.later HB.out)).mono ?_; rintro e w11 ⟨s, n, rfl, hn0, hn1, hB2⟩
  have HS1 := Lib.hid (HS0.out.kept (hB2.block b hbw) (hB2.mono hsz))
  have HG1 := Lib.hid (grown_of_below (r := some b) hB2)
  clear hB2 HS0
  go_wp2_with fail
  all_goals
    refine (specNext_any w.heap.size b _ w11 (by omega) HS1.out).mono ?_; rintro e w12 ⟨x2, rfl, hx, hz, hS, hg⟩
    have hb2 := next_bd hx hz
    obtain ⟨l2, u2⟩ := hb2
    have HS2 := Lib.hid hS
    have HG2 := Lib.hid (grown_trans HG1.out (hg))
    clear hS hg hx hz
    go_wp2_with fail
    all_goals
      refine (specNext_any w.heap.size b _ w12 (by omega) HS2.out).mono ?_; rintro e w13 ⟨x3, rfl, hx, hz, hS, hg⟩
      have hb3 := next_bd hx hz
      obtain ⟨l3, u3⟩ := hb3
      have HS3 := Lib.hid hS
      have HG3 := Lib.hid (grown_trans HG2.out (hg))
      clear hS hg hx hz
      go_wp2_with fail
      refine (specPick_any w.heap.size b w13.heap.size [x2, x3, n, n + 1, -1] 5 5 _ rfl (by omega) (by omega) (HS3.out.alloc _) (by have := HS3.out.lt; omega) (alloc_ints w13 _ _)).mono ?_
      rintro e w14 ⟨x4, rfl, hx, hS, hg⟩
      have HG4 := Lib.hid (grown_trans HG3.out (grown_trans (grown_alloc _ _ _) hg))
      clear hS hg hx
      go_wp2_with fail
      go_ret3
      exact ⟨_, _, _, rfl, HB.out.trans (grown_below HG4.out hbB hsz)⟩

set_option maxRecDepth 100000 in
set_option maxHeartbeats 800000 in
theorem specDrawPlaceInShuffle_any (a : Option Addr) (len cap : Nat) (bs : List Int) (w : World) (hl : bs.length = len) (hm : len ≤ 4096) (h : BytesAt w.heap.size w a bs) :
    Calls Try.prog 21 #[.slice a len cap] w (Drew3 w) := by
  have HC := Lib.hid (specDrawSampleOf_any a len cap bs w hl hm h); clear h hl
  go_enter Try.func21, Try.ntmps21
  go_wp2_with fail
  refine HC.out.mono ?_; rintro e w1 ⟨x, y, z, rfl, hB⟩
  have HB := Lib.hid hB; clear hB
  go_wp2_with fail
  go_ret3
  exact ⟨_, _, _, rfl, HB.out⟩

set_option maxRecDepth 100000 in
set_option maxHeartbeats 800000 in
theorem specDrawCommitmentOf_any (a : Option Addr) (len cap : Nat) (bs : List Int) (w : World) (hl : bs.length = len) (hm : len ≤ 4096) (h : BytesAt w.heap.size w a bs) :
    Calls Try.prog 38 #[.slice a len cap] w (Drew2 w) := by
  have HY := Lib.hid h; have HL := Lib.hid hl
  have HF := Lib.hid (specFrom_any a len cap bs w hl hm h); clear h hl
  go_enter Try.func38, Try.ntmps38
  go_wp2_with fail
  refine HF.out.mono ?_; rintro e w1 ⟨b, rfl, hS, hB⟩
  have hbw := hS.lt; have hbB := hS.base; have hsz := hB.size
  have HB := Lib.hid hB; have HS0 := Lib.hid hS; clear hS hB HF
  go_wp2_with fail
  refine (specL03State_any w.heap.size b w1 HS0.out).mono ?_; rintro e w11 ⟨x1, rfl, hS, hg⟩
  have HS1 := Lib.hid hS
  have HG1 := Lib.hid (hg)
  clear hS hg
  go_wp2_with fail
  refine (specNext_any w.heap.size b 2000000000 w11 (by omega) HS1.out).mono ?_; rintro e w12 ⟨x2, rfl, hx, hz, hS, hg⟩
  obtain ⟨l2, u2⟩ := hx (by omega)
  have HS2 := Lib.hid hS
  have HG2 := Lib.hid (grown_trans HG1.out (hg))
  clear hS hg hx hz
  go_wp2_with fail
  refine (specNext_any w.heap.size b 1000 w12 (by omega) HS2.out).mono ?_; rintro e w13 ⟨x3, rfl, hx, hz, hS, hg⟩
  obtain ⟨l3, u3⟩ := hx (by omega)
  have HS3 := Lib.hid hS
  have HG3 := Lib.hid (grown_trans HG2.out (hg))
  clear hS hg hx hz
  go_wp2_with fail
  refine (specPick_any w.heap.size b w13.heap.size [x2, x3, 2147483646, 2147483647, -1, 0] 6 6 _ rfl (by omega) (by omega) (HS3.out.alloc _) (by have := HS3.out.lt; omega) (alloc_ints w13 _ _)).mono ?_
  rintro e w14 ⟨x4, rfl, hx, hS, hg⟩
  have HS4 := Lib.hid hS
  have HG4 := Lib.hid (grown_trans HG3.out (grown_trans (grown_alloc _ _ _) hg))
  clear hS hg hx
  go_wp2_with fail
  go_ret2
  exact ⟨_, _, rfl, HB.out.trans (grown_below HG4.out hbB hsz)⟩

end Go.Proofs.Ytfblkggfdmnpmaa
