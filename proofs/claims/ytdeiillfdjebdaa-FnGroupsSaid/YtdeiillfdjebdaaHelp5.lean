/- Contract: impl.AreAlike; of the laws' own helpers likePersons (at two lists that read the same) and hasInt. -/
import Derived.Test.YtdeiillfdjebdaaChecked
import Derived.Test.YtdeiillfdjebdaaBase
import Derived.Test.YtdeiillfdjebdaaPure41
import Derived.Test.YtdeiillfdjebdaaPure51
import Derived.Test.YtdeiillfdjebdaaIsPers
import Derived.Test.YtdeiillfdjebdaaPersSlice
import Derived.Test.YtdeiillfdjebdaaLike
import Derived.Test.YtdeiillfdjebdaaCode5
import Derived.Test.YtdeiillfdjebdaaGrp5
import Derived.WalkKit
import Derived.WalkSpells
import Derived.WalkLawsBesides
import Derived.Lib.Hide
import Derived.Deep.QuietTactic
import Derived.BigQuiet
import Derived.Outline
namespace Go.Proofs.Ytdeiillfdjebdaa
open Go.RowKit Go.Sort Pure1 Pure2 Pure40 Pure41

def boolInt (r : Bool × Int) : Value := .tuple #[.bool r.1, .int .i64 r.2]
/-- is it at least a limit? -/
def alikeP (a b : Pers) (m : Int) : Bool × Int := if isPers a = true ∧ isPers b = true then (if inR m 0 100 = true then (decide (m ≤ likeP a b), 0) else (false, 2)) else (false, 1)

set_option maxRecDepth 100000 in
set_option maxHeartbeats 1000000 in
theorem implAreAlike_any (n0 : Int) (f0 l0 : ByteArray) (b0 z0 : Int) (n1 : Int) (f1 l1 : ByteArray) (b1 z1 : Int) (m : Int) (w : World) (hf0 : f0.size ≤ maxLen) (hl0 : l0.size ≤ maxLen) (hf1 : f1.size ≤ maxLen) (hl1 : l1.size ≤ maxLen) :
    Calls Try.prog 38 #[.agg #[.int .i64 n0, .string f0, .string l0, .int .i64 b0, .int .i64 z0], .agg #[.int .i64 n1, .string f1, .string l1, .int .i64 b1, .int .i64 z1], .int .i64 m] w (SaysV (boolInt (alikeP ⟨n0, f0, l0, b0, z0⟩ ⟨n1, f1, l1, b1, z1⟩ m)) w) := by
  have HA0 := Lib.hid ((atB_box w n0 f0 l0 b0 z0 51).below (boxed _ (.cells #[.int .i64 n1, .string f1, .string l1, .int .i64 b1, .int .i64 z1] 51)))
  have HA1 := Lib.hid (atB_box (w.alloc (.cells #[.int .i64 n0, .string f0, .string l0, .int .i64 b0, .int .i64 z0] 51)) n1 f1 l1 b1 z1 51)
  have hx : (w.alloc (.cells #[.int .i64 n0, .string f0, .string l0, .int .i64 b0, .int .i64 z0] 51)).heap.size = w.heap.size + 1 := by simp
  rw [hx] at HA1
  clear hx
  have HW := Lib.hid (show Below w.heap.size w ((w.alloc (.cells #[.int .i64 n0, .string f0, .string l0, .int .i64 b0, .int .i64 z0] 51)).alloc (.cells #[.int .i64 n1, .string f1, .string l1, .int .i64 b1, .int .i64 z1] 51)) from (boxed _ _).alloc (by simp) _)
  have HB0 := Lib.hid (Below.refl ((w.alloc (.cells #[.int .i64 n0, .string f0, .string l0, .int .i64 b0, .int .i64 z0] 51)).alloc (.cells #[.int .i64 n1, .string f1, .string l1, .int .i64 b1, .int .i64 z1] 51)).heap.size ((w.alloc (.cells #[.int .i64 n0, .string f0, .string l0, .int .i64 b0, .int .i64 z0] 51)).alloc (.cells #[.int .i64 n1, .string f1, .string l1, .int .i64 b1, .int .i64 z1] 51)))
  cases h0 : isPers ⟨n0, f0, l0, b0, z0⟩
  · have HN := Lib.hid (show boolInt (alikeP ⟨n0, f0, l0, b0, z0⟩ ⟨n1, f1, l1, b1, z1⟩ m) = .tuple #[.bool false, .int .i64 1] by rw [alikeP, if_neg (by rw [h0]; simp)]; rfl)
    go_enter Try.func38, Try.ntmps38
    go_wp2_with fail
    refine (implIsPerson_any n0 f0 l0 b0 z0 ((w.alloc (.cells #[.int .i64 n0, .string f0, .string l0, .int .i64 b0, .int .i64 z0] 51)).alloc (.cells #[.int .i64 n1, .string f1, .string l1, .int .i64 b1, .int .i64 z1] 51)) hf0 hl0).mono ?_; rintro e w1 ⟨rfl, hB⟩; have HB1 := Lib.hid (HB0.out.trans (hB.mono HB0.out.size)); clear hB
    go_wp2_with fail
    go_ret2
    exact ⟨ret_of (HN.out.symm), HW.out.trans (HB1.out.mono HW.out.size)⟩
  · cases h1 : isPers ⟨n1, f1, l1, b1, z1⟩
    · have HN := Lib.hid (show boolInt (alikeP ⟨n0, f0, l0, b0, z0⟩ ⟨n1, f1, l1, b1, z1⟩ m) = .tuple #[.bool false, .int .i64 1] by rw [alikeP, if_neg (by rw [h1]; simp)]; rfl)
      go_enter Try.func38, Try.ntmps38
      go_wp2_with fail
      refine (implIsPerson_any n0 f0 l0 b0 z0 ((w.alloc (.cells #[.int .i64 n0, .string f0, .string l0, .int .i64 b0, .int .i64 z0] 51)).alloc (.cells #[.int .i64 n1, .string f1, .string l1, .int .i64 b1, .int .i64 z1] 51)) hf0 hl0).mono ?_; rintro e w1 ⟨rfl, hB⟩; have HB1 := Lib.hid (HB0.out.trans (hB.mono HB0.out.size)); clear hB
      obtain ⟨c10, c11, c12, c13, c14⟩ := HA1.out.below HB1.out
      go_wp2_with fail
      clear c10 c11 c12 c13 c14
      refine (implIsPerson_any n1 f1 l1 b1 z1 w1 hf1 hl1).mono ?_; rintro e w2 ⟨rfl, hB⟩; have HB2 := Lib.hid (HB1.out.trans (hB.mono HB1.out.size)); clear hB
      go_wp2_with fail
      go_ret2
      exact ⟨ret_of (HN.out.symm), HW.out.trans (HB2.out.mono HW.out.size)⟩
    · cases h2 : inR m 0 100
      · have HN := Lib.hid (show boolInt (alikeP ⟨n0, f0, l0, b0, z0⟩ ⟨n1, f1, l1, b1, z1⟩ m) = .tuple #[.bool false, .int .i64 2] by rw [alikeP, if_pos ⟨h0, h1⟩, if_neg (by rw [h2]; simp)]; rfl)
        go_enter Try.func38, Try.ntmps38
        go_wp2_with fail
        refine (implIsPerson_any n0 f0 l0 b0 z0 ((w.alloc (.cells #[.int .i64 n0, .string f0, .string l0, .int .i64 b0, .int .i64 z0] 51)).alloc (.cells #[.int .i64 n1, .string f1, .string l1, .int .i64 b1, .int .i64 z1] 51)) hf0 hl0).mono ?_; rintro e w1 ⟨rfl, hB⟩; have HB1 := Lib.hid (HB0.out.trans (hB.mono HB0.out.size)); clear hB
        obtain ⟨c10, c11, c12, c13, c14⟩ := HA1.out.below HB1.out
        go_wp2_with fail
        clear c10 c11 c12 c13 c14
        refine (implIsPerson_any n1 f1 l1 b1 z1 w1 hf1 hl1).mono ?_; rintro e w2 ⟨rfl, hB⟩; have HB2 := Lib.hid (HB1.out.trans (hB.mono HB1.out.size)); clear hB
        go_wp2_with fail
        refine (implLimit5 m w2).mono ?_; rintro e w2 ⟨rfl, rfl⟩
        go_wp2_with fail
        go_ret2
        exact ⟨ret_of (HN.out.symm), HW.out.trans (HB2.out.mono HW.out.size)⟩
      · have HN := Lib.hid (show boolInt (alikeP ⟨n0, f0, l0, b0, z0⟩ ⟨n1, f1, l1, b1, z1⟩ m) = .tuple #[.bool (decide (m ≤ likeP ⟨n0, f0, l0, b0, z0⟩ ⟨n1, f1, l1, b1, z1⟩)), .int .i64 0] by rw [alikeP, if_pos ⟨h0, h1⟩, if_pos h2]; rfl)
        go_enter Try.func38, Try.ntmps38
        go_wp2_with fail
        refine (implIsPerson_any n0 f0 l0 b0 z0 ((w.alloc (.cells #[.int .i64 n0, .string f0, .string l0, .int .i64 b0, .int .i64 z0] 51)).alloc (.cells #[.int .i64 n1, .string f1, .string l1, .int .i64 b1, .int .i64 z1] 51)) hf0 hl0).mono ?_; rintro e w1 ⟨rfl, hB⟩; have HB1 := Lib.hid (HB0.out.trans (hB.mono HB0.out.size)); clear hB
        obtain ⟨c10, c11, c12, c13, c14⟩ := HA1.out.below HB1.out
        go_wp2_with fail
        clear c10 c11 c12 c13 c14
        refine (implIsPerson_any n1 f1 l1 b1 z1 w1 hf1 hl1).mono ?_; rintro e w2 ⟨rfl, hB⟩; have HB2 := Lib.hid (HB1.out.trans (hB.mono HB1.out.size)); clear hB
        go_wp2_with fail
        refine (implLimit5 m w2).mono ?_; rintro e w2 ⟨rfl, rfl⟩
        obtain ⟨c00, c01, c02, c03, c04⟩ := HA0.out.below HB2.out
        obtain ⟨c10, c11, c12, c13, c14⟩ := HA1.out.below HB2.out
        go_wp2_with fail
        clear c00 c01 c02 c03 c04
        clear c10 c11 c12 c13 c14
        refine (implLike_any n0 f0 l0 b0 z0 n1 f1 l1 b1 z1 w2 h0 h1).mono ?_; rintro e w3 ⟨rfl, hB⟩; have HB3 := Lib.hid (HB2.out.trans (hB.mono HB2.out.size)); clear hB
        go_wp2_with fail
        go_ret2
        exact ⟨ret_of (HN.out.symm), HW.out.trans (HB3.out.mono HW.out.size)⟩

set_option maxRecDepth 100000 in
set_option maxHeartbeats 2000000 in
/-- two slices that read the same persons are told to be the same -/
theorem likePersons_same (a a' : Option Addr) (len cap cap' : Nat) (ps : List Pers) (w : World) (hl : ps.length = len) (hm : len ≤ 1048576) (h : PersAt w a ps) (h' : PersAt w a' ps) :
    Calls Try.prog 27 #[.slice a len cap, .slice a' len cap'] w (fun e w' => e = .returned (.bool true) ∧ Below w.heap.size w w') := by
  have HL := Lib.hid hl; have HI := Lib.hid h; have HI' := Lib.hid h'; clear hl h h'
  go_enter Try.func27, Try.ntmps27
  go_wp2
  go_loopw [5] (fun i wr => ∃ k n : Nat, k ≤ len ∧ i = .int .i64 k ∧ wr = w.drewN n) (fun i _ => len - (intOf i).toNat)
  case atStart => exact ⟨0, 0, Nat.zero_le _, rfl, rfl⟩
  case round =>
    obtain ⟨k, n, hk, rfl, rfl⟩ := hrel
    by_cases hlt : k < len
    · obtain ⟨b, off, p, rfl, hc, hp⟩ := HI.out.at HL.out hlt
      obtain ⟨b', off', p', rfl, hc', hp'⟩ := HI'.out.at HL.out hlt
      obtain rfl : p = p' := Option.some.inj (hp.symm.trans hp')
      obtain ⟨c0, c1, c2, c3, c4⟩ := hc
      obtain ⟨d0, d1, d2, d3, d4⟩ := hc'
      clear hp hp'
      go_wp2
      go_quiet (fail)
      go_wp2
      go_roundw
      case rel => exact ⟨k + 1, _, by omega, by go_num, rfl⟩
      case measure => simp [intOf]; omega
    · go_wp2
      go_ret
      exact ⟨rfl, Go.below_drewN (Below.refl _ _) _⟩

/-- does a list have a number? -/
def hasI (zs : List Int) (x : Int) : Bool := decide (x ∈ zs)
set_option maxHeartbeats 400000 in
theorem lawsHasInt_any (a : Option Addr) (len cap : Nat) (zs : List Int) (x : Int) (w : World) (hl : zs.length = len) (hm : len ≤ maxLen) (h : IntsAt w a zs) :
    Calls Try.prog 28 #[.slice a len cap, .int .i64 x] w fun e w' => e = .returned (.bool (hasI zs x)) ∧ w = w' := by
  unfold maxLen at hm
  have HL := Lib.hid hl; have HI := Lib.hid h; clear hl h
  go_enter Try.func28, Try.ntmps28
  go_wp2
  go_loop [5] (fun i => ∃ j : Nat, j ≤ len ∧ i = .int .i64 j ∧ ∀ k, k < j → zs[k]? ≠ some x) (fun i => len - (intOf i).toNat)
  case atStart => exact ⟨0, Nat.zero_le _, rfl, fun k hk => by omega⟩
  case round =>
    obtain ⟨j, hj, rfl, hno⟩ := hrel
    have HN := Lib.hid hno; clear hno
    by_cases hlt : j < len
    · obtain ⟨b, off, y, ha, hc, ht, hy⟩ := HI.out.at HL.out hlt
      subst ha
      by_cases hyx : y = x
      · subst hyx
        have HT := Lib.hid (show hasI zs y = true from decide_eq_true (List.mem_of_getElem? hy))
        clear ht hy
        go_wp2
        go_ret
        exact ⟨ret_bool' HT.out.symm, rfl⟩
      · have hb : (y == x) = false := beq_eq_false_iff_ne.2 hyx
        have HY := Lib.hid hy; have HX := Lib.hid hyx
        clear ht hy hyx
        go_wp2
        go_round
        case rel => exact ⟨j + 1, by omega, by go_num, fun k hk e => by
          by_cases e2 : k = j
          · subst e2; rw [HY.out] at e; exact HX.out (Option.some.inj e)
          · exact HN.out k (by omega) e⟩
        case measure => simp [intOf]; omega
    · have HT := Lib.hid (show hasI zs x = false from decide_eq_false fun hm => by
        obtain ⟨k, hk⟩ := List.mem_iff_getElem?.1 hm
        exact HN.out k (by have := (List.getElem?_eq_some_iff.1 hk).1; have := HL.out; omega) hk)
      go_wp2
      go_ret
      exact ⟨ret_bool' HT.out.symm, rfl⟩

end Go.Proofs.Ytdeiillfdjebdaa
