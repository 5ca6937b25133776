/- Contracts: impl.LikenessOf, spec.LikenessOf, impl.AreAlike, spec.AreAlike. -/
import Derived.Test.YtlaeceglcmnhbaaChecked
import Derived.Test.YtlaeceglcmnhbaaBase
import Derived.Test.YtlaeceglcmnhbaaPure41
import Derived.Test.YtlaeceglcmnhbaaIsPers
import Derived.Test.YtlaeceglcmnhbaaLike
import Derived.WalkKit
import Derived.WalkSpells
import Derived.WalkLawsBesides
import Derived.Lib.Hide
import Derived.Outline
namespace Go.Proofs.Ytlaeceglcmnhbaa
open Go.RowKit Pure1 Pure40 Pure41

theorem ret_of {u v : Value} (h : u = v) : Ending.returned u = .returned v := by rw [h]
/-- the value of two numbers -/
def two (r : Int × Int) : Value := .tuple #[.int .i64 r.1, .int .i64 r.2]
def boolInt (r : Bool × Int) : Value := .tuple #[.bool r.1, .int .i64 r.2]
/-- the likeness of two persons, or the error -/
def likeOfP (a b : Pers) : Int × Int := if isPers a = true ∧ isPers b = true then (likeP a b, 0) else (0, 1)
/-- is it at least a limit? -/
def alikeP (a b : Pers) (m : Int) : Bool × Int := if isPers a = true ∧ isPers b = true then (if inR m 0 100 = true then (decide (m ≤ likeP a b), 0) else (false, 2)) else (false, 1)
/-- a value is returned; nothing that was there has turned -/
def SaysV (v : Value) (w : World) (e : Ending) (w' : World) : Prop := e = .returned v ∧ Below w.heap.size w w'

theorem implLimit_any (n : Int) (w : World) :
    Calls Try.prog 34 #[.int .i64 n] w fun e w' => e = .returned (.bool (inR n 0 100)) ∧ w' = w := by
  go_enter Try.func34, Try.ntmps34
  go_wp2_with fail
  refine (implWithin_any n 0 100 w).mono ?_; rintro e w' ⟨rfl, rfl⟩
  go_wp2
  go_ret
  exact ⟨rfl, rfl⟩

set_option maxRecDepth 100000 in
set_option maxHeartbeats 1000000 in
theorem implLikenessOf_any (n0 : Int) (f0 l0 : ByteArray) (b0 z0 : Int) (n1 : Int) (f1 l1 : ByteArray) (b1 z1 : Int) (w : World) (hf0 : f0.size ≤ maxLen) (hl0 : l0.size ≤ maxLen) (hf1 : f1.size ≤ maxLen) (hl1 : l1.size ≤ maxLen) :
    Calls Try.prog 9 #[.agg #[.int .i64 n0, .string f0, .string l0, .int .i64 b0, .int .i64 z0], .agg #[.int .i64 n1, .string f1, .string l1, .int .i64 b1, .int .i64 z1]] w (SaysV (two (likeOfP ⟨n0, f0, l0, b0, z0⟩ ⟨n1, f1, l1, b1, z1⟩)) w) := by
  have HA0 := Lib.hid ((atB_box w n0 f0 l0 b0 z0 25).below (boxed _ (.cells #[.int .i64 n1, .string f1, .string l1, .int .i64 b1, .int .i64 z1] 25)))
  have HA1 := Lib.hid (atB_box (w.alloc (.cells #[.int .i64 n0, .string f0, .string l0, .int .i64 b0, .int .i64 z0] 25)) n1 f1 l1 b1 z1 25)
  have hx : (w.alloc (.cells #[.int .i64 n0, .string f0, .string l0, .int .i64 b0, .int .i64 z0] 25)).heap.size = w.heap.size + 1 := by simp
  rw [hx] at HA1
  clear hx
  have HW := Lib.hid (show Below w.heap.size w ((w.alloc (.cells #[.int .i64 n0, .string f0, .string l0, .int .i64 b0, .int .i64 z0] 25)).alloc (.cells #[.int .i64 n1, .string f1, .string l1, .int .i64 b1, .int .i64 z1] 25)) from (boxed _ _).alloc (by simp) _)
  have HB0 := Lib.hid (Below.refl ((w.alloc (.cells #[.int .i64 n0, .string f0, .string l0, .int .i64 b0, .int .i64 z0] 25)).alloc (.cells #[.int .i64 n1, .string f1, .string l1, .int .i64 b1, .int .i64 z1] 25)).heap.size ((w.alloc (.cells #[.int .i64 n0, .string f0, .string l0, .int .i64 b0, .int .i64 z0] 25)).alloc (.cells #[.int .i64 n1, .string f1, .string l1, .int .i64 b1, .int .i64 z1] 25)))
  cases h0 : isPers ⟨n0, f0, l0, b0, z0⟩
  · have HN := Lib.hid (show two (likeOfP ⟨n0, f0, l0, b0, z0⟩ ⟨n1, f1, l1, b1, z1⟩) = .tuple #[.int .i64 0, .int .i64 1] by rw [likeOfP, if_neg (by rw [h0]; simp)]; rfl)
    go_enter Try.func9, Try.ntmps9
    go_wp2_with fail
    refine (implIsPerson_any n0 f0 l0 b0 z0 ((w.alloc (.cells #[.int .i64 n0, .string f0, .string l0, .int .i64 b0, .int .i64 z0] 25)).alloc (.cells #[.int .i64 n1, .string f1, .string l1, .int .i64 b1, .int .i64 z1] 25)) hf0 hl0).mono ?_; rintro e w1 ⟨rfl, hB⟩; have HB1 := Lib.hid (HB0.out.trans (hB.mono HB0.out.size)); clear hB
    go_wp2_with fail
    go_ret2
    exact ⟨ret_of (HN.out.symm), HW.out.trans (HB1.out.mono HW.out.size)⟩
  · cases h1 : isPers ⟨n1, f1, l1, b1, z1⟩
    · have HN := Lib.hid (show two (likeOfP ⟨n0, f0, l0, b0, z0⟩ ⟨n1, f1, l1, b1, z1⟩) = .tuple #[.int .i64 0, .int .i64 1] by rw [likeOfP, if_neg (by rw [h1]; simp)]; rfl)
      go_enter Try.func9, Try.ntmps9
      go_wp2_with fail
      refine (implIsPerson_any n0 f0 l0 b0 z0 ((w.alloc (.cells #[.int .i64 n0, .string f0, .string l0, .int .i64 b0, .int .i64 z0] 25)).alloc (.cells #[.int .i64 n1, .string f1, .string l1, .int .i64 b1, .int .i64 z1] 25)) hf0 hl0).mono ?_; rintro e w1 ⟨rfl, hB⟩; have HB1 := Lib.hid (HB0.out.trans (hB.mono HB0.out.size)); clear hB
      obtain ⟨c10, c11, c12, c13, c14⟩ := HA1.out.below HB1.out
      go_wp2_with fail
      clear c10 c11 c12 c13 c14
      refine (implIsPerson_any n1 f1 l1 b1 z1 w1 hf1 hl1).mono ?_; rintro e w2 ⟨rfl, hB⟩; have HB2 := Lib.hid (HB1.out.trans (hB.mono HB1.out.size)); clear hB
      go_wp2_with fail
      go_ret2
      exact ⟨ret_of (HN.out.symm), HW.out.trans (HB2.out.mono HW.out.size)⟩
    · have HN := Lib.hid (show two (likeOfP ⟨n0, f0, l0, b0, z0⟩ ⟨n1, f1, l1, b1, z1⟩) = .tuple #[.int .i64 (likeP ⟨n0, f0, l0, b0, z0⟩ ⟨n1, f1, l1, b1, z1⟩), .int .i64 0] by rw [likeOfP, if_pos ⟨h0, h1⟩]; rfl)
      go_enter Try.func9, Try.ntmps9
      go_wp2_with fail
      refine (implIsPerson_any n0 f0 l0 b0 z0 ((w.alloc (.cells #[.int .i64 n0, .string f0, .string l0, .int .i64 b0, .int .i64 z0] 25)).alloc (.cells #[.int .i64 n1, .string f1, .string l1, .int .i64 b1, .int .i64 z1] 25)) hf0 hl0).mono ?_; rintro e w1 ⟨rfl, hB⟩; have HB1 := Lib.hid (HB0.out.trans (hB.mono HB0.out.size)); clear hB
      obtain ⟨c10, c11, c12, c13, c14⟩ := HA1.out.below HB1.out
      go_wp2_with fail
      clear c10 c11 c12 c13 c14
      refine (implIsPerson_any n1 f1 l1 b1 z1 w1 hf1 hl1).mono ?_; rintro e w2 ⟨rfl, hB⟩; have HB2 := Lib.hid (HB1.out.trans (hB.mono HB1.out.size)); clear hB
      obtain ⟨c00, c01, c02, c03, c04⟩ := HA0.out.below HB2.out
      obtain ⟨c10, c11, c12, c13, c14⟩ := HA1.out.below HB2.out
      go_wp2_with fail
      clear c00 c01 c02 c03 c04
      clear c10 c11 c12 c13 c14
      refine (implLike_any n0 f0 l0 b0 z0 n1 f1 l1 b1 z1 w2 h0 h1).mono ?_; rintro e w3 ⟨rfl, hB⟩; have HB3 := Lib.hid (HB2.out.trans (hB.mono HB2.out.size)); clear hB
      go_wp2_with fail
      go_ret2
      exact ⟨ret_of (HN.out.symm), HW.out.trans (HB3.out.mono HW.out.size)⟩

set_option maxRecDepth 100000 in
set_option maxHeartbeats 1000000 in
theorem implAreAlike_any (n0 : Int) (f0 l0 : ByteArray) (b0 z0 : Int) (n1 : Int) (f1 l1 : ByteArray) (b1 z1 : Int) (m : Int) (w : World) (hf0 : f0.size ≤ maxLen) (hl0 : l0.size ≤ maxLen) (hf1 : f1.size ≤ maxLen) (hl1 : l1.size ≤ maxLen) :
    Calls Try.prog 12 #[.agg #[.int .i64 n0, .string f0, .string l0, .int .i64 b0, .int .i64 z0], .agg #[.int .i64 n1, .string f1, .string l1, .int .i64 b1, .int .i64 z1], .int .i64 m] w (SaysV (boolInt (alikeP ⟨n0, f0, l0, b0, z0⟩ ⟨n1, f1, l1, b1, z1⟩ m)) w) := by
  have HA0 := Lib.hid ((atB_box w n0 f0 l0 b0 z0 25).below (boxed _ (.cells #[.int .i64 n1, .string f1, .string l1, .int .i64 b1, .int .i64 z1] 25)))
  have HA1 := Lib.hid (atB_box (w.alloc (.cells #[.int .i64 n0, .string f0, .string l0, .int .i64 b0, .int .i64 z0] 25)) n1 f1 l1 b1 z1 25)
  have hx : (w.alloc (.cells #[.int .i64 n0, .string f0, .string l0, .int .i64 b0, .int .i64 z0] 25)).heap.size = w.heap.size + 1 := by simp
  rw [hx] at HA1
  clear hx
  have HW := Lib.hid (show Below w.heap.size w ((w.alloc (.cells #[.int .i64 n0, .string f0, .string l0, .int .i64 b0, .int .i64 z0] 25)).alloc (.cells #[.int .i64 n1, .string f1, .string l1, .int .i64 b1, .int .i64 z1] 25)) from (boxed _ _).alloc (by simp) _)
  have HB0 := Lib.hid (Below.refl ((w.alloc (.cells #[.int .i64 n0, .string f0, .string l0, .int .i64 b0, .int .i64 z0] 25)).alloc (.cells #[.int .i64 n1, .string f1, .string l1, .int .i64 b1, .int .i64 z1] 25)).heap.size ((w.alloc (.cells #[.int .i64 n0, .string f0, .string l0, .int .i64 b0, .int .i64 z0] 25)).alloc (.cells #[.int .i64 n1, .string f1, .string l1, .int .i64 b1, .int .i64 z1] 25)))
  cases h0 : isPers ⟨n0, f0, l0, b0, z0⟩
  · have HN := Lib.hid (show boolInt (alikeP ⟨n0, f0, l0, b0, z0⟩ ⟨n1, f1, l1, b1, z1⟩ m) = .tuple #[.bool false, .int .i64 1] by rw [alikeP, if_neg (by rw [h0]; simp)]; rfl)
    go_enter Try.func12, Try.ntmps12
    go_wp2_with fail
    refine (implIsPerson_any n0 f0 l0 b0 z0 ((w.alloc (.cells #[.int .i64 n0, .string f0, .string l0, .int .i64 b0, .int .i64 z0] 25)).alloc (.cells #[.int .i64 n1, .string f1, .string l1, .int .i64 b1, .int .i64 z1] 25)) hf0 hl0).mono ?_; rintro e w1 ⟨rfl, hB⟩; have HB1 := Lib.hid (HB0.out.trans (hB.mono HB0.out.size)); clear hB
    go_wp2_with fail
    go_ret2
    exact ⟨ret_of (HN.out.symm), HW.out.trans (HB1.out.mono HW.out.size)⟩
  · cases h1 : isPers ⟨n1, f1, l1, b1, z1⟩
    · have HN := Lib.hid (show boolInt (alikeP ⟨n0, f0, l0, b0, z0⟩ ⟨n1, f1, l1, b1, z1⟩ m) = .tuple #[.bool false, .int .i64 1] by rw [alikeP, if_neg (by rw [h1]; simp)]; rfl)
      go_enter Try.func12, Try.ntmps12
      go_wp2_with fail
      refine (implIsPerson_any n0 f0 l0 b0 z0 ((w.alloc (.cells #[.int .i64 n0, .string f0, .string l0, .int .i64 b0, .int .i64 z0] 25)).alloc (.cells #[.int .i64 n1, .string f1, .string l1, .int .i64 b1, .int .i64 z1] 25)) hf0 hl0).mono ?_; rintro e w1 ⟨rfl, hB⟩; have HB1 := Lib.hid (HB0.out.trans (hB.mono HB0.out.size)); clear hB
      obtain ⟨c10, c11, c12, c13, c14⟩ := HA1.out.below HB1.out
      go_wp2_with fail
      clear c10 c11 c12 c13 c14
      refine (implIsPerson_any n1 f1 l1 b1 z1 w1 hf1 hl1).mono ?_; rintro e w2 ⟨rfl, hB⟩; have HB2 := Lib.hid (HB1.out.trans (hB.mono HB1.out.size)); clear hB
      go_wp2_with fail
      go_ret2
      exact ⟨ret_of (HN.out.symm), HW.out.trans (HB2.out.mono HW.out.size)⟩
    · cases h2 : inR m 0 100
      · have HN := Lib.hid (show boolInt (alikeP ⟨n0, f0, l0, b0, z0⟩ ⟨n1, f1, l1, b1, z1⟩ m) = .tuple #[.bool false, .int .i64 2] by rw [alikeP, if_pos ⟨h0, h1⟩, if_neg (by rw [h2]; simp)]; rfl)
        go_enter Try.func12, Try.ntmps12
        go_wp2_with fail
        refine (implIsPerson_any n0 f0 l0 b0 z0 ((w.alloc (.cells #[.int .i64 n0, .string f0, .string l0, .int .i64 b0, .int .i64 z0] 25)).alloc (.cells #[.int .i64 n1, .string f1, .string l1, .int .i64 b1, .int .i64 z1] 25)) hf0 hl0).mono ?_; rintro e w1 ⟨rfl, hB⟩; have HB1 := Lib.hid (HB0.out.trans (hB.mono HB0.out.size)); clear hB
        obtain ⟨c10, c11, c12, c13, c14⟩ := HA1.out.below HB1.out
        go_wp2_with fail
        clear c10 c11 c12 c13 c14
        refine (implIsPerson_any n1 f1 l1 b1 z1 w1 hf1 hl1).mono ?_; rintro e w2 ⟨rfl, hB⟩; have HB2 := Lib.hid (HB1.out.trans (hB.mono HB1.out.size)); clear hB
        go_wp2_with fail
        refine (implLimit_any m w2).mono ?_; rintro e w2 ⟨rfl, rfl⟩
        go_wp2_with fail
        go_ret2
        exact ⟨ret_of (HN.out.symm), HW.out.trans (HB2.out.mono HW.out.size)⟩
      · have HN := Lib.hid (show boolInt (alikeP ⟨n0, f0, l0, b0, z0⟩ ⟨n1, f1, l1, b1, z1⟩ m) = .tuple #[.bool (decide (m ≤ likeP ⟨n0, f0, l0, b0, z0⟩ ⟨n1, f1, l1, b1, z1⟩)), .int .i64 0] by rw [alikeP, if_pos ⟨h0, h1⟩, if_pos h2]; rfl)
        go_enter Try.func12, Try.ntmps12
        go_wp2_with fail
        refine (implIsPerson_any n0 f0 l0 b0 z0 ((w.alloc (.cells #[.int .i64 n0, .string f0, .string l0, .int .i64 b0, .int .i64 z0] 25)).alloc (.cells #[.int .i64 n1, .string f1, .string l1, .int .i64 b1, .int .i64 z1] 25)) hf0 hl0).mono ?_; rintro e w1 ⟨rfl, hB⟩; have HB1 := Lib.hid (HB0.out.trans (hB.mono HB0.out.size)); clear hB
        obtain ⟨c10, c11, c12, c13, c14⟩ := HA1.out.below HB1.out
        go_wp2_with fail
        clear c10 c11 c12 c13 c14
        refine (implIsPerson_any n1 f1 l1 b1 z1 w1 hf1 hl1).mono ?_; rintro e w2 ⟨rfl, hB⟩; have HB2 := Lib.hid (HB1.out.trans (hB.mono HB1.out.size)); clear hB
        go_wp2_with fail
        refine (implLimit_any m w2).mono ?_; rintro e w2 ⟨rfl, rfl⟩
        obtain ⟨c00, c01, c02, c03, c04⟩ := HA0.out.below HB2.out
        obtain ⟨c10, c11, c12, c13, c14⟩ := HA1.out.below HB2.out
        go_wp2_with fail
        clear c00 c01 c02 c03 c04
        clear c10 c11 c12 c13 c14
        refine (implLike_any n0 f0 l0 b0 z0 n1 f1 l1 b1 z1 w2 h0 h1).mono ?_; rintro e w3 ⟨rfl, hB⟩; have HB3 := Lib.hid (HB2.out.trans (hB.mono HB2.out.size)); clear hB
        go_wp2_with fail
        go_ret2
        exact ⟨ret_of (HN.out.symm), HW.out.trans (HB3.out.mono HW.out.size)⟩

set_option maxRecDepth 100000 in
set_option maxHeartbeats 1000000 in
theorem specLikenessOf_any (n0 : Int) (f0 l0 : ByteArray) (b0 z0 : Int) (n1 : Int) (f1 l1 : ByteArray) (b1 z1 : Int) (w : World) (hf0 : f0.size ≤ maxLen) (hl0 : l0.size ≤ maxLen) (hf1 : f1.size ≤ maxLen) (hl1 : l1.size ≤ maxLen) :
    Calls Try.prog 10 #[.agg #[.int .i64 n0, .string f0, .string l0, .int .i64 b0, .int .i64 z0], .agg #[.int .i64 n1, .string f1, .string l1, .int .i64 b1, .int .i64 z1]] w (SaysV (two (likeOfP ⟨n0, f0, l0, b0, z0⟩ ⟨n1, f1, l1, b1, z1⟩)) w) := by
  have HA0 := Lib.hid ((atB_box w n0 f0 l0 b0 z0 25).below (boxed _ (.cells #[.int .i64 n1, .string f1, .string l1, .int .i64 b1, .int .i64 z1] 25)))
  have HA1 := Lib.hid (atB_box (w.alloc (.cells #[.int .i64 n0, .string f0, .string l0, .int .i64 b0, .int .i64 z0] 25)) n1 f1 l1 b1 z1 25)
  have hx : (w.alloc (.cells #[.int .i64 n0, .string f0, .string l0, .int .i64 b0, .int .i64 z0] 25)).heap.size = w.heap.size + 1 := by simp
  rw [hx] at HA1
  clear hx
  have HW := Lib.hid (show Below w.heap.size w ((w.alloc (.cells #[.int .i64 n0, .string f0, .string l0, .int .i64 b0, .int .i64 z0] 25)).alloc (.cells #[.int .i64 n1, .string f1, .string l1, .int .i64 b1, .int .i64 z1] 25)) from (boxed _ _).alloc (by simp) _)
  have HB0 := Lib.hid (Below.refl ((w.alloc (.cells #[.int .i64 n0, .string f0, .string l0, .int .i64 b0, .int .i64 z0] 25)).alloc (.cells #[.int .i64 n1, .string f1, .string l1, .int .i64 b1, .int .i64 z1] 25)).heap.size ((w.alloc (.cells #[.int .i64 n0, .string f0, .string l0, .int .i64 b0, .int .i64 z0] 25)).alloc (.cells #[.int .i64 n1, .string f1, .string l1, .int .i64 b1, .int .i64 z1] 25)))
  cases h0 : isPers ⟨n0, f0, l0, b0, z0⟩
  · have HN := Lib.hid (show two (likeOfP ⟨n0, f0, l0, b0, z0⟩ ⟨n1, f1, l1, b1, z1⟩) = .tuple #[.int .i64 0, .int .i64 1] by rw [likeOfP, if_neg (by rw [h0]; simp)]; rfl)
    go_enter Try.func10, Try.ntmps10
    go_wp2_with fail
    refine (specIsPerson_any n0 f0 l0 b0 z0 ((w.alloc (.cells #[.int .i64 n0, .string f0, .string l0, .int .i64 b0, .int .i64 z0] 25)).alloc (.cells #[.int .i64 n1, .string f1, .string l1, .int .i64 b1, .int .i64 z1] 25)) hf0 hl0).mono ?_; rintro e w1 ⟨rfl, hB⟩; have HB1 := Lib.hid (HB0.out.trans (hB.mono HB0.out.size)); clear hB
    go_wp2_with fail
    go_ret2
    exact ⟨ret_of (HN.out.symm), HW.out.trans (HB1.out.mono HW.out.size)⟩
  · cases h1 : isPers ⟨n1, f1, l1, b1, z1⟩
    · have HN := Lib.hid (show two (likeOfP ⟨n0, f0, l0, b0, z0⟩ ⟨n1, f1, l1, b1, z1⟩) = .tuple #[.int .i64 0, .int .i64 1] by rw [likeOfP, if_neg (by rw [h1]; simp)]; rfl)
      go_enter Try.func10, Try.ntmps10
      go_wp2_with fail
      refine (specIsPerson_any n0 f0 l0 b0 z0 ((w.alloc (.cells #[.int .i64 n0, .string f0, .string l0, .int .i64 b0, .int .i64 z0] 25)).alloc (.cells #[.int .i64 n1, .string f1, .string l1, .int .i64 b1, .int .i64 z1] 25)) hf0 hl0).mono ?_; rintro e w1 ⟨rfl, hB⟩; have HB1 := Lib.hid (HB0.out.trans (hB.mono HB0.out.size)); clear hB
      obtain ⟨c10, c11, c12, c13, c14⟩ := HA1.out.below HB1.out
      go_wp2_with fail
      clear c10 c11 c12 c13 c14
      refine (specIsPerson_any n1 f1 l1 b1 z1 w1 hf1 hl1).mono ?_; rintro e w2 ⟨rfl, hB⟩; have HB2 := Lib.hid (HB1.out.trans (hB.mono HB1.out.size)); clear hB
      go_wp2_with fail
      go_ret2
      exact ⟨ret_of (HN.out.symm), HW.out.trans (HB2.out.mono HW.out.size)⟩
    · have HN := Lib.hid (show two (likeOfP ⟨n0, f0, l0, b0, z0⟩ ⟨n1, f1, l1, b1, z1⟩) = .tuple #[.int .i64 (likeP ⟨n0, f0, l0, b0, z0⟩ ⟨n1, f1, l1, b1, z1⟩), .int .i64 0] by rw [likeOfP, if_pos ⟨h0, h1⟩]; rfl)
      go_enter Try.func10, Try.ntmps10
      go_wp2_with fail
      refine (specIsPerson_any n0 f0 l0 b0 z0 ((w.alloc (.cells #[.int .i64 n0, .string f0, .string l0, .int .i64 b0, .int .i64 z0] 25)).alloc (.cells #[.int .i64 n1, .string f1, .string l1, .int .i64 b1, .int .i64 z1] 25)) hf0 hl0).mono ?_; rintro e w1 ⟨rfl, hB⟩; have HB1 := Lib.hid (HB0.out.trans (hB.mono HB0.out.size)); clear hB
      obtain ⟨c10, c11, c12, c13, c14⟩ := HA1.out.below HB1.out
      go_wp2_with fail
      clear c10 c11 c12 c13 c14
      refine (specIsPerson_any n1 f1 l1 b1 z1 w1 hf1 hl1).mono ?_; rintro e w2 ⟨rfl, hB⟩; have HB2 := Lib.hid (HB1.out.trans (hB.mono HB1.out.size)); clear hB
      obtain ⟨c00, c01, c02, c03, c04⟩ := HA0.out.below HB2.out
      obtain ⟨c10, c11, c12, c13, c14⟩ := HA1.out.below HB2.out
      go_wp2_with fail
      clear c00 c01 c02 c03 c04
      clear c10 c11 c12 c13 c14
      refine (specLike_any n0 f0 l0 b0 z0 n1 f1 l1 b1 z1 w2 h0 h1).mono ?_; rintro e w3 ⟨rfl, hB⟩; have HB3 := Lib.hid (HB2.out.trans (hB.mono HB2.out.size)); clear hB
      go_wp2_with fail
      go_ret2
      exact ⟨ret_of (HN.out.symm), HW.out.trans (HB3.out.mono HW.out.size)⟩

set_option maxRecDepth 100000 in
set_option maxHeartbeats 1000000 in
theorem specAreAlike_any (n0 : Int) (f0 l0 : ByteArray) (b0 z0 : Int) (n1 : Int) (f1 l1 : ByteArray) (b1 z1 : Int) (m : Int) (w : World) (hf0 : f0.size ≤ maxLen) (hl0 : l0.size ≤ maxLen) (hf1 : f1.size ≤ maxLen) (hl1 : l1.size ≤ maxLen) :
    Calls Try.prog 13 #[.agg #[.int .i64 n0, .string f0, .string l0, .int .i64 b0, .int .i64 z0], .agg #[.int .i64 n1, .string f1, .string l1, .int .i64 b1, .int .i64 z1], .int .i64 m] w (SaysV (boolInt (alikeP ⟨n0, f0, l0, b0, z0⟩ ⟨n1, f1, l1, b1, z1⟩ m)) w) := by
  have HA0 := Lib.hid ((atB_box w n0 f0 l0 b0 z0 25).below (boxed _ (.cells #[.int .i64 n1, .string f1, .string l1, .int .i64 b1, .int .i64 z1] 25)))
  have HA1 := Lib.hid (atB_box (w.alloc (.cells #[.int .i64 n0, .string f0, .string l0, .int .i64 b0, .int .i64 z0] 25)) n1 f1 l1 b1 z1 25)
  have hx : (w.alloc (.cells #[.int .i64 n0, .string f0, .string l0, .int .i64 b0, .int .i64 z0] 25)).heap.size = w.heap.size + 1 := by simp
  rw [hx] at HA1
  clear hx
  have HW := Lib.hid (show Below w.heap.size w ((w.alloc (.cells #[.int .i64 n0, .string f0, .string l0, .int .i64 b0, .int .i64 z0] 25)).alloc (.cells #[.int .i64 n1, .string f1, .string l1, .int .i64 b1, .int .i64 z1] 25)) from (boxed _ _).alloc (by simp) _)
  have HB0 := Lib.hid (Below.refl ((w.alloc (.cells #[.int .i64 n0, .string f0, .string l0, .int .i64 b0, .int .i64 z0] 25)).alloc (.cells #[.int .i64 n1, .string f1, .string l1, .int .i64 b1, .int .i64 z1] 25)).heap.size ((w.alloc (.cells #[.int .i64 n0, .string f0, .string l0, .int .i64 b0, .int .i64 z0] 25)).alloc (.cells #[.int .i64 n1, .string f1, .string l1, .int .i64 b1, .int .i64 z1] 25)))
  cases h0 : isPers ⟨n0, f0, l0, b0, z0⟩
  · have HN := Lib.hid (show boolInt (alikeP ⟨n0, f0, l0, b0, z0⟩ ⟨n1, f1, l1, b1, z1⟩ m) = .tuple #[.bool false, .int .i64 1] by rw [alikeP, if_neg (by rw [h0]; simp)]; rfl)
    go_enter Try.func13, Try.ntmps13
    go_wp2_with fail
    refine (specIsPerson_any n0 f0 l0 b0 z0 ((w.alloc (.cells #[.int .i64 n0, .string f0, .string l0, .int .i64 b0, .int .i64 z0] 25)).alloc (.cells #[.int .i64 n1, .string f1, .string l1, .int .i64 b1, .int .i64 z1] 25)) hf0 hl0).mono ?_; rintro e w1 ⟨rfl, hB⟩; have HB1 := Lib.hid (HB0.out.trans (hB.mono HB0.out.size)); clear hB
    go_wp2_with fail
    go_ret2
    exact ⟨ret_of (HN.out.symm), HW.out.trans (HB1.out.mono HW.out.size)⟩
  · cases h1 : isPers ⟨n1, f1, l1, b1, z1⟩
    · have HN := Lib.hid (show boolInt (alikeP ⟨n0, f0, l0, b0, z0⟩ ⟨n1, f1, l1, b1, z1⟩ m) = .tuple #[.bool false, .int .i64 1] by rw [alikeP, if_neg (by rw [h1]; simp)]; rfl)
      go_enter Try.func13, Try.ntmps13
      go_wp2_with fail
      refine (specIsPerson_any n0 f0 l0 b0 z0 ((w.alloc (.cells #[.int .i64 n0, .string f0, .string l0, .int .i64 b0, .int .i64 z0] 25)).alloc (.cells #[.int .i64 n1, .string f1, .string l1, .int .i64 b1, .int .i64 z1] 25)) hf0 hl0).mono ?_; rintro e w1 ⟨rfl, hB⟩; have HB1 := Lib.hid (HB0.out.trans (hB.mono HB0.out.size)); clear hB
      obtain ⟨c10, c11, c12, c13, c14⟩ := HA1.out.below HB1.out
      go_wp2_with fail
      clear c10 c11 c12 c13 c14
      refine (specIsPerson_any n1 f1 l1 b1 z1 w1 hf1 hl1).mono ?_; rintro e w2 ⟨rfl, hB⟩; have HB2 := Lib.hid (HB1.out.trans (hB.mono HB1.out.size)); clear hB
      go_wp2_with fail
      go_ret2
      exact ⟨ret_of (HN.out.symm), HW.out.trans (HB2.out.mono HW.out.size)⟩
    · cases h2 : inR m 0 100
      · have HN := Lib.hid (show boolInt (alikeP ⟨n0, f0, l0, b0, z0⟩ ⟨n1, f1, l1, b1, z1⟩ m) = .tuple #[.bool false, .int .i64 2] by rw [alikeP, if_pos ⟨h0, h1⟩, if_neg (by rw [h2]; simp)]; rfl)
        go_enter Try.func13, Try.ntmps13
        go_wp2_with fail
        refine (specIsPerson_any n0 f0 l0 b0 z0 ((w.alloc (.cells #[.int .i64 n0, .string f0, .string l0, .int .i64 b0, .int .i64 z0] 25)).alloc (.cells #[.int .i64 n1, .string f1, .string l1, .int .i64 b1, .int .i64 z1] 25)) hf0 hl0).mono ?_; rintro e w1 ⟨rfl, hB⟩; have HB1 := Lib.hid (HB0.out.trans (hB.mono HB0.out.size)); clear hB
        obtain ⟨c10, c11, c12, c13, c14⟩ := HA1.out.below HB1.out
        go_wp2_with fail
        clear c10 c11 c12 c13 c14
        refine (specIsPerson_any n1 f1 l1 b1 z1 w1 hf1 hl1).mono ?_; rintro e w2 ⟨rfl, hB⟩; have HB2 := Lib.hid (HB1.out.trans (hB.mono HB1.out.size)); clear hB
        go_wp2_with fail
        refine (specIn_any m 0 100 w2).mono ?_; rintro e w2 ⟨rfl, rfl⟩
        go_wp2_with fail
        go_ret2
        exact ⟨ret_of (HN.out.symm), HW.out.trans (HB2.out.mono HW.out.size)⟩
      · have HN := Lib.hid (show boolInt (alikeP ⟨n0, f0, l0, b0, z0⟩ ⟨n1, f1, l1, b1, z1⟩ m) = .tuple #[.bool (decide (m ≤ likeP ⟨n0, f0, l0, b0, z0⟩ ⟨n1, f1, l1, b1, z1⟩)), .int .i64 0] by rw [alikeP, if_pos ⟨h0, h1⟩, if_pos h2]; rfl)
        go_enter Try.func13, Try.ntmps13
        go_wp2_with fail
        refine (specIsPerson_any n0 f0 l0 b0 z0 ((w.alloc (.cells #[.int .i64 n0, .string f0, .string l0, .int .i64 b0, .int .i64 z0] 25)).alloc (.cells #[.int .i64 n1, .string f1, .string l1, .int .i64 b1, .int .i64 z1] 25)) hf0 hl0).mono ?_; rintro e w1 ⟨rfl, hB⟩; have HB1 := Lib.hid (HB0.out.trans (hB.mono HB0.out.size)); clear hB
        obtain ⟨c10, c11, c12, c13, c14⟩ := HA1.out.below HB1.out
        go_wp2_with fail
        clear c10 c11 c12 c13 c14
        refine (specIsPerson_any n1 f1 l1 b1 z1 w1 hf1 hl1).mono ?_; rintro e w2 ⟨rfl, hB⟩; have HB2 := Lib.hid (HB1.out.trans (hB.mono HB1.out.size)); clear hB
        go_wp2_with fail
        refine (specIn_any m 0 100 w2).mono ?_; rintro e w2 ⟨rfl, rfl⟩
        obtain ⟨c00, c01, c02, c03, c04⟩ := HA0.out.below HB2.out
        obtain ⟨c10, c11, c12, c13, c14⟩ := HA1.out.below HB2.out
        go_wp2_with fail
        clear c00 c01 c02 c03 c04
        clear c10 c11 c12 c13 c14
        refine (specLike_any n0 f0 l0 b0 z0 n1 f1 l1 b1 z1 w2 h0 h1).mono ?_; rintro e w3 ⟨rfl, hB⟩; have HB3 := Lib.hid (HB2.out.trans (hB.mono HB2.out.size)); clear hB
        go_wp2_with fail
        go_ret2
        exact ⟨ret_of (HN.out.symm), HW.out.trans (HB3.out.mono HW.out.size)⟩

end Go.Proofs.Ytlaeceglcmnhbaa
