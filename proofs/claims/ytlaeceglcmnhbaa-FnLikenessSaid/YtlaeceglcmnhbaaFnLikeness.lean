/- Proved: for every code, laws.FnLikeness returns true and leaves its argument as it was: likeness is the same both ways, a person is like himself at 100, and MostAlike's answer is one of the greatest likeness. No condition. -/
import Derived.Test.YtlaeceglcmnhbaaRows
import Derived.WalkKit
import Derived.ProofKit
import Derived.OpenShut
import Derived.ShutString
import Derived.ChangeOld
import Derived.Below
import Derived.SliceStrings
import Derived.Lib.Hide
import Derived.Test.YtlaeceglcmnhbaaPure40
import Derived.Test.YtlaeceglcmnhbaaPure41
import Derived.Test.YtlaeceglcmnhbaaIsPers
import Derived.Test.YtlaeceglcmnhbaaArePers
import Derived.Test.YtlaeceglcmnhbaaAns4
import Derived.Test.YtlaeceglcmnhbaaFind
import Derived.Test.YtlaeceglcmnhbaaMostA
import Derived.Test.YtlaeceglcmnhbaaLike5
import Derived.Test.YtlaeceglcmnhbaaBig
import Derived.Test.YtlaeceglcmnhbaaPair
import Derived.Test.YtlaeceglcmnhbaaDrawLs
namespace Go.Proofs.Ytlaeceglcmnhbaa.fnLikeness
open Go.ChangeShapes Go.WideShapes Go.ChangeAt Go.RowKit
open Go.ChangeMaps (open_string shut_string)
open Pure2 Pure6 Pure40 Pure41
set_option linter.unusedVariables false

theorem own : ownKnob Try.prog.godebug = none := by kernel_rfl
theorem laidOut : laidOutB Try.prog = true := by kernel_rfl

/-- What the walk is told of a slice of integers that came in: it is nil, or it leads to a row of cap cells, the numbers zs. -/
def IsRow (k : IntKind) (w : World) (a : Option Addr) (len cap : Nat) (zs : List Int) : Prop :=
  (a = none ∧ len = 0 ∧ cap = 0 ∧ zs = []) ∨
  ∃ x, a = some x ∧ len ≤ cap ∧ cap ≤ maxLen ∧ zs.length = cap ∧ (∀ i, i < zs.length → w.cell? (x.add i) = some (.int k (zs.getD i 0))) ∧ ∀ n ∈ zs, (Lit.int k n).wf = true

set_option maxRecDepth 100000 in
set_option maxHeartbeats 4000000 in
theorem walk (w : World) (a0 : Option Addr) (len0 cap0 : Nat) (z0 : List Int) (w0 : IsRow .u8 w a0 len0 cap0 z0) :
    Calls Try.prog 3 #[.slice a0 len0 cap0] w fun e w' => e = .returned (.bool true) ∧ Below w.heap.size w w' := by
  obtain ⟨hl, hY⟩ := bytes_of_row w0
  generalize z0.take len0 = bs at hl hY
  have HL := Lib.hid hl; have HY := Lib.hid hY; clear hl hY w0
  have HBig := Lib.hid (lawsBig_any a0 len0 cap0 w)
  by_cases hb : 4096 < len0
  · rw [decide_eq_true hb] at HBig
    go_enter Try.func3, Try.ntmps3
    go_wp2_with fail
    refine HBig.out.mono ?_; rintro e w' ⟨rfl, rfl⟩
    go_wp2_with fail
    go_ret
    exact ⟨rfl, Below.refl _ _⟩
  · rw [decide_eq_false hb] at HBig
    have hm : len0 ≤ 4096 := by omega
    clear hb
    go_enter Try.func3, Try.ntmps3
    go_wp2_with fail
    refine HBig.out.mono ?_; rintro e w' ⟨rfl, rfl⟩
    go_wp2_with fail
    refine (specDrawLikenessOf_any a0 len0 cap0 bs w HL.out hm HY.out).mono ?_; rintro e w1 ⟨p, q, rfl, hp, hq, hB⟩
    obtain ⟨L, cL, hL, hLX⟩ := like_there p q
    obtain ⟨hpf, hpl⟩ := small_fits hp; obtain ⟨hqf, hql⟩ := small_fits hq
    obtain ⟨n1, f1, l1, b1, z1⟩ := p; obtain ⟨n2, f2, l2, b2, z2⟩ := q
    simp only at hpf hpl hqf hql
    have HI1 := Lib.hid (show ∀ W, Calls Try.prog 9 #[.agg #[.int .i64 n1, .string f1, .string l1, .int .i64 b1, .int .i64 z1], .agg #[.int .i64 n2, .string f2, .string l2, .int .i64 b2, .int .i64 z2]] W (fun e w' => e = .returned (.tuple #[.int .i64 L, .int .i64 cL]) ∧ Below W.heap.size W w') from fun W => by have := implLikenessOf_any n1 f1 l1 b1 z1 n2 f2 l2 b2 z2 W hpf hpl hqf hql; rw [hL] at this; exact this)
    have HS1 := Lib.hid (show ∀ W, Calls Try.prog 10 #[.agg #[.int .i64 n1, .string f1, .string l1, .int .i64 b1, .int .i64 z1], .agg #[.int .i64 n2, .string f2, .string l2, .int .i64 b2, .int .i64 z2]] W (fun e w' => e = .returned (.tuple #[.int .i64 L, .int .i64 cL]) ∧ Below W.heap.size W w') from fun W => by have := specLikenessOf_any n1 f1 l1 b1 z1 n2 f2 l2 b2 z2 W hpf hpl hqf hql; rw [hL] at this; exact this)
    have HLX := Lib.hid (show (cL = 0 ∧ (∀ W, Calls Try.prog 9 #[.agg #[.int .i64 n2, .string f2, .string l2, .int .i64 b2, .int .i64 z2], .agg #[.int .i64 n1, .string f1, .string l1, .int .i64 b1, .int .i64 z1]] W (fun e w' => e = .returned (.tuple #[.int .i64 L, .int .i64 0]) ∧ Below W.heap.size W w')) ∧ (∀ W, Calls Try.prog 9 #[.agg #[.int .i64 n1, .string f1, .string l1, .int .i64 b1, .int .i64 z1], .agg #[.int .i64 n1, .string f1, .string l1, .int .i64 b1, .int .i64 z1]] W (fun e w' => e = .returned (.tuple #[.int .i64 100, .int .i64 0]) ∧ Below W.heap.size W w'))) ∨ cL = 1 from by
      rcases hLX with ⟨h0, h1, h2, h3, h4⟩ | h0
      · exact .inl ⟨h0, fun W => by have := implLikenessOf_any n2 f2 l2 b2 z2 n1 f1 l1 b1 z1 W hqf hql hpf hpl; rw [h3] at this; exact this, fun W => by have := implLikenessOf_any n1 f1 l1 b1 z1 n1 f1 l1 b1 z1 W hpf hpl hpf hpl; rw [h4] at this; exact this⟩
      · exact .inr h0)
    have HIp := Lib.hid (show ∀ W, Calls Try.prog 20 #[.agg #[.int .i64 n1, .string f1, .string l1, .int .i64 b1, .int .i64 z1]] W (fun e w' => e = .returned (.bool (isPers ⟨n1, f1, l1, b1, z1⟩)) ∧ Below W.heap.size W w') from fun W => implIsPerson_any n1 f1 l1 b1 z1 W hpf hpl)
    have HSp := Lib.hid (show ∀ W, Calls Try.prog 21 #[.agg #[.int .i64 n1, .string f1, .string l1, .int .i64 b1, .int .i64 z1]] W (fun e w' => e = .returned (.bool (isPers ⟨n1, f1, l1, b1, z1⟩)) ∧ Below W.heap.size W w') from fun W => specIsPerson_any n1 f1 l1 b1 z1 W hpf hpl)
    generalize isPers ⟨n1, f1, l1, b1, z1⟩ = okp at HIp HSp
    clear hL hLX hp hq
    have HB1 := Lib.hid hB
    clear hB
    have hB := boxed w1 (.cells #[.int .i64 n1, .string f1, .string l1, .int .i64 b1, .int .i64 z1] 25)
    have HB2 := Lib.hid (HB1.out.trans (hB.mono HB1.out.size))
    clear hB
    have HP2 := Lib.hid (show AtB (w1.alloc (.cells #[.int .i64 n1, .string f1, .string l1, .int .i64 b1, .int .i64 z1] 25)) (w1.heap.size) ⟨n1, f1, l1, b1, z1⟩ by have := atB_box w1 n1 f1 l1 b1 z1 25; exact this)
    have hB := boxed (w1.alloc (.cells #[.int .i64 n1, .string f1, .string l1, .int .i64 b1, .int .i64 z1] 25)) (.cells #[.int .i64 n2, .string f2, .string l2, .int .i64 b2, .int .i64 z2] 25)
    have HB3 := Lib.hid (HB2.out.trans (hB.mono HB2.out.size))
    have HP3 := Lib.hid (HP2.out.below hB)
    clear hB
    have HQ3 := Lib.hid (show AtB ((w1.alloc (.cells #[.int .i64 n1, .string f1, .string l1, .int .i64 b1, .int .i64 z1] 25)).alloc (.cells #[.int .i64 n2, .string f2, .string l2, .int .i64 b2, .int .i64 z2] 25)) (w1.heap.size + 1) ⟨n2, f2, l2, b2, z2⟩ by have := atB_box (w1.alloc (.cells #[.int .i64 n1, .string f1, .string l1, .int .i64 b1, .int .i64 z1] 25)) n2 f2 l2 b2 z2 25; rw [show (w1.alloc (.cells #[.int .i64 n1, .string f1, .string l1, .int .i64 b1, .int .i64 z1] 25)).heap.size = w1.heap.size + 1 from by simp] at this; exact this)
    obtain ⟨k0, k1, k2, k3, k4⟩ := HP3.out; simp only at k0 k1 k2 k3 k4
    obtain ⟨c0, c1, c2, c3, c4⟩ := HQ3.out; simp only at c0 c1 c2 c3 c4
    go_wp2_with fail
    clear k0 k1 k2 k3 k4 c0 c1 c2 c3 c4
    refine (HI1.out _).mono ?_; rintro e w4 ⟨rfl, hB⟩
    have HB4 := Lib.hid (HB3.out.trans (hB.mono HB3.out.size))
    have HP4 := Lib.hid (HP3.out.below hB)
    have HQ4 := Lib.hid (HQ3.out.below hB)
    clear hB
    obtain ⟨k0, k1, k2, k3, k4⟩ := HP4.out; simp only at k0 k1 k2 k3 k4
    obtain ⟨c0, c1, c2, c3, c4⟩ := HQ4.out; simp only at c0 c1 c2 c3 c4
    go_wp2_with fail
    clear k0 k1 k2 k3 k4 c0 c1 c2 c3 c4
    refine (HS1.out _).mono ?_; rintro e w5 ⟨rfl, hB⟩
    have HB5 := Lib.hid (HB4.out.trans (hB.mono HB4.out.size))
    have HP5 := Lib.hid (HP4.out.below hB)
    have HQ5 := Lib.hid (HQ4.out.below hB)
    clear hB
    go_wp2_with fail
    refine (specDrawAreAlike_any a0 len0 cap0 bs w5 HL.out hm (HY.out.later HB5.out)).mono ?_; rintro e w6 ⟨p, q, x, rfl, hp, hq, hB⟩
    have HB6 := Lib.hid (HB5.out.trans (hB.mono HB5.out.size))
    have HP6 := Lib.hid (HP5.out.below hB)
    have HQ6 := Lib.hid (HQ5.out.below hB)
    clear hB
    obtain ⟨t, cA, hx⟩ : ∃ t cA, alikeP p q x = (t, cA) := ⟨_, _, rfl⟩
    obtain ⟨hpf, hpl⟩ := small_fits hp; obtain ⟨hqf, hql⟩ := small_fits hq
    obtain ⟨n3, f3, l3, b3, z3⟩ := p; obtain ⟨n4, f4, l4, b4, z4⟩ := q
    simp only at hpf hpl hqf hql
    have HI2 := Lib.hid (show ∀ W, Calls Try.prog 12 #[.agg #[.int .i64 n3, .string f3, .string l3, .int .i64 b3, .int .i64 z3], .agg #[.int .i64 n4, .string f4, .string l4, .int .i64 b4, .int .i64 z4], .int .i64 x] W (fun e w' => e = .returned (.tuple #[.bool t, .int .i64 cA]) ∧ Below W.heap.size W w') from fun W => by have := implAreAlike_any n3 f3 l3 b3 z3 n4 f4 l4 b4 z4 x W hpf hpl hqf hql; rw [hx] at this; exact this)
    have HS2 := Lib.hid (show ∀ W, Calls Try.prog 13 #[.agg #[.int .i64 n3, .string f3, .string l3, .int .i64 b3, .int .i64 z3], .agg #[.int .i64 n4, .string f4, .string l4, .int .i64 b4, .int .i64 z4], .int .i64 x] W (fun e w' => e = .returned (.tuple #[.bool t, .int .i64 cA]) ∧ Below W.heap.size W w') from fun W => by have := specAreAlike_any n3 f3 l3 b3 z3 n4 f4 l4 b4 z4 x W hpf hpl hqf hql; rw [hx] at this; exact this)
    clear hx hp hq
    have hB := boxed w6 (.cells #[.int .i64 n3, .string f3, .string l3, .int .i64 b3, .int .i64 z3] 25)
    have HB7 := Lib.hid (HB6.out.trans (hB.mono HB6.out.size))
    have HP7 := Lib.hid (HP6.out.below hB)
    have HQ7 := Lib.hid (HQ6.out.below hB)
    clear hB
    have HA7 := Lib.hid (show AtB (w6.alloc (.cells #[.int .i64 n3, .string f3, .string l3, .int .i64 b3, .int .i64 z3] 25)) (w6.heap.size) ⟨n3, f3, l3, b3, z3⟩ by have := atB_box w6 n3 f3 l3 b3 z3 25; exact this)
    have hB := boxed (w6.alloc (.cells #[.int .i64 n3, .string f3, .string l3, .int .i64 b3, .int .i64 z3] 25)) (.cells #[.int .i64 n4, .string f4, .string l4, .int .i64 b4, .int .i64 z4] 25)
    have HB8 := Lib.hid (HB7.out.trans (hB.mono HB7.out.size))
    have HP8 := Lib.hid (HP7.out.below hB)
    have HQ8 := Lib.hid (HQ7.out.below hB)
    have HA8 := Lib.hid (HA7.out.below hB)
    clear hB
    have HE8 := Lib.hid (show AtB ((w6.alloc (.cells #[.int .i64 n3, .string f3, .string l3, .int .i64 b3, .int .i64 z3] 25)).alloc (.cells #[.int .i64 n4, .string f4, .string l4, .int .i64 b4, .int .i64 z4] 25)) (w6.heap.size + 1) ⟨n4, f4, l4, b4, z4⟩ by have := atB_box (w6.alloc (.cells #[.int .i64 n3, .string f3, .string l3, .int .i64 b3, .int .i64 z3] 25)) n4 f4 l4 b4 z4 25; rw [show (w6.alloc (.cells #[.int .i64 n3, .string f3, .string l3, .int .i64 b3, .int .i64 z3] 25)).heap.size = w6.heap.size + 1 from by simp] at this; exact this)
    obtain ⟨k0, k1, k2, k3, k4⟩ := HA8.out; simp only at k0 k1 k2 k3 k4
    obtain ⟨c0, c1, c2, c3, c4⟩ := HE8.out; simp only at c0 c1 c2 c3 c4
    go_wp2_with fail
    clear k0 k1 k2 k3 k4 c0 c1 c2 c3 c4
    refine (HI2.out _).mono ?_; rintro e w9 ⟨rfl, hB⟩
    have HB9 := Lib.hid (HB8.out.trans (hB.mono HB8.out.size))
    have HP9 := Lib.hid (HP8.out.below hB)
    have HQ9 := Lib.hid (HQ8.out.below hB)
    have HA9 := Lib.hid (HA8.out.below hB)
    have HE9 := Lib.hid (HE8.out.below hB)
    clear hB
    obtain ⟨k0, k1, k2, k3, k4⟩ := HA9.out; simp only at k0 k1 k2 k3 k4
    obtain ⟨c0, c1, c2, c3, c4⟩ := HE9.out; simp only at c0 c1 c2 c3 c4
    go_wp2_with fail
    clear k0 k1 k2 k3 k4 c0 c1 c2 c3 c4
    refine (HS2.out _).mono ?_; rintro e w10 ⟨rfl, hB⟩
    have HB10 := Lib.hid (HB9.out.trans (hB.mono HB9.out.size))
    have HP10 := Lib.hid (HP9.out.below hB)
    have HQ10 := Lib.hid (HQ9.out.below hB)
    have HA10 := Lib.hid (HA9.out.below hB)
    have HE10 := Lib.hid (HE9.out.below hB)
    clear hB
    clear HI1 HS1 HI2 HS2
    go_wp2_with fail
    refine (specDrawMostAlike_any a0 len0 cap0 bs w10 HL.out hm (HY.out.later HB10.out)).mono ?_; rintro e w11 ⟨g, cap, qs, p, rfl, hlq, hzq, hI, hp, hB⟩
    have HB11 := Lib.hid (HB10.out.trans (hB.mono HB10.out.size))
    have HP11 := Lib.hid (HP10.out.below hB)
    have HQ11 := Lib.hid (HQ10.out.below hB)
    clear hB
    have HL11 := Lib.hid hI; clear hI
    have hmq : qs.length ≤ maxLen := by unfold maxLen; omega
    have HFq := Lib.hid hzq.fits
    obtain ⟨m, cM, hx, hMX⟩ := most_there qs p
    obtain ⟨hpf, hpl⟩ := small_fits hp
    obtain ⟨n5, f5, l5, b5, z5⟩ := p
    simp only at hpf hpl
    have HI3 := Lib.hid (show ∀ W, PersAt W (some ⟨g, 0, none⟩) qs → Calls Try.prog 15 #[.slice (some ⟨g, 0, none⟩) qs.length cap, .agg #[.int .i64 n5, .string f5, .string l5, .int .i64 b5, .int .i64 z5]] W (fun e w' => e = .returned (.tuple #[.int .i64 m, .int .i64 cM]) ∧ Below W.heap.size W w') from fun W hI => by have := implMostAlike_any (some ⟨g, 0, none⟩) qs.length cap qs n5 f5 l5 b5 z5 W rfl hmq hI HFq.out hpf hpl; rw [hx] at this; exact this)
    have HS3 := Lib.hid (show ∀ W, PersAt W (some ⟨g, 0, none⟩) qs → Calls Try.prog 16 #[.slice (some ⟨g, 0, none⟩) qs.length cap, .agg #[.int .i64 n5, .string f5, .string l5, .int .i64 b5, .int .i64 z5]] W (fun e w' => e = .returned (.tuple #[.int .i64 m, .int .i64 cM]) ∧ Below W.heap.size W w') from fun W hI => by have := specMostAlike_any (some ⟨g, 0, none⟩) qs.length cap qs n5 f5 l5 b5 z5 W rfl hmq hI HFq.out hpf hpl; rw [hx] at this; exact this)
    have HMX := Lib.hid (show (cM = 0 ∧ ∃ mm : Nat, m = mm ∧ mm < qs.length ∧ ∃ r : Pers, qs[mm]? = some r ∧ r.fits ∧ (∀ (i : Nat) q, qs[i]? = some q → ∃ lk lm : Int, lk ≤ lm ∧ q.fits ∧ likeOfP q ⟨n5, f5, l5, b5, z5⟩ = (lk, 0) ∧ likeOfP r ⟨n5, f5, l5, b5, z5⟩ = (lm, 0))) ∨ cM ≠ 0 from by
      rcases hMX with ⟨h0, mm, h1, h2, h3, h4, h5⟩ | h0
      · have hr : qs[mm]? = some qs[mm] := List.getElem?_eq_getElem h2
        exact .inl ⟨h0, mm, h1, h2, _, hr, HFq.out _ (List.mem_of_getElem? hr), fun i q hq => ⟨_, _, h5 i q _ hq hr, HFq.out _ (List.mem_of_getElem? hq), likeOf_yes (arePers_at h3 hq) h4, likeOf_yes (arePers_at h3 hr) h4⟩⟩
      · exact .inr h0)
    clear hx hp hzq hMX
    have hB := boxed w11 (.cells #[.int .i64 n5, .string f5, .string l5, .int .i64 b5, .int .i64 z5] 25)
    have HB12 := Lib.hid (HB11.out.trans (hB.mono HB11.out.size))
    have HP12 := Lib.hid (HP11.out.below hB)
    have HQ12 := Lib.hid (HQ11.out.below hB)
    have HL12 := Lib.hid (HL11.out.below hB)
    clear hB
    have HM12 := Lib.hid (show AtB (w11.alloc (.cells #[.int .i64 n5, .string f5, .string l5, .int .i64 b5, .int .i64 z5] 25)) (w11.heap.size) ⟨n5, f5, l5, b5, z5⟩ by have := atB_box w11 n5 f5 l5 b5 z5 25; exact this)
    obtain ⟨k0, k1, k2, k3, k4⟩ := HM12.out; simp only at k0 k1 k2 k3 k4
    go_wp2_with fail
    clear k0 k1 k2 k3 k4
    refine (HI3.out _ HL12.out).mono ?_; rintro e w13 ⟨rfl, hB⟩
    have HB13 := Lib.hid (HB12.out.trans (hB.mono HB12.out.size))
    have HP13 := Lib.hid (HP12.out.below hB)
    have HQ13 := Lib.hid (HQ12.out.below hB)
    have HL13 := Lib.hid (HL12.out.below hB)
    have HM13 := Lib.hid (HM12.out.below hB)
    clear hB
    obtain ⟨k0, k1, k2, k3, k4⟩ := HM13.out; simp only at k0 k1 k2 k3 k4
    go_wp2_with fail
    clear k0 k1 k2 k3 k4
    refine (HS3.out _ HL13.out).mono ?_; rintro e w14 ⟨rfl, hB⟩
    have HB14 := Lib.hid (HB13.out.trans (hB.mono HB13.out.size))
    have HP14 := Lib.hid (HP13.out.below hB)
    have HQ14 := Lib.hid (HQ13.out.below hB)
    have HL14 := Lib.hid (HL13.out.below hB)
    have HM14 := Lib.hid (HM13.out.below hB)
    clear hB
    clear HI3 HS3
    go_wp2_with fail
    refine (specDrawFindPerson_any a0 len0 cap0 bs w14 HL.out hm (HY.out.later HB14.out)).mono ?_; rintro e w15 ⟨gf, capf, fs, x2, rfl, hlf, hzf, hI, hB⟩
    have HB15 := Lib.hid (HB14.out.trans (hB.mono HB14.out.size))
    have HP15 := Lib.hid (HP14.out.below hB)
    have HQ15 := Lib.hid (HQ14.out.below hB)
    have HL15 := Lib.hid (HL14.out.below hB)
    have HM15 := Lib.hid (HM14.out.below hB)
    clear hB
    have HN15 := Lib.hid hI; clear hI
    have hmf : fs.length ≤ maxLen := by unfold maxLen; omega
    have HFf := Lib.hid hzf.fits
    obtain ⟨r5, cF, hx⟩ : ∃ r5 cF, findOfP fs x2 = (r5, cF) := ⟨_, _, rfl⟩
    have HI4 := Lib.hid (show ∀ W, PersAt W (some ⟨gf, 0, none⟩) fs → Calls Try.prog 18 #[.slice (some ⟨gf, 0, none⟩) fs.length capf, .int .i64 x2] W (fun e w' => e = .returned (.tuple #[.int .i64 r5, .int .i64 cF]) ∧ Below W.heap.size W w') from fun W hI => by have := implFindPerson_any (some ⟨gf, 0, none⟩) fs.length capf fs x2 W rfl hmf hI HFf.out; rw [hx] at this; exact this)
    have HS4 := Lib.hid (show ∀ W, PersAt W (some ⟨gf, 0, none⟩) fs → Calls Try.prog 19 #[.slice (some ⟨gf, 0, none⟩) fs.length capf, .int .i64 x2] W (fun e w' => e = .returned (.tuple #[.int .i64 r5, .int .i64 cF]) ∧ Below W.heap.size W w') from fun W hI => by have := specFindPerson_any (some ⟨gf, 0, none⟩) fs.length capf fs x2 W rfl hmf hI HFf.out; rw [hx] at this; exact this)
    have HIa := Lib.hid (show ∀ W, PersAt W (some ⟨gf, 0, none⟩) fs → Calls Try.prog 22 #[.slice (some ⟨gf, 0, none⟩) fs.length capf] W (fun e w' => e = .returned (.bool (arePers fs)) ∧ Below W.heap.size W w') from fun W hI => implArePersons_any (some ⟨gf, 0, none⟩) fs.length capf fs W rfl hmf hI HFf.out)
    have HSa := Lib.hid (show ∀ W, PersAt W (some ⟨gf, 0, none⟩) fs → Calls Try.prog 23 #[.slice (some ⟨gf, 0, none⟩) fs.length capf] W (fun e w' => e = .returned (.bool (arePers fs)) ∧ Below W.heap.size W w') from fun W hI => specArePersons_any (some ⟨gf, 0, none⟩) fs.length capf fs W rfl hmf hI HFf.out)
    generalize arePers fs = okf at HIa HSa
    clear hx hzf
    go_wp2_with fail
    refine (HI4.out _ HN15.out).mono ?_; rintro e w16 ⟨rfl, hB⟩
    have HB16 := Lib.hid (HB15.out.trans (hB.mono HB15.out.size))
    have HP16 := Lib.hid (HP15.out.below hB)
    have HQ16 := Lib.hid (HQ15.out.below hB)
    have HL16 := Lib.hid (HL15.out.below hB)
    have HM16 := Lib.hid (HM15.out.below hB)
    have HN16 := Lib.hid (HN15.out.below hB)
    clear hB
    go_wp2_with fail
    refine (HS4.out _ HN16.out).mono ?_; rintro e w17 ⟨rfl, hB⟩
    have HB17 := Lib.hid (HB16.out.trans (hB.mono HB16.out.size))
    have HP17 := Lib.hid (HP16.out.below hB)
    have HQ17 := Lib.hid (HQ16.out.below hB)
    have HL17 := Lib.hid (HL16.out.below hB)
    have HM17 := Lib.hid (HM16.out.below hB)
    have HN17 := Lib.hid (HN16.out.below hB)
    clear hB
    clear HI4 HS4
    go_wp2_with fail
    obtain ⟨k0, k1, k2, k3, k4⟩ := HP17.out
    have c0 := cell_regrown k0; have c1 := cell_regrown k1; have c2 := cell_regrown k2; have c3 := cell_regrown k3; have c4 := cell_regrown k4
    simp only at c0 c1 c2 c3 c4
    clear k0 k1 k2 k3 k4
    have hq1 := regr_call (w := w17) (fun W _ => HIp.out W)
    have hq2 := regr_call (w := w17) (fun W _ => HSp.out W)
    have hq3 := regr_call (w := w17) (fun W hB => HIa.out W (HN17.out.below hB))
    have hq4 := regr_call (w := w17) (fun W hB => HSa.out W (HN17.out.below hB))
    refine wp_region_quiet_below (by kernel_rfl) (by kernel_rfl) ?_
    iterate 41 (go_big_quiet_step (exact hq1 _ _))
    iterate 2 (go_big_quiet_step (exact hq2 _ _))
    iterate 5 (go_big_quiet_step (exact hq3 _ _))
    iterate 4 (go_big_quiet_step (exact hq4 _ _))
    refine wpQuiet_nil ?_
    intro _ hw
    obtain ⟨⟨dq, osq⟩, hw2⟩ := hw
    subst hw2
    have hB := below_regrown w17 dq osq
    clear hq1 hq2 hq3 hq4 c0 c1 c2 c3 c4
    have HB18 := Lib.hid (HB17.out.trans (hB.mono HB17.out.size))
    have HP18 := Lib.hid (HP17.out.below hB)
    have HQ18 := Lib.hid (HQ17.out.below hB)
    have HL18 := Lib.hid (HL17.out.below hB)
    have HM18 := Lib.hid (HM17.out.below hB)
    clear hB
    generalize Go.Sort.grow (redrawn w17 dq) osq = w18 at HB18 HP18 HQ18 HL18 HM18 ⊢
    go_wp2_with fail
    go_loopw [28] (fun i wr => ∃ k : Nat, k ≤ qs.length ∧ i = .int .i64 k ∧ Below w18.heap.size w18 wr) (fun i _ => qs.length - (intOf i).toNat)
    case atStart => exact ⟨0, Nat.zero_le _, rfl, Below.refl _ _⟩
    case round =>
      obtain ⟨k, hk, rfl, hB⟩ := hrel
      have HR := Lib.hid hB
      have hBsz := hB.size
      have HB19 := Lib.hid (HB18.out.trans (hB.mono HB18.out.size))
      have HP19 := Lib.hid (HP18.out.below hB)
      have HQ19 := Lib.hid (HQ18.out.below hB)
      have HL19 := Lib.hid (HL18.out.below hB)
      have HM19 := Lib.hid (HM18.out.below hB)
      clear hB
      rcases HMX.out with ⟨rfl, mm, rfl, hmm, r, hr, hrf, hall⟩ | hcM
      · by_cases hlt : k < qs.length
        · obtain ⟨qk, hqk⟩ : ∃ q, qs[k]? = some q := ⟨_, List.getElem?_eq_getElem hlt⟩
          obtain ⟨lk, lm, hle, hqf, hl1, hl2⟩ := hall k qk hqk
          obtain ⟨n6, f6, l6, b6, z6⟩ := qk; obtain ⟨n7, f7, l7, b7, z7⟩ := r
          obtain ⟨hqf1, hqf2⟩ : f6.size ≤ maxLen ∧ l6.size ≤ maxLen := hqf; obtain ⟨hrf1, hrf2⟩ : f7.size ≤ maxLen ∧ l7.size ≤ maxLen := hrf
          have HC1 := Lib.hid (show ∀ W, Calls Try.prog 9 #[.agg #[.int .i64 n6, .string f6, .string l6, .int .i64 b6, .int .i64 z6], .agg #[.int .i64 n5, .string f5, .string l5, .int .i64 b5, .int .i64 z5]] W (fun e w' => e = .returned (.tuple #[.int .i64 lk, .int .i64 0]) ∧ Below W.heap.size W w') from fun W => by have := implLikenessOf_any n6 f6 l6 b6 z6 n5 f5 l5 b5 z5 W hqf1 hqf2 hpf hpl; rw [hl1] at this; exact this)
          have HC2 := Lib.hid (show ∀ W, Calls Try.prog 9 #[.agg #[.int .i64 n7, .string f7, .string l7, .int .i64 b7, .int .i64 z7], .agg #[.int .i64 n5, .string f5, .string l5, .int .i64 b5, .int .i64 z5]] W (fun e w' => e = .returned (.tuple #[.int .i64 lm, .int .i64 0]) ∧ Below W.heap.size W w') from fun W => by have := implLikenessOf_any n7 f7 l7 b7 z7 n5 f5 l5 b5 z5 W hrf1 hrf2 hpf hpl; rw [hl2] at this; exact this)
          clear hl1 hl2 hall
          have HR2 := HR
          obtain ⟨b9, off9, p9, e9, hc9, hp9⟩ := HL19.out.at rfl hlt
          cases e9
          rw [hqk] at hp9; cases hp9
          rw [Nat.zero_add] at hc9
          obtain ⟨k0, k1, k2, k3, k4⟩ := hc9; obtain ⟨m0, m1, m2, m3, m4⟩ := HM19.out
          simp only at k0 k1 k2 k3 k4 m0 m1 m2 m3 m4
          go_wp2_with fail
          have c0 := cell_regrown k0; have c1 := cell_regrown k1; have c2 := cell_regrown k2; have c3 := cell_regrown k3; have c4 := cell_regrown k4
          have d0 := cell_regrown m0; have d1 := cell_regrown m1; have d2 := cell_regrown m2; have d3 := cell_regrown m3; have d4 := cell_regrown m4
          clear k0 k1 k2 k3 k4 m0 m1 m2 m3 m4
          have hq1 := regr_call (w := wr) (fun W _ => HC1.out W)
          refine wp_region_quiet_below (by kernel_rfl) (by kernel_rfl) ?_
          iterate 11 (go_big_quiet_step (exact hq1 _ _))
          refine wpQuiet_nil ?_
          intro _ hw
          obtain ⟨⟨dq, osq⟩, hw2⟩ := hw
          subst hw2
          have hB := below_regrown wr dq osq
          clear hq1 c0 c1 c2 c3 c4 d0 d1 d2 d3 d4
          have HR3 := Lib.hid (HR2.out.trans (hB.mono HR2.out.size))
          have HB20 := Lib.hid (HB19.out.trans (hB.mono HB19.out.size))
          have HP20 := Lib.hid (HP19.out.below hB)
          have HQ20 := Lib.hid (HQ19.out.below hB)
          have HL20 := Lib.hid (HL19.out.below hB)
          have HM20 := Lib.hid (HM19.out.below hB)
          clear hB
          generalize Go.Sort.grow (redrawn wr dq) osq = v1 at HB20 HP20 HQ20 HL20 HM20 HR3 ⊢
          obtain ⟨b9, off9, p9, e9, hc9, hp9⟩ := HL20.out.at rfl hmm
          cases e9
          rw [hr] at hp9; cases hp9
          rw [Nat.zero_add] at hc9
          obtain ⟨k0, k1, k2, k3, k4⟩ := hc9; obtain ⟨m0, m1, m2, m3, m4⟩ := HM20.out
          simp only at k0 k1 k2 k3 k4 m0 m1 m2 m3 m4
          go_wp2_with fail
          have c0 := cell_regrown k0; have c1 := cell_regrown k1; have c2 := cell_regrown k2; have c3 := cell_regrown k3; have c4 := cell_regrown k4
          have d0 := cell_regrown m0; have d1 := cell_regrown m1; have d2 := cell_regrown m2; have d3 := cell_regrown m3; have d4 := cell_regrown m4
          clear k0 k1 k2 k3 k4 m0 m1 m2 m3 m4
          have hq1 := regr_call (w := v1) (fun W _ => HC2.out W)
          refine wp_region_quiet_below (by kernel_rfl) (by kernel_rfl) ?_
          iterate 11 (go_big_quiet_step (exact hq1 _ _))
          refine wpQuiet_nil ?_
          intro _ hw
          obtain ⟨⟨dq, osq⟩, hw2⟩ := hw
          subst hw2
          have hB := below_regrown v1 dq osq
          clear hq1 c0 c1 c2 c3 c4 d0 d1 d2 d3 d4
          have HR4 := Lib.hid (HR3.out.trans (hB.mono HR3.out.size))
          have HB21 := Lib.hid (HB20.out.trans (hB.mono HB20.out.size))
          have HP21 := Lib.hid (HP20.out.below hB)
          have HQ21 := Lib.hid (HQ20.out.below hB)
          have HL21 := Lib.hid (HL20.out.below hB)
          have HM21 := Lib.hid (HM20.out.below hB)
          clear hB
          generalize Go.Sort.grow (redrawn v1 dq) osq = v2 at HB21 HP21 HQ21 HL21 HM21 HR4 ⊢
          have hd : decide (lm < lk) = false := decide_eq_false (by omega)
          clear HC1 HC2
          go_wp2_with fail
          go_roundw
          case rel => exact ⟨k + 1, by omega, by go_num, HR4.out⟩
          case measure => simp [intOf]; omega
        · rcases HLX.out with ⟨rfl, hL2, hL3⟩ | rfl
          · have HL2 := Lib.hid hL2; have HL3 := Lib.hid hL3; clear hL2 hL3
            obtain ⟨k0, k1, k2, k3, k4⟩ := HP19.out; simp only at k0 k1 k2 k3 k4
            obtain ⟨c0, c1, c2, c3, c4⟩ := HQ19.out; simp only at c0 c1 c2 c3 c4
            go_wp2_with fail
            clear k0 k1 k2 k3 k4 c0 c1 c2 c3 c4
            refine (HL2.out _).mono ?_; rintro e w20 ⟨rfl, hB⟩
            have HB20 := Lib.hid (HB19.out.trans (hB.mono HB19.out.size))
            have HP20 := Lib.hid (HP19.out.below hB)
            have HQ20 := Lib.hid (HQ19.out.below hB)
            clear hB
            obtain ⟨k0, k1, k2, k3, k4⟩ := HP20.out; simp only at k0 k1 k2 k3 k4
            go_wp2_with fail
            clear k0 k1 k2 k3 k4
            refine (HL3.out _).mono ?_; rintro e w21 ⟨rfl, hB⟩
            have HB21 := Lib.hid (HB20.out.trans (hB.mono HB20.out.size))
            have HP21 := Lib.hid (HP20.out.below hB)
            have HQ21 := Lib.hid (HQ20.out.below hB)
            clear hB
            go_wp2_with fail
            go_ret
            exact ⟨rfl, HB21.out⟩
          · go_wp2_with fail
            go_ret
            exact ⟨rfl, HB19.out⟩
      · have hcM2 : (cM == 0) = false := beq_eq_false_iff_ne.2 hcM
        rcases HLX.out with ⟨rfl, hL2, hL3⟩ | rfl
        · have HL2 := Lib.hid hL2; have HL3 := Lib.hid hL3; clear hL2 hL3
          obtain ⟨k0, k1, k2, k3, k4⟩ := HP19.out; simp only at k0 k1 k2 k3 k4
          obtain ⟨c0, c1, c2, c3, c4⟩ := HQ19.out; simp only at c0 c1 c2 c3 c4
          go_wp2_with fail
          clear k0 k1 k2 k3 k4 c0 c1 c2 c3 c4
          refine (HL2.out _).mono ?_; rintro e w20 ⟨rfl, hB⟩
          have HB20 := Lib.hid (HB19.out.trans (hB.mono HB19.out.size))
          have HP20 := Lib.hid (HP19.out.below hB)
          have HQ20 := Lib.hid (HQ19.out.below hB)
          clear hB
          obtain ⟨k0, k1, k2, k3, k4⟩ := HP20.out; simp only at k0 k1 k2 k3 k4
          go_wp2_with fail
          clear k0 k1 k2 k3 k4
          refine (HL3.out _).mono ?_; rintro e w21 ⟨rfl, hB⟩
          have HB21 := Lib.hid (HB20.out.trans (hB.mono HB20.out.size))
          have HP21 := Lib.hid (HP20.out.below hB)
          have HQ21 := Lib.hid (HQ20.out.below hB)
          clear hB
          go_wp2_with fail
          go_ret
          exact ⟨rfl, HB21.out⟩
        · go_wp2_with fail
          go_ret
          exact ⟨rfl, HB19.out⟩

set_option maxRecDepth 100000 in
theorem lifted (os : Os) (started : os.Started) (H : Type) (enc : TypeId × Value → H) :
    ReturnsInHanded {} Try.checked os 3 .any (Rows.fnLikenessSpec.pre6 enc Try.prog Try.f3 Rows.fnLikenessRow.domain false) (Rows.fnLikenessSpec.post enc Try.prog Try.f3 false true false false) := by
  refine returnsInHanded_of_change (C := Try.checked) own started (by kernel_rfl) Try.func3
    (ChangeSpec.witness6 (enc := enc) (C := Try.checked) false ⟨#[], #[.slice none 0 0], []⟩ 8 (by kernel_rfl) (by kernel_rfl) (by kernel_rfl) (by kernel_rfl)) ?_
  intro W base args ds gs before hval0 hW hcnd _
  have hval : ∀ (j : Nat) t v, Try.f3.params[j]? = some t → args[j]? = some v → Value.okWide Try.prog W .any base t v := hval0
  have hW' := hW
  obtain ⟨p, q, hA0, hV, rfl, hfz, hnd⟩ := hW
  have hA : DataW.TrodAll enc Try.prog W 0 (fun _ => true) true Try.f3.params.toList args.toList ds p := hA0
  rw [Try.params3] at hA hval
  obtain ⟨v0, vs0, d0, ds0, p0, q0, hargs, rfl, rfl, h0, r0⟩ := trodAll_cons hA
  obtain ⟨rfl, rfl, rfl⟩ := trodAll_nil r0
  obtain rfl : args = #[v0] := by cases args; simp_all
  obtain ⟨rfl, rfl⟩ := trodVars_none hV
  obtain ⟨a0, len0, cap0, rfl⟩ := okWide_slice Try.underlying22 (hval 0 22 v0 rfl rfl)
  have k0 := h0
  have lt0 : ∀ x ∈ p0, x.block < W.heap.size := by obtain ⟨m, hm⟩ := k0; exact DataW.trod_lt m _ _ _ hm
  obtain ⟨z0, w0⟩ : ∃ zs, IsRow .u8 W a0 len0 cap0 zs := by
    obtain ⟨fuel, hf⟩ := h0
    rcases open_ints Try.underlying22 Try.underlying5 (by kernel_rfl) hf with ⟨hcs, _⟩ | ⟨x, l, c, zs, hcs, _, hl, hm, hz, _, hcell, hwz⟩
    · simp [Value.cells] at hcs
      obtain ⟨rfl, rfl, rfl⟩ := hcs
      exact ⟨[], .inl ⟨rfl, rfl, rfl, rfl⟩⟩
    · simp [Value.cells] at hcs
      obtain ⟨rfl, rfl, rfl⟩ := hcs
      exact ⟨zs, .inr ⟨_, rfl, hl, hm, by simpa using hz, hcell, hwz⟩⟩
  clear hA0 hval0
  refine (walk W a0 len0 cap0 z0 w0).mono fun e W' ⟨he, bel⟩ => ?_
  subst he
  exact ⟨_, rfl, _, _, _, [], _, [], hW', trodAll_mk1 (shut_bool Try.underlying4 _), (trodAll_cons_mk (Below.trod laidOut (by kernel_rfl) (of_decide_eq_true (by kernel_rfl)) k0 bel lt0) trodAll_mk0), rfl, bel.frame _, fun h => by cases h⟩

theorem over : Rows.fnLikenessRow.holds Try.pinned (OpenSpec.ofChange Rows.fnLikenessSpec) :=
  OpenClaim.holds_of_wide 3 Try.f3 rfl rfl rfl rfl rfl rfl rfl ⟨rfl, rfl, rfl, rfl, rfl⟩ rfl rfl rfl rfl rfl (by kernel_rfl) Try.func3 (by kernel_rfl)
    (of_decide_eq_true (by kernel_rfl)) (by unfold Func.isWrapper; first | (rw [if_pos (by decide +kernel)]; kernel_rfl) | (rw [if_neg (by decide +kernel)]; exact ⟨rfl, rfl⟩))
    (fun os started H enc _ => lifted os started H enc)

/-- The statement. -/
theorem proved : Rows.FnLikenessSaid := over
end Go.Proofs.Ytlaeceglcmnhbaa.fnLikeness
