/- Contracts of the program's chapter 8: numbers in lists, copies, a number taken out of a list, the greatest common divisor. -/
import Derived.Test.YtmpopfcnjgcncaaChecked
import Derived.Test.YtmpopfcnjgcncaaBase
import Derived.Test.YtmpopfcnjgcncaaInfo
import Derived.Test.YtmpopfcnjgcncaaMarkI
import Derived.Test.YtmpopfcnjgcncaaPure40
import Derived.Test.YtmpopfcnjgcncaaPure80
import Derived.Test.YtmpopfcnjgcncaaPure83
import Derived.Test.YtmpopfcnjgcncaaIntL
import Derived.Test.YtmpopfcnjgcncaaBuildI
import Derived.Test.YtmpopfcnjgcncaaBuild8
import Derived.Test.YtmpopfcnjgcncaaRowV
import Derived.Test.YtmpopfcnjgcncaaPoolA
import Derived.Test.YtmpopfcnjgcncaaSpec80
import Derived.Test.YtmpopfcnjgcncaaSpec84
import Derived.WalkKit
import Derived.WalkSpells
import Derived.WalkLawsBesides
import Derived.Lib.Hide
import Derived.Lib.QuietBelow
import Derived.Lib.Walk
import Derived.Laws.CopyOwn
import Derived.IntWalk
import Derived.Deep.QuietTactic
import Derived.Deep.RegionLaw
import Derived.Deep.OwnRows
import Derived.BigQuiet
import Derived.Outline
namespace Go.Proofs.Ytmpopfcnjgcncaa
open Go.RowKit Pure1 Pure2 Pure30 Pure40 Pure60 Pure80 Pure83 Rec

set_option maxHeartbeats 400000 in
theorem implIndex8 (a : Option Addr) (len cap : Nat) (zs : List Int) (x : Int) (w : World) (hI : IntsIn w a len zs) :
    Calls Try.prog 64 #[.slice a len cap, .int .i64 x] w fun e w' => (∃ n : Int, e = .returned (.int .i64 n) ∧ FirstOf zs x n) ∧ w' = w := by
  obtain ⟨hl, hm, h⟩ := hI
  unfold maxLen at hm
  have HL := Lib.hid hl; have HI := Lib.hid h; clear hl h
  go_enter Try.func64, Try.ntmps64
  go_wp2
  go_loop [5, 8] (fun _ i => ∃ j : Nat, j ≤ len ∧ i = .int .i64 j ∧ ∀ k, k < j → zs[k]? ≠ some x) (fun _ i => len - (intOf i).toNat)
  case atStart => exact ⟨0, Nat.zero_le _, rfl, fun k hk => by omega⟩
  case round =>
    obtain ⟨j, hj, rfl, hno⟩ := hrel
    have HN := Lib.hid hno; clear hno
    by_cases hlt : j < len
    · obtain ⟨b, off, y, ha, hc, ht, hy⟩ := HI.out.at HL.out hlt
      subst ha
      by_cases hyx : y = x
      · subst hyx
        have HT := Lib.hid hy
        clear ht hy
        go_wp2
        go_ret
        exact ⟨⟨_, rfl, .inl ⟨j, HT.out, rfl⟩⟩, rfl⟩
      · have hb : (x == y) = false := beq_eq_false_iff_ne.2 (fun e => hyx e.symm)
        have HX := Lib.hid (not_next8 HN.out hy hyx)
        clear ht hy hyx
        go_wp2
        go_round
        case rel => exact ⟨j + 1, by omega, by go_num, HX.out⟩
        case measure => simp [intOf]; omega
    · have HT := Lib.hid (mem_end HN.out (by rw [HL.out]; omega))
      go_wp2
      go_ret
      exact ⟨⟨_, rfl, .inr ⟨(mem_no _ _).1 HT.out, rfl⟩⟩, rfl⟩

theorem implContains8 (a : Option Addr) (len cap : Nat) (zs : List Int) (x : Int) (w : World) (hI : IntsIn w a len zs) :
    Calls Try.prog 77 #[.slice a len cap, .int .i64 x] w fun e w' => e = .returned (.bool (mem zs x)) ∧ w' = w := by
  have HC := Lib.hid (implIndex8 a len cap zs x w hI)
  clear hI
  go_enter Try.func77, Try.ntmps77
  go_wp2_with fail
  refine HC.out.mono ?_; rintro e w1 ⟨⟨n, rfl, hf⟩, rfl⟩
  have HF := Lib.hid (firstOf_test hf); clear hf
  go_wp2_with fail
  go_ret
  exact ⟨ret_bool' HF.out, rfl⟩

set_option maxHeartbeats 400000 in
theorem implAmong8 (a : Option Addr) (len cap : Nat) (zs : List Int) (a' : Option Addr) (len' cap' : Nat) (ns : List Int) (w : World) (hI : IntsIn w a len zs) (hJ : IntsIn w a' len' ns) :
    Calls Try.prog 61 #[.slice a len cap, .slice a' len' cap'] w fun e w' => e = .returned (.bool (zs.all (mem ns))) ∧ w' = w := by
  obtain ⟨hl, hm, h⟩ := hI
  unfold maxLen at hm
  have HL := Lib.hid hl; have HI := Lib.hid h; have HJ := Lib.hid hJ; clear hl h hJ
  obtain ⟨r, hr⟩ : ∃ r, zs.all (mem ns) = r := ⟨_, rfl⟩
  have HR := Lib.hid hr
  rw [hr]
  clear hr
  go_enter Try.func61, Try.ntmps61
  go_wp2
  go_loop [6, 9] (fun _ i => ∃ j : Nat, j ≤ len ∧ i = .int .i64 j ∧ AllTo zs ns j) (fun _ i => len - (intOf i).toNat)
  case atStart => exact ⟨0, Nat.zero_le _, rfl, allTo_zero _ _⟩
  case round =>
    obtain ⟨j, hj, rfl, hto⟩ := hrel
    have HT := Lib.hid hto; clear hto
    by_cases hlt : j < len
    · obtain ⟨b, off, y, ha, hc, ht, hy⟩ := HI.out.at HL.out hlt
      subst ha
      have HC := Lib.hid (implContains8 a' len' cap' ns y w HJ.out)
      cases hv : mem ns y with
      | true =>
        rw [hv] at HC
        have HN := Lib.hid (allTo_step HT.out hy hv)
        clear ht hy hv
        go_wp2_with (go_at_call 77; refine HC.out.mono ?_; rintro e w' ⟨rfl, rfl⟩)
        go_round
        case rel => exact ⟨j + 1, by omega, by go_num, HN.out⟩
        case measure => simp [intOf]; omega
      | false =>
        rw [hv] at HC
        have HN := Lib.hid (show r = false by rw [← HR.out]; exact all_not hy hv)
        clear ht hy hv
        go_wp2_with (go_at_call 77; refine HC.out.mono ?_; rintro e w' ⟨rfl, rfl⟩)
        go_ret
        exact ⟨ret_bool' HN.out.symm, rfl⟩
    · have HN := Lib.hid (show r = true by rw [← HR.out]; exact allTo_end HT.out (by rw [HL.out]; omega))
      go_wp2
      go_ret
      exact ⟨ret_bool' HN.out.symm, rfl⟩

set_option maxHeartbeats 1000000 in
theorem implClone8 (a : Option Addr) (len cap : Nat) (zs : List Int) (w : World) (hI : IntsIn w a len zs) (hlen : len ≤ 1000000000) (hn : a = none → len = 0 ∧ cap = 0) :
    Calls Try.prog 51 #[.slice a len cap] w (NewB zs w) := by
  have q1 : ∀ (w : World) (a : Option Addr) (n c n' c' : Nat), (binOp .eql 24 (.slice a n c) (.slice none n' c')).run Try.prog w = .ok (.bool a.isNone) w := fun w a n c n' c' => Lib.run_eql_slice_nil w _ _ a n c n' c' Try.underlying24
  cases a with
  | none =>
    obtain ⟨e1, e2⟩ := hn rfl
    subst e1 e2
    have e3 : zs = [] := List.length_eq_zero_iff.1 hI.1
    subst e3
    clear hI hn
    go_enter Try.func51, Try.ntmps51
    go_wp2
    go_ret
    exact ⟨_, rfl, BuildI.nil _ _, Below.refl _ _⟩
  | some ad =>
    have HE := Lib.hid (BuildI.empty (B := w.heap.size) (w := w) (Nat.le_refl _))
    have HI := Lib.hid (hI.below (boxed w (.cells #[] 2)))
    have HB := Lib.hid (boxed w (.cells #[] 2))
    clear hI hn
    go_enter Try.func51, Try.ntmps51
    go_wp2_with (at_builtin; refine wpList_ints_append (B := w.heap.size) rfl _ _ rfl _ _ rfl HE.out _ _ _ zs rfl HI.out.1 HI.out.2.2 (fun e => by cases e) ?c1 ?c2 ?_)
    case c1 => have := HI.out.1; simp; omega
    case c2 => simp
    intro v' w' h1 h2 _
    have HV := Lib.hid h1
    have HB2 := Lib.hid (HE.out.grew HB.out (Nat.le_refl _) (by simp) h2)
    clear h1 h2
    go_wp2_with fail
    go_ret
    exact ⟨_, rfl, by simpa using HV.out, HB2.out⟩

set_option maxHeartbeats 1000000 in
theorem implGcd8 (a b : Int) (w : World) (ha : 0 ≤ a ∧ a ≤ 1000000) (hb : 0 ≤ b ∧ b ≤ 1000000) :
    Calls Try.prog 70 #[.int .i64 a, .int .i64 b] w fun e w' => e = .returned (.int .i64 (Int.gcd a b)) ∧ ∃ n, w' = w.drewN n := by
  go_enter Try.func70, Try.ntmps70
  go_wp2
  go_loopw [0, 1] (fun va vb wr => ∃ (x y : Int) (n : Nat), va = .int .i64 x ∧ vb = .int .i64 y ∧ (0 ≤ x ∧ x ≤ 1000000) ∧ (0 ≤ y ∧ y ≤ 1000000) ∧ Int.gcd x y = Int.gcd a b ∧ wr = w.drewN n) (fun _ vb _ => (intOf vb).toNat)
  case atStart => exact ⟨a, b, 0, rfl, rfl, ha, hb, rfl, rfl⟩
  case round =>
    obtain ⟨x, y, n, rfl, rfl, hx, hy, hg, rfl⟩ := hrel
    have HG := Lib.hid hg; clear hg
    by_cases h0 : y = 0
    · subst h0
      go_wp2
      go_ret
      refine ⟨ret_i64 ?_, n, rfl⟩
      rw [← HG.out, Int.gcd_zero_right]; omega
    · have hm0 := Int.emod_nonneg x h0
      have hm1 := Int.emod_lt_of_pos x (show 0 < y by omega)
      have h1 : 0 < y := by omega
      have HS := Lib.hid (show Int.gcd y (x % y) = Int.gcd a b by rw [← HG.out]; exact gcd_mod hx.1 hy.1)
      go_wp2
      go_quiet (fail)
      go_wp2
      go_roundw
      case rel => exact ⟨y, x % y, _, rfl, rfl, hy, ⟨hm0, by omega⟩, HS.out, drewN_add _ _ _⟩
      case measure => simp [intOf]; omega
end Go.Proofs.Ytmpopfcnjgcncaa
