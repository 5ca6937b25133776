/- Contracts: cmp.Compare at int64, slices.BinarySearchFunc and slices.Clone at calls, the place of a number. -/
import Derived.Test.YtekhdggaelppkaaChecked
import Derived.Test.YtekhdggaelppkaaBase0
import Derived.Test.YtekhdggaelppkaaCallB
import Derived.Test.YtekhdggaelppkaaCallC
import Derived.Test.YtekhdggaelppkaaCallD
import Derived.Test.YtekhdggaelppkaaPure100
import Derived.Test.YtekhdggaelppkaaCmpI
import Derived.Test.YtekhdggaelppkaaImpl10a
import Derived.Shelf.Abstract
import Derived.WalkKit
import Derived.WalkSpells
import Derived.WalkLawsBesides
import Derived.Lib.Hide
import Derived.Lib.QuietBelow
import Derived.IntWalk
import Derived.OwnWalk
import Derived.Outline
namespace Go.Proofs.Ytekhdggaelppkaa
open Go.Shelf Go.RowKit Pure1 Pure2

set_option maxHeartbeats 1000000 in
theorem implPlaceCmp10_any (c : Call) (n : Int) (w : World) :
    Calls Try.prog 93 #[.agg #[.int .i64 c.num, .int .i64 c.fst, .int .i64 c.day, .int .i64 c.moves], .int .i64 n] w fun e w' => e = .returned (.int .i64 (cmpI c.num n)) ∧ Below w.heap.size w w' := by
  have HA := Lib.hid (Call.boxed w c 41)
  have HW := Lib.hid (Call.bx w (.cells #[.int .i64 c.num, .int .i64 c.fst, .int .i64 c.day, .int .i64 c.moves] 41))
  have HC := Lib.hid (fun W => implCompare_any c.num n W)
  have HN := Lib.hid (fun W => implNumber10_any c W)
  generalize cmpI c.num n = r at HC ⊢
  have egn : ∀ args w, (callFunc 139 args).run Try.prog w = .ok (.enter 139 args) w := enters_of Try.func139 (by kernel_rfl) rfl
  have hmeth : ∀ (n : Nat) v W, (method (n + 1) 41 v "loop.example/g01027/impl.number").run Try.prog W = .ok (139, v) W := fun n v W => by kernel_rfl
  go_enter Try.func93, Try.ntmps93
  obtain ⟨a0, a1, a2, a3⟩ := HA.out
  go_wp2_with fail
  refine (HN.out _).mono ?_; rintro e w1 ⟨rfl, hB⟩
  have HB1 := Lib.hid (HW.out.trans (hB.mono HW.out.size)); clear hB a0 a1 a2 a3 hmeth egn
  go_wp2_with fail
  refine (HC.out _).mono ?_; rintro e w2 ⟨rfl, hw⟩
  subst hw
  go_wp2_with fail
  go_ret
  exact ⟨rfl, HB1.out⟩

/-- below the place, from the place on -/
def LoC (ts : List Call) (n : Int) (k : Nat) : Prop := ∀ (i : Nat) s, i < k → ts[i]? = some s → s.num < n
def HiC (ts : List Call) (n : Int) (k : Nat) : Prop := ∀ (i : Nat) s, k ≤ i → ts[i]? = some s → ¬ s.num < n
theorem loC_step {ts : List Call} (h : areC ts = true) {n : Int} {k : Nat} {c : Call} (hc : ts[k]? = some c) (hl : c.num < n) : LoC ts n (k + 1) := by
  intro i s hi hs
  by_cases e : i = k
  · subst e; rw [hc] at hs; cases hs; exact hl
  · have := areC_lt h k i (by omega) hs hc; omega
theorem hiC_step {ts : List Call} (h : areC ts = true) {n : Int} {k : Nat} {c : Call} (hc : ts[k]? = some c) (hl : ¬ c.num < n) : HiC ts n k := by
  intro i s hi hs
  by_cases e : i = k
  · subst e; rw [hc] at hs; cases hs; exact hl
  · have := areC_lt h i k (by omega) hc hs; omega
theorem placeC_of {ts : List Call} {n : Int} {k : Nat} (hk : k ≤ ts.length) (h1 : LoC ts n k) (h2 : HiC ts n k) : placeC ts n = k :=
  placeC_eq ⟨hk, h1, fun s hs => h2 k s (Nat.le_refl _) hs⟩
/-- the place and whether somebody stands there -/
def SaysPlaceC (ts : List Call) (n : Int) (w : World) (e : Ending) (w' : World) : Prop :=
  e = .returned (.tuple #[.int .i64 (placeC ts n), .bool (whoC ts n).isSome]) ∧ Below w.heap.size w w'
theorem whoC_end {ts : List Call} {n : Int} {k : Nat} (hk : placeC ts n = k) (hl : ts.length ≤ k) : (whoC ts n).isSome = false := by
  unfold whoC; rw [hk, List.getElem?_eq_none hl]; rfl
theorem whoC_at {ts : List Call} {n : Int} {k : Nat} {c : Call} (hk : placeC ts n = k) (hc : ts[k]? = some c) : (whoC ts n).isSome = decide (c.num = n) := by
  unfold whoC; rw [hk, hc]
  by_cases e : c.num = n
  · simp [e]
  · simp [e]
set_option maxRecDepth 100000 in
set_option maxHeartbeats 2000000 in
theorem bsf10_any (a : Option Addr) (len cap : Nat) (ts : List Call) (n : Int) (w : World) (hl : ts.length = len) (hA : areC ts = true) (h : Call.ListAt w a ts) :
    Calls Try.prog 92 #[.slice a len cap, .int .i64 n, .func (.func 93) #[] #[]] w (SaysPlaceC ts n w) := by
  have hm : len ≤ 20 := by rw [← hl]; exact areC_len hA
  have HL := Lib.hid hl; have HI := Lib.hid h; have HP := Lib.hid hA; clear hl h hA
  have eg : ∀ args w, (callFunc 93 args).run Try.prog w = .ok (.enter 93 args) w := enters_of Try.func93 (by kernel_rfl) rfl
  go_enter Try.func92, Try.ntmps92
  go_wp2_with fail
  go_loopw [9, 10, 11] (fun i j _ wr => ∃ lo hi : Nat, i = .int .i64 lo ∧ j = .int .i64 hi ∧ lo ≤ hi ∧ hi ≤ len ∧ LoC ts n lo ∧ HiC ts n hi ∧ Below w.heap.size w wr) (fun i j _ _ => (intOf j - intOf i).toNat)
  case atStart => exact ⟨0, len, rfl, rfl, Nat.zero_le _, Nat.le_refl _, fun t y ht => by omega, fun t y ht hy => by have := lt_of_getC hy; have := HL.out; omega, Below.refl _ _⟩
  case round =>
    obtain ⟨lo, hi, rfl, rfl, h1, h2, h3, h4, hB⟩ := hrel
    have H3 := Lib.hid h3; have H4 := Lib.hid h4; have HB := Lib.hid hB; clear h3 h4 hB
    by_cases hlt : lo < hi
    · obtain ⟨b, off, c, ha, hc, hp⟩ := (HI.out.below HB.out).at HL.out (show (lo + hi) / 2 < len by omega)
      have HY := Lib.hid hp; clear hp
      subst ha
      have HC := Lib.hid (fun W => implPlaceCmp10_any c n W)
      obtain ⟨c0, c1, c2, c3⟩ := hc
      by_cases hyx : c.num < n
      · have HN := Lib.hid (loC_step HP.out HY.out hyx)
        rw [cmpI_lt hyx] at HC
        go_wp2_with fail
        refine (HC.out _).mono ?_; rintro e w3 ⟨rfl, hB⟩
        have HB3 := Lib.hid (HB.out.trans (hB.mono HB.out.size)); clear hB c0 c1 c2 c3
        go_wp2_with fail
        go_roundw
        case rel => exact ⟨(lo + hi) / 2 + 1, hi, by go_num, rfl, by omega, h2, HN.out, H4.out, HB3.out⟩
        case measure => simp [intOf]; omega
      · have HN := Lib.hid (hiC_step HP.out HY.out hyx)
        have hr : 0 ≤ cmpI c.num n := by unfold cmpI; rw [if_neg hyx]; split <;> omega
        generalize cmpI c.num n = r at HC hr
        have hrb : decide (r < 0) = false := decide_eq_false (by omega)
        go_wp2_with fail
        refine (HC.out _).mono ?_; rintro e w3 ⟨rfl, hB⟩
        have HB3 := Lib.hid (HB.out.trans (hB.mono HB.out.size)); clear hB c0 c1 c2 c3
        go_wp2_with fail
        go_roundw
        case rel => exact ⟨lo, (lo + hi) / 2, rfl, by go_num, by omega, by omega, H3.out, HN.out, HB3.out⟩
        case measure => simp [intOf]; omega
    · obtain rfl : hi = lo := by omega
      have HK := Lib.hid (placeC_of (by rw [HL.out]; exact h2) H3.out H4.out)
      by_cases hn : hi < len
      · obtain ⟨b, off, c, ha, hc, hp⟩ := (HI.out.below HB.out).at HL.out hn
        have HY := Lib.hid hp; clear hp
        subst ha
        have HC := Lib.hid (fun W => implPlaceCmp10_any c n W)
        have HW := Lib.hid (whoC_at HK.out HY.out)
        obtain ⟨c0, c1, c2, c3⟩ := hc
        by_cases hyx : c.num = n
        · rw [hyx, cmpI_eq] at HC
          rw [decide_eq_true hyx] at HW
          rw [hyx] at c0
          clear hyx
          go_wp2_with fail
          refine (HC.out _).mono ?_; rintro e w3 ⟨rfl, hB⟩
          have HB3 := Lib.hid (HB.out.trans (hB.mono HB.out.size)); clear hB c0 c1 c2 c3
          go_wp2_with fail
          go_ret2
          exact ⟨by rw [HK.out, HW.out]; rfl, HB3.out⟩
        · have hr : (cmpI c.num n == 0) = false := beq_eq_false_iff_ne.2 (by
            unfold cmpI
            split
            · omega
            · rw [if_pos (by omega)]; omega)
          rw [decide_eq_false hyx] at HW
          generalize cmpI c.num n = r at HC hr
          clear hyx
          go_wp2_with fail
          refine (HC.out _).mono ?_; rintro e w3 ⟨rfl, hB⟩
          have HB3 := Lib.hid (HB.out.trans (hB.mono HB.out.size)); clear hB c0 c1 c2 c3
          go_wp2_with fail
          go_ret2
          exact ⟨by rw [HK.out, HW.out]; rfl, HB3.out⟩
      · have HW := Lib.hid (whoC_end HK.out (show ts.length ≤ hi by rw [HL.out]; omega))
        go_wp2_with fail
        go_ret2
        exact ⟨by rw [HK.out, HW.out]; rfl, HB.out⟩
set_option maxHeartbeats 1000000 in
theorem implPlace10_any (a : Option Addr) (len cap : Nat) (ts : List Call) (n : Int) (w : World) (hl : ts.length = len) (hA : areC ts = true) (h : Call.ListAt w a ts) :
    Calls Try.prog 66 #[.slice a len cap, .int .i64 n] w (SaysPlaceC ts n w) := by
  have HC := Lib.hid (bsf10_any a len cap ts n w hl hA h)
  clear h hl hA
  unfold SaysPlaceC at HC ⊢
  generalize ((placeC ts n : Nat) : Int) = k at HC ⊢
  generalize (whoC ts n).isSome = b at HC ⊢
  go_enter Try.func66, Try.ntmps66
  go_wp2_with fail
  refine HC.out.mono ?_; rintro e w1 ⟨rfl, hB⟩
  have HB := Lib.hid hB; clear hB
  go_wp2_with fail
  go_ret2
  exact ⟨rfl, HB.out⟩

/-- a copy: a list of our own, nil at nil -/
def SaysCL (ts : List Call) (w : World) (e : Ending) (w' : World) : Prop := ∃ v, e = .returned v ∧ Call.Bd w' w.heap.size v ts ∧ Below w.heap.size w w'
set_option maxRecDepth 100000 in
set_option maxHeartbeats 1000000 in
theorem implClone10_any (a : Option Addr) (len cap : Nat) (ts : List Call) (w : World) (hl : ts.length = len) (hm : len ≤ 10000) (h : Call.ListAt w a ts) :
    Calls Try.prog 53 #[.slice a len cap] w (SaysCL ts w) := by
  have q22 : ∀ (w : World) (a : Option Addr) (n c n' c' : Nat), (binOp .eql 25 (.slice a n c) (.slice none n' c')).run Try.prog w = .ok (.bool a.isNone) w := fun w a n c n' c' => Lib.run_eql_slice_nil w _ _ a n c n' c' Try.underlying25
  cases a with
  | none =>
    have h0 : ts = [] := Or.elim h id (fun ⟨b, off, e, _⟩ => by cases e)
    go_enter Try.func53, Try.ntmps53
    go_wp2_with fail
    go_ret
    subst h0
    exact ⟨_, rfl, Call.Bd.nil _ _, Below.refl _ _⟩
  | some ad =>
    have HC := Lib.hid (fun (W : World) (hB : Below w.heap.size w W) j u hu => vals_ofC2 (h.below hB) rfl j u hu)
    have HE := Lib.hid (show Call.Bd (w.alloc (.cells #[] 41)) w.heap.size (.slice (some ⟨w.heap.size, 0, none⟩) 0 0) [] from (Call.L_empty (Nat.le_refl _)).2)
    have HW := Lib.hid (Call.bx w (.cells #[] 41))
    have HL := Lib.hid hl
    clear h
    go_enter Try.func53, Try.ntmps53
    go_wp2_with (at_builtin; refine wpList_call_append rfl _ _ rfl _ [] rfl HE.out ad len cap ts HL.out rfl (HC.out _ HW.out) ?c1 ?c2 ?_)
    case c1 => simp; have := HL.out; omega
    case c2 => simp
    intro v' w' ho hg
    have HB := Lib.hid (HE.out.grew HW.out (Nat.le_refl _) (by simp) hg)
    have HO := Lib.hid ho
    clear ho hg
    go_wp2_with fail
    go_ret
    exact ⟨_, rfl, HO.out, HB.out⟩

end Go.Proofs.Ytekhdggaelppkaa
