/- Contracts: cmp.Compare at int64, slices.BinarySearchFunc and slices.Clone at summonses, the place of a number. -/
import Derived.Test.YtchffaohmeaccaaDoorChecked
import Derived.Test.YtchffaohmeaccaaDoorBase0
import Derived.Test.YtchffaohmeaccaaDoorSummonsB
import Derived.Test.YtchffaohmeaccaaDoorSummonsC
import Derived.Test.YtchffaohmeaccaaDoorSummonsD
import Derived.Test.YtchffaohmeaccaaDoorCmpI
import Derived.Test.YtchffaohmeaccaaDoorImpl9a
import Derived.Shelf.Abstract
import Derived.WalkKit
import Derived.WalkSpells
import Derived.WalkLawsBesides
import Derived.Lib.Hide
import Derived.Lib.QuietBelow
import Derived.IntWalk
import Derived.OwnWalk
import Derived.Outline
namespace Go.Proofs.YtchffaohmeaccaaDoor
open Go.Shelf Go.RowKit Pure1 Pure2

set_option maxHeartbeats 1000000 in
theorem implPlaceCmp_any (c : Summons) (n : Int) (w : World) :
    Calls Tryd.prog 100 #[.agg #[.int .i64 c.num, .int .i64 c.sent, .int .i64 c.due, .int .i64 c.ans, .int .i64 c.done], .int .i64 n] w fun e w' => e = .returned (.int .i64 (cmpI c.num n)) ∧ Below w.heap.size w w' := by
  have HA := Lib.hid (Summons.boxed w c 53)
  have HW := Lib.hid (Summons.bx w (.cells #[.int .i64 c.num, .int .i64 c.sent, .int .i64 c.due, .int .i64 c.ans, .int .i64 c.done] 53))
  have HC := Lib.hid (fun W => implCompare_any c.num n W)
  have HN := Lib.hid (fun W => implNumber9_any c W)
  generalize cmpI c.num n = r at HC ⊢
  have egn : ∀ args w, (callFunc 134 args).run Tryd.prog w = .ok (.enter 134 args) w := enters_of Tryd.func134 (by kernel_rfl) rfl
  have hmeth : ∀ (n : Nat) v W, (method (n + 1) 53 v "loop.example/g01027/impl.number").run Tryd.prog W = .ok (134, v) W := fun n v W => by kernel_rfl
  go_enter Tryd.func100, Tryd.ntmps100
  obtain ⟨a0, a1, a2, a3, a4⟩ := HA.out
  go_wp2_with fail
  refine (HN.out _).mono ?_; rintro e w1 ⟨rfl, hB⟩
  have HB1 := Lib.hid (HW.out.trans (hB.mono HW.out.size)); clear hB a0 a1 a2 a3 a4 hmeth egn
  go_wp2_with fail
  refine (HC.out _).mono ?_; rintro e w2 ⟨rfl, hw⟩
  subst hw
  go_wp2_with fail
  go_ret
  exact ⟨rfl, HB1.out⟩

/-- below the place, from the place on -/
def LoM (ts : List Summons) (n : Int) (k : Nat) : Prop := ∀ (i : Nat) s, i < k → ts[i]? = some s → s.num < n
def HiM (ts : List Summons) (n : Int) (k : Nat) : Prop := ∀ (i : Nat) s, k ≤ i → ts[i]? = some s → ¬ s.num < n
theorem loM_step {ts : List Summons} (h : areM ts = true) {n : Int} {k : Nat} {c : Summons} (hc : ts[k]? = some c) (hl : c.num < n) : LoM ts n (k + 1) := by
  intro i s hi hs
  by_cases e : i = k
  · subst e; rw [hc] at hs; cases hs; exact hl
  · have := areM_lt h k i (by omega) hs hc; omega
theorem hiM_step {ts : List Summons} (h : areM ts = true) {n : Int} {k : Nat} {c : Summons} (hc : ts[k]? = some c) (hl : ¬ c.num < n) : HiM ts n k := by
  intro i s hi hs
  by_cases e : i = k
  · subst e; rw [hc] at hs; cases hs; exact hl
  · have := areM_lt h i k (by omega) hc hs; omega
theorem place_of {ts : List Summons} {n : Int} {k : Nat} (hk : k ≤ ts.length) (h1 : LoM ts n k) (h2 : HiM ts n k) : placeM ts n = k :=
  placeM_eq ⟨hk, h1, fun s hs => h2 k s (Nat.le_refl _) hs⟩
/-- the place and whether somebody stands there -/
def SaysPlace (ts : List Summons) (n : Int) (w : World) (e : Ending) (w' : World) : Prop :=
  e = .returned (.tuple #[.int .i64 (placeM ts n), .bool (whoM ts n).isSome]) ∧ Below w.heap.size w w'
theorem who_end {ts : List Summons} {n : Int} {k : Nat} (hk : placeM ts n = k) (hl : ts.length ≤ k) : (whoM ts n).isSome = false := by
  unfold whoM; rw [hk, List.getElem?_eq_none hl]; rfl
theorem who_at {ts : List Summons} {n : Int} {k : Nat} {c : Summons} (hk : placeM ts n = k) (hc : ts[k]? = some c) : (whoM ts n).isSome = decide (c.num = n) := by
  unfold whoM; rw [hk, hc]
  by_cases e : c.num = n
  · simp [e]
  · simp [e]
set_option maxRecDepth 100000 in
set_option maxHeartbeats 2000000 in
theorem bsf_any (a : Option Addr) (len cap : Nat) (ts : List Summons) (n : Int) (w : World) (hl : ts.length = len) (hA : areM ts = true) (h : Summons.ListAt w a ts) :
    Calls Tryd.prog 99 #[.slice a len cap, .int .i64 n, .func (.func 100) #[] #[]] w (SaysPlace ts n w) := by
  have hm : len ≤ 20 := by rw [← hl]; exact areM_len hA
  have HL := Lib.hid hl; have HI := Lib.hid h; have HP := Lib.hid hA; clear hl h hA
  have eg : ∀ args w, (callFunc 100 args).run Tryd.prog w = .ok (.enter 100 args) w := enters_of Tryd.func100 (by kernel_rfl) rfl
  go_enter Tryd.func99, Tryd.ntmps99
  go_wp2_with fail
  go_loopw [9, 10, 11] (fun i j _ wr => ∃ lo hi : Nat, i = .int .i64 lo ∧ j = .int .i64 hi ∧ lo ≤ hi ∧ hi ≤ len ∧ LoM ts n lo ∧ HiM ts n hi ∧ Below w.heap.size w wr) (fun i j _ _ => (intOf j - intOf i).toNat)
  case atStart => exact ⟨0, len, rfl, rfl, Nat.zero_le _, Nat.le_refl _, fun t y ht => by omega, fun t y ht hy => by have := lt_of_getM hy; have := HL.out; omega, Below.refl _ _⟩
  case round =>
    obtain ⟨lo, hi, rfl, rfl, h1, h2, h3, h4, hB⟩ := hrel
    have H3 := Lib.hid h3; have H4 := Lib.hid h4; have HB := Lib.hid hB; clear h3 h4 hB
    by_cases hlt : lo < hi
    · obtain ⟨b, off, c, ha, hc, hp⟩ := (HI.out.below HB.out).at HL.out (show (lo + hi) / 2 < len by omega)
      have HY := Lib.hid hp; clear hp
      subst ha
      have HC := Lib.hid (fun W => implPlaceCmp_any c n W)
      obtain ⟨c0, c1, c2, c3, c4⟩ := hc
      by_cases hyx : c.num < n
      · have HN := Lib.hid (loM_step HP.out HY.out hyx)
        rw [cmpI_lt hyx] at HC
        go_wp2_with fail
        refine (HC.out _).mono ?_; rintro e w3 ⟨rfl, hB⟩
        have HB3 := Lib.hid (HB.out.trans (hB.mono HB.out.size)); clear hB c0 c1 c2 c3 c4
        go_wp2_with fail
        go_roundw
        case rel => exact ⟨(lo + hi) / 2 + 1, hi, by go_num, rfl, by omega, h2, HN.out, H4.out, HB3.out⟩
        case measure => simp [intOf]; omega
      · have HN := Lib.hid (hiM_step HP.out HY.out hyx)
        have hr : 0 ≤ cmpI c.num n := by unfold cmpI; rw [if_neg hyx]; split <;> omega
        generalize cmpI c.num n = r at HC hr
        have hrb : decide (r < 0) = false := decide_eq_false (by omega)
        go_wp2_with fail
        refine (HC.out _).mono ?_; rintro e w3 ⟨rfl, hB⟩
        have HB3 := Lib.hid (HB.out.trans (hB.mono HB.out.size)); clear hB c0 c1 c2 c3 c4
        go_wp2_with fail
        go_roundw
        case rel => exact ⟨lo, (lo + hi) / 2, rfl, by go_num, by omega, by omega, H3.out, HN.out, HB3.out⟩
        case measure => simp [intOf]; omega
    · obtain rfl : hi = lo := by omega
      have HK := Lib.hid (place_of (by rw [HL.out]; exact h2) H3.out H4.out)
      by_cases hn : hi < len
      · obtain ⟨b, off, c, ha, hc, hp⟩ := (HI.out.below HB.out).at HL.out hn
        have HY := Lib.hid hp; clear hp
        subst ha
        have HC := Lib.hid (fun W => implPlaceCmp_any c n W)
        have HW := Lib.hid (who_at HK.out HY.out)
        obtain ⟨c0, c1, c2, c3, c4⟩ := hc
        by_cases hyx : c.num = n
        · rw [hyx, cmpI_eq] at HC
          rw [decide_eq_true hyx] at HW
          rw [hyx] at c0
          clear hyx
          go_wp2_with fail
          refine (HC.out _).mono ?_; rintro e w3 ⟨rfl, hB⟩
          have HB3 := Lib.hid (HB.out.trans (hB.mono HB.out.size)); clear hB c0 c1 c2 c3 c4
          go_wp2_with fail
          go_ret2
          exact ⟨by rw [HK.out, HW.out]; rfl, HB3.out⟩
        · have hr : (cmpI c.num n == 0) = false := beq_eq_false_iff_ne.2 (by
            unfold cmpI
            split
            · omega
            · rw [if_pos (by omega)]; omega)
          rw [decide_eq_false hyx] at HW
          generalize cmpI c.num n = r at HC hr
          clear hyx
          go_wp2_with fail
          refine (HC.out _).mono ?_; rintro e w3 ⟨rfl, hB⟩
          have HB3 := Lib.hid (HB.out.trans (hB.mono HB.out.size)); clear hB c0 c1 c2 c3 c4
          go_wp2_with fail
          go_ret2
          exact ⟨by rw [HK.out, HW.out]; rfl, HB3.out⟩
      · have HW := Lib.hid (who_end HK.out (show ts.length ≤ hi by rw [HL.out]; omega))
        go_wp2_with fail
        go_ret2
        exact ⟨by rw [HK.out, HW.out]; rfl, HB.out⟩
set_option maxHeartbeats 1000000 in
theorem implPlace9_any (a : Option Addr) (len cap : Nat) (ts : List Summons) (n : Int) (w : World) (hl : ts.length = len) (hA : areM ts = true) (h : Summons.ListAt w a ts) :
    Calls Tryd.prog 80 #[.slice a len cap, .int .i64 n] w (SaysPlace ts n w) := by
  have HC := Lib.hid (bsf_any a len cap ts n w hl hA h)
  clear h hl hA
  unfold SaysPlace at HC ⊢
  generalize ((placeM ts n : Nat) : Int) = k at HC ⊢
  generalize (whoM ts n).isSome = b at HC ⊢
  go_enter Tryd.func80, Tryd.ntmps80
  go_wp2_with fail
  refine HC.out.mono ?_; rintro e w1 ⟨rfl, hB⟩
  have HB := Lib.hid hB; clear hB
  go_wp2_with fail
  go_ret2
  exact ⟨rfl, HB.out⟩

/-- a copy: a list of our own, nil at nil -/
def SaysML (ts : List Summons) (w : World) (e : Ending) (w' : World) : Prop := ∃ v, e = .returned v ∧ Summons.Bd w' w.heap.size v ts ∧ Below w.heap.size w w'
set_option maxRecDepth 100000 in
set_option maxHeartbeats 1000000 in
theorem implClone9_any (a : Option Addr) (len cap : Nat) (ts : List Summons) (w : World) (hl : ts.length = len) (hm : len ≤ 10000) (h : Summons.ListAt w a ts) :
    Calls Tryd.prog 82 #[.slice a len cap] w (SaysML ts w) := by
  have q22 : ∀ (w : World) (a : Option Addr) (n c n' c' : Nat), (binOp .eql 24 (.slice a n c) (.slice none n' c')).run Tryd.prog w = .ok (.bool a.isNone) w := fun w a n c n' c' => Lib.run_eql_slice_nil w _ _ a n c n' c' Tryd.underlying24
  cases a with
  | none =>
    have h0 : ts = [] := Or.elim h id (fun ⟨b, off, e, _⟩ => by cases e)
    go_enter Tryd.func82, Tryd.ntmps82
    go_wp2_with fail
    go_ret
    subst h0
    exact ⟨_, rfl, Summons.Bd.nil _ _, Below.refl _ _⟩
  | some ad =>
    have HC := Lib.hid (fun (W : World) (hB : Below w.heap.size w W) j u hu => vals_ofM2 (h.below hB) rfl j u hu)
    have HE := Lib.hid (show Summons.Bd (w.alloc (.cells #[] 53)) w.heap.size (.slice (some ⟨w.heap.size, 0, none⟩) 0 0) [] from (Summons.L_empty (Nat.le_refl _)).2)
    have HW := Lib.hid (Summons.bx w (.cells #[] 53))
    have HL := Lib.hid hl
    clear h
    go_enter Tryd.func82, Tryd.ntmps82
    go_wp2_with (at_builtin; refine wpList_summ_append rfl _ _ rfl _ [] rfl HE.out ad len cap ts HL.out rfl (HC.out _ HW.out) ?c1 ?c2 ?_)
    case c1 => simp; have := HL.out; omega
    case c2 => simp
    intro v' w' ho hg
    have HB := Lib.hid (HE.out.grew HW.out (Nat.le_refl _) (by simp) hg)
    have HO := Lib.hid ho
    clear ho hg
    go_wp2_with fail
    go_ret
    exact ⟨_, rfl, HO.out, HB.out⟩

end Go.Proofs.YtchffaohmeaccaaDoor
