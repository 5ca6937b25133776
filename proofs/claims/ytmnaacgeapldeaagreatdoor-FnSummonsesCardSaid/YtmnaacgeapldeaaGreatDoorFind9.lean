/- Contracts: cmp.Compare at int64, slices.BinarySearchFunc and slices.Clone at summonses, the place of a number. -/
import Derived.Test.YtmnaacgeapldeaaGreatDoorChecked
import Derived.Test.YtmnaacgeapldeaaGreatDoorBase0
import Derived.Test.YtmnaacgeapldeaaGreatDoorSummonsD
import Derived.Shelf.Abstract
import Derived.WalkKit
import Derived.WalkSpells
import Derived.WalkLawsBesides
import Derived.Lib.Hide
import Derived.Lib.QuietBelow
import Derived.IntWalk
import Derived.OwnWalk
import Derived.Outline
namespace Go.Proofs.YtmnaacgeapldeaaGreatDoor
open Go.Shelf Go.RowKit Pure1 Pure2

def cmpI (x y : Int) : Int := if x < y then -1 else if y < x then 1 else 0
set_option maxHeartbeats 1000000 in
theorem implNaN_any (x : Int) (w : World) : Calls Tryz.prog 79 #[.int .i64 x] w fun e w' => e = .returned (.bool false) ∧ w' = w := by
  have hx : (x != x) = false := by simp
  go_enter Tryz.func79, Tryz.ntmps79
  go_wp2_with fail
  go_ret
  exact ⟨rfl, rfl⟩
set_option maxHeartbeats 1000000 in
theorem implCompare_any (x y : Int) (w : World) : Calls Tryz.prog 69 #[.int .i64 x, .int .i64 y] w fun e w' => e = .returned (.int .i64 (cmpI x y)) ∧ w' = w := by
  have H1 := Lib.hid (implNaN_any x w)
  have H2 := Lib.hid (implNaN_any y w)
  by_cases h : x < y
  · have HN := Lib.hid (show cmpI x y = -1 from if_pos h)
    go_enter Tryz.func69, Tryz.ntmps69
    go_wp2_with fail
    refine H1.out.mono ?_; rintro e w1 ⟨rfl, rfl⟩
    go_wp2_with fail
    refine H2.out.mono ?_; rintro e w1 ⟨rfl, rfl⟩
    go_wp2_with fail
    go_ret
    exact ⟨ret_i64 HN.out.symm, rfl⟩
  · have hb : decide (x < y) = false := decide_eq_false h
    by_cases h2 : y < x
    · have HN := Lib.hid (show cmpI x y = 1 by unfold cmpI; rw [if_neg h, if_pos h2])
      go_enter Tryz.func69, Tryz.ntmps69
      go_wp2_with fail
      refine H1.out.mono ?_; rintro e w1 ⟨rfl, rfl⟩
      go_wp2_with fail
      refine H2.out.mono ?_; rintro e w1 ⟨rfl, rfl⟩
      go_wp2_with fail
      go_ret
      exact ⟨ret_i64 HN.out.symm, rfl⟩
    · have HN := Lib.hid (show cmpI x y = 0 by unfold cmpI; rw [if_neg h, if_neg h2])
      have hb2 : decide (x > y) = false := decide_eq_false h2
      go_enter Tryz.func69, Tryz.ntmps69
      go_wp2_with fail
      refine H1.out.mono ?_; rintro e w1 ⟨rfl, rfl⟩
      go_wp2_with fail
      refine H2.out.mono ?_; rintro e w1 ⟨rfl, rfl⟩
      go_wp2_with fail
      go_ret
      exact ⟨ret_i64 HN.out.symm, rfl⟩


theorem cmpI_lt {x y : Int} (h : x < y) : cmpI x y = -1 := if_pos h
theorem cmpI_eq (x : Int) : cmpI x x = 0 := by unfold cmpI; simp
theorem cmpI_gt {x y : Int} (h : y < x) : cmpI x y = 1 := by unfold cmpI; rw [if_neg (by omega), if_pos h]
set_option maxHeartbeats 1000000 in
theorem implPlaceCmp_any (c : Summons) (n : Int) (w : World) :
    Calls Tryz.prog 68 #[.agg #[.int .i64 c.num, .int .i64 c.sent, .int .i64 c.due, .int .i64 c.ans, .int .i64 c.done], .int .i64 n] w fun e w' => e = .returned (.int .i64 (cmpI c.num n)) ∧ Below w.heap.size w w' := by
  have HA := Lib.hid (Summons.boxed w c 58)
  have HW := Lib.hid (Summons.bx w (.cells #[.int .i64 c.num, .int .i64 c.sent, .int .i64 c.due, .int .i64 c.ans, .int .i64 c.done] 58))
  have HC := Lib.hid (fun W => implCompare_any c.num n W)
  generalize cmpI c.num n = r at HC ⊢
  go_enter Tryz.func68, Tryz.ntmps68
  obtain ⟨a0, a1, a2, a3, a4⟩ := HA.out
  go_wp2_with fail
  refine (HC.out _).mono ?_; rintro e w1 ⟨rfl, hw⟩
  subst hw
  go_wp2_with fail
  go_ret
  exact ⟨rfl, HW.out⟩

/-- below the place, from the place on -/
def LoM (ts : List Summons) (n : Int) (k : Nat) : Prop := ∀ (i : Nat) s, i < k → ts[i]? = some s → s.num < n
def HiM (ts : List Summons) (n : Int) (k : Nat) : Prop := ∀ (i : Nat) s, k ≤ i → ts[i]? = some s → ¬ s.num < n
theorem loM_step {ts : List Summons} (h : areM ts = true) {n : Int} {k : Nat} {c : Summons} (hc : ts[k]? = some c) (hl : c.num < n) : LoM ts n (k + 1) := by
  intro i s hi hs
  by_cases e : i = k
  · subst e; rw [hc] at hs; cases hs; exact hl
  · have := areM_lt h k i (by omega) hs hc; omega
theorem hiM_step {ts : List Summons} (h : areM ts = true) {n : Int} {k : Nat} {c : Summons} (hc : ts[k]? = some c) (hl : ¬ c.num < n) : HiM ts n k := by
  intro i s hi hs
  by_cases e : i = k
  · subst e; rw [hc] at hs; cases hs; exact hl
  · have := areM_lt h i k (by omega) hc hs; omega
theorem place_of {ts : List Summons} {n : Int} {k : Nat} (hk : k ≤ ts.length) (h1 : LoM ts n k) (h2 : HiM ts n k) : placeM ts n = k :=
  placeM_eq ⟨hk, h1, fun s hs => h2 k s (Nat.le_refl _) hs⟩
/-- the place and whether somebody stands there -/
def SaysPlace (ts : List Summons) (n : Int) (w : World) (e : Ending) (w' : World) : Prop :=
  e = .returned (.tuple #[.int .i64 (placeM ts n), .bool (whoM ts n).isSome]) ∧ Below w.heap.size w w'
theorem who_end {ts : List Summons} {n : Int} {k : Nat} (hk : placeM ts n = k) (hl : ts.length ≤ k) : (whoM ts n).isSome = false := by
  unfold whoM; rw [hk, List.getElem?_eq_none hl]; rfl
theorem who_at {ts : List Summons} {n : Int} {k : Nat} {c : Summons} (hk : placeM ts n = k) (hc : ts[k]? = some c) : (whoM ts n).isSome = decide (c.num = n) := by
  unfold whoM; rw [hk, hc]
  by_cases e : c.num = n
  · simp [e]
  · simp [e]
set_option maxRecDepth 100000 in
set_option maxHeartbeats 2000000 in
theorem bsf_any (a : Option Addr) (len cap : Nat) (ts : List Summons) (n : Int) (w : World) (hl : ts.length = len) (hA : areM ts = true) (h : Summons.ListAt w a ts) :
    Calls Tryz.prog 67 #[.slice a len cap, .int .i64 n, .func (.func 68) #[] #[]] w (SaysPlace ts n w) := by
  have hm : len ≤ 20 := by rw [← hl]; exact areM_len hA
  have HL := Lib.hid hl; have HI := Lib.hid h; have HP := Lib.hid hA; clear hl h hA
  have eg : ∀ args w, (callFunc 68 args).run Tryz.prog w = .ok (.enter 68 args) w := enters_of Tryz.func68 (by kernel_rfl) rfl
  go_enter Tryz.func67, Tryz.ntmps67
  go_wp2_with fail
  go_loopw [9, 10, 11] (fun i j _ wr => ∃ lo hi : Nat, i = .int .i64 lo ∧ j = .int .i64 hi ∧ lo ≤ hi ∧ hi ≤ len ∧ LoM ts n lo ∧ HiM ts n hi ∧ Below w.heap.size w wr) (fun i j _ _ => (intOf j - intOf i).toNat)
  case atStart => exact ⟨0, len, rfl, rfl, Nat.zero_le _, Nat.le_refl _, fun t y ht => by omega, fun t y ht hy => by have := lt_of_getM hy; have := HL.out; omega, Below.refl _ _⟩
  case round =>
    obtain ⟨lo, hi, rfl, rfl, h1, h2, h3, h4, hB⟩ := hrel
    have H3 := Lib.hid h3; have H4 := Lib.hid h4; have HB := Lib.hid hB; clear h3 h4 hB
    by_cases hlt : lo < hi
    · obtain ⟨b, off, c, ha, hc, hp⟩ := (HI.out.below HB.out).at HL.out (show (lo + hi) / 2 < len by omega)
      have HY := Lib.hid hp; clear hp
      subst ha
      have HC := Lib.hid (fun W => implPlaceCmp_any c n W)
      obtain ⟨c0, c1, c2, c3, c4⟩ := hc
      by_cases hyx : c.num < n
      · have HN := Lib.hid (loM_step HP.out HY.out hyx)
        rw [cmpI_lt hyx] at HC
        go_wp2_with fail
        refine (HC.out _).mono ?_; rintro e w3 ⟨rfl, hB⟩
        have HB3 := Lib.hid (HB.out.trans (hB.mono HB.out.size)); clear hB c0 c1 c2 c3 c4
        go_wp2_with fail
        go_roundw
        case rel => exact ⟨(lo + hi) / 2 + 1, hi, by go_num, rfl, by omega, h2, HN.out, H4.out, HB3.out⟩
        case measure => simp [intOf]; omega
      · have HN := Lib.hid (hiM_step HP.out HY.out hyx)
        have hr : 0 ≤ cmpI c.num n := by unfold cmpI; rw [if_neg hyx]; split <;> omega
        generalize cmpI c.num n = r at HC hr
        have hrb : decide (r < 0) = false := decide_eq_false (by omega)
        go_wp2_with fail
        refine (HC.out _).mono ?_; rintro e w3 ⟨rfl, hB⟩
        have HB3 := Lib.hid (HB.out.trans (hB.mono HB.out.size)); clear hB c0 c1 c2 c3 c4
        go_wp2_with fail
        go_roundw
        case rel => exact ⟨lo, (lo + hi) / 2, rfl, by go_num, by omega, by omega, H3.out, HN.out, HB3.out⟩
        case measure => simp [intOf]; omega
    · obtain rfl : hi = lo := by omega
      have HK := Lib.hid (place_of (by rw [HL.out]; exact h2) H3.out H4.out)
      by_cases hn : hi < len
      · obtain ⟨b, off, c, ha, hc, hp⟩ := (HI.out.below HB.out).at HL.out hn
        have HY := Lib.hid hp; clear hp
        subst ha
        have HC := Lib.hid (fun W => implPlaceCmp_any c n W)
        have HW := Lib.hid (who_at HK.out HY.out)
        obtain ⟨c0, c1, c2, c3, c4⟩ := hc
        by_cases hyx : c.num = n
        · rw [hyx, cmpI_eq] at HC
          rw [decide_eq_true hyx] at HW
          rw [hyx] at c0
          clear hyx
          go_wp2_with fail
          refine (HC.out _).mono ?_; rintro e w3 ⟨rfl, hB⟩
          have HB3 := Lib.hid (HB.out.trans (hB.mono HB.out.size)); clear hB c0 c1 c2 c3 c4
          go_wp2_with fail
          go_ret2
          exact ⟨by rw [HK.out, HW.out]; rfl, HB3.out⟩
        · have hr : (cmpI c.num n == 0) = false := beq_eq_false_iff_ne.2 (by
            unfold cmpI
            split
            · omega
            · rw [if_pos (by omega)]; omega)
          rw [decide_eq_false hyx] at HW
          generalize cmpI c.num n = r at HC hr
          clear hyx
          go_wp2_with fail
          refine (HC.out _).mono ?_; rintro e w3 ⟨rfl, hB⟩
          have HB3 := Lib.hid (HB.out.trans (hB.mono HB.out.size)); clear hB c0 c1 c2 c3 c4
          go_wp2_with fail
          go_ret2
          exact ⟨by rw [HK.out, HW.out]; rfl, HB3.out⟩
      · have HW := Lib.hid (who_end HK.out (show ts.length ≤ hi by rw [HL.out]; omega))
        go_wp2_with fail
        go_ret2
        exact ⟨by rw [HK.out, HW.out]; rfl, HB.out⟩
set_option maxHeartbeats 1000000 in
theorem implPlace9_any (a : Option Addr) (len cap : Nat) (ts : List Summons) (n : Int) (w : World) (hl : ts.length = len) (hA : areM ts = true) (h : Summons.ListAt w a ts) :
    Calls Tryz.prog 48 #[.slice a len cap, .int .i64 n] w (SaysPlace ts n w) := by
  have HC := Lib.hid (bsf_any a len cap ts n w hl hA h)
  clear h hl hA
  unfold SaysPlace at HC ⊢
  generalize ((placeM ts n : Nat) : Int) = k at HC ⊢
  generalize (whoM ts n).isSome = b at HC ⊢
  go_enter Tryz.func48, Tryz.ntmps48
  go_wp2_with fail
  refine HC.out.mono ?_; rintro e w1 ⟨rfl, hB⟩
  have HB := Lib.hid hB; clear hB
  go_wp2_with fail
  go_ret2
  exact ⟨rfl, HB.out⟩

/-- a copy: a list of our own, nil at nil -/
def SaysML (ts : List Summons) (w : World) (e : Ending) (w' : World) : Prop := ∃ v, e = .returned v ∧ Summons.Bd w' w.heap.size v ts ∧ Below w.heap.size w w'
set_option maxRecDepth 100000 in
set_option maxHeartbeats 1000000 in
theorem implClone9_any (a : Option Addr) (len cap : Nat) (ts : List Summons) (w : World) (hl : ts.length = len) (hm : len ≤ 10000) (h : Summons.ListAt w a ts) :
    Calls Tryz.prog 50 #[.slice a len cap] w (SaysML ts w) := by
  have q22 : ∀ (w : World) (a : Option Addr) (n c n' c' : Nat), (binOp .eql 25 (.slice a n c) (.slice none n' c')).run Tryz.prog w = .ok (.bool a.isNone) w := fun w a n c n' c' => Lib.run_eql_slice_nil w _ _ a n c n' c' Tryz.underlying25
  cases a with
  | none =>
    have h0 : ts = [] := Or.elim h id (fun ⟨b, off, e, _⟩ => by cases e)
    go_enter Tryz.func50, Tryz.ntmps50
    go_wp2_with fail
    go_ret
    subst h0
    exact ⟨_, rfl, Summons.Bd.nil _ _, Below.refl _ _⟩
  | some ad =>
    have HC := Lib.hid (fun (W : World) (hB : Below w.heap.size w W) j u hu => vals_ofM2 (h.below hB) rfl j u hu)
    have HE := Lib.hid (show Summons.Bd (w.alloc (.cells #[] 58)) w.heap.size (.slice (some ⟨w.heap.size, 0, none⟩) 0 0) [] from (Summons.L_empty (Nat.le_refl _)).2)
    have HW := Lib.hid (Summons.bx w (.cells #[] 58))
    have HL := Lib.hid hl
    clear h
    go_enter Tryz.func50, Tryz.ntmps50
    go_wp2_with (at_builtin; refine wpList_summ_append rfl _ _ rfl _ [] rfl HE.out ad len cap ts HL.out rfl (HC.out _ HW.out) ?c1 ?c2 ?_)
    case c1 => simp; have := HL.out; omega
    case c2 => simp
    intro v' w' ho hg
    have HB := Lib.hid (HE.out.grew HW.out (Nat.le_refl _) (by simp) hg)
    have HO := Lib.hid ho
    clear ho hg
    go_wp2_with fail
    go_ret
    exact ⟨_, rfl, HO.out, HB.out⟩

end Go.Proofs.YtmnaacgeapldeaaGreatDoor
