/- Contracts: slices.IndexFunc at persons with FindPerson's own closure, impl.FindPerson, spec.l04Find, spec.FindPerson. -/
import Derived.Test.YtlaeceglcmnhbaaChecked
import Derived.Test.YtlaeceglcmnhbaaBase
import Derived.Test.YtlaeceglcmnhbaaPure41
import Derived.Test.YtlaeceglcmnhbaaArePers
import Derived.Test.YtlaeceglcmnhbaaAns4
import Derived.WalkKit
import Derived.WalkSpells
import Derived.WalkLawsBesides
import Derived.Lib.Hide
import Derived.IntWalk
import Derived.Outline
import Derived.Shelf.Abstract
import Derived.Test.YtlaeceglcmnhbaaCmpI
namespace Go.Proofs.Ytlaeceglcmnhbaa
open Go.Shelf Go.RowKit Pure1 Pure40 Pure41

/-- the index of the first person with a number, or -1 -/
def findP (ps : List Pers) (n : Int) : Int :=
  match ps.findIdx? (fun p => p.num == n) with
  | some i => (i : Int)
  | none => -1
theorem findP_hit {ps : List Pers} {n : Int} {k : Nat} {p : Pers} (h : ∀ i q, i < k → ps[i]? = some q → q.num ≠ n) (hp : ps[k]? = some p) (hn : p.num = n) : findP ps n = (k : Int) := by
  obtain ⟨hk, rfl⟩ := List.getElem?_eq_some_iff.1 hp
  have : ps.findIdx? (fun p => p.num == n) = some k := by
    rw [List.findIdx?_eq_some_iff_getElem]
    refine ⟨hk, by simpa using hn, fun j hj => ?_⟩
    have := h j _ hj (List.getElem?_eq_getElem (by omega))
    simpa using this
  rw [findP, this]
theorem findP_none {ps : List Pers} {n : Int} (h : ∀ (i : Nat) (q : Pers), ps[i]? = some q → q.num ≠ n) : findP ps n = -1 := by
  have : ps.findIdx? (fun p => p.num == n) = none := by
    rw [List.findIdx?_eq_none_iff]
    intro q hq
    obtain ⟨i, hi⟩ := List.getElem?_of_mem hq
    have := h i q hi
    simpa using this
  rw [findP, this]
theorem findP_cases (ps : List Pers) (n : Int) : findP ps n = -1 ∨ ∃ k : Nat, k < ps.length ∧ findP ps n = (k : Int) := by
  unfold findP
  cases h : ps.findIdx? (fun p => p.num == n) with
  | none => exact .inl rfl
  | some i => exact .inr ⟨i, by rw [List.findIdx?_eq_some_iff_getElem] at h; exact h.1, rfl⟩
/-- FindPerson's answer -/
def findOfP (ps : List Pers) (n : Int) : Int × Int := if arePers ps = true then (if findP ps n < 0 then (0, 4) else (findP ps n, 0)) else (0, 1)

set_option maxHeartbeats 1000000 in
theorem implPlaceCmpP_any (c : Pers) (n : Int) (w : World) :
    Calls Try.prog 54 #[.agg #[.int .i64 c.num, .string c.fst, .string c.lst, .int .i64 c.born, .int .i64 c.zone], .int .i64 n] w fun e w' => e = .returned (.int .i64 (cmpI c.num n)) ∧ Below w.heap.size w w' := by
  have HA := Lib.hid (atB_box w c.num c.fst c.lst c.born c.zone 25)
  have HW := Lib.hid ((Below.refl w.heap.size w).alloc (Nat.le_refl _) (.cells #[.int .i64 c.num, .string c.fst, .string c.lst, .int .i64 c.born, .int .i64 c.zone] 25))
  have HC := Lib.hid (fun W => implCompare_any c.num n W)
  have HN := Lib.hid (fun W => implNumberP_any c W)
  generalize cmpI c.num n = r at HC ⊢
  have egn : ∀ args w, (callFunc 76 args).run Try.prog w = .ok (.enter 76 args) w := enters_of Try.func76 (by kernel_rfl) rfl
  have hmeth : ∀ (n : Nat) v W, (method (n + 1) 25 v "loop.example/g01027/impl.number").run Try.prog W = .ok (76, v) W := fun n v W => by kernel_rfl
  go_enter Try.func54, Try.ntmps54
  obtain ⟨a0, a1, a2, a3, a4⟩ := HA.out
  go_wp2_with fail
  refine (HN.out _).mono ?_; rintro e w1 ⟨rfl, hB⟩
  have HB1 := Lib.hid (HW.out.trans (hB.mono HW.out.size)); clear hB a0 a1 a2 a3 a4 hmeth egn
  go_wp2_with fail
  refine (HC.out _).mono ?_; rintro e w2 ⟨rfl, hw⟩
  subst hw
  go_wp2_with fail
  go_ret
  exact ⟨rfl, HB1.out⟩

/-- persons stand in the order of their numbers -/
theorem arePers_next {ps : List Pers} (h : arePers ps = true) {i : Nat} {a b : Pers} (ha : ps[i]? = some a) (hb : ps[i + 1]? = some b) : a.num < b.num := by
  simp only [arePers, Bool.and_eq_true, List.all_eq_true] at h
  have := h.1 (i + 1) (List.mem_range.2 (List.getElem?_eq_some_iff.1 hb).1)
  rw [okAt_succ hb ha, Bool.and_eq_true] at this
  exact of_decide_eq_true this.2
theorem arePers_lt {ps : List Pers} (h : arePers ps = true) : ∀ (j i : Nat) {a b : Pers}, i < j → ps[i]? = some a → ps[j]? = some b → a.num < b.num := by
  intro j
  induction j with
  | zero => intro i a b hi; omega
  | succ j ih =>
    intro i a b hi ha hb
    have hj : ps[j]? = some (ps[j]'(by have := (List.getElem?_eq_some_iff.1 hb).1; omega)) := List.getElem?_eq_getElem _
    have h1 := arePers_next h hj hb
    by_cases e : i = j
    · subst e; rw [ha] at hj; cases hj; exact h1
    · have := ih i (by omega) ha hj; omega
def LoP (ps : List Pers) (n : Int) (k : Nat) : Prop := ∀ (i : Nat) s, i < k → ps[i]? = some s → s.num < n
def HiP (ps : List Pers) (n : Int) (k : Nat) : Prop := ∀ (i : Nat) s, k ≤ i → ps[i]? = some s → ¬ s.num < n
theorem loP_step {ps : List Pers} (h : arePers ps = true) {n : Int} {k : Nat} {c : Pers} (hc : ps[k]? = some c) (hl : c.num < n) : LoP ps n (k + 1) := by
  intro i s hi hs
  by_cases e : i = k
  · subst e; rw [hc] at hs; cases hs; exact hl
  · have := arePers_lt h k i (by omega) hs hc; omega
theorem hiP_step {ps : List Pers} (h : arePers ps = true) {n : Int} {k : Nat} {c : Pers} (hc : ps[k]? = some c) (hl : ¬ c.num < n) : HiP ps n k := by
  intro i s hi hs
  by_cases e : i = k
  · subst e; rw [hc] at hs; cases hs; exact hl
  · have := arePers_lt h i k (by omega) hc hs; omega
theorem placeP_hit {ps : List Pers} {n : Int} {k : Nat} {c : Pers} (h : LoP ps n k) (hc : ps[k]? = some c) (he : c.num = n) : findP ps n = (k : Int) := findP_hit (fun i q hi hq => by have := h i q hi hq; omega) hc he
theorem placeP_miss {ps : List Pers} (hA : arePers ps = true) {n : Int} {k : Nat} {c : Pers} (h : LoP ps n k) (h' : HiP ps n k) (hc : ps[k]? = some c) (he : ¬ c.num = n) : findP ps n = -1 := findP_none fun i q hq => by
  intro e
  by_cases c1 : i < k
  · have := h i q c1 hq; omega
  · by_cases c2 : i = k
    · subst c2; rw [hc] at hq; cases hq; exact he e
    · have h1 := arePers_lt hA i k (by omega) hc hq
      have := h' k c (Nat.le_refl _) hc
      omega
theorem placeP_end {ps : List Pers} {n : Int} {k : Nat} (h : LoP ps n k) (hk : ps.length ≤ k) : findP ps n = -1 := findP_none fun i q hq => by have := h i q (by have := (List.getElem?_eq_some_iff.1 hq).1; omega) hq; omega
/-- where a number is, and whether it is there -/
def SaysPlaceP (ps : List Pers) (n : Int) (w : World) (e : Ending) (w' : World) : Prop :=
  ∃ (i : Nat) (b : Bool), e = .returned (.tuple #[.int .i64 i, .bool b]) ∧ findP ps n = (if b = true then (i : Int) else -1) ∧ Below w.heap.size w w'
set_option maxRecDepth 100000 in
set_option maxHeartbeats 2000000 in
theorem bsfP_any (a : Option Addr) (len cap : Nat) (ps : List Pers) (n : Int) (w : World) (hl : ps.length = len) (hA : arePers ps = true) (h : PersAt w a ps) :
    Calls Try.prog 53 #[.slice a len cap, .int .i64 n, .func (.func 54) #[] #[]] w (SaysPlaceP ps n w) := by
  have hm : len ≤ 12 := by rw [← hl]; exact arePers_len hA
  have HL := Lib.hid hl; have HI := Lib.hid h; have HP := Lib.hid hA; clear hl h hA
  have eg : ∀ args w, (callFunc 54 args).run Try.prog w = .ok (.enter 54 args) w := enters_of Try.func54 (by kernel_rfl) rfl
  go_enter Try.func53, Try.ntmps53
  go_wp2_with fail
  go_loopw [9, 10, 11] (fun i j _ wr => ∃ lo hi : Nat, i = .int .i64 lo ∧ j = .int .i64 hi ∧ lo ≤ hi ∧ hi ≤ len ∧ LoP ps n lo ∧ HiP ps n hi ∧ Below w.heap.size w wr) (fun i j _ _ => (intOf j - intOf i).toNat)
  case atStart => exact ⟨0, len, rfl, rfl, Nat.zero_le _, Nat.le_refl _, fun t y ht => by omega, fun t y ht hy => by have := (List.getElem?_eq_some_iff.1 hy).1; have := HL.out; omega, Below.refl _ _⟩
  case round =>
    obtain ⟨lo, hi, rfl, rfl, h1, h2, h3, h4, hB⟩ := hrel
    have H3 := Lib.hid h3; have H4 := Lib.hid h4; have HB := Lib.hid hB; clear h3 h4 hB
    by_cases hlt : lo < hi
    · obtain ⟨b, off, c, ha, hc, hp⟩ := (HI.out.below HB.out).at HL.out (show (lo + hi) / 2 < len by omega)
      have HY := Lib.hid hp; clear hp
      subst ha
      have HC := Lib.hid (fun W => implPlaceCmpP_any c n W)
      obtain ⟨c0, c1, c2, c3, c4⟩ := hc
      by_cases hyx : c.num < n
      · have HN := Lib.hid (loP_step HP.out HY.out hyx)
        rw [cmpI_lt hyx] at HC
        go_wp2_with fail
        refine (HC.out _).mono ?_; rintro e w3 ⟨rfl, hB⟩
        have HB3 := Lib.hid (HB.out.trans (hB.mono HB.out.size)); clear hB c0 c1 c2 c3 c4
        go_wp2_with fail
        go_roundw
        case rel => exact ⟨(lo + hi) / 2 + 1, hi, by go_num, rfl, by omega, h2, HN.out, H4.out, HB3.out⟩
        case measure => simp [intOf]; omega
      · have HN := Lib.hid (hiP_step HP.out HY.out hyx)
        have hr : 0 ≤ cmpI c.num n := by unfold cmpI; rw [if_neg hyx]; split <;> omega
        generalize cmpI c.num n = r at HC hr
        have hrb : decide (r < 0) = false := decide_eq_false (by omega)
        go_wp2_with fail
        refine (HC.out _).mono ?_; rintro e w3 ⟨rfl, hB⟩
        have HB3 := Lib.hid (HB.out.trans (hB.mono HB.out.size)); clear hB c0 c1 c2 c3 c4
        go_wp2_with fail
        go_roundw
        case rel => exact ⟨lo, (lo + hi) / 2, rfl, by go_num, by omega, by omega, H3.out, HN.out, HB3.out⟩
        case measure => simp [intOf]; omega
    · obtain rfl : hi = lo := by omega
      by_cases hn : hi < len
      · obtain ⟨b, off, c, ha, hc, hp⟩ := (HI.out.below HB.out).at HL.out hn
        have HY := Lib.hid hp; clear hp
        subst ha
        have HC := Lib.hid (fun W => implPlaceCmpP_any c n W)
        obtain ⟨c0, c1, c2, c3, c4⟩ := hc
        by_cases hyx : c.num = n
        · have HW := Lib.hid (placeP_hit H3.out HY.out hyx)
          rw [hyx, cmpI_eq] at HC
          rw [hyx] at c0
          clear hyx
          go_wp2_with fail
          refine (HC.out _).mono ?_; rintro e w3 ⟨rfl, hB⟩
          have HB3 := Lib.hid (HB.out.trans (hB.mono HB.out.size)); clear hB c0 c1 c2 c3 c4
          go_wp2_with fail
          go_ret2
          exact ⟨hi, true, rfl, by rw [HW.out]; rfl, HB3.out⟩
        · have hr : (cmpI c.num n == 0) = false := beq_eq_false_iff_ne.2 (by
            unfold cmpI
            split
            · omega
            · rw [if_pos (by omega)]; omega)
          have HW := Lib.hid (placeP_miss HP.out H3.out H4.out HY.out hyx)
          generalize cmpI c.num n = r at HC hr
          clear hyx
          go_wp2_with fail
          refine (HC.out _).mono ?_; rintro e w3 ⟨rfl, hB⟩
          have HB3 := Lib.hid (HB.out.trans (hB.mono HB.out.size)); clear hB c0 c1 c2 c3 c4
          go_wp2_with fail
          go_ret2
          exact ⟨hi, false, rfl, by rw [HW.out]; rfl, HB3.out⟩
      · have HW := Lib.hid (placeP_end H3.out (show ps.length ≤ hi by rw [HL.out]; omega))
        go_wp2_with fail
        go_ret2
        exact ⟨hi, false, rfl, by rw [HW.out]; rfl, HB.out⟩
set_option maxHeartbeats 1000000 in
theorem implPlaceP_any (a : Option Addr) (len cap : Nat) (ps : List Pers) (n : Int) (w : World) (hl : ps.length = len) (hA : arePers ps = true) (h : PersAt w a ps) :
    Calls Try.prog 39 #[.slice a len cap, .int .i64 n] w (SaysPlaceP ps n w) := by
  have HC := Lib.hid (bsfP_any a len cap ps n w hl hA h)
  clear h hl hA
  go_enter Try.func39, Try.ntmps39
  go_wp2_with fail
  refine HC.out.mono ?_; rintro e w1 ⟨i, b, rfl, hf, hB⟩
  have HB := Lib.hid hB; have HF := Lib.hid hf; clear hB hf
  go_wp2_with fail
  go_ret2
  exact ⟨i, b, rfl, HF.out, HB.out⟩

set_option maxRecDepth 100000 in
set_option maxHeartbeats 1000000 in
theorem implFindPerson_any (a : Option Addr) (len cap : Nat) (ps : List Pers) (n : Int) (w : World) (hl : ps.length = len) (hm : len ≤ maxLen) (hI : PersAt w a ps) (hF : Fits ps) :
    Calls Try.prog 18 #[.slice a len cap, .int .i64 n] w (SaysV (two (findOfP ps n)) w) := by
  have HP := Lib.hid (implArePersons_any a len cap ps w hl hm hI hF)
  cases har : arePers ps
  · have HN := Lib.hid (show two (findOfP ps n) = .tuple #[.int .i64 0, .int .i64 1] by rw [findOfP, if_neg (by rw [har]; simp)]; rfl)
    rw [har] at HP
    clear hl hI hF har
    go_enter Try.func18, Try.ntmps18
    go_wp2_with fail
    refine HP.out.mono ?_; rintro e w1 ⟨rfl, hB⟩; have HB1 := Lib.hid hB; clear hB
    go_wp2_with fail
    go_ret2
    exact ⟨ret_of HN.out.symm, HB1.out⟩
  · have HN := Lib.hid (show findOfP ps n = if findP ps n < 0 then (0, 4) else (findP ps n, 0) by rw [findOfP, if_pos har])
    have HX := Lib.hid (fun (W : World) (hB : Below w.heap.size w W) => implPlaceP_any a len cap ps n W hl har (hI.below hB))
    rw [har] at HP
    clear hl hI hF har
    go_enter Try.func18, Try.ntmps18
    go_wp2_with fail
    refine HP.out.mono ?_; rintro e w1 ⟨rfl, hB⟩; have HB1 := Lib.hid hB; clear hB
    go_wp2_with fail
    refine (HX.out w1 HB1.out).mono ?_; rintro e w2 ⟨i, b, rfl, hf, hB⟩
    have HB2 := Lib.hid (HB1.out.trans (hB.mono HB1.out.size)); have HF := Lib.hid hf; clear hB hf
    cases b
    · go_wp2_with fail
      go_ret2
      exact ⟨ret_of (by rw [HN.out, HF.out]; rfl), HB2.out⟩
    · go_wp2_with fail
      go_ret2
      exact ⟨ret_of (by rw [HN.out, HF.out]; simp; rw [if_neg (by omega)]; rfl), HB2.out⟩

set_option maxRecDepth 100000 in
set_option maxHeartbeats 1000000 in
theorem specFind_any (a : Option Addr) (len cap : Nat) (ps : List Pers) (m : Int) (w : World) (hl : ps.length = len) (hm : len ≤ maxLen) (hI : PersAt w a ps) :
    Calls Try.prog 40 #[.slice a len cap, .int .i64 m] w fun e w' => e = .returned (.int .i64 (findP ps m)) ∧ w' = w := by
  unfold maxLen at hm
  have HL := Lib.hid hl; have HI := Lib.hid hI
  clear hl hI
  go_enter Try.func40, Try.ntmps40
  go_wp2
  go_loop [5] (fun i => ∃ k : Nat, k ≤ len ∧ i = .int .i64 k ∧ (∀ j q, j < k → ps[j]? = some q → q.num ≠ m)) (fun i => len - (intOf i).toNat)
  case atStart => exact ⟨0, Nat.zero_le _, rfl, fun j q hj => by omega⟩
  case round =>
    obtain ⟨k, hk, rfl, hall⟩ := hrel
    have HA := Lib.hid hall; clear hall
    by_cases hlt : k < len
    · obtain ⟨b, off, p, rfl, hc, hp⟩ := HI.out.at HL.out hlt
      obtain ⟨c0, c1, c2, c3, c4⟩ := hc
      have HP := Lib.hid hp; clear hp
      by_cases hn : p.num = m
      · have HN := Lib.hid (findP_hit HA.out HP.out hn)
        have hn2 : (p.num == m) = true := beq_iff_eq.2 hn
        clear hn
        go_wp2
        go_ret
        exact ⟨ret_i64 HN.out.symm, rfl⟩
      · have HN := Lib.hid (show ∀ j q, j < k + 1 → ps[j]? = some q → q.num ≠ m from fun j q hj hq => by
          by_cases e : j = k
          · subst e; have := HP.out; rw [hq] at this; cases this; exact hn
          · exact HA.out j q (by omega) hq)
        have hn2 : (p.num == m) = false := beq_eq_false_iff_ne.2 hn
        clear hn
        go_wp2
        go_round
        case rel => exact ⟨k + 1, by omega, by go_num, HN.out⟩
        case measure => simp [intOf]; omega
    · have HN := Lib.hid (findP_none (ps := ps) (n := m) (fun i q hq => HA.out i q (by have := (List.getElem?_eq_some_iff.1 hq).1; rw [HL.out] at this; omega) hq))
      go_wp2
      go_ret
      exact ⟨ret_i64 HN.out.symm, rfl⟩

set_option maxRecDepth 100000 in
set_option maxHeartbeats 1000000 in
theorem specFindPerson_any (a : Option Addr) (len cap : Nat) (ps : List Pers) (n : Int) (w : World) (hl : ps.length = len) (hm : len ≤ maxLen) (hI : PersAt w a ps) (hF : Fits ps) :
    Calls Try.prog 19 #[.slice a len cap, .int .i64 n] w (SaysV (two (findOfP ps n)) w) := by
  have HP := Lib.hid (specArePersons_any a len cap ps w hl hm hI hF)
  have HI := Lib.hid hI; have HL := Lib.hid hl
  clear hI hl hF
  cases har : arePers ps
  · have HN := Lib.hid (show two (findOfP ps n) = .tuple #[.int .i64 0, .int .i64 1] by rw [findOfP, if_neg (by rw [har]; simp)]; rfl)
    go_enter Try.func19, Try.ntmps19
    go_wp2_with fail
    refine HP.out.mono ?_; rintro e w1 ⟨rfl, hB⟩; have HB1 := Lib.hid hB; clear hB
    go_wp2_with fail
    go_ret2
    exact ⟨ret_of HN.out.symm, HB1.out⟩
  · have HN := Lib.hid (show findOfP ps n = if findP ps n < 0 then (0, 4) else (findP ps n, 0) by rw [findOfP, if_pos har])
    have hcs := findP_cases ps n
    have HX := Lib.hid (fun W hI => specFind_any a len cap ps n W HL.out hm hI)
    generalize findP ps n = r at hcs HN HX
    go_enter Try.func19, Try.ntmps19
    go_wp2_with fail
    refine HP.out.mono ?_; rintro e w1 ⟨rfl, hB⟩; have HB1 := Lib.hid hB; clear hB
    go_wp2_with fail
    refine (HX.out w1 (HI.out.below HB1.out)).mono ?_; rintro e w1 ⟨rfl, rfl⟩
    rcases hcs with rfl | ⟨k, hk, rfl⟩
    · go_wp2_with fail
      go_ret2
      exact ⟨ret_of (by rw [HN.out]; rfl), HB1.out⟩
    · go_wp2_with fail
      go_ret2
      exact ⟨ret_of (by rw [HN.out, if_neg (by omega)]; rfl), HB1.out⟩

end Go.Proofs.Ytlaeceglcmnhbaa
