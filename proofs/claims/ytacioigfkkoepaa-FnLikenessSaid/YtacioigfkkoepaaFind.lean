/- Contracts: slices.IndexFunc at persons with FindPerson's own closure, impl.FindPerson, spec.l04Find, spec.FindPerson. -/
import Derived.Test.YtacioigfkkoepaaChecked
import Derived.Test.YtacioigfkkoepaaBase
import Derived.Test.YtacioigfkkoepaaPure41
import Derived.Test.YtacioigfkkoepaaArePers
import Derived.Test.YtacioigfkkoepaaAns4
import Derived.WalkKit
import Derived.WalkSpells
import Derived.WalkLawsBesides
import Derived.Lib.Hide
import Derived.IntWalk
import Derived.Outline
namespace Go.Proofs.Ytacioigfkkoepaa
open Go.RowKit Pure1 Pure40 Pure41

/-- the index of the first person with a number, or -1 -/
def findP (ps : List Pers) (n : Int) : Int :=
  match ps.findIdx? (fun p => p.num == n) with
  | some i => (i : Int)
  | none => -1
theorem findP_hit {ps : List Pers} {n : Int} {k : Nat} {p : Pers} (h : ∀ i q, i < k → ps[i]? = some q → q.num ≠ n) (hp : ps[k]? = some p) (hn : p.num = n) : findP ps n = (k : Int) := by
  obtain ⟨hk, rfl⟩ := List.getElem?_eq_some_iff.1 hp
  have : ps.findIdx? (fun p => p.num == n) = some k := by
    rw [List.findIdx?_eq_some_iff_getElem]
    refine ⟨hk, by simpa using hn, fun j hj => ?_⟩
    have := h j _ hj (List.getElem?_eq_getElem (by omega))
    simpa using this
  rw [findP, this]
theorem findP_none {ps : List Pers} {n : Int} (h : ∀ (i : Nat) (q : Pers), ps[i]? = some q → q.num ≠ n) : findP ps n = -1 := by
  have : ps.findIdx? (fun p => p.num == n) = none := by
    rw [List.findIdx?_eq_none_iff]
    intro q hq
    obtain ⟨i, hi⟩ := List.getElem?_of_mem hq
    have := h i q hi
    simpa using this
  rw [findP, this]
theorem findP_cases (ps : List Pers) (n : Int) : findP ps n = -1 ∨ ∃ k : Nat, k < ps.length ∧ findP ps n = (k : Int) := by
  unfold findP
  cases h : ps.findIdx? (fun p => p.num == n) with
  | none => exact .inl rfl
  | some i => exact .inr ⟨i, by rw [List.findIdx?_eq_some_iff_getElem] at h; exact h.1, rfl⟩
/-- FindPerson's answer -/
def findOfP (ps : List Pers) (n : Int) : Int × Int := if arePers ps = true then (if findP ps n < 0 then (0, 4) else (findP ps n, 0)) else (0, 1)

set_option maxRecDepth 100000 in
/-- the closure: is it that number? -/
theorem closure_any (n : Int) (f l : ByteArray) (b z : Int) (m : Int) (B : Nat) (w : World) (hc : w.cell? ⟨B, 0, none⟩ = some (.int .i64 m)) :
    Calls Try.prog 43 #[.agg #[.int .i64 n, .string f, .string l, .int .i64 b, .int .i64 z], .pointer (some ⟨B, 0, none⟩)] w fun e w' => e = .returned (.bool (n == m)) ∧ Below w.heap.size w w' := by
  have hB : B < w.heap.size := World.block_lt_of_cell? w _ hc
  have hne : B ≠ w.heap.size := by omega
  go_enter Try.func43, Try.ntmps43
  go_wp2
  go_ret
  exact ⟨rfl, boxed _ _⟩

set_option maxRecDepth 100000 in
set_option maxHeartbeats 1000000 in
theorem indexFunc_any (a : Option Addr) (len cap : Nat) (ps : List Pers) (m : Int) (B : Nat) (w : World) (hl : ps.length = len) (hm : len ≤ maxLen) (hI : PersAt w a ps) (hc : w.cell? ⟨B, 0, none⟩ = some (.int .i64 m)) :
    Calls Try.prog 42 #[.slice a len cap, .func (.func 43) #[] #[.pointer (some ⟨B, 0, none⟩)]] w (SaysV (.int .i64 (findP ps m)) w) := by
  unfold maxLen at hm
  have HL := Lib.hid hl; have HI := Lib.hid hI; have HC := Lib.hid hc
  clear hl hI hc
  go_enter Try.func42, Try.ntmps42
  go_wp2
  go_loopw [8] (fun i wr => ∃ k : Nat, k ≤ len ∧ i = .int .i64 k ∧ (∀ j q, j < k → ps[j]? = some q → q.num ≠ m) ∧ Below w.heap.size w wr) (fun i _ => len - (intOf i).toNat)
  case atStart => exact ⟨0, Nat.zero_le _, rfl, fun j q hj => by omega, Below.refl _ _⟩
  case round =>
    obtain ⟨k, hk, rfl, hall, hB⟩ := hrel
    have HA := Lib.hid hall; have HB := Lib.hid hB; clear hall hB
    by_cases hlt : k < len
    · obtain ⟨b, off, p, rfl, hc, hp⟩ := (HI.out.below HB.out).at HL.out hlt
      obtain ⟨c0, c1, c2, c3, c4⟩ := hc
      have HP := Lib.hid hp; clear hp
      have HCl := Lib.hid (closure_any p.num p.fst p.lst p.born p.zone m B wr (cell_later HB.out HC.out))
      go_wp2_with fail
      refine HCl.out.mono ?_; rintro e w2 ⟨rfl, hB⟩
      have HB2 := Lib.hid (HB.out.trans (hB.mono HB.out.size)); clear hB c0 c1 c2 c3 c4
      by_cases hn : p.num = m
      · have HN := Lib.hid (findP_hit HA.out HP.out hn)
        have hn2 : (p.num == m) = true := beq_iff_eq.2 hn
        clear hn
        go_wp2_with fail
        go_ret
        exact ⟨ret_i64 HN.out.symm, HB2.out⟩
      · have HN := Lib.hid (show ∀ j q, j < k + 1 → ps[j]? = some q → q.num ≠ m from fun j q hj hq => by
          by_cases e : j = k
          · subst e; have := HP.out; rw [hq] at this; cases this; exact hn
          · exact HA.out j q (by omega) hq)
        have hn2 : (p.num == m) = false := beq_eq_false_iff_ne.2 hn
        clear hn
        go_wp2_with fail
        go_roundw
        case rel => exact ⟨k + 1, by omega, by go_num, HN.out, HB2.out⟩
        case measure => simp [intOf]; omega
    · have HN := Lib.hid (findP_none (ps := ps) (n := m) (fun i q hq => HA.out i q (by have := (List.getElem?_eq_some_iff.1 hq).1; rw [HL.out] at this; omega) hq))
      go_wp2_with fail
      go_ret
      exact ⟨ret_i64 HN.out.symm, HB.out⟩

set_option maxRecDepth 100000 in
set_option maxHeartbeats 1000000 in
theorem implFindPerson_any (a : Option Addr) (len cap : Nat) (ps : List Pers) (n : Int) (w : World) (hl : ps.length = len) (hm : len ≤ maxLen) (hI : PersAt w a ps) (hF : Fits ps) :
    Calls Try.prog 21 #[.slice a len cap, .int .i64 n] w (SaysV (two (findOfP ps n)) w) := by
  have hmf : ∀ (fn : Fn) (first cap : Array Value) (w : World), (Instr.makeFunc fn first cap).run Try.prog w = .ok (.func fn first cap) w := fun _ _ _ _ => rfl
  have HW := Lib.hid (boxed w (.cells #[.int .i64 n] 2))
  have hcw : (w.alloc (.cells #[.int .i64 n] 2)).cell? ⟨w.heap.size, 0, none⟩ = some (.int .i64 n) := by
    unfold World.cell?; rw [heap_alloc_new]; rfl
  have HP := Lib.hid (implArePersons_any a len cap ps (w.alloc (.cells #[.int .i64 n] 2)) hl hm (hI.below HW.out) hF)
  have HI := Lib.hid (hI.below HW.out); have HC := Lib.hid hcw; have HL := Lib.hid hl
  clear hI hcw hl hF
  cases har : arePers ps
  · have HN := Lib.hid (show two (findOfP ps n) = .tuple #[.int .i64 0, .int .i64 1] by rw [findOfP, if_neg (by rw [har]; simp)]; rfl)
    go_enter Try.func21, Try.ntmps21
    go_wp2_with fail
    refine HP.out.mono ?_; rintro e w1 ⟨rfl, hB⟩; have HB1 := Lib.hid hB; clear hB
    go_wp2_with fail
    go_ret2
    exact ⟨ret_of HN.out.symm, HW.out.trans (HB1.out.mono HW.out.size)⟩
  · have HN := Lib.hid (show findOfP ps n = if findP ps n < 0 then (0, 4) else (findP ps n, 0) by rw [findOfP, if_pos har])
    have hcs := findP_cases ps n
    have HX := Lib.hid (fun W hI hC => indexFunc_any a len cap ps n w.heap.size W HL.out hm hI hC)
    generalize findP ps n = r at hcs HN HX
    go_enter Try.func21, Try.ntmps21
    go_wp2_with fail
    refine HP.out.mono ?_; rintro e w1 ⟨rfl, hB⟩; have HB1 := Lib.hid hB; clear hB
    go_wp2_with fail
    refine (HX.out w1 (HI.out.below HB1.out) (cell_later HB1.out HC.out)).mono ?_; rintro e w2 ⟨rfl, hB⟩
    have HB2 := Lib.hid (HB1.out.trans (hB.mono HB1.out.size)); clear hB
    rcases hcs with rfl | ⟨k, hk, rfl⟩
    · go_wp2_with fail
      go_ret2
      exact ⟨ret_of (by rw [HN.out]; rfl), HW.out.trans (HB2.out.mono HW.out.size)⟩
    · go_wp2_with fail
      go_ret2
      exact ⟨ret_of (by rw [HN.out, if_neg (by omega)]; rfl), HW.out.trans (HB2.out.mono HW.out.size)⟩

set_option maxRecDepth 100000 in
set_option maxHeartbeats 1000000 in
theorem specFind_any (a : Option Addr) (len cap : Nat) (ps : List Pers) (m : Int) (w : World) (hl : ps.length = len) (hm : len ≤ maxLen) (hI : PersAt w a ps) :
    Calls Try.prog 44 #[.slice a len cap, .int .i64 m] w fun e w' => e = .returned (.int .i64 (findP ps m)) ∧ w' = w := by
  unfold maxLen at hm
  have HL := Lib.hid hl; have HI := Lib.hid hI
  clear hl hI
  go_enter Try.func44, Try.ntmps44
  go_wp2
  go_loop [5] (fun i => ∃ k : Nat, k ≤ len ∧ i = .int .i64 k ∧ (∀ j q, j < k → ps[j]? = some q → q.num ≠ m)) (fun i => len - (intOf i).toNat)
  case atStart => exact ⟨0, Nat.zero_le _, rfl, fun j q hj => by omega⟩
  case round =>
    obtain ⟨k, hk, rfl, hall⟩ := hrel
    have HA := Lib.hid hall; clear hall
    by_cases hlt : k < len
    · obtain ⟨b, off, p, rfl, hc, hp⟩ := HI.out.at HL.out hlt
      obtain ⟨c0, c1, c2, c3, c4⟩ := hc
      have HP := Lib.hid hp; clear hp
      by_cases hn : p.num = m
      · have HN := Lib.hid (findP_hit HA.out HP.out hn)
        have hn2 : (p.num == m) = true := beq_iff_eq.2 hn
        clear hn
        go_wp2
        go_ret
        exact ⟨ret_i64 HN.out.symm, rfl⟩
      · have HN := Lib.hid (show ∀ j q, j < k + 1 → ps[j]? = some q → q.num ≠ m from fun j q hj hq => by
          by_cases e : j = k
          · subst e; have := HP.out; rw [hq] at this; cases this; exact hn
          · exact HA.out j q (by omega) hq)
        have hn2 : (p.num == m) = false := beq_eq_false_iff_ne.2 hn
        clear hn
        go_wp2
        go_round
        case rel => exact ⟨k + 1, by omega, by go_num, HN.out⟩
        case measure => simp [intOf]; omega
    · have HN := Lib.hid (findP_none (ps := ps) (n := m) (fun i q hq => HA.out i q (by have := (List.getElem?_eq_some_iff.1 hq).1; rw [HL.out] at this; omega) hq))
      go_wp2
      go_ret
      exact ⟨ret_i64 HN.out.symm, rfl⟩

set_option maxRecDepth 100000 in
set_option maxHeartbeats 1000000 in
theorem specFindPerson_any (a : Option Addr) (len cap : Nat) (ps : List Pers) (n : Int) (w : World) (hl : ps.length = len) (hm : len ≤ maxLen) (hI : PersAt w a ps) (hF : Fits ps) :
    Calls Try.prog 22 #[.slice a len cap, .int .i64 n] w (SaysV (two (findOfP ps n)) w) := by
  have HP := Lib.hid (specArePersons_any a len cap ps w hl hm hI hF)
  have HI := Lib.hid hI; have HL := Lib.hid hl
  clear hI hl hF
  cases har : arePers ps
  · have HN := Lib.hid (show two (findOfP ps n) = .tuple #[.int .i64 0, .int .i64 1] by rw [findOfP, if_neg (by rw [har]; simp)]; rfl)
    go_enter Try.func22, Try.ntmps22
    go_wp2_with fail
    refine HP.out.mono ?_; rintro e w1 ⟨rfl, hB⟩; have HB1 := Lib.hid hB; clear hB
    go_wp2_with fail
    go_ret2
    exact ⟨ret_of HN.out.symm, HB1.out⟩
  · have HN := Lib.hid (show findOfP ps n = if findP ps n < 0 then (0, 4) else (findP ps n, 0) by rw [findOfP, if_pos har])
    have hcs := findP_cases ps n
    have HX := Lib.hid (fun W hI => specFind_any a len cap ps n W HL.out hm hI)
    generalize findP ps n = r at hcs HN HX
    go_enter Try.func22, Try.ntmps22
    go_wp2_with fail
    refine HP.out.mono ?_; rintro e w1 ⟨rfl, hB⟩; have HB1 := Lib.hid hB; clear hB
    go_wp2_with fail
    refine (HX.out w1 (HI.out.below HB1.out)).mono ?_; rintro e w1 ⟨rfl, rfl⟩
    rcases hcs with rfl | ⟨k, hk, rfl⟩
    · go_wp2_with fail
      go_ret2
      exact ⟨ret_of (by rw [HN.out]; rfl), HB1.out⟩
    · go_wp2_with fail
      go_ret2
      exact ⟨ret_of (by rw [HN.out, if_neg (by omega)]; rfl), HB1.out⟩

end Go.Proofs.Ytacioigfkkoepaa
