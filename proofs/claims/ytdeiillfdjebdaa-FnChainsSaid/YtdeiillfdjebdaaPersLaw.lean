/- Contracts: laws.szPerson, laws.toPerson, laws.eqPerson. -/
import Derived.Test.YtdeiillfdjebdaaChecked
import Derived.Test.YtdeiillfdjebdaaBase
import Derived.Test.YtdeiillfdjebdaaPure40
import Derived.Test.YtdeiillfdjebdaaIsPers
import Derived.WalkKit
import Derived.WalkSpells
import Derived.WalkLawsBesides
import Derived.Lib.Hide
import Derived.IntWalk
import Derived.Outline
namespace Go.Proofs.Ytdeiillfdjebdaa
open Go.RowKit Pure1 Pure40

/-- what is left of a size behind a person -/
def leftP (f l : ByteArray) (n : Int) : Int := if n - f.size < 0 then -1 else if n - f.size - l.size < 0 then -1 else n - f.size - l.size

set_option maxRecDepth 100000 in
set_option maxHeartbeats 1000000 in
theorem szPerson_any (n : Int) (f l : ByteArray) (b z : Int) (m : Int) (w : World) (hf : f.size ≤ maxLen) (hl : l.size ≤ maxLen) (hm : 0 ≤ m) (hm' : m ≤ 1048576) :
    Calls Try.prog 74 #[.agg #[.int .i64 n, .string f, .string l, .int .i64 b, .int .i64 z], .int .i64 m] w fun e w' => e = .returned (.int .i64 (leftP f l m)) ∧ Below w.heap.size w w' := by
  unfold maxLen at hf hl
  have HN := Lib.hid (show leftP f l m = if m - f.size < 0 then -1 else if m - f.size - l.size < 0 then -1 else m - f.size - l.size from rfl)
  by_cases h1 : m - f.size < 0
  · go_enter Try.func74, Try.ntmps74
    go_wp2
    go_ret
    exact ⟨ret_i64 (by rw [HN.out, if_pos h1]), (Below.refl _ _).alloc (Nat.le_refl _) _⟩
  · by_cases h2 : m - f.size - l.size < 0
    · go_enter Try.func74, Try.ntmps74
      go_wp2
      go_ret
      exact ⟨ret_i64 (by rw [HN.out, if_neg (by omega), if_pos h2]), (Below.refl _ _).alloc (Nat.le_refl _) _⟩
    · go_enter Try.func74, Try.ntmps74
      go_wp2
      go_ret
      exact ⟨ret_i64 (by rw [HN.out, if_neg (by omega), if_neg (by omega)]), (Below.refl _ _).alloc (Nat.le_refl _) _⟩

theorem results_cell1 {fn : Func} {p : Tmp} {ty : TypeId} (h : fn.results = #[.cell p ty]) (tmps : Array Value) (P : Program) (w : World) :
    (results fn tmps).run P w = ((asAddr (tmps.getD p undef)).run P w).andThen fun a w₁ => (loadVar ty a).run P w₁ := by
  simp only [results, h]
  simp [Sem.run_bind, Result.andThen]

set_option maxRecDepth 100000 in
set_option maxHeartbeats 1000000 in
theorem toPerson_any (n : Int) (f l : ByteArray) (b z : Int) (w : World) :
    Calls Try.prog 75 #[.agg #[.int .i64 n, .string f, .string l, .int .i64 b, .int .i64 z]] w fun e w' => e = .returned (.agg #[.int .i64 n, .string f, .string l, .int .i64 b, .int .i64 z]) ∧ Below w.heap.size w w' := by
  go_enter Try.func75, Try.ntmps75
  go_wp2
  (try simp only [Exit.inBlock, Exit.then])
  refine bodyPost_ret (v := .agg #[.int .i64 n, .string f, .string l, .int .i64 b, .int .i64 z]) ?_ rfl ⟨rfl, ?_⟩
  · rw [results_cell1 rfl]
    go_simp
  · (repeat' (first | exact Below.refl _ _ | refine Below.setCell ?_ ?_ _ | refine Below.alloc ?_ ?_ _ | (simp <;> omega)))

theorem toList_inj {a b : ByteArray} (h : a.toList = b.toList) : a = b := by
  rw [ByteArray.toList_eq, ByteArray.toList_eq] at h
  obtain ⟨⟨x⟩⟩ := a; obtain ⟨⟨y⟩⟩ := b
  simp at h; rw [h]

set_option maxRecDepth 100000 in
set_option maxHeartbeats 1000000 in
theorem eqPerson_any (n : Int) (f l : ByteArray) (b z : Int) (n' : Int) (f' l' : ByteArray) (b' z' : Int) (w : World) :
    Calls Try.prog 76 #[.agg #[.int .i64 n, .string f, .string l, .int .i64 b, .int .i64 z], .agg #[.int .i64 n', .string f', .string l', .int .i64 b', .int .i64 z']] w
      fun e w' => e = .returned (.bool (decide (n = n') && (decide (f = f') && (decide (l = l') && (decide (b = b') && decide (z = z')))))) ∧ Below w.heap.size w w' := by
  by_cases h1 : n = n'
  · subst h1
    by_cases h2 : f = f'
    · subst h2
      by_cases h3 : l = l'
      · subst h3
        by_cases h4 : b = b'
        · subst h4
          by_cases h5 : z = z'
          · subst h5
            go_enter Try.func76, Try.ntmps76
            go_wp2
            go_ret
            exact ⟨ret_bool (by simp), ((Below.refl _ _).alloc (Nat.le_refl _) _).alloc (by simp) _⟩
          · have HN := Lib.hid h5
            go_enter Try.func76, Try.ntmps76
            go_wp2
            go_ret
            exact ⟨ret_bool (by simp [HN.out]), ((Below.refl _ _).alloc (Nat.le_refl _) _).alloc (by simp) _⟩
        · have HN := Lib.hid h4
          go_enter Try.func76, Try.ntmps76
          go_wp2
          go_ret
          exact ⟨ret_bool (by simp [HN.out]), ((Below.refl _ _).alloc (Nat.le_refl _) _).alloc (by simp) _⟩
      · have HN := Lib.hid h3
        have hq : (l.toList == l'.toList) = false := beq_eq_false_iff_ne.2 (fun e => h3 (toList_inj e))
        clear h3
        go_enter Try.func76, Try.ntmps76
        go_wp2
        go_ret
        exact ⟨ret_bool (by simp [HN.out]), ((Below.refl _ _).alloc (Nat.le_refl _) _).alloc (by simp) _⟩
    · have HN := Lib.hid h2
      have hq : (f.toList == f'.toList) = false := beq_eq_false_iff_ne.2 (fun e => h2 (toList_inj e))
      clear h2
      go_enter Try.func76, Try.ntmps76
      go_wp2
      go_ret
      exact ⟨ret_bool (by simp [HN.out]), ((Below.refl _ _).alloc (Nat.le_refl _) _).alloc (by simp) _⟩
  · have HN := Lib.hid h1
    go_enter Try.func76, Try.ntmps76
    go_wp2
    go_ret
    exact ⟨ret_bool (by simp [HN.out]), ((Below.refl _ _).alloc (Nat.le_refl _) _).alloc (by simp) _⟩

end Go.Proofs.Ytdeiillfdjebdaa
