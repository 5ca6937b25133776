/- Contracts: spec.l01In, impl.IsPerson, spec.IsPerson. -/
import Derived.Test.YtdeiillfdjebdaaChecked
import Derived.Test.YtdeiillfdjebdaaBase
import Derived.Test.YtdeiillfdjebdaaIsWord
import Derived.Test.YtdeiillfdjebdaaPure40
import Derived.Test.YtdeiillfdjebdaaWithin
import Derived.WalkKit
import Derived.WalkSpells
import Derived.WalkLawsBesides
import Derived.Lib.Hide
import Derived.Outline
namespace Go.Proofs.Ytdeiillfdjebdaa
open Go.RowKit Pure1 Pure40

theorem specIn_any (n a b : Int) (w : World) :
    Calls Try.prog 80 #[.int .i64 n, .int .i64 a, .int .i64 b] w fun e w' => e = .returned (.bool (inR n a b)) ∧ w' = w := by
  by_cases h1 : a ≤ n
  · go_enter Try.func80, Try.ntmps80
    go_wp2
    go_ret
    exact ⟨ret_bool (by simp [inR, h1]), rfl⟩
  · have h3 : decide (a ≤ n) = false := decide_eq_false h1
    have h1' : n < a := by omega
    go_enter Try.func80, Try.ntmps80
    go_wp2
    go_ret
    exact ⟨ret_bool (by simp only [inR, h3, Bool.false_and]), rfl⟩

theorem implPersNum_any (n : Int) (w : World) :
    Calls Try.prog 91 #[.int .i64 n] w fun e w' => e = .returned (.bool (inR n 1 1000000)) ∧ w' = w := by
  have HC := Lib.hid (implWithin_any n 1 1000000 w)
  go_enter Try.func91, Try.ntmps91
  go_wp2_with fail
  refine HC.out.mono ?_; rintro e w1 ⟨rfl, rfl⟩
  go_wp2_with fail
  go_ret
  exact ⟨rfl, rfl⟩

/-- a bool is returned; nothing that was there has turned -/
def SaysBB (b : Bool) (w : World) (e : Ending) (w' : World) : Prop := e = .returned (.bool b) ∧ Below w.heap.size w w'

set_option maxRecDepth 100000 in
set_option maxHeartbeats 1000000 in
theorem implIsPerson_any (n : Int) (f l : ByteArray) (b z : Int) (w : World) (hf : f.size ≤ maxLen) (hl : l.size ≤ maxLen) :
    Calls Try.prog 73 #[.agg #[.int .i64 n, .string f, .string l, .int .i64 b, .int .i64 z]] w (SaysBB (isPers ⟨n, f, l, b, z⟩) w) := by
  have HN := Lib.hid (show isPers ⟨n, f, l, b, z⟩ = (inR n 1 1000000 && (isWordL f.data.toList && (isWordL l.data.toList && (inR b 1900 2100 && inR z 0 99)))) from rfl)
  cases h0 : inR n 1 1000000
  · go_enter Try.func73, Try.ntmps73
    go_wp2_with (first | (go_at_call 91; refine (implPersNum_any _ _).mono ?_; rintro e w' ⟨rfl, rfl⟩) | (go_at_call 88; refine (implWithin_any _ _ _ _).mono ?_; rintro e w' ⟨rfl, rfl⟩) | (go_at_call 92; refine (implIsWord_any _ _ (by assumption)).mono ?_; rintro e w' ⟨rfl, rfl⟩))
    go_ret
    exact ⟨ret_bool (by rw [HN.out]; simp [*]), (Below.refl _ _).alloc (Nat.le_refl _) _⟩
  · cases h1 : isWordL f.data.toList
    · go_enter Try.func73, Try.ntmps73
      go_wp2_with (first | (go_at_call 91; refine (implPersNum_any _ _).mono ?_; rintro e w' ⟨rfl, rfl⟩) | (go_at_call 88; refine (implWithin_any _ _ _ _).mono ?_; rintro e w' ⟨rfl, rfl⟩) | (go_at_call 92; refine (implIsWord_any _ _ (by assumption)).mono ?_; rintro e w' ⟨rfl, rfl⟩))
      go_ret
      exact ⟨ret_bool (by rw [HN.out]; simp [*]), (Below.refl _ _).alloc (Nat.le_refl _) _⟩
    · cases h2 : isWordL l.data.toList
      · go_enter Try.func73, Try.ntmps73
        go_wp2_with (first | (go_at_call 91; refine (implPersNum_any _ _).mono ?_; rintro e w' ⟨rfl, rfl⟩) | (go_at_call 88; refine (implWithin_any _ _ _ _).mono ?_; rintro e w' ⟨rfl, rfl⟩) | (go_at_call 92; refine (implIsWord_any _ _ (by assumption)).mono ?_; rintro e w' ⟨rfl, rfl⟩))
        go_ret
        exact ⟨ret_bool (by rw [HN.out]; simp [*]), (Below.refl _ _).alloc (Nat.le_refl _) _⟩
      · cases h3 : inR b 1900 2100
        · go_enter Try.func73, Try.ntmps73
          go_wp2_with (first | (go_at_call 91; refine (implPersNum_any _ _).mono ?_; rintro e w' ⟨rfl, rfl⟩) | (go_at_call 88; refine (implWithin_any _ _ _ _).mono ?_; rintro e w' ⟨rfl, rfl⟩) | (go_at_call 92; refine (implIsWord_any _ _ (by assumption)).mono ?_; rintro e w' ⟨rfl, rfl⟩))
          go_ret
          exact ⟨ret_bool (by rw [HN.out]; simp [*]), (Below.refl _ _).alloc (Nat.le_refl _) _⟩
        · go_enter Try.func73, Try.ntmps73
          go_wp2_with (first | (go_at_call 91; refine (implPersNum_any _ _).mono ?_; rintro e w' ⟨rfl, rfl⟩) | (go_at_call 88; refine (implWithin_any _ _ _ _).mono ?_; rintro e w' ⟨rfl, rfl⟩) | (go_at_call 92; refine (implIsWord_any _ _ (by assumption)).mono ?_; rintro e w' ⟨rfl, rfl⟩))
          go_ret
          exact ⟨ret_bool (by rw [HN.out]; simp [*]), (Below.refl _ _).alloc (Nat.le_refl _) _⟩

set_option maxRecDepth 100000 in
set_option maxHeartbeats 1000000 in
theorem specIsPerson_any (n : Int) (f l : ByteArray) (b z : Int) (w : World) (hf : f.size ≤ maxLen) (hl : l.size ≤ maxLen) :
    Calls Try.prog 89 #[.agg #[.int .i64 n, .string f, .string l, .int .i64 b, .int .i64 z]] w (SaysBB (isPers ⟨n, f, l, b, z⟩) w) := by
  have HN := Lib.hid (show isPers ⟨n, f, l, b, z⟩ = (inR n 1 1000000 && (isWordL f.data.toList && (isWordL l.data.toList && (inR b 1900 2100 && inR z 0 99)))) from rfl)
  cases h0 : inR n 1 1000000
  · go_enter Try.func89, Try.ntmps89
    go_wp2_with (first | (go_at_call 80; refine (specIn_any _ _ _ _).mono ?_; rintro e w' ⟨rfl, rfl⟩) | (go_at_call 96; refine (specIsWord_any _ _ (by assumption)).mono ?_; rintro e w' ⟨rfl, rfl⟩))
    go_ret
    exact ⟨ret_bool (by rw [HN.out]; simp [*]), (Below.refl _ _).alloc (Nat.le_refl _) _⟩
  · cases h1 : isWordL f.data.toList
    · go_enter Try.func89, Try.ntmps89
      go_wp2_with (first | (go_at_call 80; refine (specIn_any _ _ _ _).mono ?_; rintro e w' ⟨rfl, rfl⟩) | (go_at_call 96; refine (specIsWord_any _ _ (by assumption)).mono ?_; rintro e w' ⟨rfl, rfl⟩))
      go_ret
      exact ⟨ret_bool (by rw [HN.out]; simp [*]), (Below.refl _ _).alloc (Nat.le_refl _) _⟩
    · cases h2 : isWordL l.data.toList
      · go_enter Try.func89, Try.ntmps89
        go_wp2_with (first | (go_at_call 80; refine (specIn_any _ _ _ _).mono ?_; rintro e w' ⟨rfl, rfl⟩) | (go_at_call 96; refine (specIsWord_any _ _ (by assumption)).mono ?_; rintro e w' ⟨rfl, rfl⟩))
        go_ret
        exact ⟨ret_bool (by rw [HN.out]; simp [*]), (Below.refl _ _).alloc (Nat.le_refl _) _⟩
      · cases h3 : inR b 1900 2100
        · go_enter Try.func89, Try.ntmps89
          go_wp2_with (first | (go_at_call 80; refine (specIn_any _ _ _ _).mono ?_; rintro e w' ⟨rfl, rfl⟩) | (go_at_call 96; refine (specIsWord_any _ _ (by assumption)).mono ?_; rintro e w' ⟨rfl, rfl⟩))
          go_ret
          exact ⟨ret_bool (by rw [HN.out]; simp [*]), (Below.refl _ _).alloc (Nat.le_refl _) _⟩
        · go_enter Try.func89, Try.ntmps89
          go_wp2_with (first | (go_at_call 80; refine (specIn_any _ _ _ _).mono ?_; rintro e w' ⟨rfl, rfl⟩) | (go_at_call 96; refine (specIsWord_any _ _ (by assumption)).mono ?_; rintro e w' ⟨rfl, rfl⟩))
          go_ret
          exact ⟨ret_bool (by rw [HN.out]; simp [*]), (Below.refl _ _).alloc (Nat.le_refl _) _⟩

end Go.Proofs.Ytdeiillfdjebdaa
