/- Contracts: days, workdays and court days, of the program and of its model. -/
import Derived.Test.YtekhdggaelppkaaChecked
import Derived.Test.YtekhdggaelppkaaBase0
import Derived.Test.YtekhdggaelppkaaBs
import Derived.Test.YtekhdggaelppkaaAreDays
import Derived.WalkKit
import Derived.WalkSpells
import Derived.WalkLawsBesides
import Derived.Lib.Hide
import Derived.Outline
namespace Go.Proofs.Ytekhdggaelppkaa
open Go.RowKit Pure2 Pure20 Pure21

set_option maxHeartbeats 400000 in
theorem specIn_any (n a b : Int) (w : World) :
    Calls Try.prog 70 #[.int .i64 n, .int .i64 a, .int .i64 b] w fun e w' => e = .returned (.bool (decide (a ≤ n ∧ n ≤ b))) ∧ w = w' := by
  by_cases h1 : a ≤ n
  · by_cases h2 : n ≤ b
    all_goals
      go_enter Try.func70, Try.ntmps70
      go_wp2
      go_ret
      exact ⟨ret_bool' (by simp; omega), rfl⟩
  · go_enter Try.func70, Try.ntmps70
    go_wp2
    go_ret
    exact ⟨ret_bool' (by simp; omega), rfl⟩

theorem isDay_in (n : Int) : decide (0 ≤ n ∧ n ≤ 20000) = isDay n := by simp [isDay]

set_option maxHeartbeats 400000 in
theorem specIsDay_any (n : Int) (w : World) :
    Calls Try.prog 71 #[.int .i64 n] w fun e w' => e = .returned (.bool (isDay n)) ∧ w = w' := by
  have HC := Lib.hid (specIn_any n 0 20000 w)
  rw [isDay_in] at HC
  go_enter Try.func71, Try.ntmps71
  go_wp2_with (go_at_call 70; refine HC.out.mono ?_; rintro e w' ⟨rfl, rfl⟩)
  go_ret
  exact ⟨rfl, rfl⟩

/-- a day from Monday to Friday -/
def work (d : Int) : Bool := decide (d % 7 < 5)
theorem work_yes {d : Int} (h : d % 7 < 5) : work d = true := by simp [work, h]
theorem work_no {d : Int} (h : ¬ d % 7 < 5) : work d = false := by simp [work, h]

set_option maxHeartbeats 400000 in
theorem implIsWork_any (d : Int) (w : World) (hd : 0 ≤ d) :
    Calls Try.prog 96 #[.int .i64 d] w fun e w' => e = .returned (.bool (work d)) ∧ w = w' := by
  by_cases h1 : d % 7 < 5
  all_goals
    go_enter Try.func96, Try.ntmps96
    go_wp2
    go_ret
    exact ⟨ret_bool' (by simp [work]; omega), rfl⟩

theorem court_of {zs : List Int} {d : Int} (h : work d = true) : court zs d = !has zs d := by
  rw [court_has]; unfold work at h; rw [h]; rfl
theorem court_off {zs : List Int} {d : Int} (h : work d = false) : court zs d = false := by
  rw [court_has]; unfold work at h; rw [h]; rfl

set_option maxHeartbeats 400000 in
theorem implCourt_any (d : Int) (a : Option Addr) (len cap : Nat) (zs : List Int) (w : World) (hd : 0 ≤ d) (hl : zs.length = len) (h : IntsAt w a zs) (hh : Hol zs) :
    Calls Try.prog 67 #[.int .i64 d, .slice a len cap] w fun e w' => e = .returned (.bool (court zs d)) ∧ w = w' := by
  have HC := Lib.hid (bs_any a len cap zs d w hl (by rw [← hl]; exact hh.2.2) h (hol_pair hh))
  clear hl h hh
  cases hw : work d with
  | true =>
    have HN := Lib.hid (court_of (zs := zs) hw)
    have HW := Lib.hid (implIsWork_any d w hd)
    rw [hw] at HW; clear hw
    go_enter Try.func67, Try.ntmps67
    go_wp2_with fail
    refine HC.out.mono ?_; rintro e w' ⟨i, rfl, rfl⟩
    go_wp2_with (go_at_call 96; refine HW.out.mono ?_; rintro e w' ⟨rfl, rfl⟩)
    go_ret
    exact ⟨ret_bool' HN.out.symm, rfl⟩
  | false =>
    have HN := Lib.hid (court_off (zs := zs) hw)
    have HW := Lib.hid (implIsWork_any d w hd)
    rw [hw] at HW; clear hw
    go_enter Try.func67, Try.ntmps67
    go_wp2_with fail
    refine HC.out.mono ?_; rintro e w' ⟨i, rfl, rfl⟩
    go_wp2_with (go_at_call 96; refine HW.out.mono ?_; rintro e w' ⟨rfl, rfl⟩)
    go_ret
    exact ⟨ret_bool' HN.out.symm, rfl⟩

theorem has_none {zs : List Int} {x : Int} {k : Nat} (hk : zs.length ≤ k) (h : x ∉ zs.take k) : has zs x = false := by
  rw [List.take_of_length_le hk] at h; exact found_not h
theorem has_snoc {zs : List Int} {x y : Int} {k : Nat} (ht : zs.take (k + 1) = zs.take k ++ [y]) (h : x ∉ zs.take k) (hy : (y == x) = false) : x ∉ zs.take (k + 1) := by
  rw [ht, List.mem_append]
  rintro (h' | h')
  · exact h h'
  · rw [List.mem_singleton] at h'; rw [h'] at hy; simp at hy

set_option maxHeartbeats 400000 in
theorem specHas_any (a : Option Addr) (len cap : Nat) (zs : List Int) (x : Int) (w : World) (hl : zs.length = len) (hm : len ≤ maxLen) (h : IntsAt w a zs) :
    Calls Try.prog 99 #[.slice a len cap, .int .i64 x] w fun e w' => e = .returned (.bool (has zs x)) ∧ w = w' := by
  unfold maxLen at hm
  have HL := Lib.hid hl; have HI := Lib.hid h; clear hl h
  go_enter Try.func99, Try.ntmps99
  go_wp2
  go_loop [5] (fun i => ∃ k : Nat, k ≤ len ∧ i = .int .i64 k ∧ x ∉ zs.take k) (fun i => len - (intOf i).toNat)
  case atStart => exact ⟨0, Nat.zero_le _, rfl, by simp⟩
  case round =>
    obtain ⟨k, hk, rfl, hn⟩ := hrel
    have HN := Lib.hid hn; clear hn
    by_cases hlt : k < len
    · obtain ⟨b, off, y, ha, hc, ht, hy⟩ := HI.out.at HL.out hlt
      have HY := Lib.hid hy; have HT := Lib.hid ht; clear hy ht
      subst ha
      by_cases hyx : y = x
      · subst hyx
        have HF := Lib.hid (found_yes HY.out)
        go_wp2
        go_ret
        exact ⟨ret_bool' HF.out.symm, rfl⟩
      · have hyx' : (y == x) = false := beq_eq_false_iff_ne.2 hyx
        have HS := Lib.hid (has_snoc HT.out HN.out hyx')
        clear hyx
        go_wp2
        go_round
        case rel => exact ⟨k + 1, by omega, by go_num, HS.out⟩
        case measure => simp [intOf]; omega
    · have HF := Lib.hid (has_none (by rw [HL.out]; omega) HN.out)
      go_wp2
      go_ret
      exact ⟨ret_bool' HF.out.symm, rfl⟩

set_option maxHeartbeats 400000 in
theorem specCourt_any (d : Int) (a : Option Addr) (len cap : Nat) (zs : List Int) (w : World) (hd : 0 ≤ d) (hl : zs.length = len) (hm : len ≤ maxLen) (h : IntsAt w a zs) :
    Calls Try.prog 72 #[.slice a len cap, .int .i64 d] w fun e w' => e = .returned (.bool (court zs d)) ∧ w = w' := by
  have HC := Lib.hid (specHas_any a len cap zs d w hl hm h)
  clear hl hm h
  by_cases hw : d % 7 < 5
  · have HN := Lib.hid (court_of (zs := zs) (work_yes hw))
    go_enter Try.func72, Try.ntmps72
    go_wp2_with (go_at_call 99; refine HC.out.mono ?_; rintro e w' ⟨rfl, rfl⟩)
    go_ret
    exact ⟨ret_bool' HN.out.symm, rfl⟩
  · have HN := Lib.hid (court_off (zs := zs) (work_no hw))
    go_enter Try.func72, Try.ntmps72
    go_wp2_with (go_at_call 99; refine HC.out.mono ?_; rintro e w' ⟨rfl, rfl⟩)
    go_ret
    exact ⟨ret_bool' HN.out.symm, rfl⟩

end Go.Proofs.Ytekhdggaelppkaa
