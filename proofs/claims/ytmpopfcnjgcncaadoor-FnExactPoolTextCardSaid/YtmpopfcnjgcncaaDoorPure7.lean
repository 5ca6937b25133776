/- Plain facts on reading decimal texts. No program is imported here. -/
import Derived.Test.YtmpopfcnjgcncaaDoorPure4
import Derived.Test.YtmpopfcnjgcncaaDoorPure5
import Derived.Lib.ParseIntBCases
namespace Go.Proofs.YtmpopfcnjgcncaaDoor.Pure7
open Go.RowKit Pure1 Pure2 Pure3 Pure4 Pure5

def digit (c : UInt8) : Prop := 48 ≤ c.toNat ∧ c.toNat ≤ 57
/-- the number that digits spell, behind what stands ahead -/
def val (acc : Nat) (l : List UInt8) : Nat := l.foldl (fun a c => 10 * a + (c.toNat - 48)) acc
theorem val_nil (acc : Nat) : val acc [] = acc := by unfold val; rw [List.foldl_nil]
theorem val_cons (acc : Nat) (c : UInt8) (r : List UInt8) : val acc (c :: r) = val (10 * acc + (c.toNat - 48)) r := by unfold val; rw [List.foldl_cons]
theorem val_append (l r : List UInt8) (acc : Nat) : val acc (l ++ r) = val (val acc l) r := by
  induction l generalizing acc with
  | nil => rw [List.nil_append, val_nil]
  | cons c l ih => rw [List.cons_append, val_cons, val_cons, ih]
theorem val_mono (l : List UInt8) : ∀ acc, acc ≤ val acc l := by
  induction l with
  | nil => intro acc; rw [val_nil]; exact Nat.le_refl acc
  | cons c l ih =>
    intro acc
    have h : acc ≤ 10 * acc + (c.toNat - 48) := by omega
    rw [val_cons]; exact Nat.le_trans h (ih (10 * acc + (c.toNat - 48)))
theorem digit_of (n : Nat) (h : n < 10) : digit (UInt8.ofNat (48 + n)) ∧ (UInt8.ofNat (48 + n)).toNat = 48 + n := by
  have e : (UInt8.ofNat (48 + n)).toNat = 48 + n := by
    rw [UInt8.toNat_ofNat']; exact Nat.mod_eq_of_lt (by omega)
  exact ⟨⟨by rw [e]; omega, by rw [e]; omega⟩, e⟩
theorem dec_spec (u : Nat) : (∀ c ∈ Lib.decDigits u, digit c) ∧ val 0 (Lib.decDigits u) = u := by
  induction u using Nat.strongRecOn with
  | _ u ih =>
    by_cases h : u < 10
    · rw [Lib.decDigits_one h]
      have := digit_of u h
      refine ⟨fun c hc => by rw [List.mem_singleton] at hc; rw [hc]; exact this.1, ?_⟩
      have e : 10 * 0 + (48 + u - 48) = u := by omega
      rw [val_cons, val_nil, this.2, e]
    · rw [Lib.decDigits, dif_neg h]
      have h1 := ih (u / 10) (by omega)
      have h2 := digit_of (u % 10) (by omega)
      refine ⟨fun c hc => ?_, ?_⟩
      · rcases List.mem_append.1 hc with hc | hc
        · exact h1.1 c hc
        · rw [List.mem_singleton] at hc; rw [hc]; exact h2.1
      · have e : 10 * (u / 10) + (48 + u % 10 - 48) = u := by omega
        rw [val_append, h1.2, val_cons, val_nil, h2.2, e]
theorem dec_ne (u : Nat) : Lib.decDigits u ≠ [] := by
  intro e
  have := congrArg List.length e
  rw [Lib.decDigits_length] at this
  have := Lib.nDigits_pos u
  simp at *; omega
theorem parseM_val (l : List UInt8) : ∀ acc, (∀ c ∈ l, digit c) → val acc l < 18446744073709551610 → Lib.parseUintM 18446744073709551615 acc l = .ok (val acc l) := by
  induction l with
  | nil => intro acc _ _; rw [val_nil]; rfl
  | cons c l ih =>
    intro acc hd hv
    have hc := hd c (by simp)
    have hm := val_mono l (10 * acc + (c.toNat - 48))
    rw [val_cons] at hv
    have hc' : 48 ≤ c.toNat ∧ c.toNat ≤ 57 := hc
    have hb := Nat.lt_of_le_of_lt hm hv
    have g1 : ¬ 1844674407370955162 ≤ acc := by omega
    have g2 : ¬ 18446744073709551615 < acc * 10 + (c.toNat - 48) := by omega
    rw [Lib.parseUintM, if_pos hc', if_neg g1, if_neg g2, Nat.mul_comm acc 10, ih _ (fun d hd' => hd d (by simp [hd'])) hv, val_cons]
theorem parse_itoa (m : Int) (h0 : -9223372036854775808 ≤ m) (h1 : m ≤ 9223372036854775807) : Lib.parseIntB 64 (Lib.itoa m) = .ok m := by
  have e1 : (2 : Nat) ^ (64 - 1) = 9223372036854775808 := by decide
  have e2 : (2 : Nat) ^ 64 - 1 = 18446744073709551615 := by decide
  by_cases h : m < 0
  · obtain ⟨u, rfl⟩ : ∃ u : Nat, m = -(u : Int) := ⟨m.natAbs, by omega⟩
    rw [Lib.itoa_neg u (by omega), Lib.parseIntB_minus, Lib.parseUintB, if_neg (dec_ne u), e1, e2, parseM_val _ 0 (dec_spec u).1 (by rw [(dec_spec u).2]; omega), (dec_spec u).2]
    show (if 9223372036854775808 < u then Lib.NumEnd.range else Lib.NumEnd.ok (-(u : Int))) = _
    rw [if_neg (by omega)]
  · obtain ⟨u, rfl⟩ := Int.eq_ofNat_of_zero_le (by omega : 0 ≤ m)
    rw [Lib.itoa_nonneg]
    cases hd : Lib.decDigits u with
    | nil => exact absurd hd (dec_ne u)
    | cons c r =>
      have hc := (dec_spec u).1 c (by rw [hd]; simp)
      unfold digit at hc
      rw [Lib.parseIntB_plain 64 c r (by omega) (by omega), ← hd, Lib.parseUintB, if_neg (dec_ne u), e1, e2, parseM_val _ 0 (dec_spec u).1 (by rw [(dec_spec u).2]; omega), (dec_spec u).2]
      show (if 9223372036854775808 ≤ u then Lib.NumEnd.range else Lib.NumEnd.ok (u : Int)) = _
      rw [if_neg (by omega)]
theorem decB_inj {m n : Int} (h0 : -9223372036854775808 ≤ m) (h1 : m ≤ 9223372036854775807) (h2 : -9223372036854775808 ≤ n) (h3 : n ≤ 9223372036854775807) (h : decB m = decB n) : m = n := by
  have e : Lib.itoa m = Lib.itoa n := by
    have := congrArg (fun s : ByteArray => s.data.toList) h
    simpa [decB] using this
  have := parse_itoa m h0 h1
  rw [e, parse_itoa n h2 h3] at this
  exact (Lib.NumEnd.ok.inj this).symm
/-- the numbers that l01Value reads: 1 to 13 digits, no superfluous zero -/
theorem dec_len {u : Nat} (h : u < 10000000000000) : (Lib.decDigits u).length ≤ 13 := by
  rw [Lib.decDigits_length]
  by_cases h0 : u = 0
  · subst h0; rw [Lib.nDigits_small (by omega)]; omega
  · have h1 := Lib.nDigits_pos u
    apply Nat.le_of_not_lt
    intro h13
    have key : ∀ k v, 1 ≤ v → k < Lib.nDigits v → 10 ^ k ≤ v := by
      intro k
      induction k with
      | zero => intro v hv _; simpa using hv
      | succ k ih =>
        intro v hv hk
        by_cases hs : v < 10
        · rw [Lib.nDigits_small hs] at hk; omega
        · rw [Lib.nDigits_big hs] at hk
          have := ih (v / 10) (by omega) (by omega)
          rw [Nat.pow_succ]; omega
    have := key 13 u (by omega) h13
    omega
theorem decB_toList {m : Int} (h : 0 ≤ m) : (decB m).data.toList = Lib.decDigits m.toNat := by
  obtain ⟨u, rfl⟩ := Int.eq_ofNat_of_zero_le h
  unfold decB; rw [Lib.itoa_nonneg, Int.toNat_natCast]
/-- the bytes of a text as digits, from the first k on -/
theorem val_take (l : List UInt8) (k : Nat) (c : UInt8) (h : l[k]? = some c) : val 0 (l.take (k + 1)) = 10 * val 0 (l.take k) + (c.toNat - 48) := by
  rw [List.take_add_one, h, val_append]; simp only [Option.toList]; rw [val_cons, val_nil]
theorem val_lt (l : List UInt8) (h : ∀ c ∈ l, digit c) : val 0 l < 10 ^ l.length := by
  have key : ∀ (l : List UInt8) (acc : Nat), (∀ c ∈ l, digit c) → val acc l < (acc + 1) * 10 ^ l.length := by
    intro l
    induction l with
    | nil => intro acc _; rw [val_nil]; simp
    | cons c r ih =>
      intro acc hd
      have hc : 48 ≤ c.toNat ∧ c.toNat ≤ 57 := hd c (by simp)
      rw [val_cons]
      refine Nat.lt_of_lt_of_le (ih _ (fun d hd' => hd d (by simp [hd']))) ?_
      rw [List.length_cons, Nat.pow_succ, Nat.mul_comm (10 ^ r.length) 10, ← Nat.mul_assoc]
      exact Nat.mul_le_mul_right _ (by omega)
  have := key l 0 h
  simpa using this

/-- what reading a number says: either the number with this text, or that there is none in the range -/
def NumRead (t : ByteArray) (lo hi : Int) (n : Int) (b : Bool) : Prop := (b = true → decB n = t ∧ lo ≤ n ∧ n ≤ hi) ∧ (b = false → ∀ m, lo ≤ m → m ≤ hi → decB m ≠ t)

end Go.Proofs.YtmpopfcnjgcncaaDoor.Pure7
