/- Plain facts on reading cents. No program is imported here. -/
import Derived.Test.YtfadmlgdabamhaaDoorPure7
import Derived.Lib.IndexMore
import Derived.Lib.Index
namespace Go.Proofs.YtfadmlgdabamhaaDoor.Pure9
open Go.RowKit Pure1 Pure2 Pure3 Pure4 Pure5 Pure7

/-- a digit is taken behind what has been taken, but no zero as the first one -/
def dstep (acc : List UInt8) (c : UInt8) : List UInt8 := if (48 ≤ c.toNat ∧ c.toNat ≤ 57) ∧ (acc ≠ [] ∨ c ≠ 48) then acc ++ [c] else acc
def digs (acc : List UInt8) (l : List UInt8) : List UInt8 := l.foldl dstep acc
/-- a number's digits, none for 0 -/
def D (u : Nat) : List UInt8 := if u = 0 then [] else Lib.decDigits u
theorem digs_append (acc l r : List UInt8) : digs acc (l ++ r) = digs (digs acc l) r := by unfold digs; rw [List.foldl_append]
theorem digs_cons (acc : List UInt8) (c : UInt8) (r : List UInt8) : digs acc (c :: r) = digs (dstep acc c) r := by unfold digs; rw [List.foldl_cons]
theorem digs_nil (acc : List UInt8) : digs acc [] = acc := by unfold digs; rw [List.foldl_nil]
theorem dstep_no {acc : List UInt8} {c : UInt8} (h : ¬ (48 ≤ c.toNat ∧ c.toNat ≤ 57)) : dstep acc c = acc := by unfold dstep; rw [if_neg (fun x => h x.1)]
theorem dec_step {q d : Nat} (hq : q ≠ 0) (hd : d < 10) : Lib.decDigits (10 * q + d) = Lib.decDigits q ++ [UInt8.ofNat (48 + d)] := by
  rw [Lib.decDigits, dif_neg (by omega), show (10 * q + d) / 10 = q by omega, show (10 * q + d) % 10 = d by omega]
theorem D_step (q d : Nat) (hd : d < 10) : dstep (D q) (UInt8.ofNat (48 + d)) = D (10 * q + d) := by
  have h1 := (digit_of d hd).1
  have h2 := (digit_of d hd).2
  have h1' : 48 ≤ (UInt8.ofNat (48 + d)).toNat ∧ (UInt8.ofNat (48 + d)).toNat ≤ 57 := h1
  by_cases hq : q = 0
  · subst hq
    by_cases h0 : d = 0
    · subst h0
      have hh : ¬ ((48 ≤ (UInt8.ofNat (48 + 0)).toNat ∧ (UInt8.ofNat (48 + 0)).toNat ≤ 57) ∧ (D 0 ≠ [] ∨ UInt8.ofNat (48 + 0) ≠ 48)) := by
        intro h; rcases h.2 with h | h
        · exact h rfl
        · exact h rfl
      rw [dstep, if_neg hh]
    · have hne : UInt8.ofNat (48 + d) ≠ 48 := by
        intro e; have := congrArg UInt8.toNat e; rw [h2] at this
        have e48 : (48 : UInt8).toNat = 48 := rfl
        omega
      rw [dstep, if_pos ⟨h1', .inr hne⟩, D, if_pos rfl, List.nil_append, D, if_neg (by omega), show 10 * 0 + d = d by omega, Lib.decDigits_one hd]
  · have hn : D q ≠ [] := by rw [D, if_neg hq]; exact dec_ne q
    rw [dstep, if_pos ⟨h1', .inl hn⟩, D, if_neg hq, D, if_neg (by omega), dec_step hq hd]
theorem digs_dec (u : Nat) : digs [] (Lib.decDigits u) = D u := by
  induction u using Nat.strongRecOn with
  | _ u ih =>
    by_cases h : u < 10
    · rw [Lib.decDigits_one h, digs_cons, digs_nil]
      have := D_step 0 u h
      rw [show 10 * 0 + u = u by omega] at this
      exact this
    · have e := ih (u / 10) (by omega)
      have h1 := D_step (u / 10) (u % 10) (by omega)
      rw [show 10 * (u / 10) + u % 10 = u by omega] at h1
      rw [Lib.decDigits, dif_neg h, digs_append, e, digs_cons, digs_nil, h1]

/-- the bytes of an amount of at least 0 -/
theorem money_list (u : Nat) : (moneyB u).data.toList = Lib.decDigits (u / 100) ++ (46 :: [UInt8.ofNat (48 + u / 10 % 10), UInt8.ofNat (48 + u % 10)]) := by
  have e1 : ((u : Int) / 100) = ((u / 100 : Nat) : Int) := by omega
  have e2 : ((u : Int) % 100 / 10) = ((u / 10 % 10 : Nat) : Int) := by omega
  have e3 : ((u : Int) % 10) = ((u % 10 : Nat) : Int) := by omega
  unfold moneyB
  rw [e1, e2, e3, dig1_nat, dig1_nat]
  have h := decB_toList (m := ((u / 100 : Nat) : Int)) (by omega)
  rw [Int.toNat_natCast] at h
  simp only [ByteArray.data_append, Array.toList_append, h]
  simp
theorem digs_money (u : Nat) : digs [] (moneyB u).data.toList = D u := by
  have h46 : ¬ (48 ≤ (46 : UInt8).toNat ∧ (46 : UInt8).toNat ≤ 57) := by decide
  rw [money_list, digs_append, digs_dec, digs_cons, dstep_no h46, digs_cons, digs_cons, digs_nil, D_step _ _ (by omega), D_step _ _ (by omega)]
  congr 1; omega
theorem money_len {u : Nat} (h : u ≤ 1000000000000) : (moneyB u).data.toList.length ≤ 16 := by
  have := dec_len (u := u / 100) (by omega)
  rw [money_list]; simp; omega
theorem moneyT_list {n : Int} (h : n < 0) : (moneyT n).data.toList = 45 :: (moneyB (-n)).data.toList := by
  rw [moneyT_neg h, ByteArray.data_append, Array.toList_append]; rfl

/-- the candidate of the model: what the first 20 bytes' digits are -/
def digsB (s : ByteArray) : List UInt8 := digs [] (s.data.toList.take 20)
theorem digsB_money {n : Int} (h : isVal n = true) : digsB (moneyT n) = D n.natAbs := by
  have hb := (isVal_iff n).1 h
  have h45 : ¬ (48 ≤ (45 : UInt8).toNat ∧ (45 : UInt8).toNat ≤ 57) := by decide
  by_cases hn : n < 0
  · obtain ⟨u, rfl⟩ : ∃ u : Nat, n = -(u : Int) := ⟨n.natAbs, by omega⟩
    have hl := money_len (u := u) (by omega)
    unfold digsB
    rw [moneyT_list hn, Int.neg_neg, List.take_of_length_le (by rw [List.length_cons]; omega), digs_cons, dstep_no h45, digs_money]
    congr 1; omega
  · obtain ⟨u, rfl⟩ := Int.eq_ofNat_of_zero_le (by omega : 0 ≤ n)
    have hl := money_len (u := u) (by omega)
    unfold digsB
    rw [moneyT_pos (by omega), List.take_of_length_le (by omega), digs_money]
    rfl
/-- the first byte is a minus sign exactly for negative amounts -/
theorem money_head (n : Int) : (moneyT n).data.toList.head? = some 45 ↔ n < 0 := by
  by_cases hn : n < 0
  · rw [moneyT_list hn]; simp [hn]
  · obtain ⟨u, rfl⟩ := Int.eq_ofNat_of_zero_le (by omega : 0 ≤ n)
    rw [moneyT_pos (by omega), money_list]
    cases hd : Lib.decDigits (u / 100) with
    | nil => exact absurd hd (dec_ne _)
    | cons c r =>
      have hc := (dec_spec (u / 100)).1 c (by rw [hd]; simp)
      constructor
      · intro e; simp at e; rw [e] at hc; exact absurd hc.1 (by decide)
      · intro e; omega

/-- the candidate of the program: what stands before and behind the first full stop, read as one number -/
def joined (l : List UInt8) : List UInt8 := (Lib.cut l [46]).1 ++ (Lib.cut l [46]).2.1
theorem cut_at (A B : List UInt8) (h : ∀ c ∈ A, c ≠ 46) : joined (A ++ 46 :: B) = A ++ B := by
  have hix : Lib.index (A ++ 46 :: B) [46] = (A.length : Nat) := by
    apply Lib.index_first
    · simp
    · simp [Lib.occAt, List.isPrefixOf]
    · intro j hj
      simp only [Lib.occAt]
      have hb : ((46 : UInt8) == A[j]) = false := beq_eq_false_iff_ne.2 (Ne.symm (h A[j] (List.getElem_mem _)))
      rw [List.drop_append_of_le_length (by omega), List.drop_eq_getElem_cons hj, List.cons_append, List.isPrefixOf, hb, Bool.false_and]
  have hn : ¬ (((A.length : Nat) : Int) == -1) = true := fun e => by have := beq_iff_eq.1 e; omega
  unfold joined Lib.cut
  rw [hix]
  simp
theorem joined_val (A : List UInt8) (u : Nat) (h : val 0 A = u / 100) : val 0 (A ++ [UInt8.ofNat (48 + u / 10 % 10), UInt8.ofNat (48 + u % 10)]) = u := by
  have h1 := (digit_of (u / 10 % 10) (by omega)).2
  have h2 := (digit_of (u % 10) (by omega)).2
  have e : 10 * (10 * (u / 100) + (48 + u / 10 % 10 - 48)) + (48 + u % 10 - 48) = u := by omega
  rw [val_append, h, val_cons, val_cons, val_nil, h1, h2, e]
theorem digits_ok (u : Nat) : ∀ c ∈ Lib.decDigits (u / 100) ++ [UInt8.ofNat (48 + u / 10 % 10), UInt8.ofNat (48 + u % 10)], digit c := by
  intro c hc
  rcases List.mem_append.1 hc with hc | hc
  · exact (dec_spec _).1 c hc
  · rcases List.mem_cons.1 hc with rfl | hc
    · exact (digit_of _ (by omega)).1
    · rw [List.mem_singleton] at hc; rw [hc]; exact (digit_of _ (by omega)).1
theorem dec_no46 (u : Nat) : ∀ c ∈ Lib.decDigits u, c ≠ 46 := by
  intro c hc e; have := (dec_spec u).1 c hc; rw [e] at this; exact absurd this.1 (by decide)
theorem joined_money {n : Int} (h : isVal n = true) : Lib.parseIntB 64 (joined (moneyT n).data.toList) = .ok n := by
  have hb := (isVal_iff n).1 h
  have e1 : (2 : Nat) ^ (64 - 1) = 9223372036854775808 := by decide
  have e2 : (2 : Nat) ^ 64 - 1 = 18446744073709551615 := by decide
  by_cases hn : n < 0
  · obtain ⟨u, rfl⟩ : ∃ u : Nat, n = -(u : Int) := ⟨n.natAbs, by omega⟩
    have hj : joined (moneyT (-(u : Int))).data.toList = 45 :: (Lib.decDigits (u / 100) ++ [UInt8.ofNat (48 + u / 10 % 10), UInt8.ofNat (48 + u % 10)]) := by
      rw [moneyT_list hn, Int.neg_neg, money_list]
      exact cut_at (45 :: Lib.decDigits (u / 100)) _ (by
        intro c hc
        rcases List.mem_cons.1 hc with rfl | hc
        · decide
        · exact dec_no46 _ c hc)
    have hv := joined_val (Lib.decDigits (u / 100)) u (dec_spec _).2
    rw [hj, Lib.parseIntB_minus, Lib.parseUintB, if_neg (by simp), e1, e2, parseM_val _ 0 (digits_ok u) (by rw [hv]; omega), hv]
    show (if 9223372036854775808 < u then Lib.NumEnd.range else Lib.NumEnd.ok (-(u : Int))) = _
    rw [if_neg (by omega)]
  · obtain ⟨u, rfl⟩ := Int.eq_ofNat_of_zero_le (by omega : 0 ≤ n)
    have hj : joined (moneyT (u : Int)).data.toList = Lib.decDigits (u / 100) ++ [UInt8.ofNat (48 + u / 10 % 10), UInt8.ofNat (48 + u % 10)] := by
      rw [moneyT_pos (by omega), money_list]
      exact cut_at (Lib.decDigits (u / 100)) _ (dec_no46 _)
    have hv := joined_val (Lib.decDigits (u / 100)) u (dec_spec _).2
    rw [hj]
    cases hd : Lib.decDigits (u / 100) with
    | nil => exact absurd hd (dec_ne _)
    | cons c r =>
      have hc := (dec_spec (u / 100)).1 c (by rw [hd]; simp)
      have hc' : 48 ≤ c.toNat ∧ c.toNat ≤ 57 := hc
      rw [List.cons_append, Lib.parseIntB_plain 64 c _ (by omega) (by omega), ← List.cons_append, ← hd, Lib.parseUintB, if_neg (by rw [hd]; simp), e1, e2, parseM_val _ 0 (digits_ok u) (by rw [hv]; omega), hv]
      show (if 9223372036854775808 ≤ u then Lib.NumEnd.range else Lib.NumEnd.ok (u : Int)) = _
      rw [if_neg (by omega)]

/-- the number of cents with a text, and the error -/
def IsMoney (s : ByteArray) (n : Int) : Prop := isVal n = true ∧ moneyT n = s
noncomputable def readMoney (s : ByteArray) : Int × Int := @dite _ (∃ n, IsMoney s n) (Classical.propDecidable _) (fun h => (h.choose, 0)) (fun _ => (0, 6))
theorem isMoney_inj {s : ByteArray} {m n : Int} (h : IsMoney s m) (h' : IsMoney s n) : m = n := by
  have h1 := joined_money h.1
  rw [h.2, ← h'.2, joined_money h'.1] at h1
  exact (Lib.NumEnd.ok.inj h1).symm
theorem readMoney_yes {s : ByteArray} {n : Int} (h : IsMoney s n) : readMoney s = (n, 0) := by
  unfold readMoney
  rw [dif_pos ⟨n, h⟩, isMoney_inj (⟨n, h⟩ : ∃ n, IsMoney s n).choose_spec h]
theorem readMoney_no {s : ByteArray} (h : ∀ n, ¬ IsMoney s n) : readMoney s = (0, 6) := by
  unfold readMoney
  rw [dif_neg (fun ⟨n, hn⟩ => h n hn)]

end Go.Proofs.YtfadmlgdabamhaaDoor.Pure9
