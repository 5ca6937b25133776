/- Contracts: impl.sharedBeginning, impl.isOneStep, spec.l04Step: does one step turn a word into another one? -/
import Derived.Test.YtdeiillfdjebdaaChecked
import Derived.Test.YtdeiillfdjebdaaBase
import Derived.Test.YtdeiillfdjebdaaPure41
import Derived.WalkKit
import Derived.WalkSpells
import Derived.WalkLawsBesides
import Derived.Lib.Hide
import Derived.IntWalk
import Derived.Deep.QuietTactic
import Derived.BigQuiet
import Derived.Outline
namespace Go.Proofs.Ytdeiillfdjebdaa
open Go.RowKit Pure1 Pure40 Pure41

theorem byte_eq {x y : UInt8} : (((x.toNat : Int) == (y.toNat : Int)) = true ↔ x = y) := by
  rw [beq_iff_eq]
  exact ⟨fun h => UInt8.toNat_inj.1 (by omega), fun h => by rw [h]⟩
theorem byte_ne {x y : UInt8} : (((x.toNat : Int) == (y.toNat : Int)) = false ↔ x ≠ y) := by
  rw [← Bool.not_eq_true, byte_eq]

/-- an int is returned; the world has at most drawn -/
def SaysN (n : Nat) (w : World) (e : Ending) (w' : World) : Prop := e = .returned (.int .i64 (n : Int)) ∧ ∃ m, w' = w.drewN m

set_option maxRecDepth 100000 in
set_option maxHeartbeats 1000000 in
theorem implShared_any (a b : ByteArray) (w : World) (ha : a.size ≤ b.size) (hb : b.size ≤ 1048576) :
    Calls Try.prog 98 #[.string a, .string b] w (SaysN (comB a b) w) := by
  go_enter Try.func98, Try.ntmps98
  go_wp2
  go_loopw [5] (fun i wr => ∃ k n : Nat, k ≤ a.size ∧ i = .int .i64 k ∧ wr = w.drewN n ∧ a.data.toList.take k = b.data.toList.take k) (fun i _ => a.size - (intOf i).toNat)
  case atStart => exact ⟨0, 0, Nat.zero_le _, rfl, rfl, rfl⟩
  case round =>
    obtain ⟨k, n, hk, rfl, hw, ht⟩ := hrel
    have HT := Lib.hid ht; have HW := Lib.hid hw; clear ht hw
    by_cases hlt : k < a.size
    · have hlt' : k < b.size := by omega
      by_cases hq : a[k] = b[k]
      · have hq' := byte_eq.2 hq
        have HN := Lib.hid (take_step HT.out hlt hlt' hq); clear hq
        go_wp2
        go_quiet (fail)
        have HW2 := Lib.hid (show wr.drewN nq = w.drewN (n + nq) by rw [HW.out, drewN_add])
        go_wp2
        go_roundw
        case rel => exact ⟨k + 1, _, by omega, by go_num, HW2.out, HN.out⟩
        case measure => simp [intOf]; omega
      · have hq' := byte_ne.2 hq
        have HN := Lib.hid (comB_stop HT.out hlt hlt' hq); clear hq
        go_wp2
        go_quiet (fail)
        have HW2 := Lib.hid (show wr.drewN nq = w.drewN (n + nq) by rw [HW.out, drewN_add])
        go_wp2
        go_ret
        exact ⟨ret_i64 (by rw [HN.out]), _, HW2.out⟩
    · have HN := Lib.hid (comB_end HT.out (show k = a.size by omega))
      have hd : decide (k < a.size) = false := decide_eq_false (by omega)
      clear hlt
      go_wp2
      go_quiet (fail)
      have HW2 := Lib.hid (show wr.drewN nq = w.drewN (n + nq) by rw [HW.out, drewN_add])
      go_wp2
      go_ret
      exact ⟨ret_i64 (by rw [HN.out]), _, HW2.out⟩

/-- a bool of the walk -/
def SaysBD (b : Bool) (w : World) (e : Ending) (w' : World) : Prop := e = .returned (.bool b) ∧ ∃ m, w' = w.drewN m

theorem oneStep_eq {a b s l : ByteArray} {k : Nat} (h : (b.size < a.size ∧ s = b ∧ l = a) ∨ (¬ b.size < a.size ∧ s = a ∧ l = b)) (hk : comB s l = k) :
    oneStep a b = if s.size = l.size then decide (k < s.size) && ((s.extract (k + 1) s.size).toList == (l.extract (k + 1) l.size).toList)
      else if s.size + 1 = l.size then (s.extract k s.size).toList == (l.extract (k + 1) l.size).toList else false := by
  unfold oneStep
  rcases h with ⟨h, rfl, rfl⟩ | ⟨h, rfl, rfl⟩
  · rw [if_pos h]; unfold stepP; rw [hk]
  · rw [if_neg h]; unfold stepP; rw [hk]
theorem comB_le {a b : ByteArray} (h : a.size ≤ b.size) : comB a b ≤ a.size := by
  unfold comB
  have : ∀ (x y : List UInt8), comL x y ≤ x.length := by
    intro x
    induction x with
    | nil => intro y; simp [comL]
    | cons c cs ih => intro y; cases y with
      | nil => simp [comL]
      | cons d ds => simp only [comL]; split
                     · have := ih ds; simp; omega
                     · simp
  have := this a.data.toList b.data.toList
  rwa [size_eq] at this

set_option maxRecDepth 100000 in
set_option maxHeartbeats 2000000 in
theorem implOneStep_any (a b : ByteArray) (w : World) (ha : a.size ≤ 1048576) (hb : b.size ≤ 1048576) :
    Calls Try.prog 95 #[.string a, .string b] w (SaysBD (oneStep a b) w) := by
  by_cases hlt : b.size < a.size
  · have hsl : b.size ≤ a.size := by omega
    have hkle := comB_le hsl
    obtain ⟨k, hk⟩ : ∃ k, comB b a = k := ⟨_, rfl⟩
    have HO := Lib.hid (oneStep_eq (a := a) (b := b) (.inl ⟨hlt, rfl, rfl⟩) hk)
    have HC := Lib.hid (fun W => implShared_any b a W hsl (by omega))
    rw [hk] at HC hkle
    clear hk
    go_enter Try.func95, Try.ntmps95
    go_wp2_with fail
    refine (HC.out w).mono ?_; rintro e w1 ⟨rfl, n1, rfl⟩
    by_cases he : b.size = a.size
    · have he0 : (a.size : Int) - (b.size : Int) = 0 := by omega
      by_cases hks : k < b.size
      · have HN := Lib.hid (show oneStep a b = ((b.extract (k + 1) b.size).toList == (a.extract (k + 1) a.size).toList) by rw [HO.out, if_pos he, decide_eq_true hks, Bool.true_and])
        have HE := Lib.hid he
        clear he
        go_wp2
        have hd : decide (k < b.size) = true := decide_eq_true hks
        have hk1 : (k : Int) + 1 ≤ (b.size : Int) := by omega
        have hk2 : (k : Int) + 1 ≤ (a.size : Int) := by omega
        go_quiet (fail)
        go_wp2
        go_ret
        exact ⟨ret_bool (by rw [HN.out]), _, drewN_add _ _ _⟩
      · have HN := Lib.hid (show oneStep a b = false by rw [HO.out, if_pos he, decide_eq_false hks, Bool.false_and])
        have hd : decide (k < b.size) = false := decide_eq_false hks
        clear hks he
        go_wp2
        go_quiet (fail)
        go_wp2
        go_ret
        exact ⟨ret_bool (by rw [HN.out]), _, drewN_add _ _ _⟩
    · by_cases h1 : b.size + 1 = a.size
      · have HN := Lib.hid (show oneStep a b = ((b.extract k b.size).toList == (a.extract (k + 1) a.size).toList) by rw [HO.out, if_neg he, if_pos h1])
        have he1 : (a.size : Int) - (b.size : Int) = 1 := by omega
        have hk1 : (k : Int) ≤ (b.size : Int) := by omega
        have hk2 : (k : Int) + 1 ≤ (a.size : Int) := by omega
        clear he h1
        go_wp2
        go_quiet (fail)
        go_wp2
        go_ret
        exact ⟨ret_bool (by rw [HN.out]), _, drewN_add _ _ _⟩
      · have HN := Lib.hid (show oneStep a b = false by rw [HO.out, if_neg he, if_neg h1])
        have he1 : ((a.size : Int) - (b.size : Int) == 0) = false := beq_eq_false_iff_ne.2 (by omega)
        have he2 : ((a.size : Int) - (b.size : Int) == 1) = false := beq_eq_false_iff_ne.2 (by omega)
        clear he h1
        go_wp2
        go_ret
        exact ⟨ret_bool (by rw [HN.out]), _, rfl⟩
  · have hsl : a.size ≤ b.size := by omega
    have hkle := comB_le hsl
    obtain ⟨k, hk⟩ : ∃ k, comB a b = k := ⟨_, rfl⟩
    have HO := Lib.hid (oneStep_eq (a := a) (b := b) (.inr ⟨hlt, rfl, rfl⟩) hk)
    have HC := Lib.hid (fun W => implShared_any a b W hsl (by omega))
    rw [hk] at HC hkle
    clear hk
    go_enter Try.func95, Try.ntmps95
    go_wp2_with fail
    refine (HC.out w).mono ?_; rintro e w1 ⟨rfl, n1, rfl⟩
    by_cases he : a.size = b.size
    · have he0 : (b.size : Int) - (a.size : Int) = 0 := by omega
      by_cases hks : k < a.size
      · have HN := Lib.hid (show oneStep a b = ((a.extract (k + 1) a.size).toList == (b.extract (k + 1) b.size).toList) by rw [HO.out, if_pos he, decide_eq_true hks, Bool.true_and])
        have HE := Lib.hid he
        clear he
        go_wp2
        have hd : decide (k < a.size) = true := decide_eq_true hks
        have hk1 : (k : Int) + 1 ≤ (a.size : Int) := by omega
        have hk2 : (k : Int) + 1 ≤ (b.size : Int) := by omega
        go_quiet (fail)
        go_wp2
        go_ret
        exact ⟨ret_bool (by rw [HN.out]), _, drewN_add _ _ _⟩
      · have HN := Lib.hid (show oneStep a b = false by rw [HO.out, if_pos he, decide_eq_false hks, Bool.false_and])
        have hd : decide (k < a.size) = false := decide_eq_false hks
        clear hks he
        go_wp2
        go_quiet (fail)
        go_wp2
        go_ret
        exact ⟨ret_bool (by rw [HN.out]), _, drewN_add _ _ _⟩
    · by_cases h1 : a.size + 1 = b.size
      · have HN := Lib.hid (show oneStep a b = ((a.extract k a.size).toList == (b.extract (k + 1) b.size).toList) by rw [HO.out, if_neg he, if_pos h1])
        have he1 : (b.size : Int) - (a.size : Int) = 1 := by omega
        have hk1 : (k : Int) ≤ (a.size : Int) := by omega
        have hk2 : (k : Int) + 1 ≤ (b.size : Int) := by omega
        clear he h1
        go_wp2
        go_quiet (fail)
        go_wp2
        go_ret
        exact ⟨ret_bool (by rw [HN.out]), _, drewN_add _ _ _⟩
      · have HN := Lib.hid (show oneStep a b = false by rw [HO.out, if_neg he, if_neg h1])
        have he1 : ((b.size : Int) - (a.size : Int) == 0) = false := beq_eq_false_iff_ne.2 (by omega)
        have he2 : ((b.size : Int) - (a.size : Int) == 1) = false := beq_eq_false_iff_ne.2 (by omega)
        clear he h1
        go_wp2
        go_ret
        exact ⟨ret_bool (by rw [HN.out]), _, rfl⟩

set_option maxRecDepth 100000 in
set_option maxHeartbeats 4000000 in
theorem specStep_any (a b : ByteArray) (w : World) (ha : a.size ≤ 1048576) (hb : b.size ≤ 1048576) :
    Calls Try.prog 93 #[.string a, .string b] w (SaysBD (oneStep a b) w) := by
  by_cases hlt : b.size < a.size
  · have hsl : b.size ≤ a.size := by omega
    have HLT := Lib.hid hlt
    go_enter Try.func93, Try.ntmps93
    go_wp2
    clear hlt
    go_loopw [5] (fun i wr => ∃ k n : Nat, k ≤ b.size ∧ i = .int .i64 k ∧ wr = w.drewN n ∧ b.data.toList.take k = a.data.toList.take k) (fun i _ => b.size - (intOf i).toNat)
    case atStart => exact ⟨0, 0, Nat.zero_le _, rfl, rfl, rfl⟩
    case round =>
      obtain ⟨k, n, hk, rfl, hw, ht⟩ := hrel
      have HT := Lib.hid ht; have HW := Lib.hid hw; clear ht hw
      by_cases hlt : k < b.size
      · have hlt' : k < a.size := by omega
        by_cases hq : b[k] = a[k]
        · have hq' := byte_eq.2 hq
          have HN := Lib.hid (take_step HT.out hlt hlt' hq); clear hq
          go_wp2
          go_quiet (fail)
          have HW2 := Lib.hid (show wr.drewN nq = w.drewN (n + nq) by rw [HW.out, drewN_add])
          go_wp2
          go_roundw
          case rel => exact ⟨k + 1, _, by omega, by go_num, HW2.out, HN.out⟩
          case measure => simp [intOf]; omega
        · have hq' := byte_ne.2 hq
          have HE := Lib.hid (comB_stop HT.out hlt hlt' hq); clear hq
          go_wp2
          go_quiet (fail)
          have HW2 := Lib.hid (show wr.drewN nq = w.drewN (n + nq) by rw [HW.out, drewN_add])
          obtain ⟨wx, hwx⟩ : ∃ wx, wx = wr.drewN nq := ⟨_, rfl⟩
          rw [← hwx] at HW2 ⊢; clear hwx
          have hkle := comB_le hsl
          rw [HE.out] at hkle
          have HO := Lib.hid (oneStep_eq (a := a) (b := b) (.inl ⟨HLT.out, rfl, rfl⟩) HE.out)
          by_cases he : b.size = a.size
          · have hks : k < b.size := hlt
            have HN := Lib.hid (show oneStep a b = ((b.extract (k + 1) b.size).toList == (a.extract (k + 1) a.size).toList) by rw [HO.out, if_pos he, decide_eq_true hks, Bool.true_and])
            have hE := Lib.hid he
            have he2 : ((b.size : Int) == (a.size : Int)) = true := beq_iff_eq.2 (by omega)
            have hks2 : k < a.size := by omega
            clear he
            go_wp2
            have hd : decide (k < b.size) = true := decide_eq_true hks
            have hk1 : (k : Int) + 1 ≤ (b.size : Int) := by omega
            have hk2 : (k : Int) + 1 ≤ (a.size : Int) := by omega
            go_quiet (fail)
            go_wp2
            go_ret
            exact ⟨ret_bool (by rw [HN.out]), _, by rw [HW2.out, drewN_add]⟩
          · have he2 : ((b.size : Int) == (a.size : Int)) = false := beq_eq_false_iff_ne.2 (by omega)
            by_cases h1 : b.size + 1 = a.size
            · have HN := Lib.hid (show oneStep a b = ((b.extract k b.size).toList == (a.extract (k + 1) a.size).toList) by rw [HO.out, if_neg he, if_pos h1])
              have he1 : ((b.size : Int) + 1 == (a.size : Int)) = true := beq_iff_eq.2 (by omega)
              have hk1 : (k : Int) ≤ (b.size : Int) := by omega
              have hk2 : (k : Int) + 1 ≤ (a.size : Int) := by omega
              clear he h1
              go_wp2
              go_quiet (fail)
              go_wp2
              go_ret
              exact ⟨ret_bool (by rw [HN.out]), _, by rw [HW2.out, drewN_add]⟩
            · have HN := Lib.hid (show oneStep a b = false by rw [HO.out, if_neg he, if_neg h1])
              have he1 : ((b.size : Int) + 1 == (a.size : Int)) = false := beq_eq_false_iff_ne.2 (by omega)
              clear he h1
              go_wp2
              go_quiet (fail)
              go_wp2
              go_ret
              exact ⟨ret_bool (by rw [HN.out]), _, by rw [HW2.out, drewN_add]⟩
      · have HE := Lib.hid (comB_end HT.out (show k = b.size by omega))
        have hd : decide (k < b.size) = false := decide_eq_false (by omega)
        have hkk : k = b.size := by omega
        have HK := Lib.hid hkk
        clear hlt hkk
        go_wp2
        go_quiet (fail)
        have HW2 := Lib.hid (show wr.drewN nq = w.drewN (n + nq) by rw [HW.out, drewN_add])
        obtain ⟨wx, hwx⟩ : ∃ wx, wx = wr.drewN nq := ⟨_, rfl⟩
        rw [← hwx] at HW2 ⊢; clear hwx hd
        have hkle := comB_le hsl
        rw [HE.out] at hkle
        have HO := Lib.hid (oneStep_eq (a := a) (b := b) (.inl ⟨HLT.out, rfl, rfl⟩) HE.out)
        by_cases he : b.size = a.size
        · have hks : ¬ k < b.size := by have := HK.out; omega
          have HN := Lib.hid (show oneStep a b = false by rw [HO.out, if_pos he, decide_eq_false hks, Bool.false_and])
          have hd : decide (k < b.size) = false := decide_eq_false hks
          have he2 : ((b.size : Int) == (a.size : Int)) = true := beq_iff_eq.2 (by omega)
          clear hks he
          go_wp2
          go_quiet (fail)
          go_wp2
          go_ret
          exact ⟨ret_bool (by rw [HN.out]), _, by rw [HW2.out, drewN_add]⟩
        · have he2 : ((b.size : Int) == (a.size : Int)) = false := beq_eq_false_iff_ne.2 (by omega)
          by_cases h1 : b.size + 1 = a.size
          · have HN := Lib.hid (show oneStep a b = ((b.extract k b.size).toList == (a.extract (k + 1) a.size).toList) by rw [HO.out, if_neg he, if_pos h1])
            have he1 : ((b.size : Int) + 1 == (a.size : Int)) = true := beq_iff_eq.2 (by omega)
            have hk1 : (k : Int) ≤ (b.size : Int) := by omega
            have hk2 : (k : Int) + 1 ≤ (a.size : Int) := by omega
            clear he h1
            go_wp2
            go_quiet (fail)
            go_wp2
            go_ret
            exact ⟨ret_bool (by rw [HN.out]), _, by rw [HW2.out, drewN_add]⟩
          · have HN := Lib.hid (show oneStep a b = false by rw [HO.out, if_neg he, if_neg h1])
            have he1 : ((b.size : Int) + 1 == (a.size : Int)) = false := beq_eq_false_iff_ne.2 (by omega)
            clear he h1
            go_wp2
            go_quiet (fail)
            go_wp2
            go_ret
            exact ⟨ret_bool (by rw [HN.out]), _, by rw [HW2.out, drewN_add]⟩
  · have hsl : a.size ≤ b.size := by omega
    have HLT := Lib.hid hlt
    go_enter Try.func93, Try.ntmps93
    go_wp2
    clear hlt
    go_loopw [5] (fun i wr => ∃ k n : Nat, k ≤ a.size ∧ i = .int .i64 k ∧ wr = w.drewN n ∧ a.data.toList.take k = b.data.toList.take k) (fun i _ => a.size - (intOf i).toNat)
    case atStart => exact ⟨0, 0, Nat.zero_le _, rfl, rfl, rfl⟩
    case round =>
      obtain ⟨k, n, hk, rfl, hw, ht⟩ := hrel
      have HT := Lib.hid ht; have HW := Lib.hid hw; clear ht hw
      by_cases hlt : k < a.size
      · have hlt' : k < b.size := by omega
        by_cases hq : a[k] = b[k]
        · have hq' := byte_eq.2 hq
          have HN := Lib.hid (take_step HT.out hlt hlt' hq); clear hq
          go_wp2
          go_quiet (fail)
          have HW2 := Lib.hid (show wr.drewN nq = w.drewN (n + nq) by rw [HW.out, drewN_add])
          go_wp2
          go_roundw
          case rel => exact ⟨k + 1, _, by omega, by go_num, HW2.out, HN.out⟩
          case measure => simp [intOf]; omega
        · have hq' := byte_ne.2 hq
          have HE := Lib.hid (comB_stop HT.out hlt hlt' hq); clear hq
          go_wp2
          go_quiet (fail)
          have HW2 := Lib.hid (show wr.drewN nq = w.drewN (n + nq) by rw [HW.out, drewN_add])
          obtain ⟨wx, hwx⟩ : ∃ wx, wx = wr.drewN nq := ⟨_, rfl⟩
          rw [← hwx] at HW2 ⊢; clear hwx
          have hkle := comB_le hsl
          rw [HE.out] at hkle
          have HO := Lib.hid (oneStep_eq (a := a) (b := b) (.inr ⟨HLT.out, rfl, rfl⟩) HE.out)
          by_cases he : a.size = b.size
          · have hks : k < a.size := hlt
            have HN := Lib.hid (show oneStep a b = ((a.extract (k + 1) a.size).toList == (b.extract (k + 1) b.size).toList) by rw [HO.out, if_pos he, decide_eq_true hks, Bool.true_and])
            have hE := Lib.hid he
            have he2 : ((a.size : Int) == (b.size : Int)) = true := beq_iff_eq.2 (by omega)
            have hks2 : k < b.size := by omega
            clear he
            go_wp2
            have hd : decide (k < a.size) = true := decide_eq_true hks
            have hk1 : (k : Int) + 1 ≤ (a.size : Int) := by omega
            have hk2 : (k : Int) + 1 ≤ (b.size : Int) := by omega
            go_quiet (fail)
            go_wp2
            go_ret
            exact ⟨ret_bool (by rw [HN.out]), _, by rw [HW2.out, drewN_add]⟩
          · have he2 : ((a.size : Int) == (b.size : Int)) = false := beq_eq_false_iff_ne.2 (by omega)
            by_cases h1 : a.size + 1 = b.size
            · have HN := Lib.hid (show oneStep a b = ((a.extract k a.size).toList == (b.extract (k + 1) b.size).toList) by rw [HO.out, if_neg he, if_pos h1])
              have he1 : ((a.size : Int) + 1 == (b.size : Int)) = true := beq_iff_eq.2 (by omega)
              have hk1 : (k : Int) ≤ (a.size : Int) := by omega
              have hk2 : (k : Int) + 1 ≤ (b.size : Int) := by omega
              clear he h1
              go_wp2
              go_quiet (fail)
              go_wp2
              go_ret
              exact ⟨ret_bool (by rw [HN.out]), _, by rw [HW2.out, drewN_add]⟩
            · have HN := Lib.hid (show oneStep a b = false by rw [HO.out, if_neg he, if_neg h1])
              have he1 : ((a.size : Int) + 1 == (b.size : Int)) = false := beq_eq_false_iff_ne.2 (by omega)
              clear he h1
              go_wp2
              go_quiet (fail)
              go_wp2
              go_ret
              exact ⟨ret_bool (by rw [HN.out]), _, by rw [HW2.out, drewN_add]⟩
      · have HE := Lib.hid (comB_end HT.out (show k = a.size by omega))
        have hd : decide (k < a.size) = false := decide_eq_false (by omega)
        have hkk : k = a.size := by omega
        have HK := Lib.hid hkk
        clear hlt hkk
        go_wp2
        go_quiet (fail)
        have HW2 := Lib.hid (show wr.drewN nq = w.drewN (n + nq) by rw [HW.out, drewN_add])
        obtain ⟨wx, hwx⟩ : ∃ wx, wx = wr.drewN nq := ⟨_, rfl⟩
        rw [← hwx] at HW2 ⊢; clear hwx hd
        have hkle := comB_le hsl
        rw [HE.out] at hkle
        have HO := Lib.hid (oneStep_eq (a := a) (b := b) (.inr ⟨HLT.out, rfl, rfl⟩) HE.out)
        by_cases he : a.size = b.size
        · have hks : ¬ k < a.size := by have := HK.out; omega
          have HN := Lib.hid (show oneStep a b = false by rw [HO.out, if_pos he, decide_eq_false hks, Bool.false_and])
          have hd : decide (k < a.size) = false := decide_eq_false hks
          have he2 : ((a.size : Int) == (b.size : Int)) = true := beq_iff_eq.2 (by omega)
          clear hks he
          go_wp2
          go_quiet (fail)
          go_wp2
          go_ret
          exact ⟨ret_bool (by rw [HN.out]), _, by rw [HW2.out, drewN_add]⟩
        · have he2 : ((a.size : Int) == (b.size : Int)) = false := beq_eq_false_iff_ne.2 (by omega)
          by_cases h1 : a.size + 1 = b.size
          · have HN := Lib.hid (show oneStep a b = ((a.extract k a.size).toList == (b.extract (k + 1) b.size).toList) by rw [HO.out, if_neg he, if_pos h1])
            have he1 : ((a.size : Int) + 1 == (b.size : Int)) = true := beq_iff_eq.2 (by omega)
            have hk1 : (k : Int) ≤ (a.size : Int) := by omega
            have hk2 : (k : Int) + 1 ≤ (b.size : Int) := by omega
            clear he h1
            go_wp2
            go_quiet (fail)
            go_wp2
            go_ret
            exact ⟨ret_bool (by rw [HN.out]), _, by rw [HW2.out, drewN_add]⟩
          · have HN := Lib.hid (show oneStep a b = false by rw [HO.out, if_neg he, if_neg h1])
            have he1 : ((a.size : Int) + 1 == (b.size : Int)) = false := beq_eq_false_iff_ne.2 (by omega)
            clear he h1
            go_wp2
            go_quiet (fail)
            go_wp2
            go_ret
            exact ⟨ret_bool (by rw [HN.out]), _, by rw [HW2.out, drewN_add]⟩

end Go.Proofs.Ytdeiillfdjebdaa
