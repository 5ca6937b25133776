/- Contracts: impl's keepers and groupOf. -/
import Derived.Test.YtdeiillfdjebdaaChecked
import Derived.Test.YtdeiillfdjebdaaBase
import Derived.Test.YtdeiillfdjebdaaPure51
import Derived.Test.YtdeiillfdjebdaaTabB
import Derived.Test.YtdeiillfdjebdaaSteps5
import Derived.Test.YtdeiillfdjebdaaGroups5
import Derived.Test.YtdeiillfdjebdaaUf5
import Derived.WalkKit
import Derived.WalkSpells
import Derived.WalkLawsBesides
import Derived.Lib.Hide
import Derived.IntWalk
import Derived.Deep.OwnRows
import Derived.Outline
namespace Go.Proofs.Ytdeiillfdjebdaa
open Go.RowKit Pure1 Pure2 Pure40 Pure41 Pure50 Pure51

set_option maxRecDepth 100000 in
set_option maxHeartbeats 2000000 in
theorem implKeepers_any (A : Nat → Nat → Bool) (b n : Nat) (par : Nat → Option Nat) (w : World) (h : Places w b n par) (hn : n ≤ 12) (hless : ∀ i j, par i = some j → j < i) (hr : ∀ i, Root par i (keep A i)) :
    Calls Try.prog 54 #[.pointer (some ⟨b, 0, none⟩)] w (SaysL1 (toI (sel (fun i => decide (keep A i = i)) n)) w) := by
  have HP := Lib.hid h; have hbw := h.lt
  have hcnt := h.cnt
  have HC := Lib.hid (fun W (hB : Below w.heap.size w W) (i : Nat) (hi : i < n) => implKeeperOf_any b n par i (keep A i) W (h.of_block (hB.block b hbw)) (by omega) hless (hr i) (by have := keep_le_self (A := A) i; omega))
  have HO0 := Lib.hid (BuildI.nil w.heap.size w)
  clear h hless hr
  go_enter Try.func54, Try.ntmps54
  go_wp2_with fail
  clear hcnt
  go_loopw [3, 9] (fun v c wr => ∃ k : Nat, k ≤ n ∧ c = .int .i64 k ∧ BuildI w.heap.size wr v (toI (sel (fun i => decide (keep A i = i)) k)) ∧ Below w.heap.size w wr) (fun _ c _ => n - (intOf c).toNat)
  case atStart => exact ⟨0, Nat.zero_le _, rfl, HO0.out, Below.refl _ _⟩
  case round =>
    obtain ⟨k, hk, rfl, ho, hB⟩ := hrel
    have HO := Lib.hid ho; have HB := Lib.hid hB; clear ho hB HO0
    by_cases hlt : k < n
    · have HK := Lib.hid (HC.out wr HB.out k hlt)
      by_cases hd : keep A k = k
      · have HD := Lib.hid (show (fun i => decide (keep A i = i)) k = true from decide_eq_true hd)
        rw [hd] at HK
        clear hd
        have hsz := HB.out.size
        have HO1 := Lib.hid (HO.out.alloc (.cells #[.int .i64 k] 2))
        have HB1 := Lib.hid (HB.out.alloc hsz (.cells #[.int .i64 k] 2))
        have HLe := Lib.hid (sel_le (fun i => decide (keep A i = i)) k)
        go_wp2_with fail
        refine HK.out.mono ?_; rintro e w' ⟨rfl, rfl⟩
        go_wp2_with (at_builtin; refine wpList_int_append rfl _ _ rfl _ _ rfl HO1.out _ k rfl (cell_one _ _ _) ?c2 ?c3 ?_)
        case c2 => rw [toI_length]; have := HLe.out; omega
        case c3 => first | omega | (simp; omega)
        intro v' w5 ho5 hg5
        have HO5 := Lib.hid (show BuildI w.heap.size w5 v' (toI (sel (fun i => decide (keep A i = i)) (k + 1))) by rw [sel_yes HD.out, toI_append]; exact ho5)
        have HB5 := Lib.hid (HO1.out.grew HB1.out (Nat.le_refl _) (by simp; omega) hg5)
        clear ho5 hg5
        go_wp2_with fail
        go_roundw
        case rel => exact ⟨k + 1, by omega, by go_num, HO5.out, HB5.out⟩
        case measure => simp [intOf]; omega
      · have HD := Lib.hid (show (fun i => decide (keep A i = i)) k = false from decide_eq_false hd)
        have hne : ((keep A k : Int) == (k : Int)) = false := beq_int (by omega)
        clear hd
        generalize (keep A k : Int) = q at HK hne
        go_wp2_with fail
        refine HK.out.mono ?_; rintro e w' ⟨rfl, rfl⟩
        go_wp2_with fail
        go_roundw
        case rel => exact ⟨k + 1, by omega, by go_num, by rw [sel_no HD.out]; exact HO.out, HB.out⟩
        case measure => simp [intOf]; omega
    · obtain rfl : k = n := by omega
      go_wp2_with fail
      go_ret
      exact ⟨_, rfl, HO.out, HB.out⟩

set_option maxRecDepth 100000 in
set_option maxHeartbeats 2000000 in
theorem implGroupOf_any (A : Nat → Nat → Bool) (b n : Nat) (par : Nat → Option Nat) (z : Nat) (w : World) (h : Places w b n par) (hn : n ≤ 12) (hless : ∀ i j, par i = some j → j < i) (hr : ∀ i, Root par i (keep A i)) :
    Calls Try.prog 55 #[.pointer (some ⟨b, 0, none⟩), .int .i64 (z : Int)] w (SaysL1 (toI (sel (fun i => decide (keep A i = z)) n)) w) := by
  have HP := Lib.hid h; have hbw := h.lt
  have hcnt := h.cnt
  have HC := Lib.hid (fun W (hB : Below w.heap.size w W) (i : Nat) (hi : i < n) => implKeeperOf_any b n par i (keep A i) W (h.of_block (hB.block b hbw)) (by omega) hless (hr i) (by have := keep_le_self (A := A) i; omega))
  have HO0 := Lib.hid (BuildI.nil w.heap.size w)
  clear h hless hr
  go_enter Try.func55, Try.ntmps55
  go_wp2_with fail
  clear hcnt
  go_loopw [5, 11] (fun v c wr => ∃ k : Nat, k ≤ n ∧ c = .int .i64 k ∧ BuildI w.heap.size wr v (toI (sel (fun i => decide (keep A i = z)) k)) ∧ Below w.heap.size w wr) (fun _ c _ => n - (intOf c).toNat)
  case atStart => exact ⟨0, Nat.zero_le _, rfl, HO0.out, Below.refl _ _⟩
  case round =>
    obtain ⟨k, hk, rfl, ho, hB⟩ := hrel
    have HO := Lib.hid ho; have HB := Lib.hid hB; clear ho hB HO0
    by_cases hlt : k < n
    · have HK := Lib.hid (HC.out wr HB.out k hlt)
      by_cases hd : keep A k = z
      · have HD := Lib.hid (show (fun i => decide (keep A i = z)) k = true from decide_eq_true hd)
        rw [hd] at HK
        clear hd
        have hsz := HB.out.size
        have HO1 := Lib.hid (HO.out.alloc (.cells #[.int .i64 k] 2))
        have HB1 := Lib.hid (HB.out.alloc hsz (.cells #[.int .i64 k] 2))
        have HLe := Lib.hid (sel_le (fun i => decide (keep A i = z)) k)
        go_wp2_with fail
        refine HK.out.mono ?_; rintro e w' ⟨rfl, rfl⟩
        go_wp2_with (at_builtin; refine wpList_int_append rfl _ _ rfl _ _ rfl HO1.out _ k rfl (cell_one _ _ _) ?c2 ?c3 ?_)
        case c2 => rw [toI_length]; have := HLe.out; omega
        case c3 => first | omega | (simp; omega)
        intro v' w5 ho5 hg5
        have HO5 := Lib.hid (show BuildI w.heap.size w5 v' (toI (sel (fun i => decide (keep A i = z)) (k + 1))) by rw [sel_yes HD.out, toI_append]; exact ho5)
        have HB5 := Lib.hid (HO1.out.grew HB1.out (Nat.le_refl _) (by simp; omega) hg5)
        clear ho5 hg5
        go_wp2_with fail
        go_roundw
        case rel => exact ⟨k + 1, by omega, by go_num, HO5.out, HB5.out⟩
        case measure => simp [intOf]; omega
      · have HD := Lib.hid (show (fun i => decide (keep A i = z)) k = false from decide_eq_false hd)
        have hne : ((keep A k : Int) == (z : Int)) = false := beq_int (by omega)
        clear hd
        generalize (keep A k : Int) = q at HK hne
        go_wp2_with fail
        refine HK.out.mono ?_; rintro e w' ⟨rfl, rfl⟩
        go_wp2_with fail
        go_roundw
        case rel => exact ⟨k + 1, by omega, by go_num, by rw [sel_no HD.out]; exact HO.out, HB.out⟩
        case measure => simp [intOf]; omega
    · obtain rfl : k = n := by omega
      go_wp2_with fail
      go_ret
      exact ⟨_, rfl, HO.out, HB.out⟩

end Go.Proofs.Ytdeiillfdjebdaa
