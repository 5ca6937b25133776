/- Contracts: ReasonsText, of the program and of its model. -/
import Derived.Test.YtjnjmoiilapbiaaChecked
import Derived.Test.YtjnjmoiilapbiaaBase
import Derived.Test.YtjnjmoiilapbiaaInfo
import Derived.Test.YtjnjmoiilapbiaaPure61
import Derived.Test.YtjnjmoiilapbiaaWithin
import Derived.Test.YtjnjmoiilapbiaaIsPers
import Derived.Test.YtjnjmoiilapbiaaJoinP
import Derived.Test.YtjnjmoiilapbiaaJoinW
import Derived.Test.YtjnjmoiilapbiaaBuild6
import Derived.WalkKit
import Derived.WalkSpells
import Derived.WalkLawsBesides
import Derived.Lib.Hide
import Derived.IntWalk
import Derived.Deep.OwnRows
import Derived.OwnWalk
import Derived.Outline
namespace Go.Proofs.Ytjnjmoiilapbiaa
open Go.RowKit Pure1 Pure2 Pure3 Pure40 Pure61

theorem names_small : ∀ N : Fin 128, szs (namesTo N.val 7) ≤ 100 := by decide +kernel
theorem names_bit : ∀ N : Fin 128, ∀ k : Fin 7, (bits .and .i64 (((N.val / 2 ^ k.val : Nat) : Int)) 1 == 1) = bitN N.val k.val := by decide +kernel
theorem textR_ok {N : Nat} (h : N ≤ 127) : textR (N : Int) = (wordsT (namesTo N 7), 0) := by
  unfold textR; rw [if_pos (inR_iff.2 (by omega))]; rfl
theorem textR_no {n : Int} (h : inR n 0 127 = false) : textR n = (⟨#[]⟩, 1) := by unfold textR; rw [if_neg (by rw [h]; simp)]
theorem run_names7_0 (w : World) : (Instr.index 80 (.agg #[.string ⟨#[121, 111, 117, 110, 103]⟩, .string ⟨#[111, 108, 100]⟩, .string ⟨#[122, 111, 110, 101]⟩, .string ⟨#[102, 111, 114, 101, 105, 103, 110]⟩, .string ⟨#[99, 111, 110, 118, 105, 99, 116, 101, 100]⟩, .string ⟨#[108, 97, 110, 103, 117, 97, 103, 101]⟩, .string ⟨#[106, 111, 98]⟩]) (.int .i64 0)).run Try.prog w = .ok (.string ⟨#[121, 111, 117, 110, 103]⟩) w := by kernel_rfl
theorem run_names7_1 (w : World) : (Instr.index 80 (.agg #[.string ⟨#[121, 111, 117, 110, 103]⟩, .string ⟨#[111, 108, 100]⟩, .string ⟨#[122, 111, 110, 101]⟩, .string ⟨#[102, 111, 114, 101, 105, 103, 110]⟩, .string ⟨#[99, 111, 110, 118, 105, 99, 116, 101, 100]⟩, .string ⟨#[108, 97, 110, 103, 117, 97, 103, 101]⟩, .string ⟨#[106, 111, 98]⟩]) (.int .i64 1)).run Try.prog w = .ok (.string ⟨#[111, 108, 100]⟩) w := by kernel_rfl
theorem run_names7_2 (w : World) : (Instr.index 80 (.agg #[.string ⟨#[121, 111, 117, 110, 103]⟩, .string ⟨#[111, 108, 100]⟩, .string ⟨#[122, 111, 110, 101]⟩, .string ⟨#[102, 111, 114, 101, 105, 103, 110]⟩, .string ⟨#[99, 111, 110, 118, 105, 99, 116, 101, 100]⟩, .string ⟨#[108, 97, 110, 103, 117, 97, 103, 101]⟩, .string ⟨#[106, 111, 98]⟩]) (.int .i64 2)).run Try.prog w = .ok (.string ⟨#[122, 111, 110, 101]⟩) w := by kernel_rfl
theorem run_names7_3 (w : World) : (Instr.index 80 (.agg #[.string ⟨#[121, 111, 117, 110, 103]⟩, .string ⟨#[111, 108, 100]⟩, .string ⟨#[122, 111, 110, 101]⟩, .string ⟨#[102, 111, 114, 101, 105, 103, 110]⟩, .string ⟨#[99, 111, 110, 118, 105, 99, 116, 101, 100]⟩, .string ⟨#[108, 97, 110, 103, 117, 97, 103, 101]⟩, .string ⟨#[106, 111, 98]⟩]) (.int .i64 3)).run Try.prog w = .ok (.string ⟨#[102, 111, 114, 101, 105, 103, 110]⟩) w := by kernel_rfl
theorem run_names7_4 (w : World) : (Instr.index 80 (.agg #[.string ⟨#[121, 111, 117, 110, 103]⟩, .string ⟨#[111, 108, 100]⟩, .string ⟨#[122, 111, 110, 101]⟩, .string ⟨#[102, 111, 114, 101, 105, 103, 110]⟩, .string ⟨#[99, 111, 110, 118, 105, 99, 116, 101, 100]⟩, .string ⟨#[108, 97, 110, 103, 117, 97, 103, 101]⟩, .string ⟨#[106, 111, 98]⟩]) (.int .i64 4)).run Try.prog w = .ok (.string ⟨#[99, 111, 110, 118, 105, 99, 116, 101, 100]⟩) w := by kernel_rfl
theorem run_names7_5 (w : World) : (Instr.index 80 (.agg #[.string ⟨#[121, 111, 117, 110, 103]⟩, .string ⟨#[111, 108, 100]⟩, .string ⟨#[122, 111, 110, 101]⟩, .string ⟨#[102, 111, 114, 101, 105, 103, 110]⟩, .string ⟨#[99, 111, 110, 118, 105, 99, 116, 101, 100]⟩, .string ⟨#[108, 97, 110, 103, 117, 97, 103, 101]⟩, .string ⟨#[106, 111, 98]⟩]) (.int .i64 5)).run Try.prog w = .ok (.string ⟨#[108, 97, 110, 103, 117, 97, 103, 101]⟩) w := by kernel_rfl
theorem run_names7_6 (w : World) : (Instr.index 80 (.agg #[.string ⟨#[121, 111, 117, 110, 103]⟩, .string ⟨#[111, 108, 100]⟩, .string ⟨#[122, 111, 110, 101]⟩, .string ⟨#[102, 111, 114, 101, 105, 103, 110]⟩, .string ⟨#[99, 111, 110, 118, 105, 99, 116, 101, 100]⟩, .string ⟨#[108, 97, 110, 103, 117, 97, 103, 101]⟩, .string ⟨#[106, 111, 98]⟩]) (.int .i64 6)).run Try.prog w = .ok (.string ⟨#[106, 111, 98]⟩) w := by kernel_rfl

set_option maxRecDepth 100000 in
set_option maxHeartbeats 4000000 in
theorem implReasonsText_any (n : Int) (w : World) :
    Calls Try.prog 25 #[.int .i64 n] w (SaysT2 (textR n).1 (textR n).2 w) := by
  cases hin : inR n 0 127
  · have HN := Lib.hid (textR_no hin)
    have HC := Lib.hid (fun W => implWithin_any n 0 127 W)
    rw [hin] at HC
    clear hin
    go_enter Try.func25, Try.ntmps25
    go_wp2_with fail
    refine (HC.out _).mono ?_; rintro e w ⟨rfl, rfl⟩
    go_wp2_with fail
    go_ret2
    rw [HN.out]
    exact ⟨rfl, Below.refl _ _⟩
  · obtain ⟨N, rfl⟩ := Int.eq_ofNat_of_zero_le (inR_iff.1 hin).1
    have hN : N ≤ 127 := by have := (inR_iff.1 hin).2; omega
    have HC := Lib.hid (fun W => implWithin_any (N : Int) 0 127 W)
    rw [hin] at HC
    have HN := Lib.hid (textR_ok hN)
    have HBT := Lib.hid (fun (k : Nat) (hk : k < 7) => names_bit ⟨N, by omega⟩ ⟨k, hk⟩)
    have HSZ := Lib.hid (names_small ⟨N, by omega⟩)
    clear hin
    go_enter Try.func25, Try.ntmps25
    go_wp2_with fail
    refine (HC.out _).mono ?_; rintro e w ⟨rfl, rfl⟩
    go_wp2_with fail
    have HO0 := Lib.hid (BuildS.nil w.heap.size (w.alloc (.cells #[.string ⟨#[121, 111, 117, 110, 103]⟩, .string ⟨#[111, 108, 100]⟩, .string ⟨#[122, 111, 110, 101]⟩, .string ⟨#[102, 111, 114, 101, 105, 103, 110]⟩, .string ⟨#[99, 111, 110, 118, 105, 99, 116, 101, 100]⟩, .string ⟨#[108, 97, 110, 103, 117, 97, 103, 101]⟩, .string ⟨#[106, 111, 98]⟩] 80)))
    have HB0 := Lib.hid ((Below.refl w.heap.size w).alloc (Nat.le_refl _) (.cells #[.string ⟨#[121, 111, 117, 110, 103]⟩, .string ⟨#[111, 108, 100]⟩, .string ⟨#[122, 111, 110, 101]⟩, .string ⟨#[102, 111, 114, 101, 105, 103, 110]⟩, .string ⟨#[99, 111, 110, 118, 105, 99, 116, 101, 100]⟩, .string ⟨#[108, 97, 110, 103, 117, 97, 103, 101]⟩, .string ⟨#[106, 111, 98]⟩] 80))
    generalize (w.alloc (.cells #[.string ⟨#[121, 111, 117, 110, 103]⟩, .string ⟨#[111, 108, 100]⟩, .string ⟨#[122, 111, 110, 101]⟩, .string ⟨#[102, 111, 114, 101, 105, 103, 110]⟩, .string ⟨#[99, 111, 110, 118, 105, 99, 116, 101, 100]⟩, .string ⟨#[108, 97, 110, 103, 117, 97, 103, 101]⟩, .string ⟨#[106, 111, 98]⟩] 80)) = w2 at HO0 HB0 ⊢
    have hsz0 := HB0.out.size
    go_loopw [5, 6, 7, 13] (fun v _ _ c wr => ∃ k : Nat, k ≤ 7 ∧ c = .int .i64 k ∧ BuildS w.heap.size wr v (namesTo N k) ∧ Below w.heap.size w wr) (fun _ _ _ c _ => 7 - (intOf c).toNat)
    case atStart => exact ⟨0, Nat.zero_le _, rfl, HO0.out, HB0.out⟩
    case round =>
      obtain ⟨k, hk, rfl, ho, hB⟩ := hrel
      have HO := Lib.hid ho; have HB := Lib.hid hB; clear ho hB
      have hsz := HB.out.size
      have hc8 : k = 0 ∨ k = 1 ∨ k = 2 ∨ k = 3 ∨ k = 4 ∨ k = 5 ∨ k = 6 ∨ k = 7 := by omega
      rcases hc8 with rfl | rfl | rfl | rfl | rfl | rfl | rfl | rfl
      · have hix := fun W => run_names7_0 W
        have hbt : (bits .and .i64 (((N / 1 : Nat) : Int)) 1 == 1) = bitN N 0 := HBT.out 0 (by omega)
        have hcast : ((N / 1 : Nat) : Int) = (N : Int) / 1 := by simp
        rw [hcast] at hbt
        have hbt0 : (bits .and .i64 (N : Int) 1 == 1) = bitN N 0 := by simpa using hbt
        clear hcast
        cases hb : bitN N 0
        · have HX := Lib.hid (namesTo_no hb)
          rw [hb] at hbt hbt0; clear hb
          go_wp2_with fail
          go_roundw
          case rel => exact ⟨1, by omega, by go_num, by rw [HX.out]; exact HO.out, HB.out⟩
          case measure => simp [intOf]
        · have HX := Lib.hid (namesTo_yes (s := ⟨#[121, 111, 117, 110, 103]⟩) rfl hb)
          rw [hb] at hbt hbt0; clear hb
          have HO4 := Lib.hid (HO.out.alloc (.cells #[.string ⟨#[121, 111, 117, 110, 103]⟩] 9))
          have HB4 := Lib.hid (HB.out.alloc hsz (.cells #[.string ⟨#[121, 111, 117, 110, 103]⟩] 9))
          have HLe := Lib.hid (namesTo_len N 0)
          go_wp2_with (at_builtin; refine wpList_str_append rfl _ _ rfl _ _ rfl HO4.out _ ⟨#[121, 111, 117, 110, 103]⟩ rfl (cell_one _ _ _) ?c2 ?c3 ?_)
          case c2 => have := HLe.out; omega
          case c3 => first | omega | (simp; omega)
          intro v' w5 ho5 hg5
          have HO5 := Lib.hid (show BuildS w.heap.size w5 v' (namesTo N 1) by rw [HX.out]; exact ho5)
          have HB5 := Lib.hid (HO4.out.grew HB4.out (Nat.le_refl _) (by simp; omega) hg5)
          clear ho5 hg5
          go_wp2_with fail
          go_roundw
          case rel => exact ⟨1, by omega, by go_num, HO5.out, HB5.out⟩
          case measure => simp [intOf]
      · have hix := fun W => run_names7_1 W
        have hbt : (bits .and .i64 (((N / 2 : Nat) : Int)) 1 == 1) = bitN N 1 := HBT.out 1 (by omega)
        have hcast : ((N / 2 : Nat) : Int) = (N : Int) / 2 := by simp
        rw [hcast] at hbt
        clear hcast
        cases hb : bitN N 1
        · have HX := Lib.hid (namesTo_no hb)
          rw [hb] at hbt; clear hb
          go_wp2_with fail
          go_roundw
          case rel => exact ⟨2, by omega, by go_num, by rw [HX.out]; exact HO.out, HB.out⟩
          case measure => simp [intOf]
        · have HX := Lib.hid (namesTo_yes (s := ⟨#[111, 108, 100]⟩) rfl hb)
          rw [hb] at hbt; clear hb
          have HO4 := Lib.hid (HO.out.alloc (.cells #[.string ⟨#[111, 108, 100]⟩] 9))
          have HB4 := Lib.hid (HB.out.alloc hsz (.cells #[.string ⟨#[111, 108, 100]⟩] 9))
          have HLe := Lib.hid (namesTo_len N 1)
          go_wp2_with (at_builtin; refine wpList_str_append rfl _ _ rfl _ _ rfl HO4.out _ ⟨#[111, 108, 100]⟩ rfl (cell_one _ _ _) ?c2 ?c3 ?_)
          case c2 => have := HLe.out; omega
          case c3 => first | omega | (simp; omega)
          intro v' w5 ho5 hg5
          have HO5 := Lib.hid (show BuildS w.heap.size w5 v' (namesTo N 2) by rw [HX.out]; exact ho5)
          have HB5 := Lib.hid (HO4.out.grew HB4.out (Nat.le_refl _) (by simp; omega) hg5)
          clear ho5 hg5
          go_wp2_with fail
          go_roundw
          case rel => exact ⟨2, by omega, by go_num, HO5.out, HB5.out⟩
          case measure => simp [intOf]
      · have hix := fun W => run_names7_2 W
        have hbt : (bits .and .i64 (((N / 4 : Nat) : Int)) 1 == 1) = bitN N 2 := HBT.out 2 (by omega)
        have hcast : ((N / 4 : Nat) : Int) = (N : Int) / 4 := by simp
        rw [hcast] at hbt
        clear hcast
        cases hb : bitN N 2
        · have HX := Lib.hid (namesTo_no hb)
          rw [hb] at hbt; clear hb
          go_wp2_with fail
          go_roundw
          case rel => exact ⟨3, by omega, by go_num, by rw [HX.out]; exact HO.out, HB.out⟩
          case measure => simp [intOf]
        · have HX := Lib.hid (namesTo_yes (s := ⟨#[122, 111, 110, 101]⟩) rfl hb)
          rw [hb] at hbt; clear hb
          have HO4 := Lib.hid (HO.out.alloc (.cells #[.string ⟨#[122, 111, 110, 101]⟩] 9))
          have HB4 := Lib.hid (HB.out.alloc hsz (.cells #[.string ⟨#[122, 111, 110, 101]⟩] 9))
          have HLe := Lib.hid (namesTo_len N 2)
          go_wp2_with (at_builtin; refine wpList_str_append rfl _ _ rfl _ _ rfl HO4.out _ ⟨#[122, 111, 110, 101]⟩ rfl (cell_one _ _ _) ?c2 ?c3 ?_)
          case c2 => have := HLe.out; omega
          case c3 => first | omega | (simp; omega)
          intro v' w5 ho5 hg5
          have HO5 := Lib.hid (show BuildS w.heap.size w5 v' (namesTo N 3) by rw [HX.out]; exact ho5)
          have HB5 := Lib.hid (HO4.out.grew HB4.out (Nat.le_refl _) (by simp; omega) hg5)
          clear ho5 hg5
          go_wp2_with fail
          go_roundw
          case rel => exact ⟨3, by omega, by go_num, HO5.out, HB5.out⟩
          case measure => simp [intOf]
      · have hix := fun W => run_names7_3 W
        have hbt : (bits .and .i64 (((N / 8 : Nat) : Int)) 1 == 1) = bitN N 3 := HBT.out 3 (by omega)
        have hcast : ((N / 8 : Nat) : Int) = (N : Int) / 8 := by simp
        rw [hcast] at hbt
        clear hcast
        cases hb : bitN N 3
        · have HX := Lib.hid (namesTo_no hb)
          rw [hb] at hbt; clear hb
          go_wp2_with fail
          go_roundw
          case rel => exact ⟨4, by omega, by go_num, by rw [HX.out]; exact HO.out, HB.out⟩
          case measure => simp [intOf]
        · have HX := Lib.hid (namesTo_yes (s := ⟨#[102, 111, 114, 101, 105, 103, 110]⟩) rfl hb)
          rw [hb] at hbt; clear hb
          have HO4 := Lib.hid (HO.out.alloc (.cells #[.string ⟨#[102, 111, 114, 101, 105, 103, 110]⟩] 9))
          have HB4 := Lib.hid (HB.out.alloc hsz (.cells #[.string ⟨#[102, 111, 114, 101, 105, 103, 110]⟩] 9))
          have HLe := Lib.hid (namesTo_len N 3)
          go_wp2_with (at_builtin; refine wpList_str_append rfl _ _ rfl _ _ rfl HO4.out _ ⟨#[102, 111, 114, 101, 105, 103, 110]⟩ rfl (cell_one _ _ _) ?c2 ?c3 ?_)
          case c2 => have := HLe.out; omega
          case c3 => first | omega | (simp; omega)
          intro v' w5 ho5 hg5
          have HO5 := Lib.hid (show BuildS w.heap.size w5 v' (namesTo N 4) by rw [HX.out]; exact ho5)
          have HB5 := Lib.hid (HO4.out.grew HB4.out (Nat.le_refl _) (by simp; omega) hg5)
          clear ho5 hg5
          go_wp2_with fail
          go_roundw
          case rel => exact ⟨4, by omega, by go_num, HO5.out, HB5.out⟩
          case measure => simp [intOf]
      · have hix := fun W => run_names7_4 W
        have hbt : (bits .and .i64 (((N / 16 : Nat) : Int)) 1 == 1) = bitN N 4 := HBT.out 4 (by omega)
        have hcast : ((N / 16 : Nat) : Int) = (N : Int) / 16 := by simp
        rw [hcast] at hbt
        clear hcast
        cases hb : bitN N 4
        · have HX := Lib.hid (namesTo_no hb)
          rw [hb] at hbt; clear hb
          go_wp2_with fail
          go_roundw
          case rel => exact ⟨5, by omega, by go_num, by rw [HX.out]; exact HO.out, HB.out⟩
          case measure => simp [intOf]
        · have HX := Lib.hid (namesTo_yes (s := ⟨#[99, 111, 110, 118, 105, 99, 116, 101, 100]⟩) rfl hb)
          rw [hb] at hbt; clear hb
          have HO4 := Lib.hid (HO.out.alloc (.cells #[.string ⟨#[99, 111, 110, 118, 105, 99, 116, 101, 100]⟩] 9))
          have HB4 := Lib.hid (HB.out.alloc hsz (.cells #[.string ⟨#[99, 111, 110, 118, 105, 99, 116, 101, 100]⟩] 9))
          have HLe := Lib.hid (namesTo_len N 4)
          go_wp2_with (at_builtin; refine wpList_str_append rfl _ _ rfl _ _ rfl HO4.out _ ⟨#[99, 111, 110, 118, 105, 99, 116, 101, 100]⟩ rfl (cell_one _ _ _) ?c2 ?c3 ?_)
          case c2 => have := HLe.out; omega
          case c3 => first | omega | (simp; omega)
          intro v' w5 ho5 hg5
          have HO5 := Lib.hid (show BuildS w.heap.size w5 v' (namesTo N 5) by rw [HX.out]; exact ho5)
          have HB5 := Lib.hid (HO4.out.grew HB4.out (Nat.le_refl _) (by simp; omega) hg5)
          clear ho5 hg5
          go_wp2_with fail
          go_roundw
          case rel => exact ⟨5, by omega, by go_num, HO5.out, HB5.out⟩
          case measure => simp [intOf]
      · have hix := fun W => run_names7_5 W
        have hbt : (bits .and .i64 (((N / 32 : Nat) : Int)) 1 == 1) = bitN N 5 := HBT.out 5 (by omega)
        have hcast : ((N / 32 : Nat) : Int) = (N : Int) / 32 := by simp
        rw [hcast] at hbt
        clear hcast
        cases hb : bitN N 5
        · have HX := Lib.hid (namesTo_no hb)
          rw [hb] at hbt; clear hb
          go_wp2_with fail
          go_roundw
          case rel => exact ⟨6, by omega, by go_num, by rw [HX.out]; exact HO.out, HB.out⟩
          case measure => simp [intOf]
        · have HX := Lib.hid (namesTo_yes (s := ⟨#[108, 97, 110, 103, 117, 97, 103, 101]⟩) rfl hb)
          rw [hb] at hbt; clear hb
          have HO4 := Lib.hid (HO.out.alloc (.cells #[.string ⟨#[108, 97, 110, 103, 117, 97, 103, 101]⟩] 9))
          have HB4 := Lib.hid (HB.out.alloc hsz (.cells #[.string ⟨#[108, 97, 110, 103, 117, 97, 103, 101]⟩] 9))
          have HLe := Lib.hid (namesTo_len N 5)
          go_wp2_with (at_builtin; refine wpList_str_append rfl _ _ rfl _ _ rfl HO4.out _ ⟨#[108, 97, 110, 103, 117, 97, 103, 101]⟩ rfl (cell_one _ _ _) ?c2 ?c3 ?_)
          case c2 => have := HLe.out; omega
          case c3 => first | omega | (simp; omega)
          intro v' w5 ho5 hg5
          have HO5 := Lib.hid (show BuildS w.heap.size w5 v' (namesTo N 6) by rw [HX.out]; exact ho5)
          have HB5 := Lib.hid (HO4.out.grew HB4.out (Nat.le_refl _) (by simp; omega) hg5)
          clear ho5 hg5
          go_wp2_with fail
          go_roundw
          case rel => exact ⟨6, by omega, by go_num, HO5.out, HB5.out⟩
          case measure => simp [intOf]
      · have hix := fun W => run_names7_6 W
        have hbt : (bits .and .i64 (((N / 64 : Nat) : Int)) 1 == 1) = bitN N 6 := HBT.out 6 (by omega)
        have hcast : ((N / 64 : Nat) : Int) = (N : Int) / 64 := by simp
        rw [hcast] at hbt
        clear hcast
        cases hb : bitN N 6
        · have HX := Lib.hid (namesTo_no hb)
          rw [hb] at hbt; clear hb
          go_wp2_with fail
          go_roundw
          case rel => exact ⟨7, by omega, by go_num, by rw [HX.out]; exact HO.out, HB.out⟩
          case measure => simp [intOf]
        · have HX := Lib.hid (namesTo_yes (s := ⟨#[106, 111, 98]⟩) rfl hb)
          rw [hb] at hbt; clear hb
          have HO4 := Lib.hid (HO.out.alloc (.cells #[.string ⟨#[106, 111, 98]⟩] 9))
          have HB4 := Lib.hid (HB.out.alloc hsz (.cells #[.string ⟨#[106, 111, 98]⟩] 9))
          have HLe := Lib.hid (namesTo_len N 6)
          go_wp2_with (at_builtin; refine wpList_str_append rfl _ _ rfl _ _ rfl HO4.out _ ⟨#[106, 111, 98]⟩ rfl (cell_one _ _ _) ?c2 ?c3 ?_)
          case c2 => have := HLe.out; omega
          case c3 => first | omega | (simp; omega)
          intro v' w5 ho5 hg5
          have HO5 := Lib.hid (show BuildS w.heap.size w5 v' (namesTo N 7) by rw [HX.out]; exact ho5)
          have HB5 := Lib.hid (HO4.out.grew HB4.out (Nat.le_refl _) (by simp; omega) hg5)
          clear ho5 hg5
          go_wp2_with fail
          go_roundw
          case rel => exact ⟨7, by omega, by go_num, HO5.out, HB5.out⟩
          case measure => simp [intOf]
      · obtain ⟨a, cap, hv, hcap, hst⟩ := HO.out.reads
        have hlen := namesTo_len N 7
        have HJ := Lib.hid (implJoinParts_any a (namesTo N 7).length cap (namesTo N 7) wr rfl hcap (by omega) hst (by have h1 : szs (namesTo N 7) ≤ 100 := HSZ.out; omega))
        subst hv
        clear hst hcap hlen
        go_wp2_with fail
        refine HJ.out.mono ?_; rintro e w4 ⟨rfl, hB⟩
        have HB4 := Lib.hid (HB.out.trans (hB.mono hsz)); clear hB
        go_wp2_with fail
        go_ret2
        rw [HN.out]
        exact ⟨rfl, HB4.out⟩

theorem alloc_names (w : World) (T : TypeId) : StrsAt (w.alloc (.cells #[.string ⟨#[121, 111, 117, 110, 103]⟩, .string ⟨#[111, 108, 100]⟩, .string ⟨#[122, 111, 110, 101]⟩, .string ⟨#[102, 111, 114, 101, 105, 103, 110]⟩, .string ⟨#[99, 111, 110, 118, 105, 99, 116, 101, 100]⟩, .string ⟨#[108, 97, 110, 103, 117, 97, 103, 101]⟩, .string ⟨#[106, 111, 98]⟩] T)) (some ⟨w.heap.size, 0, none⟩) names7 := by
  refine .inr ⟨_, _, rfl, fun i x hx => ?_⟩
  have h : (w.alloc (.cells #[.string ⟨#[121, 111, 117, 110, 103]⟩, .string ⟨#[111, 108, 100]⟩, .string ⟨#[122, 111, 110, 101]⟩, .string ⟨#[102, 111, 114, 101, 105, 103, 110]⟩, .string ⟨#[99, 111, 110, 118, 105, 99, 116, 101, 100]⟩, .string ⟨#[108, 97, 110, 103, 117, 97, 103, 101]⟩, .string ⟨#[106, 111, 98]⟩] T)).heap[w.heap.size]? = some (.cells #[.string ⟨#[121, 111, 117, 110, 103]⟩, .string ⟨#[111, 108, 100]⟩, .string ⟨#[122, 111, 110, 101]⟩, .string ⟨#[102, 111, 114, 101, 105, 103, 110]⟩, .string ⟨#[99, 111, 110, 118, 105, 99, 116, 101, 100]⟩, .string ⟨#[108, 97, 110, 103, 117, 97, 103, 101]⟩, .string ⟨#[106, 111, 98]⟩] T) := heap_alloc_new w _
  rw [Nat.zero_add]
  unfold World.cell?; rw [h]
  match i, hx with
  | 0, hx | 1, hx | 2, hx | 3, hx | 4, hx | 5, hx | 6, hx => cases hx; rfl
  | n + 7, hx => simp [names7] at hx
set_option maxRecDepth 100000 in
set_option maxHeartbeats 4000000 in
theorem specReasonsText_any (n : Int) (w : World) :
    Calls Try.prog 26 #[.int .i64 n] w (SaysT2 (textR n).1 (textR n).2 w) := by
  cases hin : inR n 0 127
  · have HN := Lib.hid (textR_no hin)
    have HC := Lib.hid (fun W => specIn_any n 0 127 W)
    rw [hin] at HC
    clear hin
    go_enter Try.func26, Try.ntmps26
    go_wp2_with fail
    refine (HC.out _).mono ?_; rintro e w ⟨rfl, rfl⟩
    go_wp2_with fail
    go_ret2
    rw [HN.out]
    exact ⟨rfl, Below.refl _ _⟩
  · obtain ⟨N, rfl⟩ := Int.eq_ofNat_of_zero_le (inR_iff.1 hin).1
    have hN : N ≤ 127 := by have := (inR_iff.1 hin).2; omega
    have HC := Lib.hid (fun W => specIn_any (N : Int) 0 127 W)
    rw [hin] at HC
    have HN := Lib.hid (textR_ok hN)
    have HSZ := Lib.hid (names_small ⟨N, by omega⟩)
    have HNM := Lib.hid (alloc_names w 9)
    have HB1 := Lib.hid (boxed w (.cells #[.string ⟨#[121, 111, 117, 110, 103]⟩, .string ⟨#[111, 108, 100]⟩, .string ⟨#[122, 111, 110, 101]⟩, .string ⟨#[102, 111, 114, 101, 105, 103, 110]⟩, .string ⟨#[99, 111, 110, 118, 105, 99, 116, 101, 100]⟩, .string ⟨#[108, 97, 110, 103, 117, 97, 103, 101]⟩, .string ⟨#[106, 111, 98]⟩] 9))
    clear hin
    go_enter Try.func26, Try.ntmps26
    go_wp2_with fail
    refine (HC.out _).mono ?_; rintro e w ⟨rfl, rfl⟩
    go_wp2_with fail
    have hx2 : (w.alloc (.cells #[.string ⟨#[121, 111, 117, 110, 103]⟩, .string ⟨#[111, 108, 100]⟩, .string ⟨#[122, 111, 110, 101]⟩, .string ⟨#[102, 111, 114, 101, 105, 103, 110]⟩, .string ⟨#[99, 111, 110, 118, 105, 99, 116, 101, 100]⟩, .string ⟨#[108, 97, 110, 103, 117, 97, 103, 101]⟩, .string ⟨#[106, 111, 98]⟩] 9)).heap.size = w.heap.size + 1 := by simp
    generalize w.alloc (.cells #[.string ⟨#[121, 111, 117, 110, 103]⟩, .string ⟨#[111, 108, 100]⟩, .string ⟨#[122, 111, 110, 101]⟩, .string ⟨#[102, 111, 114, 101, 105, 103, 110]⟩, .string ⟨#[99, 111, 110, 118, 105, 99, 116, 101, 100]⟩, .string ⟨#[108, 97, 110, 103, 117, 97, 103, 101]⟩, .string ⟨#[106, 111, 98]⟩] 9) = w2 at HNM HB1 hx2 ⊢
    have HO0 := Lib.hid (BuildS.empty (B := w2.heap.size) (w := w2) (Nat.le_refl _))
    have HB0 := Lib.hid (boxed w2 (.cells #[] 9))
    have hsz1 := HB1.out.size
    obtain ⟨nb, hnb⟩ : ∃ nb, w.heap.size = nb := ⟨_, rfl⟩
    have HNB := Lib.hid hnb
    rw [hnb] at HNM hsz1 hx2 ⊢
    have HX2 := Lib.hid hx2
    clear hnb hx2
    go_loopw [0, 5, 6] (fun u v c wr => ∃ k : Nat, k ≤ 7 ∧ c = .int .i64 k ∧ u = .int .i64 ((N / 2 ^ k : Nat) : Int) ∧ BuildS w2.heap.size wr v (namesTo N k) ∧ Below w2.heap.size w2 wr) (fun _ _ c _ => 7 - (intOf c).toNat)
    case atStart => exact ⟨0, Nat.zero_le _, rfl, by simp, by rw [← HX2.out]; exact HO0.out, HB0.out⟩
    case round =>
      obtain ⟨k, hk, rfl, rfl, ho, hB⟩ := hrel
      have HO := Lib.hid ho; have HB := Lib.hid hB; clear ho hB
      have hsz := HB.out.size
      by_cases hlt : k < 7
      · obtain ⟨b, off, s, e, hc, _, hs⟩ := (HNM.out.below HB.out).at (show names7.length = 7 from rfl) hlt
        cases e
        have HS := Lib.hid hs
        have HQ2 := Lib.hid (show ((N / 2 ^ (k + 1) : Nat) : Int) = ((N / 2 ^ k : Nat) : Int) / 2 by rw [Nat.pow_succ, ← Nat.div_div_eq_div_mul]; simp)
        have hq : N / 2 ^ k ≤ 127 := Nat.le_trans (Nat.div_le_self _ _) hN
        have hbn : bitN N k = decide (N / 2 ^ k % 2 = 1) := rfl
        rw [Nat.zero_add] at hc
        generalize N / 2 ^ k = Q at hq hbn HQ2 ⊢
        clear hs
        by_cases h1 : Q % 2 = 1
        · have HX := Lib.hid (namesTo_yes HS.out (hbn.trans (decide_eq_true h1)))
          have he : ((Q : Int) % 2 == 1) = true := beq_iff_eq.2 (by omega)
          clear hbn h1
          have HO4 := Lib.hid (HO.out.alloc (.cells #[.string s] 9))
          have HB4 := Lib.hid (HB.out.alloc hsz (.cells #[.string s] 9))
          have HLe := Lib.hid (namesTo_len N k)
          go_wp2_with (at_builtin; refine wpList_str_append rfl _ _ rfl _ _ rfl HO4.out _ s rfl (cell_one _ _ _) ?c2 ?c3 ?_)
          case c2 => have := HLe.out; omega
          case c3 => first | omega | (simp; omega)
          intro v' w5 ho5 hg5
          have HO5 := Lib.hid (show BuildS w2.heap.size w5 v' (namesTo N (k + 1)) by rw [HX.out]; exact ho5)
          have HB5 := Lib.hid (HO4.out.grew HB4.out (Nat.le_refl _) (by simp; omega) hg5)
          clear ho5 hg5
          go_wp2_with fail
          go_roundw
          case rel => exact ⟨k + 1, by omega, by go_num, by rw [HQ2.out], HO5.out, HB5.out⟩
          case measure => simp [intOf]; omega
        · have HX := Lib.hid (namesTo_no (hbn.trans (decide_eq_false h1)))
          have he : ((Q : Int) % 2 == 1) = false := beq_eq_false_iff_ne.2 (by omega)
          clear hbn h1
          go_wp2_with fail
          go_roundw
          case rel => exact ⟨k + 1, by omega, by go_num, by rw [HQ2.out], by rw [HX.out]; exact HO.out, HB.out⟩
          case measure => simp [intOf]; omega
      · obtain rfl : k = 7 := by omega
        obtain ⟨a, cap, hv, hcap, hst⟩ := HO.out.reads
        have hlen := namesTo_len N 7
        have hss : szs (namesTo N 7) ≤ 100 := HSZ.out
        have HW := Lib.hid (specWords_any a (namesTo N 7).length cap (namesTo N 7) comma wr rfl (by unfold maxLen; omega) hst (by rw [show comma.size = 1 from rfl]; omega) (by decide))
        subst hv
        clear hst hcap
        by_cases h0 : namesTo N 7 = []
        · have HE := Lib.hid (show wordsT (namesTo N 7) = ⟨#[45]⟩ by rw [h0]; rfl)
          rw [h0] at hlen hss ⊢
          clear h0
          go_wp2_with fail
          go_ret2
          rw [HN.out, HE.out]
          exact ⟨rfl, HB1.out.trans (HB.out.mono (by rw [HNB.out]; exact hsz1))⟩
        · have HE := Lib.hid (wordsT_some h0)
          have hz : (((namesTo N 7).length : Int) == 0) = false := beq_eq_false_iff_ne.2 (by have := List.length_pos_iff.2 h0; omega)
          clear h0
          go_wp2_with fail
          refine HW.out.mono ?_; rintro e w4 ⟨rfl, rfl⟩
          go_wp2_with fail
          go_ret2
          rw [HN.out]
          exact ⟨by rw [HE.out]; rfl, HB1.out.trans (HB.out.mono (by rw [HNB.out]; exact hsz1))⟩

end Go.Proofs.Ytjnjmoiilapbiaa
