/- Contracts: impl.isAlike, and the codes of chapter 5: impl.joiningError, spec.l05Limit, spec.l05Code. -/
import Derived.Test.YtdeiillfdjebdaaChecked
import Derived.Test.YtdeiillfdjebdaaBase
import Derived.Test.YtdeiillfdjebdaaPure41
import Derived.Test.YtdeiillfdjebdaaPure51
import Derived.Test.YtdeiillfdjebdaaIsPers
import Derived.Test.YtdeiillfdjebdaaArePers
import Derived.Test.YtdeiillfdjebdaaLike
import Derived.WalkKit
import Derived.WalkSpells
import Derived.WalkLawsBesides
import Derived.Lib.Hide
import Derived.IntWalk
import Derived.Outline
namespace Go.Proofs.Ytdeiillfdjebdaa
open Go.RowKit Pure1 Pure2 Pure40 Pure41 Pure50 Pure51

set_option maxRecDepth 100000 in
set_option maxHeartbeats 1000000 in
theorem implIsAlike_any (n0 : Int) (f0 l0 : ByteArray) (b0 z0 : Int) (n1 : Int) (f1 l1 : ByteArray) (b1 z1 : Int) (m : Int) (w : World) (h0 : isPers ⟨n0, f0, l0, b0, z0⟩ = true) (h1 : isPers ⟨n1, f1, l1, b1, z1⟩ = true) :
    Calls Try.prog 72 #[.agg #[.int .i64 n0, .string f0, .string l0, .int .i64 b0, .int .i64 z0], .agg #[.int .i64 n1, .string f1, .string l1, .int .i64 b1, .int .i64 z1], .int .i64 m] w (SaysBB (decide (m ≤ likeP ⟨n0, f0, l0, b0, z0⟩ ⟨n1, f1, l1, b1, z1⟩)) w) := by
  have HA0 := Lib.hid ((atB_box w n0 f0 l0 b0 z0 51).below (boxed _ (.cells #[.int .i64 n1, .string f1, .string l1, .int .i64 b1, .int .i64 z1] 51)))
  have HA1 := Lib.hid (atB_box (w.alloc (.cells #[.int .i64 n0, .string f0, .string l0, .int .i64 b0, .int .i64 z0] 51)) n1 f1 l1 b1 z1 51)
  have hx : (w.alloc (.cells #[.int .i64 n0, .string f0, .string l0, .int .i64 b0, .int .i64 z0] 51)).heap.size = w.heap.size + 1 := by simp
  rw [hx] at HA1
  clear hx
  have HW := Lib.hid (show Below w.heap.size w ((w.alloc (.cells #[.int .i64 n0, .string f0, .string l0, .int .i64 b0, .int .i64 z0] 51)).alloc (.cells #[.int .i64 n1, .string f1, .string l1, .int .i64 b1, .int .i64 z1] 51)) from (boxed _ _).alloc (by simp) _)
  obtain ⟨c00, c01, c02, c03, c04⟩ := HA0.out
  obtain ⟨c10, c11, c12, c13, c14⟩ := HA1.out
  simp only at c00 c01 c02 c03 c04 c10 c11 c12 c13 c14
  go_enter Try.func72, Try.ntmps72
  go_wp2_with fail
  clear c00 c01 c02 c03 c04 c10 c11 c12 c13 c14
  refine (implLike_any n0 f0 l0 b0 z0 n1 f1 l1 b1 z1 _ h0 h1).mono ?_; rintro e w3 ⟨rfl, hB⟩
  have HB3 := Lib.hid (HW.out.trans (hB.mono HW.out.size)); clear hB
  go_wp2_with fail
  go_ret
  exact ⟨rfl, HB3.out⟩

theorem implLimit5 (n : Int) (w : World) :
    Calls Try.prog 63 #[.int .i64 n] w fun e w' => e = .returned (.bool (inR n 0 100)) ∧ w' = w := by
  go_enter Try.func63, Try.ntmps63
  go_wp2_with fail
  refine (implWithin_any n 0 100 w).mono ?_; rintro e w' ⟨rfl, rfl⟩
  go_wp2
  go_ret
  exact ⟨rfl, rfl⟩

/-- do all numbers name a person? -/
def inL (n : Nat) (idx : List Int) : Bool := idx.all (fun x => inR x 0 ((n : Int) - 1))
/-- the code of persons, a limit and indices -/
def code5 (ps : List Pers) (m : Int) (idx : List Int) : Int := if arePers ps = true then (if inR m 0 100 = true then (if inL ps.length idx = true then 0 else 2) else 2) else 1
theorem inL_no {n : Nat} {idx : List Int} {k : Nat} {x : Int} (h : idx[k]? = some x) (hx : inR x 0 ((n : Int) - 1) = false) : inL n idx = false := by
  rw [inL, List.all_eq_false]; exact ⟨x, List.mem_of_getElem? h, by simp [hx]⟩
theorem inL_yes {n : Nat} {idx : List Int} (h : ∀ (k : Nat) (x : Int), idx[k]? = some x → inR x 0 ((n : Int) - 1) = true) : inL n idx = true := by
  rw [inL, List.all_eq_true]; intro x hx
  obtain ⟨k, hk⟩ := List.mem_iff_getElem?.1 hx
  exact h k x hk
theorem code5_zero {ps : List Pers} {m : Int} {idx : List Int} (h : code5 ps m idx = 0) : arePers ps = true ∧ inR m 0 100 = true ∧ ∀ x ∈ idx, 0 ≤ x ∧ x < ps.length := by
  unfold code5 at h
  split at h
  · rename_i h1
    split at h
    · rename_i h2
      split at h
      · rename_i h3
        refine ⟨h1, h2, fun x hx => ?_⟩
        rw [inL, List.all_eq_true] at h3
        have := inR_iff.1 (h3 x hx); omega
      · omega
    · omega
  · omega
theorem code5_cases (ps : List Pers) (m : Int) (idx : List Int) : code5 ps m idx = 0 ∨ code5 ps m idx = 1 ∨ code5 ps m idx = 2 := by
  unfold code5; split <;> (try split) <;> (try split) <;> simp

def SaysI5 (n : Int) (w : World) (e : Ending) (w' : World) : Prop := e = .returned (.int .i64 n) ∧ Below w.heap.size w w'

set_option maxRecDepth 100000 in
set_option maxHeartbeats 2000000 in
theorem implJoiningError_any (a : Option Addr) (len cap : Nat) (ps : List Pers) (m : Int) (a2 : Option Addr) (len2 cap2 : Nat) (idx : List Int) (w : World) (hl : ps.length = len) (hm : len ≤ maxLen) (hI : PersAt w a ps) (hF : Fits ps) (hl2 : idx.length = len2) (hm2 : len2 ≤ maxLen) (hI2 : IntsAt w a2 idx) :
    Calls Try.prog 52 #[.slice a len cap, .int .i64 m, .slice a2 len2 cap2] w (SaysI5 (code5 ps m idx) w) := by
  have HP := Lib.hid (fun W => show Below w.heap.size w W → Calls Try.prog 61 #[.slice a len cap] W (SaysBB (arePers ps) W) from fun hB => implArePersons_any a len cap ps W hl hm (hI.below hB) hF)
  have HQ := Lib.hid (fun W => implLimit5 m W)
  have HL := Lib.hid hl; have HL2 := Lib.hid hl2; have HI2 := Lib.hid hI2
  unfold maxLen at hm hm2
  clear hl hI hF hl2 hI2
  cases h1 : arePers ps
  · have HN := Lib.hid (show code5 ps m idx = 1 by unfold code5; rw [if_neg (by rw [h1]; simp)])
    rw [h1] at HP
    go_enter Try.func52, Try.ntmps52
    go_wp2_with fail
    refine (HP.out w (Below.refl _ _)).mono ?_; rintro e w1 ⟨rfl, hB⟩
    have HB := Lib.hid hB; clear hB
    go_wp2_with fail
    go_ret
    exact ⟨ret_i64 HN.out.symm, HB.out⟩
  · rw [h1] at HP
    cases h2 : inR m 0 100
    · have HN := Lib.hid (show code5 ps m idx = 2 by unfold code5; rw [if_pos h1, if_neg (by rw [h2]; simp)])
      rw [h2] at HQ
      go_enter Try.func52, Try.ntmps52
      go_wp2_with fail
      refine (HP.out w (Below.refl _ _)).mono ?_; rintro e w1 ⟨rfl, hB⟩
      have HB := Lib.hid hB; clear hB
      go_wp2_with fail
      refine (HQ.out _).mono ?_; rintro e w' ⟨rfl, rfl⟩
      go_wp2_with fail
      go_ret
      exact ⟨ret_i64 HN.out.symm, HB.out⟩
    · have HN := Lib.hid (show code5 ps m idx = if inL ps.length idx = true then 0 else 2 by unfold code5; rw [if_pos h1, if_pos h2])
      rw [h2] at HQ
      go_enter Try.func52, Try.ntmps52
      go_wp2_with fail
      refine (HP.out w (Below.refl _ _)).mono ?_; rintro e w1 ⟨rfl, hB⟩
      have HB := Lib.hid hB; clear hB
      go_wp2_with fail
      refine (HQ.out _).mono ?_; rintro e w' ⟨rfl, rfl⟩
      have HI3 := Lib.hid (HI2.out.below HB.out)
      go_wp2_with fail
      go_loop [17] (fun i => ∃ k : Nat, k ≤ len2 ∧ i = .int .i64 k ∧ ∀ j x, j < k → idx[j]? = some x → inR x 0 ((ps.length : Int) - 1) = true) (fun i => len2 - (intOf i).toNat)
      case atStart => exact ⟨0, Nat.zero_le _, rfl, fun j x hj => by omega⟩
      case round =>
        obtain ⟨k, hk, rfl, hall⟩ := hrel
        have HA := Lib.hid hall; clear hall
        by_cases hlt : k < len2
        · obtain ⟨b, off, x, ha, hc, ht, hx⟩ := HI3.out.at HL2.out hlt
          subst ha
          have HX := Lib.hid hx; clear hx ht
          by_cases hx0 : x < 0
          · have HM := Lib.hid (show code5 ps m idx = 2 by rw [HN.out, if_neg (by rw [inL_no HX.out (inR_no.2 (by omega))]; simp)])
            go_wp2_with fail
            go_ret
            exact ⟨ret_i64 HM.out.symm, HB.out⟩
          · by_cases hx1 : (len : Int) ≤ x
            · have HM := Lib.hid (show code5 ps m idx = 2 by rw [HN.out, if_neg (by rw [inL_no HX.out (inR_no.2 (by rw [HL.out]; omega))]; simp)])
              go_wp2_with fail
              go_ret
              exact ⟨ret_i64 HM.out.symm, HB.out⟩
            · have HM := Lib.hid (show inR x 0 ((ps.length : Int) - 1) = true from inR_iff.2 (by rw [HL.out]; omega))
              go_wp2_with fail
              go_round
              case rel => exact ⟨k + 1, by omega, by go_num, fun j y hj hy => (by
                by_cases e : j = k
                · subst e; rw [HX.out] at hy; cases hy; exact HM.out
                · exact HA.out j y (by omega) hy)⟩
              case measure => simp [intOf]; omega
        · have HM := Lib.hid (show code5 ps m idx = 0 by rw [HN.out, if_pos (inL_yes fun j x hx => HA.out j x (by have := (List.getElem?_eq_some_iff.1 hx).1; have := HL2.out; omega) hx)])
          go_wp2_with fail
          go_ret
          exact ⟨ret_i64 HM.out.symm, HB.out⟩

set_option maxRecDepth 100000 in
set_option maxHeartbeats 1000000 in
theorem specL05Limit_any (a : Option Addr) (len cap : Nat) (ps : List Pers) (m : Int) (w : World) (hl : ps.length = len) (hm : len ≤ maxLen) (hI : PersAt w a ps) (hF : Fits ps) :
    Calls Try.prog 56 #[.slice a len cap, .int .i64 m] w (SaysI5 (code5 ps m []) w) := by
  have HP := Lib.hid (specArePersons_any a len cap ps w hl hm hI hF)
  have HQ := Lib.hid (fun W => specIn_any m 0 100 W)
  clear hl hI hF
  cases h1 : arePers ps
  · have HN := Lib.hid (show code5 ps m [] = 1 by unfold code5; rw [if_neg (by rw [h1]; simp)])
    rw [h1] at HP
    go_enter Try.func56, Try.ntmps56
    go_wp2_with fail
    refine HP.out.mono ?_; rintro e w1 ⟨rfl, hB⟩
    have HB := Lib.hid hB; clear hB
    go_wp2_with fail
    go_ret
    exact ⟨ret_i64 HN.out.symm, HB.out⟩
  · rw [h1] at HP
    have HN := Lib.hid (show code5 ps m [] = if inR m 0 100 = true then 0 else 2 by unfold code5; rw [if_pos h1]; simp [inL])
    cases h2 : inR m 0 100
    all_goals
      rw [h2] at HQ HN
      go_enter Try.func56, Try.ntmps56
      go_wp2_with fail
      refine HP.out.mono ?_; rintro e w1 ⟨rfl, hB⟩
      have HB := Lib.hid hB; clear hB
      go_wp2_with fail
      refine (HQ.out _).mono ?_; rintro e w' ⟨rfl, rfl⟩
      go_wp2_with fail
      go_ret
      exact ⟨ret_i64 HN.out.symm, HB.out⟩

set_option maxRecDepth 100000 in
set_option maxHeartbeats 1000000 in
theorem specL05Code_any (a : Option Addr) (len cap : Nat) (ps : List Pers) (m x y : Int) (w : World) (hl : ps.length = len) (hm : len ≤ maxLen) (hI : PersAt w a ps) (hF : Fits ps) :
    Calls Try.prog 68 #[.slice a len cap, .int .i64 m, .int .i64 x, .int .i64 y] w (SaysI5 (code5 ps m [x, y]) w) := by
  have HP := Lib.hid (specArePersons_any a len cap ps w hl hm hI hF)
  have HQ := Lib.hid (fun W => specIn_any m 0 100 W)
  have HX := Lib.hid (fun W => specIn_any x 0 ((len : Int) - 1) W)
  have HY := Lib.hid (fun W => specIn_any y 0 ((len : Int) - 1) W)
  unfold maxLen at hm
  cases h1 : arePers ps
  · have HN := Lib.hid (show code5 ps m [x, y] = 1 by unfold code5; rw [if_neg (by rw [h1]; simp)])
    rw [h1] at HP
    clear hl hI hF
    go_enter Try.func68, Try.ntmps68
    go_wp2_with fail
    refine HP.out.mono ?_; rintro e w1 ⟨rfl, hB⟩
    have HB := Lib.hid hB; clear hB
    go_wp2_with fail
    go_ret
    exact ⟨ret_i64 HN.out.symm, HB.out⟩
  · rw [h1] at HP
    have HN := Lib.hid (show code5 ps m [x, y] = if inR m 0 100 = true then (if inR x 0 ((len : Int) - 1) && inR y 0 ((len : Int) - 1) = true then 0 else 2) else 2 by unfold code5; rw [if_pos h1, hl]; simp [inL])
    clear hl hI hF
    cases h2 : inR m 0 100
    · rw [h2] at HQ HN
      go_enter Try.func68, Try.ntmps68
      go_wp2_with fail
      refine HP.out.mono ?_; rintro e w1 ⟨rfl, hB⟩
      have HB := Lib.hid hB; clear hB
      go_wp2_with fail
      refine (HQ.out _).mono ?_; rintro e w' ⟨rfl, rfl⟩
      go_wp2_with fail
      go_ret
      exact ⟨ret_i64 HN.out.symm, HB.out⟩
    · cases h3 : inR x 0 ((len : Int) - 1)
      · rw [h2, h3] at HN
        rw [h2] at HQ
        rw [h3] at HX
        go_enter Try.func68, Try.ntmps68
        go_wp2_with fail
        refine HP.out.mono ?_; rintro e w1 ⟨rfl, hB⟩
        have HB := Lib.hid hB; clear hB
        go_wp2_with fail
        refine (HQ.out _).mono ?_; rintro e w' ⟨rfl, rfl⟩
        go_wp2_with fail
        refine (HX.out _).mono ?_; rintro e w' ⟨rfl, rfl⟩
        go_wp2_with fail
        go_ret
        exact ⟨ret_i64 HN.out.symm, HB.out⟩
      · cases h4 : inR y 0 ((len : Int) - 1)
        all_goals
          rw [h2, h3, h4] at HN
          rw [h2] at HQ
          rw [h3] at HX
          rw [h4] at HY
          go_enter Try.func68, Try.ntmps68
          go_wp2_with fail
          refine HP.out.mono ?_; rintro e w1 ⟨rfl, hB⟩
          have HB := Lib.hid hB; clear hB
          go_wp2_with fail
          refine (HQ.out _).mono ?_; rintro e w' ⟨rfl, rfl⟩
          go_wp2_with fail
          refine (HX.out _).mono ?_; rintro e w' ⟨rfl, rfl⟩
          go_wp2_with fail
          refine (HY.out _).mono ?_; rintro e w' ⟨rfl, rfl⟩
          go_wp2_with fail
          go_ret
          exact ⟨ret_i64 HN.out.symm, HB.out⟩

end Go.Proofs.Ytdeiillfdjebdaa
