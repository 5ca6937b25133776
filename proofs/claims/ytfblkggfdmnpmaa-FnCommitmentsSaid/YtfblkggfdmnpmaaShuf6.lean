/- Contracts: slices.Index and slices.Equal at int64, spec.l01Same, laws.hasInt. -/
import Derived.Test.YtfblkggfdmnpmaaChecked
import Derived.Test.YtfblkggfdmnpmaaBase
import Derived.Test.YtfblkggfdmnpmaaPure31
import Derived.WalkKit
import Derived.WalkSpells
import Derived.WalkLawsBesides
import Derived.Lib.Hide
import Derived.Deep.QuietTactic
import Derived.BigQuiet
namespace Go.Proofs.Ytfblkggfdmnpmaa
open Go.RowKit Pure2

set_option maxHeartbeats 400000 in
theorem slicesEqual_any (a a' : Option Addr) (len cap len' cap' : Nat) (xs ys : List Int) (w : World) (hl : xs.length = len) (hl' : ys.length = len') (hm : len ≤ maxLen) (hm' : len' ≤ maxLen) (h : IntsAt w a xs) (h' : IntsAt w a' ys) :
    Calls Try.prog 63 #[.slice a len cap, .slice a' len' cap'] w (SaysB (sameL xs ys) w) := by
  unfold maxLen at hm hm'
  by_cases hne : len = len'
  · subst hne
    have HL := Lib.hid hl; have HL' := Lib.hid hl'; have HI := Lib.hid h; have HI' := Lib.hid h'; clear hl hl' h h'
    go_enter Try.func63, Try.ntmps63
    go_wp2
    go_loopw [13] (fun i wr => ∃ k n : Nat, k ≤ len ∧ i = .int .i64 k ∧ wr = w.drewN n ∧ xs.take k = ys.take k) (fun i _ => len - (intOf i).toNat)
    case atStart => exact ⟨0, 0, Nat.zero_le _, rfl, rfl, rfl⟩
    case round =>
      obtain ⟨k, n, hk, rfl, rfl, ht⟩ := hrel
      have HT := Lib.hid ht; clear ht
      by_cases hlt : k < len
      · obtain ⟨b, off, x, ha, hc, ht, hx⟩ := HI.out.at HL.out hlt
        obtain ⟨b', off', y, ha', hc', ht', hy⟩ := HI'.out.at HL'.out hlt
        subst ha; subst ha'
        by_cases hxy : x = y
        · subst hxy
          have HN := Lib.hid (show xs.take (k+1) = ys.take (k+1) by rw [ht, ht', HT.out]); clear ht ht' hx hy
          go_wp2
          go_quiet (fail)
          go_wp2
          go_roundw
          case rel => exact ⟨k + 1, _, by omega, by go_num, rfl, HN.out⟩
          case measure => simp [intOf]; omega
        · have HN := Lib.hid (sameL_at hx hy hxy); clear ht ht' hx hy
          have hxy' : (x != y) = true := by rw [bne_iff_ne]; exact hxy
          clear hxy
          go_wp2
          go_quiet (fail)
          go_wp2
          go_ret
          exact ⟨ret_bool' HN.out.symm, _, drewN_add _ _ _⟩
      · have HN := Lib.hid (sameL_end HT.out (by rw [HL.out]; omega) (by rw [HL'.out]; omega))
        go_wp2
        go_ret
        exact ⟨ret_bool' HN.out.symm, _, rfl⟩
  · have HN := Lib.hid (sameL_len (xs := xs) (ys := ys) (by rw [hl, hl']; exact hne))
    have hne' : ((len : Int) != len') = true := by rw [bne_iff_ne]; omega
    clear hl hl' h h' hne
    go_enter Try.func63, Try.ntmps63
    go_wp2
    go_ret
    exact ⟨ret_bool' HN.out.symm, 0, rfl⟩

set_option maxHeartbeats 400000 in
theorem specL01Same_any (a a' : Option Addr) (len cap len' cap' : Nat) (xs ys : List Int) (w : World) (hl : xs.length = len) (hl' : ys.length = len') (hm : len ≤ maxLen) (hm' : len' ≤ maxLen) (h : IntsAt w a xs) (h' : IntsAt w a' ys) :
    Calls Try.prog 65 #[.slice a len cap, .slice a' len' cap'] w (SaysB (sameL xs ys) w) := by
  unfold maxLen at hm hm'
  by_cases hne : len = len'
  · subst hne
    have HL := Lib.hid hl; have HL' := Lib.hid hl'; have HI := Lib.hid h; have HI' := Lib.hid h'; clear hl hl' h h'
    go_enter Try.func65, Try.ntmps65
    go_wp2
    go_loopw [5] (fun i wr => ∃ k n : Nat, k ≤ len ∧ i = .int .i64 k ∧ wr = w.drewN n ∧ xs.take k = ys.take k) (fun i _ => len - (intOf i).toNat)
    case atStart => exact ⟨0, 0, Nat.zero_le _, rfl, rfl, rfl⟩
    case round =>
      obtain ⟨k, n, hk, rfl, rfl, ht⟩ := hrel
      have HT := Lib.hid ht; clear ht
      by_cases hlt : k < len
      · obtain ⟨b, off, x, ha, hc, ht, hx⟩ := HI.out.at HL.out hlt
        obtain ⟨b', off', y, ha', hc', ht', hy⟩ := HI'.out.at HL'.out hlt
        subst ha; subst ha'
        by_cases hxy : x = y
        · subst hxy
          have HN := Lib.hid (show xs.take (k+1) = ys.take (k+1) by rw [ht, ht', HT.out]); clear ht ht' hx hy
          go_wp2
          go_quiet (fail)
          go_wp2
          go_roundw
          case rel => exact ⟨k + 1, _, by omega, by go_num, rfl, HN.out⟩
          case measure => simp [intOf]; omega
        · have HN := Lib.hid (sameL_at hx hy hxy); clear ht ht' hx hy
          have hxy' : (x != y) = true := by rw [bne_iff_ne]; exact hxy
          clear hxy
          go_wp2
          go_quiet (fail)
          go_wp2
          go_ret
          exact ⟨ret_bool' HN.out.symm, _, drewN_add _ _ _⟩
      · have HN := Lib.hid (sameL_end HT.out (by rw [HL.out]; omega) (by rw [HL'.out]; omega))
        go_wp2
        go_ret
        exact ⟨ret_bool' HN.out.symm, _, rfl⟩
  · have HN := Lib.hid (sameL_len (xs := xs) (ys := ys) (by rw [hl, hl']; exact hne))
    have hne' : ((len : Int) != len') = true := by rw [bne_iff_ne]; omega
    clear hl hl' h h' hne
    go_enter Try.func65, Try.ntmps65
    go_wp2
    go_ret
    exact ⟨ret_bool' HN.out.symm, 0, rfl⟩

/-- x stands at place k and nowhere ahead of it -/
def FirstAt (zs : List Int) (x : Int) (k : Nat) : Prop := zs[k]? = some x ∧ ∀ i, i < k → zs[i]? ≠ some x

set_option maxHeartbeats 400000 in
theorem slicesIndex_any (a : Option Addr) (len cap : Nat) (zs : List Int) (x : Int) (k : Nat) (w : World) (hl : zs.length = len) (hm : len ≤ maxLen) (h : IntsAt w a zs) (hk : FirstAt zs x k) :
    Calls Try.prog 55 #[.slice a len cap, .int .i64 x] w fun e w' => e = .returned (.int .i64 k) ∧ w = w' := by
  unfold maxLen at hm
  have hkl : k < len := by have := (List.getElem?_eq_some_iff.1 hk.1).1; omega
  have HL := Lib.hid hl; have HI := Lib.hid h; have HK := Lib.hid hk; clear hl h hk
  go_enter Try.func55, Try.ntmps55
  go_wp2
  go_loop [8] (fun i => ∃ j : Nat, j ≤ k ∧ i = .int .i64 j) (fun i => len - (intOf i).toNat)
  case atStart => exact ⟨0, Nat.zero_le _, rfl⟩
  case round =>
    obtain ⟨j, hj, rfl⟩ := hrel
    obtain ⟨b, off, y, ha, hc, ht, hy⟩ := HI.out.at HL.out (show j < len by omega)
    subst ha
    by_cases hjk : j = k
    · subst hjk
      obtain rfl : x = y := by have := HK.out.1; rw [this] at hy; exact Option.some.inj hy
      clear ht hy hj
      go_wp2
      go_ret
      exact ⟨rfl, rfl⟩
    · have hxy : (x == y) = false := by
        rw [beq_eq_false_iff_ne]; intro e; subst e; exact HK.out.2 j (by omega) hy
      clear ht hy
      go_wp2
      go_round
      case rel => exact ⟨j + 1, by omega, by go_num⟩
      case measure => simp [intOf]; omega

set_option maxHeartbeats 400000 in
theorem lawsHasInt_yes (a : Option Addr) (len cap : Nat) (zs : List Int) (x : Int) (k : Nat) (w : World) (hl : zs.length = len) (hm : len ≤ maxLen) (h : IntsAt w a zs) (hk : FirstAt zs x k) :
    Calls Try.prog 25 #[.slice a len cap, .int .i64 x] w fun e w' => e = .returned (.bool true) ∧ w = w' := by
  unfold maxLen at hm
  have hkl : k < len := by have := (List.getElem?_eq_some_iff.1 hk.1).1; omega
  have HL := Lib.hid hl; have HI := Lib.hid h; have HK := Lib.hid hk; clear hl h hk
  go_enter Try.func25, Try.ntmps25
  go_wp2
  go_loop [5] (fun i => ∃ j : Nat, j ≤ k ∧ i = .int .i64 j) (fun i => len - (intOf i).toNat)
  case atStart => exact ⟨0, Nat.zero_le _, rfl⟩
  case round =>
    obtain ⟨j, hj, rfl⟩ := hrel
    obtain ⟨b, off, y, ha, hc, ht, hy⟩ := HI.out.at HL.out (show j < len by omega)
    subst ha
    by_cases hjk : j = k
    · subst hjk
      obtain rfl : x = y := by have := HK.out.1; rw [this] at hy; exact Option.some.inj hy
      clear ht hy hj
      go_wp2
      go_ret
      exact ⟨rfl, rfl⟩
    · have hxy : (y == x) = false := by
        rw [beq_eq_false_iff_ne]; intro e; subst e; exact HK.out.2 j (by omega) hy
      clear ht hy
      go_wp2
      go_round
      case rel => exact ⟨j + 1, by omega, by go_num⟩
      case measure => simp [intOf]; omega

end Go.Proofs.Ytfblkggfdmnpmaa
