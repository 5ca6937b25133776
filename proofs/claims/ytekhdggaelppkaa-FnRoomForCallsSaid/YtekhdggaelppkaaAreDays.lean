/- Contracts: isDay, areDays. -/
import Derived.Test.YtekhdggaelppkaaChecked
import Derived.Test.YtekhdggaelppkaaBase0
import Derived.WalkKit
import Derived.WalkSpells
import Derived.WalkLawsBesides
import Derived.Lib.Hide
import Derived.Outline
namespace Go.Proofs.Ytekhdggaelppkaa
open Go.RowKit Pure2 Pure20

set_option maxHeartbeats 400000 in
theorem implIsDay_any (n : Int) (w : World) :
    Calls Try.prog 87 #[.int .i64 n] w fun e w' => e = .returned (.bool (isDay n)) ∧ w = w' := by
  by_cases h1 : 0 ≤ n
  · by_cases h2 : n ≤ 20000
    all_goals
      go_enter Try.func87, Try.ntmps87
      go_wp2
      go_ret
      exact ⟨ret_bool' (by simp [isDay]; omega), rfl⟩
  · go_enter Try.func87, Try.ntmps87
    go_wp2
    go_ret
    exact ⟨ret_bool' (by simp [isDay]; omega), rfl⟩

theorem all_more {ds : List Int} {k : Nat} {x : Int} (ht : ds.take (k + 1) = ds.take k ++ [x]) (h : (ds.take k).all isDay = true) (hx : isDay x = true) : (ds.take (k + 1)).all isDay = true := by
  rw [ht, List.all_append, h]; simp [hx]
theorem all_bad {ds : List Int} {k : Nat} {x : Int} (hx : ds[k]? = some x) (h : isDay x = false) : ds.all isDay = false := by
  rw [← Bool.not_eq_true, List.all_eq_true]
  intro e
  have := e x (List.mem_of_getElem? hx); rw [h] at this; cases this

set_option maxHeartbeats 400000 in
theorem implAreDays_any (a' : Option Addr) (len' cap' : Nat) (ds : List Int) (w : World) (hl' : ds.length = len') (hm' : len' ≤ 2) (h' : IntsAt w a' ds) :
    Calls Try.prog 51 #[.slice a' len' cap'] w fun e w' => e = .returned (.bool (ds.all isDay)) ∧ w = w' := by
  have HL := Lib.hid hl'; have HI := Lib.hid h'; clear hl' h'
  go_enter Try.func51, Try.ntmps51
  go_wp2_with fail
  go_loop [4, 7] (fun _ i => ∃ k : Nat, k ≤ len' ∧ i = .int .i64 k ∧ (ds.take k).all isDay = true) (fun _ i => len' - (intOf i).toNat)
  case atStart => exact ⟨0, Nat.zero_le _, rfl, by simp⟩
  case round =>
    obtain ⟨k, hk, rfl, hall⟩ := hrel
    have HA := Lib.hid hall; clear hall
    by_cases hlt : k < len'
    · obtain ⟨b, off, x, ha, hc, ht, hx⟩ := HI.out.at HL.out hlt
      have HX := Lib.hid hx; have HT := Lib.hid ht; clear hx ht
      subst ha
      cases hd : isDay x with
      | true =>
        have HN := Lib.hid (all_more HT.out HA.out hd)
        have HD := Lib.hid (implIsDay_any x w); rw [hd] at HD; clear hd
        go_wp2_with (go_at_call 87; refine HD.out.mono ?_; rintro e w' ⟨rfl, rfl⟩)
        go_round
        case rel => exact ⟨k + 1, by omega, by go_num, HN.out⟩
        case measure => simp [intOf]; omega
      | false =>
        have HN := Lib.hid (all_bad HX.out hd)
        have HD := Lib.hid (implIsDay_any x w); rw [hd] at HD; clear hd
        go_wp2_with (go_at_call 87; refine HD.out.mono ?_; rintro e w' ⟨rfl, rfl⟩)
        go_ret
        exact ⟨ret_bool' HN.out.symm, rfl⟩
    · have HN := Lib.hid (show ds.all isDay = true by have := HA.out; rwa [List.take_of_length_le (by rw [HL.out]; omega)] at this)
      go_wp2_with fail
      go_ret
      exact ⟨ret_bool' HN.out.symm, rfl⟩
end Go.Proofs.Ytekhdggaelppkaa
