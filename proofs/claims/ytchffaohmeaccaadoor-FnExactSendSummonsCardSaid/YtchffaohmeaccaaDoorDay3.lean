/- Contracts: the next court day, the limit, days that are added and counted, of the program and of its model. -/
import Derived.Test.YtchffaohmeaccaaDoorChecked
import Derived.Test.YtchffaohmeaccaaDoorBase0
import Derived.Test.YtchffaohmeaccaaDoorPure21
import Derived.Test.YtchffaohmeaccaaDoorDay1
import Derived.Test.YtchffaohmeaccaaDoorDay2
import Derived.WalkKit
import Derived.WalkSpells
import Derived.WalkLawsBesides
import Derived.Lib.Hide
import Derived.Outline
namespace Go.Proofs.YtchffaohmeaccaaDoor
open Go.RowKit Pure2 Pure20 Pure21

theorem implCourt_is (d : Int) (a : Option Addr) (len cap : Nat) (zs : List Int) (w : World) (c : Bool) (hc : court zs d = c) (hd : 0 ≤ d) (hl : zs.length = len) (h : IntsAt w a zs) (hh : Hol zs) :
    Calls Tryd.prog 109 #[.int .i64 d, .slice a len cap] w fun e w' => e = .returned (.bool c) ∧ w = w' := by
  rw [← hc]; exact implCourt_any d a len cap zs w hd hl h hh
theorem specCourt_is (d : Int) (a : Option Addr) (len cap : Nat) (zs : List Int) (w : World) (c : Bool) (hc : court zs d = c) (hd : 0 ≤ d) (hl : zs.length = len) (hm : len ≤ maxLen) (h : IntsAt w a zs) :
    Calls Tryd.prog 93 #[.slice a len cap, .int .i64 d] w fun e w' => e = .returned (.bool c) ∧ w = w' := by
  rw [← hc]; exact specCourt_any d a len cap zs w hd hl hm h

theorem ret_pair {a b : Int} {p : Int × Int} (h : p = (a, b)) : Ending.returned (.tuple #[.int .i64 a, .int .i64 b]) = .returned (.tuple #[.int .i64 p.1, .int .i64 p.2]) := by rw [h]

set_option maxHeartbeats 400000 in
theorem implResult_any (r : Int) (w : World) :
    Calls Tryd.prog 98 #[.int .i64 r] w fun e w' => e = .returned (.tuple #[.int .i64 (lim r).1, .int .i64 (lim r).2]) ∧ w = w' := by
  by_cases h : 20000 < r
  · have HN := Lib.hid (lim_yes h)
    go_enter Tryd.func98, Tryd.ntmps98
    go_wp2
    go_ret2
    exact ⟨ret_pair HN.out, rfl⟩
  · have HN := Lib.hid (lim_no h)
    go_enter Tryd.func98, Tryd.ntmps98
    go_wp2
    go_ret2
    exact ⟨ret_pair HN.out, rfl⟩

set_option maxHeartbeats 400000 in
theorem specLimit_any (r : Int) (w : World) :
    Calls Tryd.prog 75 #[.int .i64 r, .int .i64 0] w fun e w' => e = .returned (.tuple #[.int .i64 (lim r).1, .int .i64 (lim r).2]) ∧ w = w' := by
  by_cases h : 20000 < r
  · have HN := Lib.hid (lim_yes h)
    go_enter Tryd.func75, Tryd.ntmps75
    go_wp2
    go_ret2
    exact ⟨ret_pair HN.out, rfl⟩
  · have HN := Lib.hid (lim_no h)
    go_enter Tryd.func75, Tryd.ntmps75
    go_wp2
    go_ret2
    exact ⟨ret_pair HN.out, rfl⟩

theorem next_at {zs : List Int} {d r x : Int} (h : IsNext zs d r) (h1 : d ≤ x) (h2 : x < r) : court zs x = false := h.2.2 x h1 h2

set_option maxHeartbeats 400000 in
theorem implNext_any (d : Int) (a : Option Addr) (len cap : Nat) (zs : List Int) (w : World) (hd : 0 ≤ d) (hd' : d ≤ 30000) (hl : zs.length = len) (h : IntsAt w a zs) (hh : Hol zs) :
    Calls Tryd.prog 97 #[.int .i64 d, .slice a len cap] w fun e w' => e = .returned (.int .i64 (nextOf zs d)) ∧ w = w' := by
  have HC := Lib.hid (fun (x : Int) (c : Bool) (hc : court zs x = c) (hx : 0 ≤ x) => implCourt_is x a len cap zs w c hc hx hl h hh)
  obtain ⟨hn, hb⟩ := nextOf_is hh d
  have hr := hn.1
  generalize nextOf zs d = r at hn hb hr
  have HN := Lib.hid hn; clear hn hl h hh
  go_enter Tryd.func97, Tryd.ntmps97
  go_wp2
  go_loop [0] (fun v => ∃ x : Int, v = .int .i64 x ∧ d ≤ x ∧ x ≤ r) (fun v => (r - intOf v).toNat)
  case atStart => exact ⟨d, rfl, Int.le_refl _, hr⟩
  case round =>
    obtain ⟨x, rfl, h1, h2⟩ := hrel
    by_cases hx : x = r
    · subst hx
      go_wp2_with (go_at_call 109; refine (HC.out _ true HN.out.2.1 (by omega)).mono ?_; rintro e w' ⟨rfl, rfl⟩)
      go_ret
      exact ⟨rfl, rfl⟩
    · have hlt : x < r := by omega
      clear hx
      go_wp2_with (go_at_call 109; refine (HC.out _ false (next_at HN.out h1 hlt) (by omega)).mono ?_; rintro e w' ⟨rfl, rfl⟩)
      go_round
      case rel => exact ⟨x + 1, rfl, by omega, by omega⟩
      case measure => simp [intOf]; omega

set_option maxHeartbeats 400000 in
theorem specNext_day (d : Int) (a : Option Addr) (len cap : Nat) (zs : List Int) (w : World) (hd : 0 ≤ d) (hd' : d ≤ 30000) (hl : zs.length = len) (hm : len ≤ maxLen) (h : IntsAt w a zs) (hh : Hol zs) :
    Calls Tryd.prog 76 #[.slice a len cap, .int .i64 d] w fun e w' => e = .returned (.int .i64 (nextOf zs d)) ∧ w = w' := by
  have HC := Lib.hid (fun (x : Int) (c : Bool) (hc : court zs x = c) (hx : 0 ≤ x) => specCourt_is x a len cap zs w c hc hx hl hm h)
  obtain ⟨hn, hb⟩ := nextOf_is hh d
  have hr := hn.1
  generalize nextOf zs d = r at hn hb hr
  have HN := Lib.hid hn; clear hn hl h hh hm
  go_enter Tryd.func76, Tryd.ntmps76
  go_wp2
  go_loop [1] (fun v => ∃ x : Int, v = .int .i64 x ∧ d ≤ x ∧ x ≤ r) (fun v => (r - intOf v).toNat)
  case atStart => exact ⟨d, rfl, Int.le_refl _, hr⟩
  case round =>
    obtain ⟨x, rfl, h1, h2⟩ := hrel
    by_cases hx : x = r
    · subst hx
      go_wp2_with (go_at_call 93; refine (HC.out _ true HN.out.2.1 (by omega)).mono ?_; rintro e w' ⟨rfl, rfl⟩)
      go_ret
      exact ⟨rfl, rfl⟩
    · have hlt : x < r := by omega
      clear hx
      go_wp2_with (go_at_call 93; refine (HC.out _ false (next_at HN.out h1 hlt) (by omega)).mono ?_; rintro e w' ⟨rfl, rfl⟩)
      go_round
      case rel => exact ⟨x + 1, rfl, by omega, by omega⟩
      case measure => simp [intOf]; omega

theorem hcn_step {zs : List Int} {k : Nat} {x d : Int} (ht : zs.take (k + 1) = zs.take k ++ [x]) : hcn d (zs.take (k + 1)) = hcn d (zs.take k) + (if x < d ∧ x % 7 < 5 then 1 else 0) := by rw [ht, hcn_snoc]
theorem min_five (d : Int) (h : d % 7 < 5) : wd d = d / 7 * 5 + d % 7 := by unfold wd; omega
theorem min_five' (d : Int) (h : ¬ d % 7 < 5) : wd d = d / 7 * 5 + 5 := by unfold wd; omega

end Go.Proofs.YtchffaohmeaccaaDoor
