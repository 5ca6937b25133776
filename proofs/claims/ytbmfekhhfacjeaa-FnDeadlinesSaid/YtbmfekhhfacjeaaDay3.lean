/- Contracts: the next court day, the limit, days that are added and counted, of the program and of its model. -/
import Derived.Test.YtbmfekhhfacjeaaChecked
import Derived.Test.YtbmfekhhfacjeaaBase
import Derived.Test.YtbmfekhhfacjeaaPure21
import Derived.Test.YtbmfekhhfacjeaaDay1
import Derived.Test.YtbmfekhhfacjeaaDay2
import Derived.WalkKit
import Derived.WalkSpells
import Derived.WalkLawsBesides
import Derived.Lib.Hide
import Derived.Outline
namespace Go.Proofs.Ytbmfekhhfacjeaa
open Go.RowKit Pure2 Pure20 Pure21

theorem implCourt_is (d : Int) (a : Option Addr) (len cap : Nat) (zs : List Int) (w : World) (c : Bool) (hc : court zs d = c) (hd : 0 ≤ d) (hl : zs.length = len) (h : IntsAt w a zs) (hh : Hol zs) :
    Calls Try.prog 52 #[.int .i64 d, .slice a len cap] w fun e w' => e = .returned (.bool c) ∧ w = w' := by
  rw [← hc]; exact implCourt_any d a len cap zs w hd hl h hh
theorem specCourt_is (d : Int) (a : Option Addr) (len cap : Nat) (zs : List Int) (w : World) (c : Bool) (hc : court zs d = c) (hd : 0 ≤ d) (hl : zs.length = len) (hm : len ≤ maxLen) (h : IntsAt w a zs) :
    Calls Try.prog 51 #[.slice a len cap, .int .i64 d] w fun e w' => e = .returned (.bool c) ∧ w = w' := by
  rw [← hc]; exact specCourt_any d a len cap zs w hd hl hm h

theorem ret_pair {a b : Int} {p : Int × Int} (h : p = (a, b)) : Ending.returned (.tuple #[.int .i64 a, .int .i64 b]) = .returned (.tuple #[.int .i64 p.1, .int .i64 p.2]) := by rw [h]

set_option maxHeartbeats 400000 in
theorem implResult_any (r : Int) (w : World) :
    Calls Try.prog 43 #[.int .i64 r] w fun e w' => e = .returned (.tuple #[.int .i64 (lim r).1, .int .i64 (lim r).2]) ∧ w = w' := by
  by_cases h : 20000 < r
  · have HN := Lib.hid (lim_yes h)
    go_enter Try.func43, Try.ntmps43
    go_wp2
    go_ret2
    exact ⟨ret_pair HN.out, rfl⟩
  · have HN := Lib.hid (lim_no h)
    go_enter Try.func43, Try.ntmps43
    go_wp2
    go_ret2
    exact ⟨ret_pair HN.out, rfl⟩

set_option maxHeartbeats 400000 in
theorem specLimit_any (r : Int) (w : World) :
    Calls Try.prog 46 #[.int .i64 r, .int .i64 0] w fun e w' => e = .returned (.tuple #[.int .i64 (lim r).1, .int .i64 (lim r).2]) ∧ w = w' := by
  by_cases h : 20000 < r
  · have HN := Lib.hid (lim_yes h)
    go_enter Try.func46, Try.ntmps46
    go_wp2
    go_ret2
    exact ⟨ret_pair HN.out, rfl⟩
  · have HN := Lib.hid (lim_no h)
    go_enter Try.func46, Try.ntmps46
    go_wp2
    go_ret2
    exact ⟨ret_pair HN.out, rfl⟩

theorem next_at {zs : List Int} {d r x : Int} (h : IsNext zs d r) (h1 : d ≤ x) (h2 : x < r) : court zs x = false := h.2.2 x h1 h2

set_option maxHeartbeats 400000 in
theorem implNext_any (d : Int) (a : Option Addr) (len cap : Nat) (zs : List Int) (w : World) (hd : 0 ≤ d) (hd' : d ≤ 30000) (hl : zs.length = len) (h : IntsAt w a zs) (hh : Hol zs) :
    Calls Try.prog 42 #[.int .i64 d, .slice a len cap] w fun e w' => e = .returned (.int .i64 (nextOf zs d)) ∧ w = w' := by
  have HC := Lib.hid (fun (x : Int) (c : Bool) (hc : court zs x = c) (hx : 0 ≤ x) => implCourt_is x a len cap zs w c hc hx hl h hh)
  obtain ⟨hn, hb⟩ := nextOf_is hh d
  have hr := hn.1
  generalize nextOf zs d = r at hn hb hr
  have HN := Lib.hid hn; clear hn hl h hh
  go_enter Try.func42, Try.ntmps42
  go_wp2
  go_loop [0] (fun v => ∃ x : Int, v = .int .i64 x ∧ d ≤ x ∧ x ≤ r) (fun v => (r - intOf v).toNat)
  case atStart => exact ⟨d, rfl, Int.le_refl _, hr⟩
  case round =>
    obtain ⟨x, rfl, h1, h2⟩ := hrel
    by_cases hx : x = r
    · subst hx
      go_wp2_with (go_at_call 52; refine (HC.out _ true HN.out.2.1 (by omega)).mono ?_; rintro e w' ⟨rfl, rfl⟩)
      go_ret
      exact ⟨rfl, rfl⟩
    · have hlt : x < r := by omega
      clear hx
      go_wp2_with (go_at_call 52; refine (HC.out _ false (next_at HN.out h1 hlt) (by omega)).mono ?_; rintro e w' ⟨rfl, rfl⟩)
      go_round
      case rel => exact ⟨x + 1, rfl, by omega, by omega⟩
      case measure => simp [intOf]; omega

set_option maxHeartbeats 400000 in
theorem specNext_day (d : Int) (a : Option Addr) (len cap : Nat) (zs : List Int) (w : World) (hd : 0 ≤ d) (hd' : d ≤ 30000) (hl : zs.length = len) (hm : len ≤ maxLen) (h : IntsAt w a zs) (hh : Hol zs) :
    Calls Try.prog 55 #[.slice a len cap, .int .i64 d] w fun e w' => e = .returned (.int .i64 (nextOf zs d)) ∧ w = w' := by
  have HC := Lib.hid (fun (x : Int) (c : Bool) (hc : court zs x = c) (hx : 0 ≤ x) => specCourt_is x a len cap zs w c hc hx hl hm h)
  obtain ⟨hn, hb⟩ := nextOf_is hh d
  have hr := hn.1
  generalize nextOf zs d = r at hn hb hr
  have HN := Lib.hid hn; clear hn hl h hh hm
  go_enter Try.func55, Try.ntmps55
  go_wp2
  go_loop [1] (fun v => ∃ x : Int, v = .int .i64 x ∧ d ≤ x ∧ x ≤ r) (fun v => (r - intOf v).toNat)
  case atStart => exact ⟨d, rfl, Int.le_refl _, hr⟩
  case round =>
    obtain ⟨x, rfl, h1, h2⟩ := hrel
    by_cases hx : x = r
    · subst hx
      go_wp2_with (go_at_call 51; refine (HC.out _ true HN.out.2.1 (by omega)).mono ?_; rintro e w' ⟨rfl, rfl⟩)
      go_ret
      exact ⟨rfl, rfl⟩
    · have hlt : x < r := by omega
      clear hx
      go_wp2_with (go_at_call 51; refine (HC.out _ false (next_at HN.out h1 hlt) (by omega)).mono ?_; rintro e w' ⟨rfl, rfl⟩)
      go_round
      case rel => exact ⟨x + 1, rfl, by omega, by omega⟩
      case measure => simp [intOf]; omega

set_option maxHeartbeats 400000 in
theorem specAdd_any (d n : Int) (a : Option Addr) (len cap : Nat) (zs : List Int) (w : World) (hd : 0 ≤ d) (hd' : d ≤ 20000) (hn : 0 ≤ n) (hn' : n ≤ 400) (hl : zs.length = len) (hm : len ≤ maxLen) (h : IntsAt w a zs) (hh : Hol zs) :
    Calls Try.prog 47 #[.slice a len cap, .int .i64 d, .int .i64 n] w fun e w' => e = .returned (.int .i64 (addOf zs d n.toNat)) ∧ w = w' := by
  obtain ⟨n, rfl⟩ := Int.eq_ofNat_of_zero_le hn
  rw [Int.toNat_natCast]
  have HC := Lib.hid (fun (x : Int) (hx : 0 ≤ x) (hx' : x ≤ 30000) => specNext_day x a len cap zs w hx hx' hl hm h hh)
  have HA := Lib.hid (fun k => addOf_is hh hd' k)
  have HS := Lib.hid (fun k => addOf_succ hh hd' k)
  have H0 := Lib.hid (addOf_zero zs d)
  clear hl hm h hh hn
  go_enter Try.func47, Try.ntmps47
  go_wp2
  go_loop [1, 2] (fun v i => ∃ k m : Nat, k + m = n ∧ v = .int .i64 (addOf zs d k) ∧ i = .int .i64 m) (fun _ i => (intOf i).toNat)
  case atStart => exact ⟨0, n, by omega, by rw [H0.out], rfl⟩
  case round =>
    obtain ⟨k, m, hkm, rfl, rfl⟩ := hrel
    have hb := (HA.out k).2
    have hb0 := isAdd_le (HA.out k).1
    by_cases hm0 : 0 < m
    · have HK := Lib.hid (HS.out k)
      have HB := Lib.hid hkm; clear hkm
      have hk4 : (k : Int) ≤ 400 := by have := HB.out; omega
      have hm4 : (m : Int) ≤ 400 := by have := HB.out; omega
      generalize addOf zs d k = x at hb hb0 HK
      go_wp2_with (go_at_call 55; refine (HC.out _ (by omega) (by omega)).mono ?_; rintro e w' ⟨rfl, rfl⟩)
      go_round
      case rel => exact ⟨k + 1, m - 1, by have := HB.out; omega, by rw [HK.out], by go_num⟩
      case measure => simp [intOf]; omega
    · obtain rfl : m = 0 := by omega
      obtain rfl : k = n := by omega
      clear hb hb0 hkm
      go_wp2_with fail
      go_ret
      exact ⟨rfl, rfl⟩

theorem hcn_step {zs : List Int} {k : Nat} {x d : Int} (ht : zs.take (k + 1) = zs.take k ++ [x]) : hcn d (zs.take (k + 1)) = hcn d (zs.take k) + (if x < d ∧ x % 7 < 5 then 1 else 0) := by rw [ht, hcn_snoc]
theorem min_five (d : Int) (h : d % 7 < 5) : wd d = d / 7 * 5 + d % 7 := by unfold wd; omega
theorem min_five' (d : Int) (h : ¬ d % 7 < 5) : wd d = d / 7 * 5 + 5 := by unfold wd; omega

set_option maxHeartbeats 800000 in
theorem implBefore_any (d : Int) (a : Option Addr) (len cap : Nat) (zs : List Int) (w : World) (hd : 0 ≤ d) (hd' : d ≤ 30000) (hl : zs.length = len) (h : IntsAt w a zs) (hh : Hol zs) :
    Calls Try.prog 50 #[.int .i64 d, .slice a len cap] w fun e w' => e = .returned (.int .i64 (count zs 0 d)) ∧ w = w' := by
  have hm : len ≤ 40 := by rw [← hl]; exact hh.2.2
  have HL := Lib.hid hl; have HI := Lib.hid h; have HW := Lib.hid (count_wd hh hd); have HD := Lib.hid (fun x hx => hol_day hh x hx)
  clear hl h hh
  have hw0 : 0 ≤ wd d ∧ wd d ≤ 30000 := by unfold wd; omega
  go_enter Try.func50, Try.ntmps50
  go_wp2
  all_goals
    go_loop [5, 7, 8, 18] (fun c _ _ i => ∃ k : Nat, k ≤ len ∧ i = .int .i64 k ∧ c = .int .i64 (wd d - hcn d (zs.take k))) (fun _ _ _ i => len - (intOf i).toNat)
    case atStart => exact ⟨0, Nat.zero_le _, rfl, congrArg (Value.int .i64) (by simp only [List.take_zero, hcn]; unfold wd; omega)⟩
    case round =>
      obtain ⟨k, hk, rfl, rfl⟩ := hrel
      have hcb := hcn_bd d (zs.take k)
      have htl : ((zs.take k).length : Int) ≤ 40 := by rw [List.length_take]; omega
      by_cases hlt : k < len
      · obtain ⟨b, off, x, ha, hc, ht, hx⟩ := HI.out.at HL.out hlt
        have hxd := HD.out x (List.mem_of_getElem? hx)
        have HS := Lib.hid (hcn_step (d := d) ht); clear hx ht
        subst ha
        by_cases hxl : x < d
        · by_cases hx5 : x % 7 < 5
          · have HN := Lib.hid (show hcn d (zs.take (k + 1)) = hcn d (zs.take k) + 1 by rw [HS.out, if_pos ⟨hxl, hx5⟩])
            have HK := Lib.hid (implIsWork_any x w hxd.1); rw [work_yes hx5] at HK
            go_wp2_with (go_at_call 57; refine HK.out.mono ?_; rintro e w' ⟨rfl, rfl⟩)
            go_round
            case rel => exact ⟨k + 1, by omega, by go_num, by rw [HN.out]; go_num⟩
            case measure => simp [intOf]; omega
          · have HN := Lib.hid (show hcn d (zs.take (k + 1)) = hcn d (zs.take k) by rw [HS.out, if_neg (fun h => hx5 h.2)]; omega)
            have HK := Lib.hid (implIsWork_any x w hxd.1); rw [work_no hx5] at HK
            go_wp2_with (go_at_call 57; refine HK.out.mono ?_; rintro e w' ⟨rfl, rfl⟩)
            go_round
            case rel => exact ⟨k + 1, by omega, by go_num, by rw [HN.out]⟩
            case measure => simp [intOf]; omega
        · have HN := Lib.hid (show hcn d (zs.take (k + 1)) = hcn d (zs.take k) by rw [HS.out, if_neg (fun h => hxl h.1)]; omega)
          go_wp2_with fail
          go_round
          case rel => exact ⟨k + 1, by omega, by go_num, by rw [HN.out]⟩
          case measure => simp [intOf]; omega
      · have HF := Lib.hid (show wd d - hcn d (zs.take k) = count zs 0 d by rw [List.take_of_length_le (by rw [HL.out]; omega)]; exact HW.out)
        rw [HF.out]
        go_wp2_with fail
        go_ret
        exact ⟨rfl, rfl⟩

end Go.Proofs.Ytbmfekhhfacjeaa
