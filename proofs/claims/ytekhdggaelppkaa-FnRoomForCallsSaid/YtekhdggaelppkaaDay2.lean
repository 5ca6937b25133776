/- Contracts: holidays and the first error of holidays and days, of the program and of its model. -/
import Derived.Test.YtekhdggaelppkaaChecked
import Derived.Test.YtekhdggaelppkaaBase0
import Derived.Test.YtekhdggaelppkaaDay1
import Derived.Test.YtekhdggaelppkaaPure60
import Derived.Test.YtekhdggaelppkaaIncr
import Derived.WalkKit
import Derived.WalkSpells
import Derived.WalkLawsBesides
import Derived.Lib.Hide
import Derived.Outline
import Derived.Deep.QuietTactic
import Derived.BigQuiet
import Derived.IntWalk
namespace Go.Proofs.Ytekhdggaelppkaa
open Go.RowKit Pure2 Pure20 Pure21 Pure60

theorem hol_long {zs : List Int} (h : 40 < zs.length) : hol zs = false := (hol_no zs).2 fun hh => by have := hh.2.2; omega
theorem hol_notday {zs : List Int} {k : Nat} {x : Int} (hx : zs[k]? = some x) (h : isDay x = false) : hol zs = false := (hol_no zs).2 fun hh => by have := hh.1 k x hx; rw [h] at this; cases this
theorem hol_down {zs : List Int} {k : Nat} {x y : Int} (hx : zs[k]? = some x) (hy : zs[k + 1]? = some y) (h : y ≤ x) : hol zs = false := (hol_no zs).2 fun hh => by have := hh.2.1 k x y hx hy; omega
theorem hol_end {zs : List Int} {k : Nat} (h : HolTo zs k) (hk : zs.length ≤ k) (hl : zs.length ≤ 40) : hol zs = true := (hol_iff zs).2 (holTo_end h hk hl)
theorem holTo_first {zs : List Int} {x : Int} (hx : zs[0]? = some x) (h : isDay x = true) : HolTo zs 1 := holTo_step (holTo_zero zs) hx h (fun y h => by omega)
theorem holTo_next {zs : List Int} {j : Nat} {x y : Int} (h : HolTo zs (j + 1)) (hx : zs[j]? = some x) (hy : zs[j + 1]? = some y) (hd : isDay y = true) (hlt : ¬ y ≤ x) : HolTo zs (j + 1 + 1) :=
  holTo_step h hy hd (fun z _ hz => by rw [Nat.add_sub_cancel] at hz; rw [hx] at hz; cases hz; omega)
/-- holidays are days that increase strictly, at most 40 -/
theorem hol_rises (zs : List Int) : hol zs = rises 40 0 20000 zs := by
  apply Bool.eq_iff_iff.2
  rw [hol_iff, rises_iff]
  exact ⟨fun h => ⟨fun i x hx => (isDay_iff x).1 (h.1 i x hx), h.2.1, h.2.2⟩, fun h => ⟨fun i x hx => (isDay_iff x).2 (h.1 i x hx), h.2.1, h.2.2⟩⟩

set_option maxHeartbeats 400000 in
theorem implAreHol_any (a : Option Addr) (len cap : Nat) (zs : List Int) (w : World) (hl : zs.length = len) (hm : len ≤ maxLen) (h : IntsAt w a zs) :
    Calls Try.prog 91 #[.slice a len cap] w fun e w' => e = .returned (.bool (hol zs)) ∧ w = w' := by
  have HC := Lib.hid (implIncr_any 40 40 0 20000 rfl a len cap zs w hl hm h); clear hl hm h
  have HN := Lib.hid (hol_rises zs)
  go_enter Try.func91, Try.ntmps91
  go_wp2_with fail
  refine HC.out.mono ?_; rintro e w' ⟨rfl, rfl⟩
  go_wp2_with fail
  go_ret
  exact ⟨ret_bool' HN.out.symm, rfl⟩

theorem specIsDay_same (n : Int) (b : Bool) (w : World) (h : isDay n = b) :
    Calls Try.prog 71 #[.int .i64 n] w fun e w' => e = .returned (.bool b) ∧ w' = w := by
  rw [← h]; exact (specIsDay_any n w).mono fun _ _ h => ⟨h.1, h.2.symm⟩

theorem hol_le {zs : List Int} {k len : Nat} (h : HolTo zs k) (hl : zs.length = len) (hk : len ≤ k) : decide ((len : Int) ≤ 40) = hol zs := by
  by_cases h40 : (len : Int) ≤ 40
  · rw [decide_eq_true h40, hol_end h (by omega) (by omega)]
  · rw [decide_eq_false h40, hol_long (by omega)]
theorem drewN_next {w wr : World} {n : Nat} (h : wr = w.drewN n) (m : Nat) : wr.drewN m = w.drewN (n + m) := by rw [h]; exact drewN_add w n m
theorem drewN_more {w wr : World} {n : Nat} (h : wr = w.drewN n) (m : Nat) : ∃ k, wr.drewN m = w.drewN k := ⟨_, drewN_next h m⟩

set_option maxHeartbeats 800000 in
theorem specAreHol_any (a : Option Addr) (len cap : Nat) (zs : List Int) (w : World) (hl : zs.length = len) (hm : len ≤ maxLen) (h : IntsAt w a zs) :
    Calls Try.prog 69 #[.slice a len cap] w (SaysB (hol zs) w) := by
  unfold maxLen at hm
  have HL := Lib.hid hl; have HI := Lib.hid h; clear hl h
  go_enter Try.func69, Try.ntmps69
  go_wp2
  go_loopw [3] (fun i wr => ∃ k n : Nat, k ≤ len ∧ i = .int .i64 k ∧ wr = w.drewN n ∧ HolTo zs k) (fun i _ => len - (intOf i).toNat)
  case atStart => exact ⟨0, 0, Nat.zero_le _, rfl, rfl, holTo_zero zs⟩
  case round =>
    obtain ⟨k, n, hk, rfl, hwr, hto⟩ := hrel
    have HT := Lib.hid hto; have HW := Lib.hid hwr
    have HI := Lib.hid (show IntsAt wr a zs by rw [hwr]; exact HI.out)
    clear hto hwr
    by_cases hlt : k < len
    · by_cases h0 : 0 < k
      · obtain ⟨j, rfl⟩ : ∃ j, k = j + 1 := ⟨k - 1, by omega⟩
        obtain ⟨b, off, x, y, ha, hc, hc', hx, hy⟩ := ints_two HI.out HL.out hlt
        have HX := Lib.hid hx; have HY := Lib.hid hy; clear hx hy
        have q1 : IntKind.i64.wrap ((j : Int) + 1 - 1) = (j : Int) := by rw [IntWalk.i64_in _ (by omega)]; omega
        have q2 : ((j : Int) + 1 - 1) = (j : Int) := by omega
        subst ha
        cases hd : isDay y with
        | true =>
          by_cases hyx : y ≤ x
          · have HN := Lib.hid (hol_down HX.out HY.out hyx)
            have HD := Lib.hid hd; clear hd
            go_wp2
            go_quiet ((go_at_call 71; exact Calls.quiet_of_same (specIsDay_same y true _ HD.out)))
            go_wp2
            go_ret
            exact ⟨ret_bool' HN.out.symm, drewN_more HW.out _⟩
          · have HN := Lib.hid (holTo_next HT.out HX.out HY.out hd hyx)
            have HD := Lib.hid hd; clear hd
            go_wp2
            go_quiet ((go_at_call 71; exact Calls.quiet_of_same (specIsDay_same y true _ HD.out)))
            go_wp2
            go_roundw
            case rel => exact ⟨j + 1 + 1, _, by omega, by go_num, drewN_next HW.out _, HN.out⟩
            case measure => simp [intOf]; omega
        | false =>
          have HN := Lib.hid (hol_notday HY.out hd)
          have HD := Lib.hid hd; clear hd
          go_wp2
          go_quiet ((go_at_call 71; exact Calls.quiet_of_same (specIsDay_same y false _ HD.out)))
          go_wp2
          go_ret
          exact ⟨ret_bool' HN.out.symm, drewN_more HW.out _⟩
      · obtain rfl : k = 0 := by omega
        obtain ⟨b, off, y, ha, hc, _, hy⟩ := HI.out.at HL.out hlt
        rw [Nat.add_zero] at hc
        have HY := Lib.hid hy; clear hy
        subst ha
        cases hd : isDay y with
        | true =>
          have HN := Lib.hid (holTo_first HY.out hd)
          have HD := Lib.hid hd; clear hd
          go_wp2
          go_quiet ((go_at_call 71; exact Calls.quiet_of_same (specIsDay_same y true _ HD.out)))
          go_wp2
          go_roundw
          case rel => exact ⟨1, _, by omega, by go_num, drewN_next HW.out _, HN.out⟩
          case measure => simp [intOf]; omega
        | false =>
          have HN := Lib.hid (hol_notday HY.out hd)
          have HD := Lib.hid hd; clear hd
          go_wp2
          go_quiet ((go_at_call 71; exact Calls.quiet_of_same (specIsDay_same y false _ HD.out)))
          go_wp2
          go_ret
          exact ⟨ret_bool' HN.out.symm, drewN_more HW.out _⟩
    · have HN := Lib.hid (hol_le HT.out HL.out (by omega))
      go_wp2
      go_ret
      exact ⟨ret_bool' HN.out, _, HW.out⟩

/-- the days of a short list are asked one by one -/
theorem code_some {zs ds : List Int} {k : Nat} {x : Int} (hh : hol zs = true) (hx : ds[k]? = some x) (h : isDay x = false) : code zs ds = 2 :=
  code_day ((hol_iff zs).1 hh) (fun e => by rw [List.all_eq_true] at e; have := e x (List.mem_of_getElem? hx); rw [h] at this; cases this)
theorem code_all {zs ds : List Int} {k : Nat} (hh : hol zs = true) (h : (ds.take k).all isDay = true) (hk : ds.length ≤ k) : code zs ds = 0 :=
  code_ok ((hol_iff zs).1 hh) (by rw [List.take_of_length_le hk] at h; exact h)
theorem code_no {zs ds : List Int} (hh : hol zs = false) : code zs ds = 1 := code_hol ((hol_no zs).1 hh)

set_option maxHeartbeats 400000 in
theorem implDaysErr_any (a : Option Addr) (len cap : Nat) (zs : List Int) (a' : Option Addr) (len' cap' : Nat) (ds : List Int) (w : World) (hl : zs.length = len) (hm : len ≤ maxLen) (h : IntsAt w a zs)
    (hl' : ds.length = len') (hm' : len' ≤ 2) (h' : IntsAt w a' ds) :
    Calls Try.prog 77 #[.slice a len cap, .slice a' len' cap'] w fun e w' => e = .returned (.int .i64 (code zs ds)) ∧ w = w' := by
  have HC := Lib.hid (implAreHol_any a len cap zs w hl hm h)
  have HD := Lib.hid (implAreDays_any a' len' cap' ds w hl' hm' h'); clear hl hm h hl' h' hm'
  cases hh : hol zs with
  | true =>
    have HH := Lib.hid hh; rw [hh] at HC; clear hh
    cases hd : ds.all isDay with
    | true =>
      have HN := Lib.hid (code_ok ((hol_iff zs).1 HH.out) hd); rw [hd] at HD; clear hd
      go_enter Try.func77, Try.ntmps77
      go_wp2_with fail
      refine HC.out.mono ?_; rintro e w' ⟨rfl, rfl⟩
      go_wp2_with fail
      refine HD.out.mono ?_; rintro e w' ⟨rfl, rfl⟩
      go_wp2_with fail
      go_ret
      exact ⟨ret_i64 HN.out.symm, rfl⟩
    | false =>
      have HN := Lib.hid (code_day ((hol_iff zs).1 HH.out) (by rw [hd]; decide)); rw [hd] at HD; clear hd
      go_enter Try.func77, Try.ntmps77
      go_wp2_with fail
      refine HC.out.mono ?_; rintro e w' ⟨rfl, rfl⟩
      go_wp2_with fail
      refine HD.out.mono ?_; rintro e w' ⟨rfl, rfl⟩
      go_wp2_with fail
      go_ret
      exact ⟨ret_i64 HN.out.symm, rfl⟩
  | false =>
    have HN := Lib.hid (code_no (ds := ds) hh); rw [hh] at HC; clear hh
    go_enter Try.func77, Try.ntmps77
    go_wp2_with fail
    refine HC.out.mono ?_; rintro e w' ⟨rfl, rfl⟩
    go_wp2_with fail
    go_ret
    exact ⟨ret_i64 HN.out.symm, rfl⟩

/-- a number is returned; the world has at most drawn -/
def SaysN (n : Int) (w : World) (e : Ending) (w' : World) : Prop := e = .returned (.int .i64 n) ∧ ∃ k, w' = w.drewN k
theorem code_two {zs : List Int} {x y : Int} (hh : hol zs = true) (hx : isDay x = true) (hy : isDay y = true) : code zs [x, y] = 0 := code_ok ((hol_iff zs).1 hh) (by simp [hx, hy])
theorem code_left {zs : List Int} {x y : Int} (hh : hol zs = true) (hx : isDay x = false) : code zs [x, y] = 2 := code_day ((hol_iff zs).1 hh) (by simp [hx])
theorem code_right {zs : List Int} {x y : Int} (hh : hol zs = true) (hx : isDay y = false) : code zs [x, y] = 2 := code_day ((hol_iff zs).1 hh) (by simp [hx])

end Go.Proofs.Ytekhdggaelppkaa
