/- Contract: impl.areIncreasing. -/
import Derived.Test.YtekhdggaelppkaaChecked
import Derived.Test.YtekhdggaelppkaaBase0
import Derived.Test.YtekhdggaelppkaaPure60
import Derived.Test.YtekhdggaelppkaaWithin
import Derived.WalkKit
import Derived.WalkSpells
import Derived.WalkLawsBesides
import Derived.Lib.Hide
import Derived.Outline
namespace Go.Proofs.Ytekhdggaelppkaa
open Go.RowKit Pure2 Pure40 Pure60

/-- two neighbours of a list, where they lie -/
theorem ints_two {w : World} {a : Option Addr} {zs : List Int} {len : Nat} (h : IntsAt w a zs) (hl : zs.length = len) {j : Nat} (hj : j + 1 < len) :
    ∃ b off x y, a = some ⟨b, off, none⟩ ∧ w.cell? ⟨b, off + j, none⟩ = some (.int .i64 x) ∧ w.cell? ⟨b, off + (j + 1), none⟩ = some (.int .i64 y) ∧ zs[j]? = some x ∧ zs[j + 1]? = some y := by
  obtain ⟨b, off, x, ha, hc, _, hx⟩ := h.at hl (show j < len by omega)
  obtain ⟨b', off', y, ha', hc', _, hy⟩ := h.at hl hj
  rw [ha] at ha'; cases ha'
  exact ⟨b, off, x, y, ha, hc, hc', hx, hy⟩

theorem inR_of {x lo hi : Int} (h : inR x lo hi = true) : lo ≤ x ∧ x ≤ hi := inR_iff.1 h
theorem inR_not {x lo hi : Int} (h : inR x lo hi = false) : ¬ (lo ≤ x ∧ x ≤ hi) := fun hh => by rw [inR_iff.2 hh] at h; cases h

set_option maxHeartbeats 400000 in
theorem implIncr_any (c : Nat) (ci lo hi : Int) (hci : ci = c) (a : Option Addr) (len cap : Nat) (zs : List Int) (w : World) (hl : zs.length = len) (hm : len ≤ maxLen) (h : IntsAt w a zs) :
    Calls Try.prog 102 #[.slice a len cap, .int .i64 ci, .int .i64 lo, .int .i64 hi] w fun e w' => e = .returned (.bool (rises c lo hi zs)) ∧ w = w' := by
  unfold maxLen at hm
  have HL := Lib.hid hl; have HI := Lib.hid h; have HCI := Lib.hid hci; clear hl h hci
  by_cases h40 : (len : Int) ≤ ci
  · go_enter Try.func102, Try.ntmps102
    go_wp2
    go_loop [9, 10, 17] (fun _ _ i => ∃ k : Nat, k ≤ len ∧ i = .int .i64 k ∧ RisesTo lo hi zs k) (fun _ _ i => len - (intOf i).toNat)
    case atStart => exact ⟨0, Nat.zero_le _, rfl, risesTo_zero lo hi zs⟩
    case round =>
      obtain ⟨k, hk, rfl, hto⟩ := hrel
      have HT := Lib.hid hto; clear hto
      by_cases hlt : k < len
      · by_cases h0 : 0 < k
        · obtain ⟨j, rfl⟩ : ∃ j, k = j + 1 := ⟨k - 1, by omega⟩
          obtain ⟨b, off, x, y, ha, hc, hc', hx, hy⟩ := ints_two HI.out HL.out hlt
          have HX := Lib.hid hx; have HY := Lib.hid hy; clear hx hy
          subst ha
          cases hd : inR y lo hi with
          | true =>
            by_cases hyx : y ≤ x
            · have HN := Lib.hid (rises_down (c := c) (lo := lo) (hi := hi) HX.out HY.out hyx)
              have HD := Lib.hid (implWithin_any y lo hi w); rw [hd] at HD; clear hd
              go_wp2_with (go_at_call 88; refine HD.out.mono ?_; rintro e w' ⟨rfl, rfl⟩)
              go_ret
              exact ⟨ret_bool' HN.out.symm, rfl⟩
            · have HN := Lib.hid (risesTo_next HT.out HX.out HY.out (inR_of hd) hyx)
              have HD := Lib.hid (implWithin_any y lo hi w); rw [hd] at HD; clear hd
              go_wp2_with (go_at_call 88; refine HD.out.mono ?_; rintro e w' ⟨rfl, rfl⟩)
              go_round
              case rel => exact ⟨j + 1 + 1, by omega, by go_num, HN.out⟩
              case measure => simp [intOf]; omega
          | false =>
            have HN := Lib.hid (rises_out (c := c) HY.out (inR_not hd))
            have HD := Lib.hid (implWithin_any y lo hi w); rw [hd] at HD; clear hd
            go_wp2_with (go_at_call 88; refine HD.out.mono ?_; rintro e w' ⟨rfl, rfl⟩)
            go_ret
            exact ⟨ret_bool' HN.out.symm, rfl⟩
        · obtain rfl : k = 0 := by omega
          obtain ⟨b, off, y, ha, hc, _, hy⟩ := HI.out.at HL.out hlt
          rw [Nat.add_zero] at hc
          have HY := Lib.hid hy; clear hy
          subst ha
          cases hd : inR y lo hi with
          | true =>
            have HN := Lib.hid (risesTo_first HY.out (inR_of hd))
            have HD := Lib.hid (implWithin_any y lo hi w); rw [hd] at HD; clear hd
            go_wp2_with (go_at_call 88; refine HD.out.mono ?_; rintro e w' ⟨rfl, rfl⟩)
            go_round
            case rel => exact ⟨1, by omega, by go_num, HN.out⟩
            case measure => simp [intOf]; omega
          | false =>
            have HN := Lib.hid (rises_out (c := c) HY.out (inR_not hd))
            have HD := Lib.hid (implWithin_any y lo hi w); rw [hd] at HD; clear hd
            go_wp2_with (go_at_call 88; refine HD.out.mono ?_; rintro e w' ⟨rfl, rfl⟩)
            go_ret
            exact ⟨ret_bool' HN.out.symm, rfl⟩
      · have HN := Lib.hid (rises_end (c := c) HT.out (by rw [HL.out]; omega) (by rw [HL.out]; have := HCI.out; omega))
        go_wp2
        go_ret
        exact ⟨ret_bool' HN.out.symm, rfl⟩
  · have HN := Lib.hid (rises_long (c := c) (lo := lo) (hi := hi) (zs := zs) (by rw [HL.out]; have := HCI.out; omega))
    go_enter Try.func102, Try.ntmps102
    go_wp2
    go_ret
    exact ⟨ret_bool' HN.out.symm, rfl⟩

end Go.Proofs.Ytekhdggaelppkaa
