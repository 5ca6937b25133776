/- Contracts of chapter 10's model: the first day with room, the crowded days. (written by spec10.py) -/
import Derived.Test.YtekhdggaelppkaaChecked
import Derived.Test.YtekhdggaelppkaaBase0
import Derived.Test.YtekhdggaelppkaaInfo
import Derived.Test.YtekhdggaelppkaaCallB
import Derived.Test.YtekhdggaelppkaaCallC
import Derived.Test.YtekhdggaelppkaaCallD
import Derived.Test.YtekhdggaelppkaaPure100
import Derived.Test.YtekhdggaelppkaaMarkI
import Derived.Test.YtekhdggaelppkaaIntL
import Derived.Test.YtekhdggaelppkaaBuildI
import Derived.Test.YtekhdggaelppkaaStepApp
import Derived.Test.YtekhdggaelppkaaInsI
import Derived.Test.YtekhdggaelppkaaDay1
import Derived.Test.YtekhdggaelppkaaDay2
import Derived.Test.YtekhdggaelppkaaDay3
import Derived.Test.YtekhdggaelppkaaImpl10b
import Derived.Test.YtekhdggaelppkaaImpl10c
import Derived.Test.YtekhdggaelppkaaSpec100
import Derived.Test.YtekhdggaelppkaaSpec101
import Derived.Test.YtekhdggaelppkaaSpec102
import Derived.WalkKit
import Derived.WalkSpells
import Derived.WalkLawsBesides
import Derived.Lib.Hide
import Derived.Lib.QuietBelow
import Derived.IntWalk
import Derived.Deep.QuietTactic
import Derived.BigQuiet
import Derived.BigRegion
import Derived.OwnWalk
import Derived.RegionTactic
import Derived.Outline
import Derived.Shelf.Abstract
import Derived.WalkMore
namespace Go.Proofs.Ytekhdggaelppkaa
open Go.Shelf Go.RowKit Go.Sort Pure1 Pure2 Pure20 Pure21 Pure40

set_option maxRecDepth 100000 in
set_option maxHeartbeats 4000000 in
theorem specFirstRoom_any (ha : Option Addr) (hn hc : Nat) (hs : List Int) (b0 len cap : Nat) (ts : List Call) (n r : Int) (w : World) (hhl : hs.length = hn) (hhm : hn ≤ maxLen) (hh : IntsAt w ha hs) (hl : ts.length = len) (hm : len ≤ maxLen) (h : Call.ListAt w (some ⟨b0, 0, none⟩) ts) (hcap : len ≤ cap) :
    Calls Try.prog 33 #[.slice ha hn hc, .slice (some ⟨b0, 0, none⟩) len cap, .int .i64 n, .int .i64 r] w fun e w' => e = .returned (.tuple #[.int .i64 (rooR hs ts n r).1, .int .i64 (rooR hs ts n r).2]) ∧ Below w.heap.size w w' := by
  have HR := Lib.hid (fun W => specIn10 r 0 20 W)
  have hd0 : isDay 0 = true := rfl
  have hdm : isDay (-1) = false := rfl
  cases hrr : inR r 0 20
  · skip
    have HC := Lib.hid (fun (W : World) (hB : Below w.heap.size w W) => specCode10_any ha hn hc hs (some ⟨b0, 0, none⟩) len cap ts n (-1) W hhl hhm (hh.below hB) hl hm (h.below hB))
    have HX := Lib.hid (fun (W : World) (hB : Below w.heap.size w W) => specFind10_any (some ⟨b0, 0, none⟩) len cap ts n W hl hm (h.below hB))
    rw [hdm, ← hrr] at HC
    rw [hrr] at HR
    clear hd0 hdm
    rcases findC_cases hs ts (inR r 0 20) n with ⟨h0, ⟨hH, hA, hb⟩, c, hw⟩ | h0 | h0 | h0
    · rw [hrr] at hb; cases hb
    · have HF := Lib.hid (rooR_bad h0 (by omega))
      rw [h0] at HC
      generalize hv : rooR hs ts n r = v at HF ⊢
      clear h0 hv
      go_enter Try.func33, Try.ntmps33
      go_wp2_with fail
      refine (HR.out w).mono ?_; rintro e w1 ⟨rfl, hw⟩
      obtain rfl : w = w1 := hw.symm
      go_wp2_with fail
      refine (HC.out _ (Below.refl _ _)).mono ?_; rintro e w2 ⟨rfl, hB⟩
      have HB := Lib.hid hB; clear hB
      go_wp2_with fail
      go_ret2
      rw [HF.out]
      exact ⟨rfl, HB.out⟩
    · have HF := Lib.hid (rooR_bad h0 (by omega))
      rw [h0] at HC
      generalize hv : rooR hs ts n r = v at HF ⊢
      clear h0 hv
      go_enter Try.func33, Try.ntmps33
      go_wp2_with fail
      refine (HR.out w).mono ?_; rintro e w1 ⟨rfl, hw⟩
      obtain rfl : w = w1 := hw.symm
      go_wp2_with fail
      refine (HC.out _ (Below.refl _ _)).mono ?_; rintro e w2 ⟨rfl, hB⟩
      have HB := Lib.hid hB; clear hB
      go_wp2_with fail
      go_ret2
      rw [HF.out]
      exact ⟨rfl, HB.out⟩
    · have HF := Lib.hid (rooR_bad h0 (by omega))
      rw [h0] at HC
      generalize hv : rooR hs ts n r = v at HF ⊢
      clear h0 hv
      go_enter Try.func33, Try.ntmps33
      go_wp2_with fail
      refine (HR.out w).mono ?_; rintro e w1 ⟨rfl, hw⟩
      obtain rfl : w = w1 := hw.symm
      go_wp2_with fail
      refine (HC.out _ (Below.refl _ _)).mono ?_; rintro e w2 ⟨rfl, hB⟩
      have HB := Lib.hid hB; clear hB
      go_wp2_with fail
      go_ret2
      rw [HF.out]
      exact ⟨rfl, HB.out⟩
  · skip
    have HC := Lib.hid (fun (W : World) (hB : Below w.heap.size w W) => specCode10_any ha hn hc hs (some ⟨b0, 0, none⟩) len cap ts n 0 W hhl hhm (hh.below hB) hl hm (h.below hB))
    have HX := Lib.hid (fun (W : World) (hB : Below w.heap.size w W) => specFind10_any (some ⟨b0, 0, none⟩) len cap ts n W hl hm (h.below hB))
    rw [hd0, ← hrr] at HC
    rw [hrr] at HR
    clear hd0 hdm
    rcases findC_cases hs ts (inR r 0 20) n with ⟨h0, ⟨hH, hA, hb⟩, c, hw⟩ | h0 | h0 | h0
    · obtain ⟨hc1, hn1⟩ := whoC_some hw
      have hk := lt_of_getC hc1
      have HF := Lib.hid (show rooR hs ts n r = _ from rooR_ok h0 hw)
      have hok := okC_parts (areC_at hA hc1)
      obtain ⟨_, o2, o3, _, _⟩ := hok
      have HM := Lib.hid (fun (x : Int) (hx : 0 ≤ x ∧ x ≤ 20000) (W : World) (hB : Below w.heap.size w W) => specMay10_any c ha hn hc hs x W (areC_at hA hc1) hx hhl hhm (hh.below hB))
      have HO := Lib.hid (fun (x : Int) (W : World) (hB : Below w.heap.size w W) => specOn10_any (some ⟨b0, 0, none⟩) len cap ts x W hl (by rw [← hl]; exact areC_len hA) (h.below hB))
      obtain ⟨b, off, c', ha1, hcc, hp⟩ := h.at hl (show placeC ts n < len by omega)
      rw [hc1] at hp
      obtain rfl := Option.some.inj hp
      cases ha1
      have HXC := Lib.hid hcc
      have hkl : placeC ts n < len := by omega
      rw [h0] at HC
      rw [indexC_some hA hw] at HX
      generalize hv : rooR hs ts n r = v at HF ⊢
      clear h0 hH hA hb hw hn1 hcc hp hv 
      generalize placeC ts n = k at *
      go_enter Try.func33, Try.ntmps33
      go_wp2_with fail
      refine (HR.out w).mono ?_; rintro e w1 ⟨rfl, hw⟩
      obtain rfl : w = w1 := hw.symm
      go_wp2_with fail
      refine (HC.out _ (Below.refl _ _)).mono ?_; rintro e w2 ⟨rfl, hB⟩
      have HB := Lib.hid hB; clear hB
      go_wp2_with fail
      refine (HX.out w2 HB.out).mono ?_; rintro e w2' ⟨rfl, hw'⟩
      obtain rfl : w2 = w2' := hw'.symm
      obtain ⟨c0, c1, c2, c3⟩ := HXC.out.below HB.out
      rw [Nat.zero_add] at c0 c1 c2 c3
      have HX2 := Lib.hid (Call.boxed w2 c 41)
      have HB9 := Lib.hid (HB.out.alloc HB.out.size (.cells #[.int .i64 c.num, .int .i64 c.fst, .int .i64 c.day, .int .i64 c.moves] 41))
      have q1 : IntKind.i64.wrap (c.day + 1) = c.day + 1 := IntWalk.i64_in _ (by omega)
      have q2 : IntKind.i64.wrap (c.fst + 180) = c.fst + 180 := IntWalk.i64_in _ (by omega)
      obtain ⟨d0, d1, d2, d3⟩ := HX2.out
      by_cases hmn : c.fst + 180 < 20000
      · skip
        go_wp2_with fail
        clear c0 c1 c2 c3 d0 d1 d2 d3
        go_loopw [10] (fun v wr => ∃ x : Int, v = .int .i64 x ∧ c.day < x ∧ x ≤ 20001 ∧ (∀ y, c.day < y → y < x → ¬ RoomOk hs ts c r y) ∧ Below w.heap.size w wr ∧ Call.Box wr w2.heap.size c) (fun v _ => (20001 - intOf v).toNat)
        case atStart => exact ⟨c.day + 1, rfl, by omega, by omega, noRoom_zero hs ts c r, HB9.out, HX2.out⟩
        case round =>
          obtain ⟨x, rfl, hx0, hx1, hno, hB, hbx⟩ := hrel
          have HNO := Lib.hid hno; have HBr := Lib.hid hB; have HXr := Lib.hid hbx
          clear hno hB hbx
          obtain ⟨d0, d1, d2, d3⟩ := HXr.out
          by_cases hle : x ≤ c.fst + 180
          · have q3 : IntKind.i64.wrap (x + 1) = x + 1 := IntWalk.i64_in _ (by omega)
            have hx2 : x ≤ 20000 := by omega
            have HM1 := Lib.hid (HM.out x ⟨by omega, hx2⟩ wr HBr.out)
            cases hmay : mayC hs c x
            · have HN1 := Lib.hid (noRoom_may HNO.out hmay)
              rw [hmay] at HM1; clear hmay
              go_wp2_with fail
              refine HM1.out.mono ?_; rintro e w4 ⟨rfl, hB⟩
              have HB4 := Lib.hid (HBr.out.trans (hB.mono HBr.out.size)); have HX4 := Lib.hid (HXr.out.below hB); clear hB d0 d1 d2 d3
              go_wp2_with fail
              go_roundw
              case rel => exact ⟨x + 1, by go_num, by omega, by omega, HN1.out, HB4.out, HX4.out⟩
              case measure => simp [intOf]; omega
            · have HMY := Lib.hid hmay
              rw [hmay] at HM1; clear hmay
              go_wp2_with fail
              refine HM1.out.mono ?_; rintro e w4 ⟨rfl, hB⟩
              have HB4 := Lib.hid (HBr.out.trans (hB.mono HBr.out.size)); have HX4 := Lib.hid (HXr.out.below hB); clear hB d0 d1 d2 d3
              go_wp2_with fail
              refine (HO.out x w4 HB4.out).mono ?_; rintro e w5 ⟨v5, rfl, ho, hB⟩
              obtain ⟨a5, cap5, rfl, _⟩ := ho.slice
              have HB5 := Lib.hid (HB4.out.trans (hB.mono HB4.out.size)); have HX5 := Lib.hid (HX4.out.below hB); clear hB ho
              by_cases hlt : (cntC ts x : Int) < r
              · have hlb : decide (((numsC (dayC x) ts).length : Int) < r) = true := decide_eq_true hlt
                have HFF := Lib.hid (roomL_found HNO.out HMY.out hlt)
                clear hlt
                go_wp2_with fail
                go_ret2
                rw [HF.out, HFF.out]
                exact ⟨rfl, HB5.out⟩
              · have hlb : decide (((numsC (dayC x) ts).length : Int) < r) = false := decide_eq_false hlt
                have HN1 := Lib.hid (noRoom_full HNO.out hlt)
                clear hlt
                go_wp2_with fail
                go_roundw
                case rel => exact ⟨x + 1, by go_num, by omega, by omega, HN1.out, HB5.out, HX5.out⟩
                case measure => simp [intOf]; omega
          · have HFF := Lib.hid (roomL_end (show min (c.fst + 180) 20000 < x by omega) HNO.out)
            go_wp2_with fail
            go_ret2
            rw [HF.out, HFF.out]
            exact ⟨rfl, HBr.out⟩
      · skip
        go_wp2_with fail
        clear c0 c1 c2 c3 d0 d1 d2 d3
        go_loopw [10] (fun v wr => ∃ x : Int, v = .int .i64 x ∧ c.day < x ∧ x ≤ 20001 ∧ (∀ y, c.day < y → y < x → ¬ RoomOk hs ts c r y) ∧ Below w.heap.size w wr ∧ Call.Box wr w2.heap.size c) (fun v _ => (20001 - intOf v).toNat)
        case atStart => exact ⟨c.day + 1, rfl, by omega, by omega, noRoom_zero hs ts c r, HB9.out, HX2.out⟩
        case round =>
          obtain ⟨x, rfl, hx0, hx1, hno, hB, hbx⟩ := hrel
          have HNO := Lib.hid hno; have HBr := Lib.hid hB; have HXr := Lib.hid hbx
          clear hno hB hbx
          obtain ⟨d0, d1, d2, d3⟩ := HXr.out
          by_cases hle : x ≤ 20000
          · have q3 : IntKind.i64.wrap (x + 1) = x + 1 := IntWalk.i64_in _ (by omega)
            have hx2 : x ≤ 20000 := by omega
            have HM1 := Lib.hid (HM.out x ⟨by omega, hx2⟩ wr HBr.out)
            cases hmay : mayC hs c x
            · have HN1 := Lib.hid (noRoom_may HNO.out hmay)
              rw [hmay] at HM1; clear hmay
              go_wp2_with fail
              refine HM1.out.mono ?_; rintro e w4 ⟨rfl, hB⟩
              have HB4 := Lib.hid (HBr.out.trans (hB.mono HBr.out.size)); have HX4 := Lib.hid (HXr.out.below hB); clear hB d0 d1 d2 d3
              go_wp2_with fail
              go_roundw
              case rel => exact ⟨x + 1, by go_num, by omega, by omega, HN1.out, HB4.out, HX4.out⟩
              case measure => simp [intOf]; omega
            · have HMY := Lib.hid hmay
              rw [hmay] at HM1; clear hmay
              go_wp2_with fail
              refine HM1.out.mono ?_; rintro e w4 ⟨rfl, hB⟩
              have HB4 := Lib.hid (HBr.out.trans (hB.mono HBr.out.size)); have HX4 := Lib.hid (HXr.out.below hB); clear hB d0 d1 d2 d3
              go_wp2_with fail
              refine (HO.out x w4 HB4.out).mono ?_; rintro e w5 ⟨v5, rfl, ho, hB⟩
              obtain ⟨a5, cap5, rfl, _⟩ := ho.slice
              have HB5 := Lib.hid (HB4.out.trans (hB.mono HB4.out.size)); have HX5 := Lib.hid (HX4.out.below hB); clear hB ho
              by_cases hlt : (cntC ts x : Int) < r
              · have hlb : decide (((numsC (dayC x) ts).length : Int) < r) = true := decide_eq_true hlt
                have HFF := Lib.hid (roomL_found HNO.out HMY.out hlt)
                clear hlt
                go_wp2_with fail
                go_ret2
                rw [HF.out, HFF.out]
                exact ⟨rfl, HB5.out⟩
              · have hlb : decide (((numsC (dayC x) ts).length : Int) < r) = false := decide_eq_false hlt
                have HN1 := Lib.hid (noRoom_full HNO.out hlt)
                clear hlt
                go_wp2_with fail
                go_roundw
                case rel => exact ⟨x + 1, by go_num, by omega, by omega, HN1.out, HB5.out, HX5.out⟩
                case measure => simp [intOf]; omega
          · have HFF := Lib.hid (roomL_end (show min (c.fst + 180) 20000 < x by omega) HNO.out)
            go_wp2_with fail
            go_ret2
            rw [HF.out, HFF.out]
            exact ⟨rfl, HBr.out⟩
    · have HF := Lib.hid (rooR_bad h0 (by omega))
      rw [h0] at HC
      generalize hv : rooR hs ts n r = v at HF ⊢
      clear h0 hv
      go_enter Try.func33, Try.ntmps33
      go_wp2_with fail
      refine (HR.out w).mono ?_; rintro e w1 ⟨rfl, hw⟩
      obtain rfl : w = w1 := hw.symm
      go_wp2_with fail
      refine (HC.out _ (Below.refl _ _)).mono ?_; rintro e w2 ⟨rfl, hB⟩
      have HB := Lib.hid hB; clear hB
      go_wp2_with fail
      go_ret2
      rw [HF.out]
      exact ⟨rfl, HB.out⟩
    · have HF := Lib.hid (rooR_bad h0 (by omega))
      rw [h0] at HC
      generalize hv : rooR hs ts n r = v at HF ⊢
      clear h0 hv
      go_enter Try.func33, Try.ntmps33
      go_wp2_with fail
      refine (HR.out w).mono ?_; rintro e w1 ⟨rfl, hw⟩
      obtain rfl : w = w1 := hw.symm
      go_wp2_with fail
      refine (HC.out _ (Below.refl _ _)).mono ?_; rintro e w2 ⟨rfl, hB⟩
      have HB := Lib.hid hB; clear hB
      go_wp2_with fail
      go_ret2
      rw [HF.out]
      exact ⟨rfl, HB.out⟩
    · have HF := Lib.hid (rooR_bad h0 (by omega))
      rw [h0] at HC
      generalize hv : rooR hs ts n r = v at HF ⊢
      clear h0 hv
      go_enter Try.func33, Try.ntmps33
      go_wp2_with fail
      refine (HR.out w).mono ?_; rintro e w1 ⟨rfl, hw⟩
      obtain rfl : w = w1 := hw.symm
      go_wp2_with fail
      refine (HC.out _ (Below.refl _ _)).mono ?_; rintro e w2 ⟨rfl, hB⟩
      have HB := Lib.hid hB; clear hB
      go_wp2_with fail
      go_ret2
      rw [HF.out]
      exact ⟨rfl, HB.out⟩

set_option maxRecDepth 100000 in
set_option maxHeartbeats 4000000 in
theorem specCrowdedDays_any (a : Option Addr) (len cap : Nat) (ts : List Call) (r : Int) (w : World) (hl : ts.length = len) (hm : len ≤ maxLen) (h : Call.ListAt w a ts) :
    Calls Try.prog 38 #[.slice a len cap, .int .i64 r] w (SaysBI10 (crowR ts r).1 (crowR ts r).2 w) := by
  have HT := Lib.hid (specAreC_any a len cap ts w hl hm h)
  have H1 := Lib.hid (fun W => specIn10 r 0 20 W)
  cases hb1 : areC ts
  · have HF := Lib.hid (crowR_bad (codeC_c (hs := []) (b := inR r 0 20) hb1) (by omega))
    rw [hb1] at HT; clear hb1 hl hm h
    generalize crowR ts r = v at HF ⊢
    go_enter Try.func38, Try.ntmps38
    go_wp2_with fail
    refine HT.out.mono ?_; rintro e w1 ⟨rfl, hB⟩
    have HB := Lib.hid hB; clear hB
    go_wp2_with fail
    go_ret2
    rw [HF.out]
    exact ⟨_, rfl, BuildI.nil _ _, HB.out⟩
  cases hb2 : inR r 0 20
  · have hc2 := codeC_2 hol_nil hb1
    rw [← hb2] at hc2
    have HF := Lib.hid (crowR_bad hc2 (by omega))
    rw [hb1] at HT; rw [hb2] at H1; clear hb1 hb2 hl hm h hc2
    generalize crowR ts r = v at HF ⊢
    go_enter Try.func38, Try.ntmps38
    go_wp2_with fail
    refine HT.out.mono ?_; rintro e w1 ⟨rfl, hB⟩
    have HB := Lib.hid hB; clear hB
    go_wp2_with fail
    refine (H1.out _).mono ?_; rintro e w2 ⟨rfl, hw⟩
    subst hw
    go_wp2_with fail
    go_ret2
    rw [HF.out]
    exact ⟨_, rfl, BuildI.nil _ _, HB.out⟩
  have hc0 := codeC_0 hol_nil hb1
  rw [← hb2] at hc0
  have HF := Lib.hid (crowR_ok hc0)
  have hlen : len ≤ 20 := by rw [← hl]; exact areC_len hb1
  have HO := Lib.hid (fun (x : Int) (W : World) (hB : Below w.heap.size w W) => specOn10_any a len cap ts x W hl hlen (h.below hB))
  have HL := Lib.hid hl; have HI := Lib.hid h
  rw [hb1] at HT; rw [hb2] at H1; clear hb1 hb2 hl hm h hc0
  generalize crowR ts r = v at HF ⊢
  go_enter Try.func38, Try.ntmps38
  go_wp2_with fail
  refine HT.out.mono ?_; rintro e w1 ⟨rfl, hB⟩
  have HB := Lib.hid hB; clear hB
  go_wp2_with fail
  refine (H1.out _).mono ?_; rintro e w2 ⟨rfl, hw⟩
  subst hw
  have HO1 := Lib.hid (show IntL (w2.alloc (.cells #[] 2)) w.heap.size (.slice (some ⟨w2.heap.size, 0, none⟩) 0 0) [] from ⟨⟨_, _, rfl⟩, BuildI.empty HB.out.size⟩)
  have HB1 := Lib.hid (HB.out.alloc HB.out.size (.cells #[] 2))
  go_wp2_with fail
  go_loopw [6, 7] (fun v i wr => ∃ k : Nat, k ≤ len ∧ i = .int .i64 k ∧ IntL wr w.heap.size v (crowTo ts r k) ∧ Below w.heap.size w wr) (fun _ i _ => len - (intOf i).toNat)
  case atStart => exact ⟨0, Nat.zero_le _, rfl, HO1.out, HB1.out⟩
  case round =>
    obtain ⟨k, hk, rfl, ho, hB⟩ := hrel
    have HOr := Lib.hid ho; have HBr := Lib.hid hB; clear ho hB
    by_cases hlt : k < len
    · obtain ⟨b, off, c, ha, hc, hp⟩ := (HI.out.below HBr.out).at HL.out hlt
      have HP := Lib.hid hp; have HXc := Lib.hid hc; clear hp
      subst ha
      obtain ⟨c0, c1, c2, c3⟩ := hc
      have HZ := Lib.hid (Nat.le_trans (crowTo_len ts r k) (show k ≤ 20 by omega))
      go_wp2_with fail
      refine (HO.out c.day wr HBr.out).mono ?_; rintro e w3 ⟨v3, rfl, ho, hB⟩
      obtain ⟨a3, cap3, rfl, _⟩ := ho.slice
      have HO3 := Lib.hid (HOr.out.below hB); have HB3 := Lib.hid (HBr.out.trans (hB.mono HBr.out.size)); have HX3 := Lib.hid (HXc.out.below hB)
      clear hB ho c0 c1 c2 c3
      by_cases hd : r < (cntC ts c.day : Int)
      · have HNx := Lib.hid (crowTo_yes HP.out (show crowd ts r c = true from decide_eq_true hd))
        have hdb : decide (((numsC (dayC c.day) ts).length : Int) > r) = true := decide_eq_true hd
        obtain ⟨d0, d1, d2, d3⟩ := HX3.out
        clear hd
        generalize crowTo ts r k = zs at HOr HNx HZ HO3 ⊢
        obtain ⟨⟨gv, capv, hv⟩, _⟩ := HO3.out
        have HO3' := Lib.hid (show IntL w3 w.heap.size (.slice (some ⟨gv, 0, none⟩) zs.length capv) zs by rw [← hv]; exact HO3.out)
        subst hv
        go_wp2_with fail
        refine (specInsert7_any w.heap.size gv capv zs c.day w3 HO3'.out (by have := HZ.out; omega)).mono ?_; rintro e w5 ⟨v5, rfl, ho5, hB⟩
        have HO5 := Lib.hid ho5; have HB5 := Lib.hid (HB3.out.trans (hB.mono HB3.out.size))
        clear ho5 hB d0 d1 d2 d3
        go_wp2_with fail
        go_roundw
        case rel => exact ⟨k + 1, by omega, by go_num, by rw [HNx.out]; exact HO5.out, HB5.out⟩
        case measure => simp [intOf]; omega
      · have HNx := Lib.hid (crowTo_no HP.out (show crowd ts r c = false from decide_eq_false hd))
        have hdb : decide (((numsC (dayC c.day) ts).length : Int) > r) = false := decide_eq_false hd
        clear hd
        go_wp2_with fail
        go_roundw
        case rel => exact ⟨k + 1, by omega, by go_num, by rw [HNx.out]; exact HO3.out, HB3.out⟩
        case measure => simp [intOf]; omega
    · have HE := Lib.hid (show crowTo ts r k = crowTo ts r ts.length by rw [HL.out, show k = len by omega])
      go_wp2_with fail
      go_ret2
      rw [HF.out]
      exact ⟨_, rfl, by rw [← HE.out]; exact HOr.out.2, HBr.out⟩

end Go.Proofs.Ytekhdggaelppkaa
