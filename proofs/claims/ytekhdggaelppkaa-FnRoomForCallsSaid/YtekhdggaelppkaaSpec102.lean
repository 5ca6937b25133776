/- Contracts of chapter 10's model: the index of a number, the code, may it be moved. (written by spec10.py) -/
import Derived.Test.YtekhdggaelppkaaChecked
import Derived.Test.YtekhdggaelppkaaBase0
import Derived.Test.YtekhdggaelppkaaInfo
import Derived.Test.YtekhdggaelppkaaCallB
import Derived.Test.YtekhdggaelppkaaCallC
import Derived.Test.YtekhdggaelppkaaCallD
import Derived.Test.YtekhdggaelppkaaPure100
import Derived.Test.YtekhdggaelppkaaMarkI
import Derived.Test.YtekhdggaelppkaaDay1
import Derived.Test.YtekhdggaelppkaaDay2
import Derived.Test.YtekhdggaelppkaaDay3
import Derived.Test.YtekhdggaelppkaaImpl10c
import Derived.Test.YtekhdggaelppkaaSpec100
import Derived.WalkKit
import Derived.WalkSpells
import Derived.WalkLawsBesides
import Derived.Lib.Hide
import Derived.Lib.QuietBelow
import Derived.IntWalk
import Derived.Deep.QuietTactic
import Derived.BigQuiet
import Derived.BigRegion
import Derived.OwnWalk
import Derived.RegionTactic
import Derived.Outline
import Derived.Shelf.Abstract
import Derived.WalkMore
namespace Go.Proofs.Ytekhdggaelppkaa
open Go.Shelf Go.RowKit Go.Sort Pure1 Pure2 Pure20 Pure21 Pure40

set_option maxRecDepth 100000 in
set_option maxHeartbeats 4000000 in
theorem specFind10_any (a : Option Addr) (len cap : Nat) (ts : List Call) (m : Int) (w : World) (hl : ts.length = len) (hm : len ≤ maxLen) (h : Call.ListAt w a ts) :
    Calls Try.prog 55 #[.slice a len cap, .int .i64 m] w fun e w' => e = .returned (.int .i64 (indexC ts m)) ∧ w' = w := by
  unfold maxLen at hm
  have HL := Lib.hid hl; have HI := Lib.hid h
  clear hl h
  go_enter Try.func55, Try.ntmps55
  go_wp2
  go_loop [5] (fun i => ∃ k : Nat, k ≤ len ∧ i = .int .i64 k ∧ (∀ j q, j < k → ts[j]? = some q → q.num ≠ m)) (fun i => len - (intOf i).toNat)
  case atStart => exact ⟨0, Nat.zero_le _, rfl, fun j q hj => by omega⟩
  case round =>
    obtain ⟨k, hk, rfl, hall⟩ := hrel
    have HA := Lib.hid hall; clear hall
    by_cases hlt : k < len
    · obtain ⟨b, off, p, rfl, hc, hp⟩ := HI.out.at HL.out hlt
      obtain ⟨c0, c1, c2, c3⟩ := hc
      have HP := Lib.hid hp; clear hp
      by_cases hn : p.num = m
      · have HN := Lib.hid (indexC_hit HA.out HP.out hn)
        have hn2 : (p.num == m) = true := beq_iff_eq.2 hn
        clear hn
        go_wp2
        go_ret
        exact ⟨ret_i64 HN.out.symm, rfl⟩
      · have HN := Lib.hid (show ∀ j q, j < k + 1 → ts[j]? = some q → q.num ≠ m from fun j q hj hq => by
          by_cases e : j = k
          · subst e; have := HP.out; rw [hq] at this; cases this; exact hn
          · exact HA.out j q (by omega) hq)
        have hn2 : (p.num == m) = false := beq_eq_false_iff_ne.2 hn
        clear hn
        go_wp2
        go_round
        case rel => exact ⟨k + 1, by omega, by go_num, HN.out⟩
        case measure => simp [intOf]; omega
    · have HN := Lib.hid (indexC_none (ts := ts) (n := m) (fun i q hq => HA.out i q (by have := (List.getElem?_eq_some_iff.1 hq).1; rw [HL.out] at this; omega) hq))
      go_wp2
      go_ret
      exact ⟨ret_i64 HN.out.symm, rfl⟩

set_option maxRecDepth 100000 in
set_option maxHeartbeats 4000000 in
theorem specCode10_any (ha : Option Addr) (hn hc : Nat) (hs : List Int) (a : Option Addr) (len cap : Nat) (ts : List Call) (n d : Int) (w : World) (hhl : hs.length = hn) (hhm : hn ≤ maxLen) (hh : IntsAt w ha hs) (hl : ts.length = len) (hm : len ≤ maxLen) (h : Call.ListAt w a ts) :
    Calls Try.prog 54 #[.slice ha hn hc, .slice a len cap, .int .i64 n, .int .i64 d] w fun e w' => e = .returned (.int .i64 (findC hs ts (isDay d) n)) ∧ Below w.heap.size w w' := by
  have HH := Lib.hid (specAreHol_any ha hn hc hs w hhl hhm hh)
  have HM := Lib.hid (fun (W : World) (hB : Below w.heap.size w W) => specAreC_any a len cap ts W hl hm (h.below hB))
  have HD := Lib.hid (fun W => specIs10 d W)
  have HF := Lib.hid (fun (W : World) (hB : Below w.heap.size w W) => specFind10_any a len cap ts n W hl hm (h.below hB))
  clear hhl hhm hh hl hm h
  cases hb1 : hol hs
  · have HN := Lib.hid (findC_bad (n := n) (codeC_h (ts := ts) (b := isDay d) hb1) (by omega))
    rw [hb1] at HH; clear hb1
    generalize findC hs ts (isDay d) n = v at HN ⊢
    go_enter Try.func54, Try.ntmps54
    go_wp2_with fail
    refine HH.out.mono ?_; rintro e w1 ⟨rfl, m1, hw⟩
    have HB1 := Lib.hid (show Below w.heap.size w w1 by rw [hw]; exact Go.below_drewN (Below.refl w.heap.size w) m1)
    clear hw
    go_wp2_with fail
    go_ret
    exact ⟨ret_i64 HN.out.symm, HB1.out⟩
  cases hb2 : areC ts
  · have HN := Lib.hid (findC_bad (n := n) (codeC_c (hs := hs) (b := isDay d) hb2) (by omega))
    rw [hb1] at HH; rw [hb2] at HM; clear hb1 hb2
    generalize findC hs ts (isDay d) n = v at HN ⊢
    go_enter Try.func54, Try.ntmps54
    go_wp2_with fail
    refine HH.out.mono ?_; rintro e w1 ⟨rfl, m1, hw⟩
    have HB1 := Lib.hid (show Below w.heap.size w w1 by rw [hw]; exact Go.below_drewN (Below.refl w.heap.size w) m1)
    clear hw
    go_wp2_with fail
    refine (HM.out _ HB1.out).mono ?_; rintro e w2 ⟨rfl, hB⟩
    have HB2 := Lib.hid (HB1.out.trans (hB.mono HB1.out.size)); clear hB
    go_wp2_with fail
    go_ret
    exact ⟨ret_i64 HN.out.symm, HB2.out⟩
  cases hb3 : isDay d
  · have HN := Lib.hid (findC_bad (n := n) (codeC_2 hb1 hb2) (by omega))
    rw [hb1] at HH; rw [hb2] at HM; rw [hb3] at HD; clear hb1 hb2 hb3
    generalize findC hs ts false n = v at HN ⊢
    go_enter Try.func54, Try.ntmps54
    go_wp2_with fail
    refine HH.out.mono ?_; rintro e w1 ⟨rfl, m1, hw⟩
    have HB1 := Lib.hid (show Below w.heap.size w w1 by rw [hw]; exact Go.below_drewN (Below.refl w.heap.size w) m1)
    clear hw
    go_wp2_with fail
    refine (HM.out _ HB1.out).mono ?_; rintro e w2 ⟨rfl, hB⟩
    have HB2 := Lib.hid (HB1.out.trans (hB.mono HB1.out.size)); clear hB
    go_wp2_with fail
    refine (HD.out _).mono ?_; rintro e w3 ⟨rfl, hw⟩
    subst hw
    go_wp2_with fail
    go_ret
    exact ⟨ret_i64 HN.out.symm, HB2.out⟩
  cases hw : whoC ts n with
  | none =>
    have HN := Lib.hid (findC_none (codeC_0 hb1 hb2) hw)
    have hi := indexC_no hb2 hw
    rw [hb1] at HH; rw [hb2] at HM; rw [hb3] at HD; rw [hi] at HF; clear hb1 hb2 hb3 hw hi
    generalize findC hs ts true n = v at HN ⊢
    go_enter Try.func54, Try.ntmps54
    go_wp2_with fail
    refine HH.out.mono ?_; rintro e w1 ⟨rfl, m1, hw⟩
    have HB1 := Lib.hid (show Below w.heap.size w w1 by rw [hw]; exact Go.below_drewN (Below.refl w.heap.size w) m1)
    clear hw
    go_wp2_with fail
    refine (HM.out _ HB1.out).mono ?_; rintro e w2 ⟨rfl, hB⟩
    have HB2 := Lib.hid (HB1.out.trans (hB.mono HB1.out.size)); clear hB
    go_wp2_with fail
    refine (HD.out _).mono ?_; rintro e w3 ⟨rfl, hw⟩
    subst hw
    go_wp2_with fail
    refine (HF.out _ HB2.out).mono ?_; rintro e w3 ⟨rfl, hw⟩
    subst hw
    go_wp2_with fail
    go_ret
    exact ⟨ret_i64 HN.out.symm, HB2.out⟩
  | some c =>
    have HN := Lib.hid (findC_some (codeC_0 hb1 hb2) hw)
    have hi := indexC_some hb2 hw
    rw [hb1] at HH; rw [hb2] at HM; rw [hb3] at HD; rw [hi] at HF; clear hb1 hb2 hb3 hw hi
    generalize findC hs ts true n = v at HN ⊢
    generalize placeC ts n = pl at HF
    go_enter Try.func54, Try.ntmps54
    go_wp2_with fail
    refine HH.out.mono ?_; rintro e w1 ⟨rfl, m1, hw⟩
    have HB1 := Lib.hid (show Below w.heap.size w w1 by rw [hw]; exact Go.below_drewN (Below.refl w.heap.size w) m1)
    clear hw
    go_wp2_with fail
    refine (HM.out _ HB1.out).mono ?_; rintro e w2 ⟨rfl, hB⟩
    have HB2 := Lib.hid (HB1.out.trans (hB.mono HB1.out.size)); clear hB
    go_wp2_with fail
    refine (HD.out _).mono ?_; rintro e w3 ⟨rfl, hw⟩
    subst hw
    go_wp2_with fail
    refine (HF.out _ HB2.out).mono ?_; rintro e w3 ⟨rfl, hw⟩
    subst hw
    go_wp2_with fail
    go_ret
    exact ⟨ret_i64 HN.out.symm, HB2.out⟩

set_option maxRecDepth 100000 in
set_option maxHeartbeats 4000000 in
theorem specMay10_any (c : Call) (ha : Option Addr) (hn hc : Nat) (hs : List Int) (d : Int) (w : World) (hok : okC c = true) (hd : 0 ≤ d ∧ d ≤ 20000) (hhl : hs.length = hn) (hhm : hn ≤ maxLen) (hh : IntsAt w ha hs) :
    Calls Try.prog 56 #[.slice ha hn hc, .agg #[.int .i64 c.num, .int .i64 c.fst, .int .i64 c.day, .int .i64 c.moves], .int .i64 d] w fun e w' => e = .returned (.bool (mayC hs c d)) ∧ Below w.heap.size w w' := by
  obtain ⟨_, o2, o3, o4, _⟩ := okC_parts hok
  have HA := Lib.hid (Call.boxed w c 41)
  have HW := Lib.hid (Call.bx w (.cells #[.int .i64 c.num, .int .i64 c.fst, .int .i64 c.day, .int .i64 c.moves] 41))
  have HC := Lib.hid (fun (W : World) (hB : Below w.heap.size w W) => specCourt_any d ha hn hc hs W hd.1 hhl hhm (hh.below hB))
  have HE := Lib.hid (mayC_spec (hs := hs) (c := c) hd.2)
  have q1 : IntKind.i64.wrap (c.fst + 180) = c.fst + 180 := IntWalk.i64_in _ (by omega)
  clear hhl hhm hh hok hd o2 o3 o4
  generalize mayC hs c d = v at HE ⊢
  generalize court hs d = b3 at HC HE
  by_cases h1 : c.day < d
  · have g1 : decide (c.day < d) = true := decide_eq_true h1
    have g1' : decide (d > c.day) = true := decide_eq_true h1
    rw [g1] at HE
    clear h1 g1
    by_cases h2 : c.moves < 2
    · have g2 : decide (c.moves < 2) = true := decide_eq_true h2
      rw [g2] at HE
      clear h2
      cases b3
      · skip
        go_enter Try.func56, Try.ntmps56
        obtain ⟨a0, a1, a2, a3⟩ := HA.out
        go_wp2_with fail
        refine (HC.out _ HW.out).mono ?_; rintro e w1 ⟨rfl, hw⟩
        subst hw
        go_wp2_with fail
        go_ret
        exact ⟨ret_bool' (by rw [HE.out]; rfl), HW.out⟩
      · generalize h5 : decide (d ≤ c.fst + 180) = b5 at HE
        go_enter Try.func56, Try.ntmps56
        obtain ⟨a0, a1, a2, a3⟩ := HA.out
        go_wp2_with fail
        refine (HC.out _ HW.out).mono ?_; rintro e w1 ⟨rfl, hw⟩
        subst hw
        go_wp2_with fail
        go_ret
        exact ⟨ret_bool' (by rw [HE.out]; rfl), HW.out⟩
    · have g2 : decide (c.moves < 2) = false := decide_eq_false h2
      rw [g2] at HE
      clear h2
      go_enter Try.func56, Try.ntmps56
      obtain ⟨a0, a1, a2, a3⟩ := HA.out
      go_wp2_with fail
      go_ret
      exact ⟨ret_bool' (by rw [HE.out]; rfl), HW.out⟩
  · have g1 : decide (c.day < d) = false := decide_eq_false h1
    have g1' : decide (d > c.day) = false := decide_eq_false h1
    rw [g1] at HE
    clear h1 g1
    go_enter Try.func56, Try.ntmps56
    obtain ⟨a0, a1, a2, a3⟩ := HA.out
    go_wp2_with fail
    go_ret
    exact ⟨ret_bool' (by rw [HE.out]; rfl), HW.out⟩

set_option maxRecDepth 100000 in
set_option maxHeartbeats 4000000 in
theorem specMayMove_any (ha : Option Addr) (hn hc : Nat) (hs : List Int) (b0 len cap : Nat) (ts : List Call) (n d : Int) (w : World) (hhl : hs.length = hn) (hhm : hn ≤ maxLen) (hh : IntsAt w ha hs) (hl : ts.length = len) (hm : len ≤ maxLen) (h : Call.ListAt w (some ⟨b0, 0, none⟩) ts) (hcap : len ≤ cap) :
    Calls Try.prog 18 #[.slice ha hn hc, .slice (some ⟨b0, 0, none⟩) len cap, .int .i64 n, .int .i64 d] w fun e w' => e = .returned (.tuple #[.bool (mayR hs ts n d).1, .int .i64 (mayR hs ts n d).2]) ∧ Below w.heap.size w w' := by
  have HC := Lib.hid (fun (W : World) (hB : Below w.heap.size w W) => specCode10_any ha hn hc hs (some ⟨b0, 0, none⟩) len cap ts n d W hhl hhm (hh.below hB) hl hm (h.below hB))
  have HX := Lib.hid (fun (W : World) (hB : Below w.heap.size w W) => specFind10_any (some ⟨b0, 0, none⟩) len cap ts n W hl hm (h.below hB))
  rcases findC_cases hs ts (isDay d) n with ⟨h0, ⟨hH, hA, hb⟩, c, hw⟩ | h0 | h0 | h0
  · obtain ⟨hc1, hn1⟩ := whoC_some hw
    have hk := lt_of_getC hc1
    have HF := Lib.hid (show mayR hs ts n d = _ from mayR_ok h0 hw)
    have HM := Lib.hid (fun (W : World) (hB : Below w.heap.size w W) => specMay10_any c ha hn hc hs d W (areC_at hA hc1) ((isDay_iff d).1 hb) hhl hhm (hh.below hB))
    obtain ⟨b, off, c', ha1, hcc, hp⟩ := h.at hl (show placeC ts n < len by omega)
    rw [hc1] at hp
    obtain rfl := Option.some.inj hp
    cases ha1
    have HXC := Lib.hid hcc
    have hkl : placeC ts n < len := by omega
    rw [h0] at HC
    rw [indexC_some hA hw] at HX
    generalize hv : mayR hs ts n d = v at HF ⊢
    clear h0 hH hA hb hw hn1 hcc hp hv 
    generalize placeC ts n = k at *
    go_enter Try.func18, Try.ntmps18
    go_wp2_with fail
    refine (HC.out _ (Below.refl _ _)).mono ?_; rintro e w2 ⟨rfl, hB⟩
    have HB := Lib.hid hB; clear hB
    go_wp2_with fail
    refine (HX.out w2 HB.out).mono ?_; rintro e w2' ⟨rfl, hw'⟩
    obtain rfl : w2 = w2' := hw'.symm
    obtain ⟨c0, c1, c2, c3⟩ := HXC.out.below HB.out
    rw [Nat.zero_add] at c0 c1 c2 c3
    go_wp2_with fail
    refine (HM.out _ HB.out).mono ?_; rintro e w3 ⟨rfl, hB⟩
    have HB3 := Lib.hid (HB.out.trans (hB.mono HB.out.size)); clear hB
    go_wp2_with fail
    go_ret2
    rw [HF.out]
    exact ⟨rfl, HB3.out⟩
  · have HF := Lib.hid (mayR_bad h0 (by omega))
    rw [h0] at HC
    generalize hv : mayR hs ts n d = v at HF ⊢
    clear h0 hv
    go_enter Try.func18, Try.ntmps18
    go_wp2_with fail
    refine (HC.out _ (Below.refl _ _)).mono ?_; rintro e w2 ⟨rfl, hB⟩
    have HB := Lib.hid hB; clear hB
    go_wp2_with fail
    go_ret2
    rw [HF.out]
    exact ⟨rfl, HB.out⟩
  · have HF := Lib.hid (mayR_bad h0 (by omega))
    rw [h0] at HC
    generalize hv : mayR hs ts n d = v at HF ⊢
    clear h0 hv
    go_enter Try.func18, Try.ntmps18
    go_wp2_with fail
    refine (HC.out _ (Below.refl _ _)).mono ?_; rintro e w2 ⟨rfl, hB⟩
    have HB := Lib.hid hB; clear hB
    go_wp2_with fail
    go_ret2
    rw [HF.out]
    exact ⟨rfl, HB.out⟩
  · have HF := Lib.hid (mayR_bad h0 (by omega))
    rw [h0] at HC
    generalize hv : mayR hs ts n d = v at HF ⊢
    clear h0 hv
    go_enter Try.func18, Try.ntmps18
    go_wp2_with fail
    refine (HC.out _ (Below.refl _ _)).mono ?_; rintro e w2 ⟨rfl, hB⟩
    have HB := Lib.hid hB; clear hB
    go_wp2_with fail
    go_ret2
    rw [HF.out]
    exact ⟨rfl, HB.out⟩

end Go.Proofs.Ytekhdggaelppkaa
