/- Contracts of the program's chapter 10: may a call be moved? (written by impl10.py) -/
import Derived.Test.YtekhdggaelppkaaChecked
import Derived.Test.YtekhdggaelppkaaBase0
import Derived.Test.YtekhdggaelppkaaInfo
import Derived.Test.YtekhdggaelppkaaCallB
import Derived.Test.YtekhdggaelppkaaCallC
import Derived.Test.YtekhdggaelppkaaCallD
import Derived.Test.YtekhdggaelppkaaPure100
import Derived.Test.YtekhdggaelppkaaMarkI
import Derived.Test.YtekhdggaelppkaaIntL
import Derived.Test.YtekhdggaelppkaaBuildI
import Derived.Test.YtekhdggaelppkaaPersNum
import Derived.Test.YtekhdggaelppkaaWithin
import Derived.Test.YtekhdggaelppkaaAreDays
import Derived.Test.YtekhdggaelppkaaDay1
import Derived.Test.YtekhdggaelppkaaDay2
import Derived.Test.YtekhdggaelppkaaFind10
import Derived.Test.YtekhdggaelppkaaImpl10a
import Derived.Test.YtekhdggaelppkaaImpl10b
import Derived.WalkKit
import Derived.WalkSpells
import Derived.WalkLawsBesides
import Derived.Lib.Hide
import Derived.Lib.QuietBelow
import Derived.IntWalk
import Derived.Deep.QuietTactic
import Derived.BigQuiet
import Derived.BigRegion
import Derived.OwnWalk
import Derived.RegionTactic
import Derived.Outline
import Derived.Shelf.Abstract
namespace Go.Proofs.Ytekhdggaelppkaa
open Go.Shelf Go.RowKit Go.Sort Pure1 Pure2 Pure20 Pure21 Pure40

set_option maxRecDepth 100000 in
set_option maxHeartbeats 4000000 in
theorem implLastDay_any (c : Call) (w : World) (hc : 0 ≤ c.fst ∧ c.fst ≤ 20000) :
    Calls Try.prog 89 #[.agg #[.int .i64 c.num, .int .i64 c.fst, .int .i64 c.day, .int .i64 c.moves]] w fun e w' => e = .returned (.int .i64 (min (c.fst + 180) 20000)) ∧ Below w.heap.size w w' := by
  have HA := Lib.hid (Call.boxed w c 41)
  have HW := Lib.hid (Call.bx w (.cells #[.int .i64 c.num, .int .i64 c.fst, .int .i64 c.day, .int .i64 c.moves] 41))
  have q1 : IntKind.i64.wrap (c.fst + 180) = c.fst + 180 := IntWalk.i64_in _ (by omega)
  go_enter Try.func89, Try.ntmps89
  obtain ⟨a0, a1, a2, a3⟩ := HA.out
  go_wp2_with fail
  all_goals go_ret
  all_goals exact ⟨ret_i64 (by omega), HW.out⟩
set_option maxRecDepth 100000 in
set_option maxHeartbeats 4000000 in
theorem implMay10_any (c : Call) (ha : Option Addr) (hn hc : Nat) (hs : List Int) (d : Int) (w : World) (hok : okC c = true) (hd : 0 ≤ d ∧ d ≤ 20000) (hhl : hs.length = hn) (hh : IntsAt w ha hs) (hH : Hol hs) :
    Calls Try.prog 52 #[.agg #[.int .i64 c.num, .int .i64 c.fst, .int .i64 c.day, .int .i64 c.moves], .slice ha hn hc, .int .i64 d] w fun e w' => e = .returned (.bool (mayC hs c d)) ∧ Below w.heap.size w w' := by
  obtain ⟨_, o2, o3, o4, _⟩ := okC_parts hok
  have hBq : Below w.heap.size w (w.alloc (.cells #[.int .i64 c.num, .int .i64 c.fst, .int .i64 c.day, .int .i64 c.moves] 41)) := Call.bx w _
  have hlast := regr_call10 (w := w.alloc (.cells #[.int .i64 c.num, .int .i64 c.fst, .int .i64 c.day, .int .i64 c.moves] 41)) (fun W _ => show Calls Try.prog 89 #[.agg #[.int .i64 c.num, .int .i64 c.fst, .int .i64 c.day, .int .i64 c.moves]] W _ from implLastDay_any c W ⟨o3.1, by omega⟩)
  have hwith := regr_call10 (w := w.alloc (.cells #[.int .i64 c.num, .int .i64 c.fst, .int .i64 c.day, .int .i64 c.moves] 41)) (fun W _ => show Calls Try.prog 88 #[.int .i64 d, .int .i64 (c.day + 1), .int .i64 (min (c.fst + 180) 20000)] W _ from (implWithin_any d (c.day + 1) (min (c.fst + 180) 20000) W).mono (fun e w' h => ⟨h.1, by rw [h.2]; exact Below.refl _ _⟩))
  have hcourt := regr_call10 (w := w.alloc (.cells #[.int .i64 c.num, .int .i64 c.fst, .int .i64 c.day, .int .i64 c.moves] 41)) (fun W hW => show Calls Try.prog 67 #[.int .i64 d, .slice ha hn hc] W _ from (implCourt_any d ha hn hc hs W hd.1 hhl (hh.below (hBq.trans (hW.mono hBq.size))) hH).mono (fun e w' h => ⟨h.1, by rw [← h.2]; exact Below.refl _ _⟩))
  have q1 : IntKind.i64.wrap (c.day + 1) = c.day + 1 := IntWalk.i64_in _ (by omega)
  have HB2 := Lib.hid hBq
  have HE := Lib.hid (show mayC hs c d = (decide (c.moves < 2) && (inR d (c.day + 1) (min (c.fst + 180) 20000) && court hs d)) from rfl)
  clear hBq hhl hh hH hok hd o2 o3 o4
  generalize mayC hs c d = v at HE ⊢
  generalize inR d (c.day + 1) (min (c.fst + 180) 20000) = b2 at hwith HE
  generalize court hs d = b3 at hcourt HE
  by_cases h1 : c.moves < 2
  · have hm : decide (c.moves < 2) = true := decide_eq_true h1
    rw [hm] at HE
    clear h1
    cases b2
    · skip
      go_enter Try.func52, Try.ntmps52
      go_wp2_with fail
      have hcb := Call.boxed w c 41
      generalize w.alloc (.cells #[.int .i64 c.num, .int .i64 c.fst, .int .i64 c.day, .int .i64 c.moves] 41) = wq at hcb HB2 hlast hwith hcourt ⊢
      generalize w.heap.size = bq at hcb ⊢
      obtain ⟨d0, d1, d2, d3⟩ := hcb
      have k0 := cell_regrown d0; have k1 := cell_regrown d1; have k2 := cell_regrown d2; have k3 := cell_regrown d3
      clear d0 d1 d2 d3
      refine wp_region_quiet_below (by kernel_rfl) (by kernel_rfl) ?_
      iterate 18 (go_big_quiet_step (first | exact hlast _ _ | exact hwith _ _ | exact hcourt _ _))
      refine wpQuiet_nil ?_
      intro _ hw'
      obtain ⟨⟨dq, osq⟩, hw''⟩ := hw'
      subst hw''
      have HB5 := Lib.hid (HB2.out.trans ((below_regrown wq dq osq).mono HB2.out.size))
      clear hlast hwith hcourt k0 k1 k2 k3
      generalize grow (redrawn wq dq) osq = w5 at HB5 ⊢
      go_wp2_with fail
      go_ret
      exact ⟨ret_bool' (by rw [HE.out]; rfl), HB5.out⟩
    · skip
      go_enter Try.func52, Try.ntmps52
      go_wp2_with fail
      have hcb := Call.boxed w c 41
      generalize w.alloc (.cells #[.int .i64 c.num, .int .i64 c.fst, .int .i64 c.day, .int .i64 c.moves] 41) = wq at hcb HB2 hlast hwith hcourt ⊢
      generalize w.heap.size = bq at hcb ⊢
      obtain ⟨d0, d1, d2, d3⟩ := hcb
      have k0 := cell_regrown d0; have k1 := cell_regrown d1; have k2 := cell_regrown d2; have k3 := cell_regrown d3
      clear d0 d1 d2 d3
      refine wp_region_quiet_below (by kernel_rfl) (by kernel_rfl) ?_
      iterate 18 (go_big_quiet_step (first | exact hlast _ _ | exact hwith _ _ | exact hcourt _ _))
      refine wpQuiet_nil ?_
      intro _ hw'
      obtain ⟨⟨dq, osq⟩, hw''⟩ := hw'
      subst hw''
      have HB5 := Lib.hid (HB2.out.trans ((below_regrown wq dq osq).mono HB2.out.size))
      clear hlast hwith hcourt k0 k1 k2 k3
      generalize grow (redrawn wq dq) osq = w5 at HB5 ⊢
      go_wp2_with fail
      go_ret
      exact ⟨ret_bool' (by rw [HE.out]; rfl), HB5.out⟩
  · have hm : decide (c.moves < 2) = false := decide_eq_false h1
    rw [hm] at HE
    clear h1
    go_enter Try.func52, Try.ntmps52
    go_wp2_with fail
    have hcb := Call.boxed w c 41
    generalize w.alloc (.cells #[.int .i64 c.num, .int .i64 c.fst, .int .i64 c.day, .int .i64 c.moves] 41) = wq at hcb HB2 hlast hwith hcourt ⊢
    generalize w.heap.size = bq at hcb ⊢
    obtain ⟨d0, d1, d2, d3⟩ := hcb
    have k0 := cell_regrown d0; have k1 := cell_regrown d1; have k2 := cell_regrown d2; have k3 := cell_regrown d3
    clear d0 d1 d2 d3
    refine wp_region_quiet_below (by kernel_rfl) (by kernel_rfl) ?_
    iterate 18 (go_big_quiet_step (first | exact hlast _ _ | exact hwith _ _ | exact hcourt _ _))
    refine wpQuiet_nil ?_
    intro _ hw'
    obtain ⟨⟨dq, osq⟩, hw''⟩ := hw'
    subst hw''
    have HB5 := Lib.hid (HB2.out.trans ((below_regrown wq dq osq).mono HB2.out.size))
    clear hlast hwith hcourt k0 k1 k2 k3
    generalize grow (redrawn wq dq) osq = w5 at HB5 ⊢
    go_wp2_with fail
    go_ret
    exact ⟨ret_bool' (by rw [HE.out]; rfl), HB5.out⟩

theorem plC_ok {hs : List Int} {ts : List Call} {b : Bool} {n : Int} (h : findC hs ts b n = 0) : plC hs ts b n = (placeC ts n : Int) := if_pos h
theorem plC_bad {hs : List Int} {ts : List Call} {b : Bool} {n x : Int} (h : findC hs ts b n = x) (hx : x ≠ 0) : plC hs ts b n = 0 := if_neg (by omega)
set_option maxRecDepth 100000 in
set_option maxHeartbeats 4000000 in
theorem implMayMove_any (ha : Option Addr) (hn hc : Nat) (hs : List Int) (a : Option Addr) (len cap : Nat) (ts : List Call) (n d : Int) (w : World) (hhl : hs.length = hn) (hhm : hn ≤ maxLen) (hh : IntsAt w ha hs) (hl : ts.length = len) (hm : len ≤ maxLen) (h : Call.ListAt w a ts) :
    Calls Try.prog 17 #[.slice ha hn hc, .slice a len cap, .int .i64 n, .int .i64 d] w fun e w' => e = .returned (.tuple #[.bool (mayR hs ts n d).1, .int .i64 (mayR hs ts n d).2]) ∧ Below w.heap.size w w' := by
  have HD := Lib.hid (fun W => implDays10_one d W)
  have HC := Lib.hid (fun (W : World) (hB : Below w.heap.size w W) => implPlace10_code ha hn hc hs a len cap ts (isDay d) n W hhl hhm (hh.below hB) hl hm (h.below hB))
  unfold SaysPl at HC
  rcases findC_cases hs ts (isDay d) n with ⟨h0, ⟨hH, hA, hb⟩, c, hw⟩ | h0 | h0 | h0
  · obtain ⟨hc1, hn1⟩ := whoC_some hw
    have hk := lt_of_getC hc1
    have HF := Lib.hid (show mayR hs ts n d = _ from mayR_ok h0 hw)
    have HM := Lib.hid (fun (W : World) (hB : Below w.heap.size w W) => implMay10_any c ha hn hc hs d W (areC_at hA hc1) ((isDay_iff d).1 hb) hhl (hh.below hB) ((hol_iff hs).1 hH))
    obtain ⟨b, off, c', ha1, hcc, hp⟩ := h.at hl (show placeC ts n < len by omega)
    rw [hc1] at hp
    obtain rfl := Option.some.inj hp
    have HX := Lib.hid hcc
    have hkl : placeC ts n < len := by omega
    rw [plC_ok h0, h0] at HC
    subst ha1
    generalize hv : mayR hs ts n d = v at HF ⊢
    clear h0 hH hA hb hw hn1 hcc hp hv 
    generalize placeC ts n = k at *
    go_enter Try.func17, Try.ntmps17
    go_wp2_with fail
    refine (HD.out w).mono ?_; rintro e w1 ⟨rfl, hw⟩
    have HW1 := Lib.hid (show Below w.heap.size w w1 by rw [hw]; exact (Below.refl _ _).alloc (Nat.le_refl _) _)
    clear hw
    go_wp2_with fail
    refine (HC.out w1 HW1.out).mono ?_; rintro e w2 ⟨rfl, hB⟩
    have HB := Lib.hid (HW1.out.trans (hB.mono HW1.out.size)); clear hB
    obtain ⟨c0, c1, c2, c3⟩ := HX.out.below HB.out
    go_wp2_with fail
    refine (HM.out w2 HB.out).mono ?_; rintro e w3 ⟨rfl, hB⟩
    have HB3 := Lib.hid (HB.out.trans (hB.mono HB.out.size)); clear hB
    go_wp2_with fail
    go_ret2
    rw [HF.out]
    exact ⟨rfl, HB3.out⟩
  · have HF := Lib.hid (mayR_bad h0 (by omega))
    rw [plC_bad h0 (by omega), h0] at HC
    generalize hv : mayR hs ts n d = v at HF ⊢
    clear h0 hv
    go_enter Try.func17, Try.ntmps17
    go_wp2_with fail
    refine (HD.out w).mono ?_; rintro e w1 ⟨rfl, hw⟩
    have HW1 := Lib.hid (show Below w.heap.size w w1 by rw [hw]; exact (Below.refl _ _).alloc (Nat.le_refl _) _)
    clear hw
    go_wp2_with fail
    refine (HC.out w1 HW1.out).mono ?_; rintro e w2 ⟨rfl, hB⟩
    have HB := Lib.hid (HW1.out.trans (hB.mono HW1.out.size)); clear hB
    go_wp2_with fail
    go_ret2
    rw [HF.out]
    exact ⟨rfl, HB.out⟩
  · have HF := Lib.hid (mayR_bad h0 (by omega))
    rw [plC_bad h0 (by omega), h0] at HC
    generalize hv : mayR hs ts n d = v at HF ⊢
    clear h0 hv
    go_enter Try.func17, Try.ntmps17
    go_wp2_with fail
    refine (HD.out w).mono ?_; rintro e w1 ⟨rfl, hw⟩
    have HW1 := Lib.hid (show Below w.heap.size w w1 by rw [hw]; exact (Below.refl _ _).alloc (Nat.le_refl _) _)
    clear hw
    go_wp2_with fail
    refine (HC.out w1 HW1.out).mono ?_; rintro e w2 ⟨rfl, hB⟩
    have HB := Lib.hid (HW1.out.trans (hB.mono HW1.out.size)); clear hB
    go_wp2_with fail
    go_ret2
    rw [HF.out]
    exact ⟨rfl, HB.out⟩
  · have HF := Lib.hid (mayR_bad h0 (by omega))
    rw [plC_bad h0 (by omega), h0] at HC
    generalize hv : mayR hs ts n d = v at HF ⊢
    clear h0 hv
    go_enter Try.func17, Try.ntmps17
    go_wp2_with fail
    refine (HD.out w).mono ?_; rintro e w1 ⟨rfl, hw⟩
    have HW1 := Lib.hid (show Below w.heap.size w w1 by rw [hw]; exact (Below.refl _ _).alloc (Nat.le_refl _) _)
    clear hw
    go_wp2_with fail
    refine (HC.out w1 HW1.out).mono ?_; rintro e w2 ⟨rfl, hB⟩
    have HB := Lib.hid (HW1.out.trans (hB.mono HW1.out.size)); clear hB
    go_wp2_with fail
    go_ret2
    rw [HF.out]
    exact ⟨rfl, HB.out⟩

end Go.Proofs.Ytekhdggaelppkaa
