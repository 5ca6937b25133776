/- Contracts: spec.l09Number, spec.DrawSendSummons, spec.DrawAnswerSummons, spec.DrawOpenOn, spec.DrawOverdueOn. -/
import Derived.Test.YtchffaohmeaccaaGreatDoorChecked
import Derived.Test.YtchffaohmeaccaaGreatDoorBase0
import Derived.Test.YtchffaohmeaccaaGreatDoorNext
import Derived.Test.YtchffaohmeaccaaGreatDoorPick
import Derived.Test.YtchffaohmeaccaaGreatDoorFrom
import Derived.Test.YtchffaohmeaccaaGreatDoorOwnK
import Derived.Test.YtchffaohmeaccaaGreatDoorDrawH
import Derived.Test.YtchffaohmeaccaaGreatDoorDraw9a
import Derived.Test.YtchffaohmeaccaaGreatDoorDraw9b
import Derived.Test.YtchffaohmeaccaaGreatDoorDraw9c
import Derived.WalkKit
import Derived.WalkSpells
import Derived.WalkLawsBesides
import Derived.Lib.Hide
import Derived.IntWalk
import Derived.OwnWalk
import Derived.Outline
namespace Go.Proofs.YtchffaohmeaccaaGreatDoor
open Go.RowKit Pure1 Pure2 Pure6

theorem results_tmp4 {fn : Func} {t u v x : Tmp} (h : fn.results = #[.tmp t, .tmp u, .tmp v, .tmp x]) (tmps : Array Value) (P : Program) (w : World) :
    (results fn tmps).run P w = .ok (.tuple #[tmps.getD t undef, tmps.getD u undef, tmps.getD v undef, tmps.getD x undef]) w := by
  simp [results, h]
theorem results_tmp5 {fn : Func} {t u v x y : Tmp} (h : fn.results = #[.tmp t, .tmp u, .tmp v, .tmp x, .tmp y]) (tmps : Array Value) (P : Program) (w : World) :
    (results fn tmps).run P w = .ok (.tuple #[tmps.getD t undef, tmps.getD u undef, tmps.getD v undef, tmps.getD x undef, tmps.getD y undef]) w := by
  simp [results, h]
/-- a number is drawn -/
def NumG9 (B b : Nat) (w : World) (e : Ending) (w' : World) : Prop := ∃ x, e = .returned (.int .i64 x) ∧ Src B 70 w' b ∧ w.grownBy w' (some b)

set_option maxRecDepth 100000 in
set_option maxHeartbeats 4000000 in
theorem specNumber9_any (B b g cap : Nat) (ts : List Summons) (w : World) (h : Src B 70 w b) (hd : Summons.ListAt w (some ⟨g, 0, none⟩) ts) (hgb : g ≠ b) (hl : ts.length ≤ 21) :
    Calls Tryz.prog 25 #[.pointer (some ⟨b, 0, none⟩), .slice (some ⟨g, 0, none⟩) ts.length cap] w (NumG9 B b w) := by
  have HS := Lib.hid h; have HD := Lib.hid hd; clear h hd
  obtain ⟨n, hn⟩ : ∃ n, ts.length = n := ⟨_, rfl⟩
  -- the end without one of them
  have HEND := Lib.hid (show ∀ w1 : World, Src B 70 w1 b → w.grownBy w1 (some b) → Calls Tryz.prog 24 #[.pointer (some ⟨b, 0, none⟩), .int .i64 40] w1 (fun e w2 => ∃ x, e = .returned (.int .i64 x) ∧ (0 ≤ x ∧ x < 40) ∧ Src B 70 w2 b ∧ w.grownBy w2 (some b)) from fun w1 hS hG => by
    refine (specNext_any B b 40 w1 (by omega) hS).mono ?_
    rintro e w2 ⟨x, rfl, hx, _, hS2, hg⟩
    exact ⟨x, rfl, hx (by omega), hS2, grown_trans hG hg⟩)
  rw [hn] at hl ⊢
  go_enter Tryz.func25, Tryz.ntmps25
  by_cases h0 : 0 < n
  · have h0b : decide ((n : Int) > 0) = true := decide_eq_true (by omega)
    go_wp2_with fail
    refine (specNext_any B b 4 w (by omega) HS.out).mono ?_; rintro e w1 ⟨y, rfl, hy, _, hS, hg⟩
    obtain ⟨ly, uy⟩ := hy (by omega)
    have HS1 := Lib.hid hS; have HG1 := Lib.hid hg; have HD1 := Lib.hid (ListAt_grown9 HD.out hg hgb)
    clear hS hg hy
    by_cases hy0 : 0 < y
    · have hyb : decide (y > 0) = true := decide_eq_true hy0
      go_wp2_with fail
      refine (specNext_any B b n w1 (by omega) HS1.out).mono ?_; rintro e w2 ⟨kk, rfl, hx, hx1, hS, hg⟩
      have hkk : 0 ≤ kk ∧ kk < (n : Int) := by
        by_cases hh : 1 < (n : Int)
        · exact hx hh
        · have := hx1 (by omega); omega
      obtain ⟨lk, uk⟩ := hkk
      obtain ⟨k, rfl⟩ := Int.eq_ofNat_of_zero_le lk
      have hkl : k < ts.length := by omega
      have HS2 := Lib.hid hS; have HG2 := Lib.hid (grown_trans HG1.out hg)
      obtain ⟨s, hs⟩ : ∃ s, ts[k]? = some s := ⟨_, List.getElem?_eq_getElem hkl⟩
      have hr := ListAt_grown9 HD1.out hg hgb
      have hc : w2.cell? ⟨g, k * 5, none⟩ = some (.int .i64 s.num) := by
        rcases hr with rfl | ⟨b', off, e, hx⟩
        · simp at hs
        · cases e
          have := (hx k s hs).1
          rw [Nat.zero_add] at this
          exact this
      have hkn : k < n := by omega
      clear hS hg hx hx1 hr hs lk
      go_wp2_with fail
      go_ret
      exact ⟨_, rfl, HS2.out, HG2.out⟩
    · have hyb : decide (y > 0) = false := decide_eq_false hy0
      go_wp2_with fail
      refine (HEND.out w1 HS1.out HG1.out).mono ?_; rintro e w2 ⟨x1, rfl, ⟨l1, u1⟩, hS, hg⟩
      have HS2 := Lib.hid hS; have HG2 := Lib.hid hg; clear hS hg
      have q1 : IntKind.i64.wrap (1 + x1) = 1 + x1 := IntWalk.i64_in _ (by omega)
      go_wp2_with fail
      refine (HEND.out w2 HS2.out HG2.out).mono ?_; rintro e w3 ⟨x2, rfl, ⟨l2, u2⟩, hS, hg⟩
      have HS3 := Lib.hid hS; have HG3 := Lib.hid hg; clear hS hg
      have q2 : IntKind.i64.wrap (1 + x2) = 1 + x2 := IntWalk.i64_in _ (by omega)
      go_wp2_with fail
      refine (specPick_any B b w3.heap.size [1 + x1, 1 + x2, 0, 1000000] 4 4 _ rfl (by omega) (by omega) (HS3.out.alloc _) (by have := HS3.out.lt; omega) (alloc_ints w3 2 _)).mono ?_
      rintro e w4 ⟨p, rfl, hp, hS, hg⟩
      have HS4 := Lib.hid hS; have HG4 := Lib.hid (grown_trans (grown_trans HG3.out (grown_alloc _ _ _)) hg)
      clear hS hg hp
      go_wp2_with fail
      go_ret
      exact ⟨_, rfl, HS4.out, HG4.out⟩
  · have h0b : decide ((n : Int) > 0) = false := decide_eq_false (by omega)
    go_wp2_with fail
    refine (HEND.out w HS.out (grown_refl _ _)).mono ?_; rintro e w2 ⟨x1, rfl, ⟨l1, u1⟩, hS, hg⟩
    have HS2 := Lib.hid hS; have HG2 := Lib.hid hg; clear hS hg
    have q1 : IntKind.i64.wrap (1 + x1) = 1 + x1 := IntWalk.i64_in _ (by omega)
    go_wp2_with fail
    refine (HEND.out w2 HS2.out HG2.out).mono ?_; rintro e w3 ⟨x2, rfl, ⟨l2, u2⟩, hS, hg⟩
    have HS3 := Lib.hid hS; have HG3 := Lib.hid hg; clear hS hg
    have q2 : IntKind.i64.wrap (1 + x2) = 1 + x2 := IntWalk.i64_in _ (by omega)
    go_wp2_with fail
    refine (specPick_any B b w3.heap.size [1 + x1, 1 + x2, 0, 1000000] 4 4 _ rfl (by omega) (by omega) (HS3.out.alloc _) (by have := HS3.out.lt; omega) (alloc_ints w3 2 _)).mono ?_
    rintro e w4 ⟨p, rfl, hp, hS, hg⟩
    have HS4 := Lib.hid hS; have HG4 := Lib.hid (grown_trans (grown_trans HG3.out (grown_alloc _ _ _)) hg)
    clear hS hg hp
    go_wp2_with fail
    go_ret
    exact ⟨_, rfl, HS4.out, HG4.out⟩

set_option maxRecDepth 100000 in
set_option maxHeartbeats 2000000 in
theorem specDrawOpen_any (a : Option Addr) (len cap : Nat) (bs : List Int) (w : World) (hl : bs.length = len) (hm : len ≤ 4096) (h : BytesAt w.heap.size w a bs) :
    Calls Tryz.prog 36 #[.slice a len cap] w (GaveMD w) := by
  have HC := Lib.hid (specFrom_any a len cap bs w hl hm h)
  clear h hl
  go_enter Tryz.func36, Tryz.ntmps36
  go_wp2_with fail
  refine HC.out.mono ?_; rintro e w1 ⟨b, rfl, hS, hB⟩
  have HB := Lib.hid hB; have hsz := hB.size; have hbs := hS.base; have hb1 := hS.lt
  have HL := Lib.hid (specList9_any w.heap.size b w1 hS); clear hS hB HC
  go_wp2_with fail
  refine HL.out.mono ?_; rintro e w2 ⟨g, cap2, ts, rfl, hd, hS, hg⟩
  have hgb : g ≠ b := by have := hd.base; omega
  have HB2 := Lib.hid (HB.out.trans (grown_below hg hbs hsz)); have hsz2 := hg.size
  have HD2 := Lib.hid (hd.base_le hsz); have HS2 := Lib.hid hS
  clear hd hS hg HL
  go_wp2_with fail
  refine (specDay9d_any w.heap.size b w2 HS2.out).mono ?_; rintro e w3 ⟨day, rfl, hday, hS, hg⟩
  have HB3 := Lib.hid (HB2.out.trans (grown_below hg hbs (by omega))); have hsz3 := hg.size
  have HD3 := Lib.hid (HD2.out.next hg hgb)
  clear hS hg HS2 HD2 HB2
  go_wp2_with fail
  go_ret2
  exact ⟨g, cap2, ts, day, rfl, HD3.out, by omega, HB3.out⟩

set_option maxRecDepth 100000 in
set_option maxHeartbeats 2000000 in
theorem specDrawOver_any (a : Option Addr) (len cap : Nat) (bs : List Int) (w : World) (hl : bs.length = len) (hm : len ≤ 4096) (h : BytesAt w.heap.size w a bs) :
    Calls Tryz.prog 11 #[.slice a len cap] w (GaveMD w) := by
  have HC := Lib.hid (specDrawOpen_any a len cap bs w hl hm h)
  clear h hl
  go_enter Tryz.func11, Tryz.ntmps11
  go_wp2_with fail
  refine HC.out.mono ?_; rintro e w1 ⟨g, cap2, ts, d, rfl, hd, hr, hB⟩
  have HD := Lib.hid hd; have HB := Lib.hid hB
  clear hd hB
  go_wp2_with fail
  go_ret2
  exact ⟨g, cap2, ts, d, rfl, HD.out, hr, HB.out⟩

/-- a list, a number, an answer and a day -/
def GaveM3 (w : World) (e : Ending) (w' : World) : Prop := ∃ g cap ts n x d, e = .returned (.tuple #[.slice (some ⟨g, 0, none⟩) ts.length cap, .int .i64 n, .int .i64 x, .int .i64 d]) ∧ DrawnAt w w' g cap 21 ts ∧ Below w.heap.size w w'
set_option maxRecDepth 100000 in
set_option maxHeartbeats 2000000 in
theorem specDrawAns_any (a : Option Addr) (len cap : Nat) (bs : List Int) (w : World) (hl : bs.length = len) (hm : len ≤ 4096) (h : BytesAt w.heap.size w a bs) :
    Calls Tryz.prog 8 #[.slice a len cap] w (GaveM3 w) := by
  have HC := Lib.hid (specFrom_any a len cap bs w hl hm h)
  clear h hl
  go_enter Tryz.func8, Tryz.ntmps8
  go_wp2_with fail
  refine HC.out.mono ?_; rintro e w1 ⟨b, rfl, hS, hB⟩
  have HB := Lib.hid hB; have hsz := hB.size; have hbs := hS.base; have hb1 := hS.lt
  have HL := Lib.hid (specList9_any w.heap.size b w1 hS); clear hS hB HC
  go_wp2_with fail
  refine HL.out.mono ?_; rintro e w2 ⟨g, cap2, ts, rfl, hd, hS, hg⟩
  have hgb : g ≠ b := by have := hd.base; omega
  have HB2 := Lib.hid (HB.out.trans (grown_below hg hbs hsz)); have hsz2 := hg.size
  have HD2 := Lib.hid (hd.base_le hsz); have HS2 := Lib.hid hS
  clear hd hS hg HL
  go_wp2_with fail
  refine (specNumber9_any w.heap.size b g cap2 ts w2 HS2.out HD2.out.reads hgb HD2.out.len).mono ?_; rintro e w3 ⟨n, rfl, hS, hg⟩
  have HB3 := Lib.hid (HB2.out.trans (grown_below hg hbs (by omega))); have hsz3 := hg.size
  have HD3 := Lib.hid (HD2.out.next hg hgb); have HS3 := Lib.hid hS
  clear hS hg HS2 HD2 HB2
  go_wp2_with fail
  refine (specPick_any w.heap.size b w3.heap.size [1, 2, 3, 1, 2, 0, 4] 7 7 _ rfl (by omega) (by omega) (HS3.out.alloc _) (by have := HS3.out.lt; omega) (alloc_ints w3 2 _)).mono ?_
  rintro e w4 ⟨x, rfl, _, hS, hg⟩
  have hg' := grown_trans (grown_alloc w3 (.cells #[.int .i64 1, .int .i64 2, .int .i64 3, .int .i64 1, .int .i64 2, .int .i64 0, .int .i64 4] 2) (some b)) hg
  have HB4 := Lib.hid (HB3.out.trans (grown_below hg' hbs (by omega))); have hsz4 := hg'.size
  have HD4 := Lib.hid (HD3.out.next hg' hgb); have HS4 := Lib.hid hS
  clear hS hg hg' HS3 HD3 HB3
  go_wp2_with fail
  refine (specDay9d_any w.heap.size b w4 HS4.out).mono ?_; rintro e w5 ⟨day, rfl, hday, hS, hg⟩
  have HB5 := Lib.hid (HB4.out.trans (grown_below hg hbs (by omega)))
  have HD5 := Lib.hid (HD4.out.next hg hgb)
  clear hS hg HS4 HD4 HB4
  go_wp2_with fail
  (try simp only [Exit.inBlock, Exit.then])
  refine bodyPost_ret (results_tmp4 rfl _ _ _) rfl ?_
  exact ⟨g, cap2, ts, n, x, day, rfl, HD5.out, HB5.out⟩

/-- holidays, a list, a number, a day and days -/
def GaveMS (w : World) (e : Ending) (w' : World) : Prop := ∃ ah ch hs g cap ts n d k, e = .returned (.tuple #[.slice ah hs.length ch, .slice (some ⟨g, 0, none⟩) ts.length cap, .int .i64 n, .int .i64 d, .int .i64 k]) ∧ hs.length ≤ 41 ∧ IntsAt w' ah hs ∧ DrawnAt w w' g cap 21 ts ∧ Below w.heap.size w w'
set_option maxRecDepth 100000 in
set_option maxHeartbeats 4000000 in
theorem specDrawSend_any (a : Option Addr) (len cap : Nat) (bs : List Int) (w : World) (hl : bs.length = len) (hm : len ≤ 4096) (h : BytesAt w.heap.size w a bs) :
    Calls Tryz.prog 5 #[.slice a len cap] w (GaveMS w) := by
  have HC := Lib.hid (specFrom_any a len cap bs w hl hm h)
  clear h hl
  go_enter Tryz.func5, Tryz.ntmps5
  go_wp2_with fail
  refine HC.out.mono ?_; rintro e w1 ⟨b, rfl, hS, hB⟩
  have HB := Lib.hid hB; have hsz := hB.size; have hbs := hS.base; have hb1 := hS.lt
  have HL := Lib.hid (specHolidays_any w.heap.size b w1 hS); clear hS hB HC
  go_wp2_with fail
  refine HL.out.mono ?_; rintro e wh ⟨ah, ch, hs, rfl, hhl, hh, hhb, hS, hB⟩
  have HBh := Lib.hid (HB.out.trans hB); have hszh := hB.size
  have HH := Lib.hid hh; have HHB := Lib.hid hhb
  have hbh := hS.lt
  have HLL := Lib.hid (specList9_any w.heap.size b wh hS)
  clear hh hhb hS hB HL
  have hszw := HBh.out.size
  go_wp2_with fail
  refine HLL.out.mono ?_; rintro e w2 ⟨g, cap2, ts, rfl, hd, hS, hg⟩
  have hgb : g ≠ b := by have := hd.base; omega
  have HB2 := Lib.hid (HBh.out.trans (grown_below hg hbs hszw)); have hsz2 := hg.size
  have HD2 := Lib.hid (hd.base_le hszw); have HS2 := Lib.hid hS; have HH2 := Lib.hid (ints_keep HH.out HHB.out hg (Nat.lt_succ_self b))
  clear hd hS hg HLL
  go_wp2_with fail
  refine (specNext_any w.heap.size b 40 w2 (by omega) HS2.out).mono ?_; rintro e w3 ⟨x1, rfl, hx, _, hS, hg⟩
  obtain ⟨l1, u1⟩ := hx (by omega)
  have q1 : IntKind.i64.wrap (1 + x1) = 1 + x1 := IntWalk.i64_in _ (by omega)
  have HB3 := Lib.hid (HB2.out.trans (grown_below hg hbs (by omega))); have hsz3 := hg.size
  have HD3 := Lib.hid (HD2.out.next hg hgb); have HS3 := Lib.hid hS; have HH3 := Lib.hid (ints_keep HH2.out HHB.out hg (Nat.lt_succ_self b))
  clear hS hg hx HS2 HD2 HB2
  go_wp2_with fail
  refine (specNext_any w.heap.size b 8 w3 (by omega) HS3.out).mono ?_; rintro e w4 ⟨x2, rfl, hx, _, hS, hg⟩
  have HB4 := Lib.hid (HB3.out.trans (grown_below hg hbs (by omega))); have hsz4 := hg.size
  have HD4 := Lib.hid (HD3.out.next hg hgb); have HS4 := Lib.hid hS; have HH4 := Lib.hid (ints_keep HH3.out HHB.out hg (Nat.lt_succ_self b))
  clear hS hg hx HS3 HD3 HB3
  by_cases hx0 : x2 = 0
  · have hxb : (x2 == 0) = true := beq_iff_eq.2 hx0
    clear hx0
    go_wp2_with fail
    refine (specNumber9_any w.heap.size b g cap2 ts w4 HS4.out HD4.out.reads hgb HD4.out.len).mono ?_; rintro e w5 ⟨n, rfl, hS, hg⟩
    have HB5 := Lib.hid (HB4.out.trans (grown_below hg hbs (by omega))); have hsz5 := hg.size
    have HD5 := Lib.hid (HD4.out.next hg hgb); have HS5 := Lib.hid hS; have HH5 := Lib.hid (ints_keep HH4.out HHB.out hg (Nat.lt_succ_self b))
    clear hS hg HS4 HD4 HB4
    go_wp2_with fail
    refine (specDay9d_any w.heap.size b w5 HS5.out).mono ?_; rintro e w6 ⟨day, rfl, hday, hS, hg⟩
    have HB6 := Lib.hid (HB5.out.trans (grown_below hg hbs (by omega))); have hsz6 := hg.size
    have HD6 := Lib.hid (HD5.out.next hg hgb); have HS6 := Lib.hid hS; have HH6 := Lib.hid (ints_keep HH5.out HHB.out hg (Nat.lt_succ_self b))
    clear hS hg HS5 HD5 HB5 HH5
    go_wp2_with fail
    refine (specNext_any w.heap.size b 60 w6 (by omega) HS6.out).mono ?_; rintro e w7 ⟨x7, rfl, hx, _, hS, hg⟩
    have HB7 := Lib.hid (HB6.out.trans (grown_below hg hbs (by omega))); have hsz7 := hg.size
    have HD7 := Lib.hid (HD6.out.next hg hgb); have HS7 := Lib.hid hS; have HH7 := Lib.hid (ints_keep HH6.out HHB.out hg (Nat.lt_succ_self b))
    clear hS hg hx HS6 HD6 HB6 HH6
    go_wp2_with fail
    refine (specPick_any w.heap.size b w7.heap.size [14, x7, 30, 1001] 4 4 _ rfl (by omega) (by omega) (HS7.out.alloc _) (by have := HS7.out.lt; omega) (alloc_ints w7 2 _)).mono ?_
    rintro e w8 ⟨x, rfl, _, hS, hg⟩
    have hg' := grown_trans (grown_alloc w7 (.cells #[.int .i64 14, .int .i64 x7, .int .i64 30, .int .i64 1001] 2) (some b)) hg
    have HB8 := Lib.hid (HB7.out.trans (grown_below hg' hbs (by omega)))
    have HD8 := Lib.hid (HD7.out.next hg' hgb); have HH8 := Lib.hid (ints_keep HH7.out HHB.out hg' (Nat.lt_succ_self b))
    clear hS hg hg' HS7 HD7 HB7 HH7
    go_wp2_with fail
    (try simp only [Exit.inBlock, Exit.then])
    refine bodyPost_ret (results_tmp5 rfl _ _ _) rfl ?_
    exact ⟨ah, ch, hs, g, cap2, ts, n, day, x, rfl, hhl, HH8.out, HD8.out, HB8.out⟩
  · have hxb : (x2 == 0) = false := beq_eq_false_iff_ne.2 hx0
    clear hx0
    have HB5 := HB4; have HD5 := HD4; have HS5 := HS4; have HH5 := HH4; have hsz5 := Nat.le_refl w4.heap.size
    clear HS4 HD4 HB4 HH4
    go_wp2_with fail
    refine (specDay9d_any w.heap.size b w4 HS5.out).mono ?_; rintro e w6 ⟨day, rfl, hday, hS, hg⟩
    have HB6 := Lib.hid (HB5.out.trans (grown_below hg hbs (by omega))); have hsz6 := hg.size
    have HD6 := Lib.hid (HD5.out.next hg hgb); have HS6 := Lib.hid hS; have HH6 := Lib.hid (ints_keep HH5.out HHB.out hg (Nat.lt_succ_self b))
    clear hS hg HS5 HD5 HB5 HH5
    go_wp2_with fail
    refine (specNext_any w.heap.size b 60 w6 (by omega) HS6.out).mono ?_; rintro e w7 ⟨x7, rfl, hx, _, hS, hg⟩
    have HB7 := Lib.hid (HB6.out.trans (grown_below hg hbs (by omega))); have hsz7 := hg.size
    have HD7 := Lib.hid (HD6.out.next hg hgb); have HS7 := Lib.hid hS; have HH7 := Lib.hid (ints_keep HH6.out HHB.out hg (Nat.lt_succ_self b))
    clear hS hg hx HS6 HD6 HB6 HH6
    go_wp2_with fail
    refine (specPick_any w.heap.size b w7.heap.size [14, x7, 30, 1001] 4 4 _ rfl (by omega) (by omega) (HS7.out.alloc _) (by have := HS7.out.lt; omega) (alloc_ints w7 2 _)).mono ?_
    rintro e w8 ⟨x, rfl, _, hS, hg⟩
    have hg' := grown_trans (grown_alloc w7 (.cells #[.int .i64 14, .int .i64 x7, .int .i64 30, .int .i64 1001] 2) (some b)) hg
    have HB8 := Lib.hid (HB7.out.trans (grown_below hg' hbs (by omega)))
    have HD8 := Lib.hid (HD7.out.next hg' hgb); have HH8 := Lib.hid (ints_keep HH7.out HHB.out hg' (Nat.lt_succ_self b))
    clear hS hg hg' HS7 HD7 HB7 HH7
    go_wp2_with fail
    (try simp only [Exit.inBlock, Exit.then])
    refine bodyPost_ret (results_tmp5 rfl _ _ _) rfl ?_
    exact ⟨ah, ch, hs, g, cap2, ts, (1 + x1), day, x, rfl, hhl, HH8.out, HD8.out, HB8.out⟩
end Go.Proofs.YtchffaohmeaccaaGreatDoor
