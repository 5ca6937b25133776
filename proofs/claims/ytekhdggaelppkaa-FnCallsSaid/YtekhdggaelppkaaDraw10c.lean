/- Contracts: spec.l02Day (again), spec.l10Number, the draws of a list and a number, DrawAddCall. (written by draw10c.py) -/
import Derived.Test.YtekhdggaelppkaaChecked
import Derived.Test.YtekhdggaelppkaaBase0
import Derived.Test.YtekhdggaelppkaaInfo
import Derived.Test.YtekhdggaelppkaaNext
import Derived.Test.YtekhdggaelppkaaPick
import Derived.Test.YtekhdggaelppkaaFrom
import Derived.Test.YtekhdggaelppkaaOwnK
import Derived.Test.YtekhdggaelppkaaDrawH
import Derived.Test.YtekhdggaelppkaaDraw10a
import Derived.Test.YtekhdggaelppkaaDraw10b
import Derived.WalkKit
import Derived.WalkSpells
import Derived.WalkLawsBesides
import Derived.Lib.Hide
import Derived.IntWalk
import Derived.OwnWalk
import Derived.Deep.QuietTactic
import Derived.BigQuiet
import Derived.Outline
namespace Go.Proofs.Ytekhdggaelppkaa
open Go.RowKit Pure1 Pure2 Pure6

theorem DrawnC.base_le {w0 w1 w : World} {g cap m : Nat} {ts : List Call} (h : DrawnC w1 w g cap m ts) (hs : w0.heap.size ≤ w1.heap.size) : DrawnC w0 w g cap m ts :=
  ⟨h.cap, Nat.le_trans hs h.base, h.lt, h.reads, h.len, h.small⟩
theorem results_four10 {fn : Func} {t u v x : Tmp} (h : fn.results = #[.tmp t, .tmp u, .tmp v, .tmp x]) (tmps : Array Value) (P : Program) (w : World) :
    (results fn tmps).run P w = .ok (.tuple #[tmps.getD t undef, tmps.getD u undef, tmps.getD v undef, tmps.getD x undef]) w := by
  simp [results, h]
theorem six_bd10 {x : Int} (h : x ∈ [(0 : Int), 20000, 19999, 20001, -1, 5]) : -1 ≤ x ∧ x ≤ 20001 := by
  simp only [List.mem_cons, List.not_mem_nil, or_false] at h; omega
set_option maxHeartbeats 1000000 in
theorem specDay10_any (B b : Nat) (w : World) (h : Src B 93 w b) :
    Calls Try.prog 63 #[.pointer (some ⟨b, 0, none⟩)] w fun e w' => ∃ d, e = .returned (.int .i64 d) ∧ (-1 ≤ d ∧ d ≤ 20001) ∧ Src B 93 w' b ∧ w.grownBy w' (some b) := by
  have hbB := h.base
  have hbw := h.lt
  have HC := Lib.hid (specNext_any B b 16 w (by omega) h); clear h
  go_enter Try.func63, Try.ntmps63
  go_wp2_with fail
  refine HC.out.mono ?_; rintro e w1 ⟨x, rfl, hx, _, hS, hg⟩
  have HS := Lib.hid hS; have HG := Lib.hid hg; clear hS hg hx
  by_cases hx0 : x = 0
  · have hx0' : (x == 0) = true := beq_iff_eq.2 hx0
    clear hx0
    go_wp2_with fail
    refine (specPick_any B b w1.heap.size [0, 20000, 19999, 20001, -1, 5] 6 6 _ rfl (by omega) (by omega) (HS.out.alloc _) (by have := HS.out.lt; omega) (alloc_ints w1 _ _)).mono ?_
    rintro e w2 ⟨y, rfl, hy, hS2, hg2⟩
    have HS2 := Lib.hid hS2; have HG2 := Lib.hid (grown_trans (grown_trans HG.out (grown_alloc _ _ _)) hg2); have HY := Lib.hid (six_bd10 hy); clear hS2 hg2 hy
    go_wp2_with fail
    go_ret
    exact ⟨y, rfl, HY.out, HS2.out, HG2.out⟩
  · have hx0' : (x == 0) = false := beq_eq_false_iff_ne.2 hx0
    clear hx0
    go_wp2_with fail
    refine (specNext_any B b 250 w1 (by omega) HS.out).mono ?_; rintro e w2 ⟨x2, rfl, hx2, _, hS2, hg2⟩
    obtain ⟨l2, u2⟩ := hx2 (by omega)
    have HS2 := Lib.hid hS2; have HG2 := Lib.hid (grown_trans HG.out hg2); clear hS2 hg2 hx2
    go_wp2_with fail
    go_ret
    exact ⟨_, rfl, by omega, HS2.out, HG2.out⟩

/-- a number is drawn -/
def NumG10 (B b : Nat) (w : World) (e : Ending) (w' : World) : Prop := ∃ x, e = .returned (.int .i64 x) ∧ Src B 93 w' b ∧ w.grownBy w' (some b)

set_option maxRecDepth 100000 in
set_option maxHeartbeats 4000000 in
theorem specNumber10_any (B b g cap : Nat) (ts : List Call) (w : World) (h : Src B 93 w b) (hd : Call.ListAt w (some ⟨g, 0, none⟩) ts) (hgb : g ≠ b) (hl : ts.length ≤ 21) :
    Calls Try.prog 62 #[.pointer (some ⟨b, 0, none⟩), .slice (some ⟨g, 0, none⟩) ts.length cap] w (NumG10 B b w) := by
  have HS := Lib.hid h; have HD := Lib.hid hd; clear h hd
  obtain ⟨n, hn⟩ : ∃ n, ts.length = n := ⟨_, rfl⟩
  -- the end without one of them
  have HEND := Lib.hid (show ∀ w1 : World, Src B 93 w1 b → w.grownBy w1 (some b) → Calls Try.prog 61 #[.pointer (some ⟨b, 0, none⟩), .int .i64 40] w1 (fun e w2 => ∃ x, e = .returned (.int .i64 x) ∧ (0 ≤ x ∧ x < 40) ∧ Src B 93 w2 b ∧ w.grownBy w2 (some b)) from fun w1 hS hG => by
    refine (specNext_any B b 40 w1 (by omega) hS).mono ?_
    rintro e w2 ⟨x, rfl, hx, _, hS2, hg⟩
    exact ⟨x, rfl, hx (by omega), hS2, grown_trans hG hg⟩)
  rw [hn] at hl ⊢
  go_enter Try.func62, Try.ntmps62
  by_cases h0 : 0 < n
  · have h0b : decide ((n : Int) > 0) = true := decide_eq_true (by omega)
    go_wp2_with fail
    refine (specNext_any B b 4 w (by omega) HS.out).mono ?_; rintro e w1 ⟨y, rfl, hy, _, hS, hg⟩
    obtain ⟨ly, uy⟩ := hy (by omega)
    have HS1 := Lib.hid hS; have HG1 := Lib.hid hg; have HD1 := Lib.hid (ListAt_grown10 HD.out hg hgb)
    clear hS hg hy
    by_cases hy0 : 0 < y
    · have hyb : decide (y > 0) = true := decide_eq_true hy0
      go_wp2_with fail
      refine (specNext_any B b n w1 (by omega) HS1.out).mono ?_; rintro e w2 ⟨kk, rfl, hx, hx1, hS, hg⟩
      have hkk : 0 ≤ kk ∧ kk < (n : Int) := by
        by_cases hh : 1 < (n : Int)
        · exact hx hh
        · have := hx1 (by omega); omega
      obtain ⟨lk, uk⟩ := hkk
      obtain ⟨k, rfl⟩ := Int.eq_ofNat_of_zero_le lk
      have hkl : k < ts.length := by omega
      have HS2 := Lib.hid hS; have HG2 := Lib.hid (grown_trans HG1.out hg)
      obtain ⟨s, hs⟩ : ∃ s, ts[k]? = some s := ⟨_, List.getElem?_eq_getElem hkl⟩
      have hr := ListAt_grown10 HD1.out hg hgb
      have hc : w2.cell? ⟨g, k * 4, none⟩ = some (.int .i64 s.num) := by
        rcases hr with rfl | ⟨b', off, e, hx⟩
        · simp at hs
        · cases e
          have := (hx k s hs).1
          rw [Nat.zero_add] at this
          exact this
      have hkn : k < n := by omega
      clear hS hg hx hx1 hr hs lk
      go_wp2_with fail
      go_ret
      exact ⟨_, rfl, HS2.out, HG2.out⟩
    · have hyb : decide (y > 0) = false := decide_eq_false hy0
      go_wp2_with fail
      refine (HEND.out w1 HS1.out HG1.out).mono ?_; rintro e w2 ⟨x1, rfl, ⟨l1, u1⟩, hS, hg⟩
      have HS2 := Lib.hid hS; have HG2 := Lib.hid hg; clear hS hg
      have q1 : IntKind.i64.wrap (1 + x1) = 1 + x1 := IntWalk.i64_in _ (by omega)
      go_wp2_with fail
      refine (HEND.out w2 HS2.out HG2.out).mono ?_; rintro e w3 ⟨x2, rfl, ⟨l2, u2⟩, hS, hg⟩
      have HS3 := Lib.hid hS; have HG3 := Lib.hid hg; clear hS hg
      have q2 : IntKind.i64.wrap (1 + x2) = 1 + x2 := IntWalk.i64_in _ (by omega)
      go_wp2_with fail
      refine (specPick_any B b w3.heap.size [1 + x1, 1 + x2, 0, 1000000] 4 4 _ rfl (by omega) (by omega) (HS3.out.alloc _) (by have := HS3.out.lt; omega) (alloc_ints w3 2 _)).mono ?_
      rintro e w4 ⟨p, rfl, hp, hS, hg⟩
      have HS4 := Lib.hid hS; have HG4 := Lib.hid (grown_trans (grown_trans HG3.out (grown_alloc _ _ _)) hg)
      clear hS hg hp
      go_wp2_with fail
      go_ret
      exact ⟨_, rfl, HS4.out, HG4.out⟩
  · have h0b : decide ((n : Int) > 0) = false := decide_eq_false (by omega)
    go_wp2_with fail
    refine (HEND.out w HS.out (grown_refl _ _)).mono ?_; rintro e w2 ⟨x1, rfl, ⟨l1, u1⟩, hS, hg⟩
    have HS2 := Lib.hid hS; have HG2 := Lib.hid hg; clear hS hg
    have q1 : IntKind.i64.wrap (1 + x1) = 1 + x1 := IntWalk.i64_in _ (by omega)
    go_wp2_with fail
    refine (HEND.out w2 HS2.out HG2.out).mono ?_; rintro e w3 ⟨x2, rfl, ⟨l2, u2⟩, hS, hg⟩
    have HS3 := Lib.hid hS; have HG3 := Lib.hid hg; clear hS hg
    have q2 : IntKind.i64.wrap (1 + x2) = 1 + x2 := IntWalk.i64_in _ (by omega)
    go_wp2_with fail
    refine (specPick_any B b w3.heap.size [1 + x1, 1 + x2, 0, 1000000] 4 4 _ rfl (by omega) (by omega) (HS3.out.alloc _) (by have := HS3.out.lt; omega) (alloc_ints w3 2 _)).mono ?_
    rintro e w4 ⟨p, rfl, hp, hS, hg⟩
    have HS4 := Lib.hid hS; have HG4 := Lib.hid (grown_trans (grown_trans HG3.out (grown_alloc _ _ _)) hg)
    clear hS hg hp
    go_wp2_with fail
    go_ret
    exact ⟨_, rfl, HS4.out, HG4.out⟩

/-- a list and a number were drawn -/
def GaveCD (w : World) (e : Ending) (w' : World) : Prop := ∃ g cap ts d, e = .returned (.tuple #[.slice (some ⟨g, 0, none⟩) ts.length cap, .int .i64 d]) ∧ DrawnC w w' g cap 21 ts ∧ Below w.heap.size w w'
/-- numbers, a list and two numbers were drawn -/
def GaveCH (w : World) (e : Ending) (w' : World) : Prop := ∃ ah ch hs g cap ts n d, e = .returned (.tuple #[.slice ah hs.length ch, .slice (some ⟨g, 0, none⟩) ts.length cap, .int .i64 n, .int .i64 d]) ∧ hs.length ≤ 41 ∧ IntsAt w' ah hs ∧ (∀ x, ah = some x → w.heap.size ≤ x.block) ∧ DrawnC w w' g cap 21 ts ∧ Below w.heap.size w w'

set_option maxRecDepth 100000 in
set_option maxHeartbeats 4000000 in
theorem specDrawCrowdedDays_any (a : Option Addr) (len cap : Nat) (bs : List Int) (w : World) (hl : bs.length = len) (hm : len ≤ 4096) (h : BytesAt w.heap.size w a bs) :
    Calls Try.prog 36 #[.slice a len cap] w (GaveCD w) := by
  have HC := Lib.hid (specFrom_any a len cap bs w hl hm h)
  clear h hl
  go_enter Try.func36, Try.ntmps36
  go_wp2_with fail
  refine HC.out.mono ?_; rintro e w1 ⟨b, rfl, hS, hB⟩
  have HB1 := Lib.hid hB; have hsz1 := hB.size; have hbs := hS.base; have hb1 := hS.lt; have HS1 := Lib.hid hS
  clear hS hB HC
  go_wp2_with fail
  refine (specList10_any w.heap.size b w1 HS1.out).mono ?_; rintro e w2 ⟨g, cap2, ts, rfl, hd, hS, hg⟩
  have hgb : g ≠ b := by have := hd.base; omega
  have HB2 := Lib.hid (HB1.out.trans (grown_below hg hbs (by omega))); have hsz2 : w.heap.size ≤ w2.heap.size := HB2.out.size; have hb2 := hS.lt; have HS2 := Lib.hid hS
  have HD2 := Lib.hid (hd.base_le hsz1)
  clear hd
  clear hS hg HS1 HB1
  go_wp2_with fail
  refine (specPick_any w.heap.size b w2.heap.size [0, 1, 2, 20, 21, -1] 6 6 _ rfl (by omega) (by omega) (HS2.out.alloc _) (by have := HS2.out.lt; omega) (alloc_ints w2 2 _)).mono ?_
  rintro e w3 ⟨x, rfl, hx, hS, hg⟩
  have hg' := grown_trans (grown_alloc w2 (.cells #[.int .i64 0, .int .i64 1, .int .i64 2, .int .i64 20, .int .i64 21, .int .i64 (-1)] 2) (some b)) hg
  clear hx
  have HB3 := Lib.hid (HB2.out.trans (grown_below hg' hbs (by omega))); have hsz3 : w.heap.size ≤ w3.heap.size := HB3.out.size; have hb3 := hS.lt; have HS3 := Lib.hid hS
  have HD3 := Lib.hid (HD2.out.next hg' hgb)
  clear hS hg hg' HS2 HB2 HD2
  go_wp2_with fail
  go_ret2
  exact ⟨g, cap2, ts, x, rfl, HD3.out, HB3.out⟩

set_option maxRecDepth 100000 in
set_option maxHeartbeats 4000000 in
theorem specDrawDropCall_any (a : Option Addr) (len cap : Nat) (bs : List Int) (w : World) (hl : bs.length = len) (hm : len ≤ 4096) (h : BytesAt w.heap.size w a bs) :
    Calls Try.prog 22 #[.slice a len cap] w (GaveCD w) := by
  have HC := Lib.hid (specFrom_any a len cap bs w hl hm h)
  clear h hl
  go_enter Try.func22, Try.ntmps22
  go_wp2_with fail
  refine HC.out.mono ?_; rintro e w1 ⟨b, rfl, hS, hB⟩
  have HB1 := Lib.hid hB; have hsz1 := hB.size; have hbs := hS.base; have hb1 := hS.lt; have HS1 := Lib.hid hS
  clear hS hB HC
  go_wp2_with fail
  refine (specList10_any w.heap.size b w1 HS1.out).mono ?_; rintro e w2 ⟨g, cap2, ts, rfl, hd, hS, hg⟩
  have hgb : g ≠ b := by have := hd.base; omega
  have HB2 := Lib.hid (HB1.out.trans (grown_below hg hbs (by omega))); have hsz2 : w.heap.size ≤ w2.heap.size := HB2.out.size; have hb2 := hS.lt; have HS2 := Lib.hid hS
  have HD2 := Lib.hid (hd.base_le hsz1)
  clear hd
  clear hS hg HS1 HB1
  go_wp2_with fail
  refine (specNumber10_any w.heap.size b g cap2 ts w2 HS2.out HD2.out.reads hgb HD2.out.len).mono ?_; rintro e w3 ⟨x, rfl, hS, hg⟩
  have HB3 := Lib.hid (HB2.out.trans (grown_below hg hbs (by omega))); have hsz3 : w.heap.size ≤ w3.heap.size := HB3.out.size; have hb3 := hS.lt; have HS3 := Lib.hid hS
  have HD3 := Lib.hid (HD2.out.next hg hgb)
  clear hS hg HS2 HB2 HD2
  go_wp2_with fail
  go_ret2
  exact ⟨g, cap2, ts, x, rfl, HD3.out, HB3.out⟩

set_option maxRecDepth 100000 in
set_option maxHeartbeats 4000000 in
theorem specDrawCalledOn_any (a : Option Addr) (len cap : Nat) (bs : List Int) (w : World) (hl : bs.length = len) (hm : len ≤ 4096) (h : BytesAt w.heap.size w a bs) :
    Calls Try.prog 34 #[.slice a len cap] w (GaveCD w) := by
  have HC := Lib.hid (specFrom_any a len cap bs w hl hm h)
  clear h hl
  go_enter Try.func34, Try.ntmps34
  go_wp2_with fail
  refine HC.out.mono ?_; rintro e w1 ⟨b, rfl, hS, hB⟩
  have HB1 := Lib.hid hB; have hsz1 := hB.size; have hbs := hS.base; have hb1 := hS.lt; have HS1 := Lib.hid hS
  clear hS hB HC
  go_wp2_with fail
  refine (specList10_any w.heap.size b w1 HS1.out).mono ?_; rintro e w2 ⟨g, cap2, ts, rfl, hd, hS, hg⟩
  have hgb : g ≠ b := by have := hd.base; omega
  have HB2 := Lib.hid (HB1.out.trans (grown_below hg hbs (by omega))); have hsz2 : w.heap.size ≤ w2.heap.size := HB2.out.size; have hb2 := hS.lt; have HS2 := Lib.hid hS
  have HD2 := Lib.hid (hd.base_le hsz1)
  clear hd
  clear hS hg HS1 HB1
  obtain ⟨n, hn⟩ : ∃ n, ts.length = n := ⟨_, rfl⟩
  by_cases h0 : 0 < n
  · have h0b : decide ((n : Int) > 0) = true := decide_eq_true (by omega)
    obtain ⟨s, hs⟩ : ∃ s, ts[0]? = some s := ⟨_, List.getElem?_eq_getElem (by omega)⟩
    have HSE := Lib.hid hs; have HN := Lib.hid hn
    rw [hn]; clear hn hs
    go_wp2_with fail
    refine (specNext_any w.heap.size b 2 w2 (by omega) HS2.out).mono ?_; rintro e w3 ⟨y, rfl, hx, _, hS, hg⟩
    obtain ⟨ly, uy⟩ := hx (by omega)
    clear hx
    have HB3 := Lib.hid (HB2.out.trans (grown_below hg hbs (by omega))); have hsz3 : w.heap.size ≤ w3.heap.size := HB3.out.size; have hb3 := hS.lt; have HS3 := Lib.hid hS
    have HD3 := Lib.hid (HD2.out.next hg hgb)
    clear hS hg HS2 HB2 HD2
    by_cases hy0 : y = 0
    · have hyb : (y == 0) = true := beq_iff_eq.2 hy0
      have hcell : w3.cell? ⟨g, 2, none⟩ = some (.int .i64 s.day) := by
        rcases HD3.out.reads with rfl | ⟨b', off, e, hx⟩
        · have := HSE.out; simp at this
        · cases e; have := (hx 0 s HSE.out).2.2.1; simpa using this
      have hn0 : (0 : Int) < (n : Int) := by omega
      clear hy0
      go_wp2_with fail
      go_quiet (fail)
      go_wp2_with fail
      go_ret2
      exact ⟨g, cap2, ts, _, by rw [HN.out]; rfl, HD3.out.later (Go.below_drewN (Below.refl _ _) _), HB3.out.trans (Go.below_drewN (Below.refl _ _) _)⟩
    · have hyb : (y == 0) = false := beq_eq_false_iff_ne.2 hy0
      clear hy0
      go_wp2_with fail
      refine (specDay10_any w.heap.size b w3 HS3.out).mono ?_; rintro e w4 ⟨x, rfl, hx, hS, hg⟩
      clear hx
      have HB4 := Lib.hid (HB3.out.trans (grown_below hg hbs (by omega))); have hsz4 : w.heap.size ≤ w4.heap.size := HB4.out.size; have hb4 := hS.lt; have HS4 := Lib.hid hS
      have HD4 := Lib.hid (HD3.out.next hg hgb)
      clear hS hg HS3 HB3 HD3
      go_wp2_with fail
      go_ret2
      exact ⟨g, cap2, ts, x, by rw [HN.out]; rfl, HD4.out, HB4.out⟩
  · have h0b : decide ((n : Int) > 0) = false := decide_eq_false (by omega)
    have HN := Lib.hid hn
    rw [hn]; clear hn
    go_wp2_with fail
    refine (specDay10_any w.heap.size b w2 HS2.out).mono ?_; rintro e w3 ⟨x, rfl, hx, hS, hg⟩
    clear hx
    have HB3 := Lib.hid (HB2.out.trans (grown_below hg hbs (by omega))); have hsz3 : w.heap.size ≤ w3.heap.size := HB3.out.size; have hb3 := hS.lt; have HS3 := Lib.hid hS
    have HD3 := Lib.hid (HD2.out.next hg hgb)
    clear hS hg HS2 HB2 HD2
    go_wp2_with fail
    go_ret2
    exact ⟨g, cap2, ts, x, by rw [HN.out]; rfl, HD3.out, HB3.out⟩

set_option maxRecDepth 100000 in
set_option maxHeartbeats 4000000 in
theorem specDrawAddCall_any (a : Option Addr) (len cap : Nat) (bs : List Int) (w : World) (hl : bs.length = len) (hm : len ≤ 4096) (h : BytesAt w.heap.size w a bs) :
    Calls Try.prog 19 #[.slice a len cap] w (GaveCH w) := by
  have HC := Lib.hid (specFrom_any a len cap bs w hl hm h)
  clear h hl
  go_enter Try.func19, Try.ntmps19
  go_wp2_with fail
  refine HC.out.mono ?_; rintro e w1 ⟨b, rfl, hS, hB⟩
  have HB1 := Lib.hid hB; have hsz1 := hB.size; have hbs := hS.base; have hb1 := hS.lt; have HS1 := Lib.hid hS
  clear hS hB HC
  go_wp2_with fail
  refine (specHolidays_any w.heap.size b w1 HS1.out).mono ?_; rintro e w2 ⟨ah, ch, hs, rfl, hhl, hh, hhb, hS, hB⟩
  have HB2 := Lib.hid (HB1.out.trans hB); have hsz2 := HB2.out.size; have HH2 := Lib.hid hh; have HHB := Lib.hid hhb; have hb2 := hS.lt; have HS2 := Lib.hid hS
  clear hh hhb hS hB HS1 HB1
  go_wp2_with fail
  refine (specList10_any w.heap.size b w2 HS2.out).mono ?_; rintro e w3 ⟨g, cap2, ts, rfl, hd, hS, hg⟩
  have hgb : g ≠ b := by have := hd.base; omega
  have HB3 := Lib.hid (HB2.out.trans (grown_below hg hbs (by omega))); have hsz3 : w.heap.size ≤ w3.heap.size := HB3.out.size; have hb3 := hS.lt; have HS3 := Lib.hid hS
  have HH3 := Lib.hid (ints_keep HH2.out HHB.out hg (Nat.lt_succ_self b))
  have HD3 := Lib.hid (hd.base_le hsz2)
  clear hd
  clear hS hg HS2 HB2 HH2
  go_wp2_with fail
  refine (specNext_any w.heap.size b 60 w3 (by omega) HS3.out).mono ?_; rintro e w4 ⟨x1, rfl, hx, _, hS, hg⟩
  obtain ⟨lx1, ux1⟩ := hx (by omega)
  clear hx
  have HB4 := Lib.hid (HB3.out.trans (grown_below hg hbs (by omega))); have hsz4 : w.heap.size ≤ w4.heap.size := HB4.out.size; have hb4 := hS.lt; have HS4 := Lib.hid hS
  have HH4 := Lib.hid (ints_keep HH3.out HHB.out hg (Nat.lt_succ_self b))
  have HD4 := Lib.hid (HD3.out.next hg hgb)
  clear hS hg HS3 HB3 HH3 HD3
  have q1 : IntKind.i64.wrap (1 + x1) = 1 + x1 := IntWalk.i64_in _ (by omega)
  go_wp2_with fail
  refine (specNext_any w.heap.size b 60 w4 (by omega) HS4.out).mono ?_; rintro e w5 ⟨x2, rfl, hx, _, hS, hg⟩
  obtain ⟨lx2, ux2⟩ := hx (by omega)
  clear hx
  have HB5 := Lib.hid (HB4.out.trans (grown_below hg hbs (by omega))); have hsz5 : w.heap.size ≤ w5.heap.size := HB5.out.size; have hb5 := hS.lt; have HS5 := Lib.hid hS
  have HH5 := Lib.hid (ints_keep HH4.out HHB.out hg (Nat.lt_succ_self b))
  have HD5 := Lib.hid (HD4.out.next hg hgb)
  clear hS hg HS4 HB4 HH4 HD4
  have q2 : IntKind.i64.wrap (1 + x2) = 1 + x2 := IntWalk.i64_in _ (by omega)
  go_wp2_with fail
  refine (specNumber10_any w.heap.size b g cap2 ts w5 HS5.out HD5.out.reads hgb HD5.out.len).mono ?_; rintro e w6 ⟨x3, rfl, hS, hg⟩
  have HB6 := Lib.hid (HB5.out.trans (grown_below hg hbs (by omega))); have hsz6 : w.heap.size ≤ w6.heap.size := HB6.out.size; have hb6 := hS.lt; have HS6 := Lib.hid hS
  have HH6 := Lib.hid (ints_keep HH5.out HHB.out hg (Nat.lt_succ_self b))
  have HD6 := Lib.hid (HD5.out.next hg hgb)
  clear hS hg HS5 HB5 HH5 HD5
  go_wp2_with fail
  refine (specPick_any w.heap.size b w6.heap.size [1 + x1, 1 + x2, x3] 3 3 _ rfl (by omega) (by omega) (HS6.out.alloc _) (by have := HS6.out.lt; omega) (alloc_ints w6 2 _)).mono ?_
  rintro e w7 ⟨x, rfl, hx, hS, hg⟩
  have hg' := grown_trans (grown_alloc w6 (.cells #[.int .i64 (1 + x1), .int .i64 (1 + x2), .int .i64 x3] 2) (some b)) hg
  clear hx
  have HB7 := Lib.hid (HB6.out.trans (grown_below hg' hbs (by omega))); have hsz7 : w.heap.size ≤ w7.heap.size := HB7.out.size; have hb7 := hS.lt; have HS7 := Lib.hid hS
  have HH7 := Lib.hid (ints_keep HH6.out HHB.out hg' (Nat.lt_succ_self b))
  have HD7 := Lib.hid (HD6.out.next hg' hgb)
  clear hS hg hg' HS6 HB6 HH6 HD6
  go_wp2_with fail
  refine (specDay10_any w.heap.size b w7 HS7.out).mono ?_; rintro e w8 ⟨y, rfl, hx, hS, hg⟩
  clear hx
  have HB8 := Lib.hid (HB7.out.trans (grown_below hg hbs (by omega))); have hsz8 : w.heap.size ≤ w8.heap.size := HB8.out.size; have hb8 := hS.lt; have HS8 := Lib.hid hS
  have HH8 := Lib.hid (ints_keep HH7.out HHB.out hg (Nat.lt_succ_self b))
  have HD8 := Lib.hid (HD7.out.next hg hgb)
  clear hS hg HS7 HB7 HH7 HD7
  go_wp2_with fail
  (try simp only [Exit.inBlock, Exit.then])
  refine bodyPost_ret (results_four10 rfl _ _ _) rfl ?_
  exact ⟨ah, ch, hs, g, cap2, ts, x, y, rfl, hhl, HH8.out, (fun x e => by have := HHB.out x e; omega), HD8.out, HB8.out⟩

end Go.Proofs.Ytekhdggaelppkaa
