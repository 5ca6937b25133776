/- Contracts: the drawing functions of chapter 5. -/
import Derived.Test.YtdeiillfdjebdaaChecked
import Derived.Test.YtdeiillfdjebdaaBase
import Derived.Test.YtdeiillfdjebdaaPure40
import Derived.Test.YtdeiillfdjebdaaPure6
import Derived.Test.YtdeiillfdjebdaaNext
import Derived.Test.YtdeiillfdjebdaaFrom
import Derived.Test.YtdeiillfdjebdaaPick
import Derived.Test.YtdeiillfdjebdaaPersLaw
import Derived.Test.YtdeiillfdjebdaaDraw4
import Derived.Test.YtdeiillfdjebdaaIns
import Derived.Test.YtdeiillfdjebdaaList4
import Derived.WalkKit
import Derived.WalkSpells
import Derived.WalkLawsBesides
import Derived.Lib.Hide
import Derived.IntWalk
import Derived.OwnWalk
import Derived.Outline
namespace Go.Proofs.Ytdeiillfdjebdaa
open Go.RowKit Pure1 Pure2 Pure6 Pure40

theorem small_fits5 {p : Pers} (h : Small p) : p.fits := by obtain ⟨h1, h2, _⟩ := h; unfold Pers.fits maxLen; omega
theorem smallL_fits {ps : List Pers} (h : SmallL ps) : Fits ps := fun p hp => small_fits5 (h p hp)
theorem lit_cells (w : World) (cs : Array Value) (T : TypeId) {i : Nat} {v : Value} (h : cs[i]? = some v) : (w.alloc (.cells cs T)).cell? ⟨w.heap.size, i, none⟩ = some v := by
  have h2 : (w.alloc (.cells cs T)).heap[w.heap.size]? = some (.cells cs T) := heap_alloc_new w _
  unfold World.cell?; rw [h2]; exact h

/-- persons and a limit are drawn -/
def GaveLim (B b : Nat) (w : World) (e : Ending) (w' : World) : Prop :=
  ∃ g cap qs x, e = .returned (.tuple #[.slice (some ⟨g, 0, none⟩) qs.length cap, .int .i64 x]) ∧ OwnP w' (b + 1) (.slice (some ⟨g, 0, none⟩) qs.length cap) qs ∧ qs.length ≤ 40 ∧ SmallL qs ∧ Src B 96 w' b ∧ Below B w w'

set_option maxRecDepth 100000 in
set_option maxHeartbeats 2000000 in
theorem specDraw5_any (B b : Nat) (w : World) (h : Src B 96 w b) :
    Calls Try.prog 50 #[.pointer (some ⟨b, 0, none⟩)] w (GaveLim B b w) := by
  have hbB := h.base
  have hbw := h.lt
  have HC := Lib.hid (specList4_any B b w h); clear h
  go_enter Try.func50, Try.ntmps50
  go_wp2_with fail
  refine HC.out.mono ?_; rintro e w2 ⟨v, qs, rfl, ho, hlq, hz, hS, hB⟩
  obtain ⟨g, cap, rfl⟩ := ho.1
  have HO2 := Lib.hid ho; have HZ := Lib.hid hz; have HS2 := Lib.hid hS; have HB2 := Lib.hid hB
  have hlt2 := hS.lt
  clear ho hz hS hB HC
  go_wp2_with fail
  refine (specNext_any B b 2 w2 (by omega) HS2.out).mono ?_; rintro e w3 ⟨x, rfl, hx, _, hS, hg⟩
  obtain ⟨l1, u1⟩ := hx (by omega)
  have HS3 := Lib.hid hS; have HO3 := Lib.hid (HO2.out.grown hg (by omega)); have HB3 := Lib.hid (HB2.out.trans (grown_below hg hbB (by omega)))
  have hlt3 := hS.lt
  clear hS hg hx
  have HP := Lib.hid (specPick_any B b w3.heap.size [60, 70, 80, 50, 65, 100, 0, 101 - 102 * x] 8 8 (w3.alloc (.cells #[.int .i64 60, .int .i64 70, .int .i64 80, .int .i64 50, .int .i64 65, .int .i64 100, .int .i64 0, .int .i64 (101 - 102 * x)] 2)) rfl (by omega) (by omega) (HS3.out.alloc _) (by omega) (fun i y hy => lit_cells w3 _ _ (by
    have hi := (List.getElem?_eq_some_iff.1 hy).1
    have hi : i < 8 := hi
    match i, hi with
    | 0, _ | 1, _ | 2, _ | 3, _ | 4, _ | 5, _ | 6, _ | 7, _ => cases hy; rfl)))
  have HO4 := Lib.hid (HO3.out.alloc (.cells #[.int .i64 60, .int .i64 70, .int .i64 80, .int .i64 50, .int .i64 65, .int .i64 100, .int .i64 0, .int .i64 (101 - 102 * x)] 2))
  have HB4 := Lib.hid (HB3.out.alloc (by omega) (.cells #[.int .i64 60, .int .i64 70, .int .i64 80, .int .i64 50, .int .i64 65, .int .i64 100, .int .i64 0, .int .i64 (101 - 102 * x)] 2))
  have hsz4 : B ≤ (w3.alloc (.cells #[.int .i64 60, .int .i64 70, .int .i64 80, .int .i64 50, .int .i64 65, .int .i64 100, .int .i64 0, .int .i64 (101 - 102 * x)] 2)).heap.size := by simp; omega
  go_wp2_with fail
  refine HP.out.mono ?_; rintro e w5 ⟨y, rfl, _, hS, hg⟩
  have HS5 := Lib.hid hS; have HO5 := Lib.hid (HO4.out.grown hg (by omega)); have HB5 := Lib.hid (HB4.out.trans (grown_below hg hbB hsz4))
  clear hS hg
  go_wp2_with fail
  go_ret2
  exact ⟨g, cap, qs, y, rfl, HO5.out, hlq, HZ.out, HS5.out, HB5.out⟩

/-- the drawn list lies at g: at most 40 small persons -/
def ListIn (w : World) (g cap : Nat) (qs : List Pers) : Prop := qs.length ≤ 40 ∧ SmallL qs ∧ PersAt w (some ⟨g, 0, none⟩) qs ∧ qs.length ≤ cap ∧ cap ≤ maxLen
theorem OwnP.cap {w : World} {B g n cap : Nat} {ps : List Pers} (h : OwnP w B (.slice (some ⟨g, 0, none⟩) n cap) ps) : ps.length ≤ cap ∧ cap ≤ maxLen := by
  rcases h.2.2 with ⟨h, _⟩ | ⟨g', cap', cur, h, _, _, h1, h2, _⟩
  · cases h
  · cases h; exact ⟨h1, h2⟩
theorem listIn {w : World} {B g n cap : Nat} {qs : List Pers} (h : OwnP w B (.slice (some ⟨g, 0, none⟩) n cap) qs) (hl : qs.length ≤ 40) (hz : SmallL qs) : ListIn w g cap qs := ⟨hl, hz, h.pers, h.cap.1, h.cap.2⟩
theorem ListIn.below {w w' : World} {g cap : Nat} {qs : List Pers} (h : ListIn w g cap qs) (hb : Below w.heap.size w w') : ListIn w' g cap qs := ⟨h.1, h.2.1, h.2.2.1.below hb, h.2.2.2⟩
theorem ListIn.kept {w w' : World} {g cap b : Nat} {qs : List Pers} (h : ListIn w g cap qs) (hg : w.grownBy w' (some b)) (hb : b ≠ g) : ListIn w' g cap qs := by
  refine ⟨h.1, h.2.1, ?_, h.2.2.2⟩
  rcases h.2.2.1 with h | ⟨b2, off, e, hc⟩
  · exact .inl h
  · cases e
    refine .inr ⟨_, _, rfl, fun i p hp => ?_⟩
    obtain ⟨c0, c1, c2, c3, c4⟩ := hc i p hp
    have hne : some g ≠ some b := fun e => by cases e; exact hb rfl
    exact ⟨hg.cell c0 hne, hg.cell c1 hne, hg.cell c2 hne, hg.cell c3 hne, hg.cell c4 hne⟩
def DrewL (w : World) (e : Ending) (w' : World) : Prop := ∃ g cap qs, e = .returned (.slice (some ⟨g, 0, none⟩) qs.length cap) ∧ ListIn w' g cap qs ∧ Below w.heap.size w w'
def DrewLim (w : World) (e : Ending) (w' : World) : Prop := ∃ g cap qs x, e = .returned (.tuple #[.slice (some ⟨g, 0, none⟩) qs.length cap, .int .i64 x]) ∧ ListIn w' g cap qs ∧ Below w.heap.size w w'
def DrewLim2 (w : World) (e : Ending) (w' : World) : Prop := ∃ g cap qs x y, e = .returned (.tuple #[.slice (some ⟨g, 0, none⟩) qs.length cap, .int .i64 x, .int .i64 y]) ∧ ListIn w' g cap qs ∧ w.heap.size ≤ g ∧ Below w.heap.size w w'
def DrewLim3 (w : World) (e : Ending) (w' : World) : Prop := ∃ g cap qs x y z, e = .returned (.tuple #[.slice (some ⟨g, 0, none⟩) qs.length cap, .int .i64 x, .int .i64 y, .int .i64 z]) ∧ ListIn w' g cap qs ∧ Below w.heap.size w w'
theorem results_tmp4 {fn : Func} {t u v x : Tmp} (h : fn.results = #[.tmp t, .tmp u, .tmp v, .tmp x]) (tmps : Array Value) (P : Program) (w : World) :
    (results fn tmps).run P w = .ok (.tuple #[tmps.getD t undef, tmps.getD u undef, tmps.getD v undef, tmps.getD x undef]) w := by
  simp [results, h]

set_option maxRecDepth 100000 in
set_option maxHeartbeats 2000000 in
theorem specDrawGroupsOf_any (a : Option Addr) (len cap : Nat) (bs : List Int) (w : World) (hl : bs.length = len) (hm : len ≤ 4096) (h : BytesAt w.heap.size w a bs) :
    Calls Try.prog 14 #[.slice a len cap] w (DrewLim w) := by
  have HF := Lib.hid (specFrom_any a len cap bs w hl hm h); clear h hl
  go_enter Try.func14, Try.ntmps14
  go_wp2_with fail
  refine HF.out.mono ?_; rintro e w1 ⟨b, rfl, hS, hB⟩
  have HB1 := Lib.hid hB; have HS1 := Lib.hid hS; clear hS hB
  go_wp2_with fail
  refine (specDraw5_any w.heap.size b w1 HS1.out).mono ?_; rintro e w2 ⟨g, cap2, qs, x, rfl, ho, hlq, hz, hS, hB⟩
  have HB2 := Lib.hid (HB1.out.trans hB); have HL := Lib.hid (listIn ho hlq hz); clear hB ho hz hS
  go_wp2_with fail
  go_ret2
  exact ⟨g, cap2, qs, x, rfl, HL.out, HB2.out⟩

set_option maxRecDepth 100000 in
set_option maxHeartbeats 2000000 in
theorem specDrawLeastSafeLimit_any (a : Option Addr) (len cap : Nat) (bs : List Int) (w : World) (hl : bs.length = len) (hm : len ≤ 4096) (h : BytesAt w.heap.size w a bs) :
    Calls Try.prog 23 #[.slice a len cap] w (DrewL w) := by
  have HF := Lib.hid (specFrom_any a len cap bs w hl hm h); clear h hl
  go_enter Try.func23, Try.ntmps23
  go_wp2_with fail
  refine HF.out.mono ?_; rintro e w1 ⟨b, rfl, hS, hB⟩
  have HB1 := Lib.hid hB; have HS1 := Lib.hid hS; clear hS hB
  go_wp2_with fail
  refine (specList4_any w.heap.size b w1 HS1.out).mono ?_; rintro e w2 ⟨v, qs, rfl, ho, hlq, hz, hS, hB⟩
  obtain ⟨g, cap2, rfl⟩ := ho.1
  have HB2 := Lib.hid (HB1.out.trans hB); have HL := Lib.hid (listIn ho hlq hz); clear hB ho hz hS
  go_wp2_with fail
  go_ret
  exact ⟨g, cap2, qs, rfl, HL.out, HB2.out⟩

set_option maxRecDepth 100000 in
set_option maxHeartbeats 2000000 in
theorem specDrawKeeperOf_any (a : Option Addr) (len cap : Nat) (bs : List Int) (w : World) (hl : bs.length = len) (hm : len ≤ 4096) (h : BytesAt w.heap.size w a bs) :
    Calls Try.prog 32 #[.slice a len cap] w (DrewLim2 w) := by
  have HF := Lib.hid (specFrom_any a len cap bs w hl hm h); clear h hl
  go_enter Try.func32, Try.ntmps32
  go_wp2_with fail
  refine HF.out.mono ?_; rintro e w1 ⟨b, rfl, hS, hB⟩
  have hbB := hS.base
  have HB1 := Lib.hid hB; have HS1 := Lib.hid hS; clear hS hB
  go_wp2_with fail
  refine (specDraw5_any w.heap.size b w1 HS1.out).mono ?_; rintro e w2 ⟨g, cap2, qs, x, rfl, ho, hlq, hz, hS, hB⟩
  have hlt2 := hS.lt
  have HB2 := Lib.hid (HB1.out.trans hB); have HO2 := Lib.hid ho; have HZ := Lib.hid hz; have HS2 := Lib.hid hS; clear hB ho hz hS
  go_wp2_with fail
  refine (specNext_any w.heap.size b ((qs.length : Int) + 1) w2 (by omega) HS2.out).mono ?_; rintro e w3 ⟨y, rfl, hy, hy0, hS, hg⟩
  have hyb : 0 ≤ y ∧ y ≤ 40 := by
    by_cases h1 : 1 < (qs.length : Int) + 1
    · have := hy h1; omega
    · have := hy0 (by omega); omega
  have hlt3 := hS.lt
  have HB3 := Lib.hid (HB2.out.trans (grown_below hg hbB HB2.out.size)); have HO3 := Lib.hid (HO2.out.grown hg (Nat.lt_succ_self b)); have HS3 := Lib.hid hS; clear hg hS hy hy0
  go_wp2_with fail
  refine (specNext_any w.heap.size b 24 w3 (by omega) HS3.out).mono ?_; rintro e w4 ⟨u, rfl, hu, _, hS, hg⟩
  obtain ⟨u1, u2⟩ := hu (by omega)
  have HB4 := Lib.hid (HB3.out.trans (grown_below hg hbB HB3.out.size)); have HO4 := Lib.hid (HO3.out.grown hg (Nat.lt_succ_self b)); clear hg hS hu
  have HL := Lib.hid (listIn HO4.out hlq HZ.out)
  go_wp2_with fail
  go_ret3
  exact ⟨g, cap2, qs, x, _, rfl, HL.out, by have := (HO4.out.2.lt g rfl).1; omega, HB4.out⟩

set_option maxRecDepth 100000 in
set_option maxHeartbeats 2000000 in
theorem specDrawChainBetween_any (a : Option Addr) (len cap : Nat) (bs : List Int) (w : World) (hl : bs.length = len) (hm : len ≤ 4096) (h : BytesAt w.heap.size w a bs) :
    Calls Try.prog 29 #[.slice a len cap] w (DrewLim3 w) := by
  have HF := Lib.hid (specFrom_any a len cap bs w hl hm h); have HH := Lib.hid h; have HLn := Lib.hid hl; clear h hl
  go_enter Try.func29, Try.ntmps29
  go_wp2_with fail
  refine HF.out.mono ?_; rintro e w1 ⟨b, rfl, hS, hB⟩
  have hbB := hS.base
  have HB1 := Lib.hid hB; have HS1 := Lib.hid hS; clear hS hB
  have HH1 := Lib.hid (HH.out.later HB1.out)
  go_wp2_with fail
  refine (specDrawKeeperOf_any a len cap bs w1 HLn.out hm HH1.out).mono ?_; rintro e w2 ⟨g, cap2, qs, x, y, rfl, hL, hgb, hB⟩
  have hbw := HS1.out.lt
  have HL2 := Lib.hid hL; have HS2 := Lib.hid (src_later HS1.out hB); have HB2 := Lib.hid (HB1.out.trans (hB.mono HB1.out.size))
  have hlq := hL.1
  clear hL hB
  go_wp2_with fail
  refine (specNext_any w.heap.size b ((qs.length : Int) + 1) w2 (by omega) HS2.out).mono ?_; rintro e w3 ⟨u, rfl, _, _, hS, hg⟩
  have HL3 := Lib.hid (HL2.out.kept hg (by omega)); have HB3 := Lib.hid (HB2.out.trans (grown_below hg hbB HB2.out.size))
  clear hS hg
  go_wp2_with fail
  (try simp only [Exit.inBlock, Exit.then])
  refine bodyPost_ret (results_tmp4 rfl _ _ _) rfl ?_
  exact ⟨g, cap2, qs, x, y, u, rfl, HL3.out, HB3.out⟩
end Go.Proofs.Ytdeiillfdjebdaa
