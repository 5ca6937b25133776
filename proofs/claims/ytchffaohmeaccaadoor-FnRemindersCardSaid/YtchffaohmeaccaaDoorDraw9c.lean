/- Contracts: spec.DrawRemindersOn, spec.DrawNextReminder. -/
import Derived.Test.YtchffaohmeaccaaDoorChecked
import Derived.Test.YtchffaohmeaccaaDoorBase
import Derived.Test.YtchffaohmeaccaaDoorInfo
import Derived.Test.YtchffaohmeaccaaDoorPure6
import Derived.Test.YtchffaohmeaccaaDoorNext
import Derived.Test.YtchffaohmeaccaaDoorPick
import Derived.Test.YtchffaohmeaccaaDoorFrom
import Derived.Test.YtchffaohmeaccaaDoorFacts
import Derived.Test.YtchffaohmeaccaaDoorDraw9a
import Derived.Test.YtchffaohmeaccaaDoorDraw9b
import Derived.WalkKit
import Derived.WalkSpells
import Derived.WalkLawsBesides
import Derived.Lib.Hide
import Derived.IntWalk
import Derived.OwnWalk
import Derived.Outline
namespace Go.Proofs.YtchffaohmeaccaaDoor
open Go.RowKit Pure1 Pure2 Pure6

def IntIn9 (lo hi : Int) (v : Value) : Prop := ∃ x, v = .int .i64 x ∧ lo ≤ x ∧ x ≤ hi
theorem DrawnAt.base_le {w0 w1 w : World} {g cap m : Nat} {ts : List Summons} (h : DrawnAt w1 w g cap m ts) (hs : w0.heap.size ≤ w1.heap.size) : DrawnAt w0 w g cap m ts :=
  ⟨h.cap, Nat.le_trans hs h.base, h.lt, h.reads, h.len, h.small⟩
/-- a list of summonses and a day -/
def GaveMD (w : World) (e : Ending) (w' : World) : Prop := ∃ g cap ts d, e = .returned (.tuple #[.slice (some ⟨g, 0, none⟩) ts.length cap, .int .i64 d]) ∧ DrawnAt w w' g cap 21 ts ∧ (-20 ≤ d ∧ d ≤ 100100) ∧ Below w.heap.size w w'

/-- what each operation of the drawn end leaves -/
def RG9 (b g n cap : Nat) : Nat → Value → World → Prop
  | 0, v, _ | 1, v, _ | 3, v, _ | 13, v, _ => v = .slice (some ⟨g, 0, none⟩) n cap
  | 2, v, _ | 9, v, _ => v = .pointer (some ⟨b, 0, none⟩)
  | 4, v, _ => v = .int .i64 n
  | 5, v, _ => ∃ m : Nat, v = .int .i64 m ∧ m < n
  | 6, v, _ => ∃ m : Nat, v = .pointer (some ⟨g, m * 5, none⟩) ∧ m < n
  | 7, v, _ => ∃ m : Nat, v = .pointer (some ⟨g, m * 5 + 2, none⟩) ∧ m < n
  | 8, v, _ => IntIn9 (-20) 100000 v
  | 10, v, w => ∃ q, v = .slice (some ⟨q, 0, none⟩) 6 6 ∧ q ≠ b ∧ ∀ i x, [(1 : Int), 15, 29, 43, 2, 0][i]? = some x → w.cell? ⟨q, i, none⟩ = some (.int .i64 x)
  | 11, v, _ => IntIn9 0 100 v
  | 12, v, _ | 14, v, _ => IntIn9 (-20) 100100 v
  | _, _, _ => True

set_option maxRecDepth 100000 in
set_option maxHeartbeats 4000000 in
theorem specDrawRem_any (a : Option Addr) (len cap : Nat) (bs : List Int) (w : World) (hl : bs.length = len) (hm : len ≤ 4096) (h : BytesAt w.heap.size w a bs) :
    Calls Tryd.prog 12 #[.slice a len cap] w (GaveMD w) := by
  have HC := Lib.hid (specFrom_any a len cap bs w hl hm h)
  clear h hl
  obtain ⟨B, hBe⟩ : ∃ B, w.heap.size = B := ⟨_, rfl⟩
  have HBE := Lib.hid hBe
  clear hBe
  go_enter Tryd.func12, Tryd.ntmps12
  go_wp2_with fail
  refine HC.out.mono ?_; rintro e w1 ⟨b, rfl, hS, hB⟩
  have HB := Lib.hid hB; have hsz := hB.size; have hbs := hS.base; have hb1 := hS.lt
  have HL := Lib.hid (specList9_any w.heap.size b w1 hS); clear hS hB HC
  go_wp2_with fail
  refine HL.out.mono ?_; rintro e w2 ⟨g, cap2, ts, rfl, hd, hS, hg⟩
  have hgb : g ≠ b := by have := hd.base; omega
  have HB2 := Lib.hid (HB.out.trans (grown_below hg hbs hsz)); have hsz2 := hg.size
  have HD2 := Lib.hid (hd.base_le hsz); have HS2 := Lib.hid hS
  clear hd hS hg HL
  go_wp2_with fail
  refine (specDay9d_any w.heap.size b w2 HS2.out).mono ?_; rintro e w3 ⟨day, rfl, hday, hS, hg⟩
  have HB3 := Lib.hid (HB2.out.trans (grown_below hg hbs (by omega))); have hsz3 := hg.size
  have HD3 := Lib.hid (HD2.out.next hg hgb); have HS3 := Lib.hid hS
  clear hS hg HS2 HD2 HB2
  by_cases h0 : 0 < ts.length
  · have h0b : decide ((ts.length : Int) > 0) = true := decide_eq_true (by omega)
    go_wp2_with fail
    refine (specNext_any w.heap.size b 3 w3 (by omega) HS3.out).mono ?_; rintro e w4 ⟨y, rfl, hy, _, hS, hg⟩
    obtain ⟨ly, uy⟩ := hy (by omega)
    have HB4 := Lib.hid (HB3.out.trans (grown_below hg hbs (by omega))); have hsz4 := hg.size
    have HD4 := Lib.hid (HD3.out.next hg hgb); have HS4 := Lib.hid hS
    clear hS hg hy HS3 HD3 HB3
    by_cases hy0 : 0 < y
    · have hyb : decide (y > 0) = true := decide_eq_true hy0
      go_wp2_with fail
      obtain ⟨n, hn⟩ : ∃ n, ts.length = n := ⟨_, rfl⟩
      have hn0 : n ≤ 21 := by have := HD4.out.len; omega
      rw [hn]
      have hcell : ∀ W : World, (Src w.heap.size 79 W b ∧ w4.grownBy W (some b)) → ∀ m, m < n → ∃ x, W.cell? ⟨g, m * 5 + 2, none⟩ = some (.int .i64 x) ∧ -20 ≤ x ∧ x ≤ 100000 := fun W hW m hmn => by
        obtain ⟨s, hs⟩ : ∃ s, ts[m]? = some s := ⟨_, List.getElem?_eq_getElem (by omega)⟩
        have hr := ListAt_grown9 HD4.out.reads hW.2 hgb
        have hss := (HD4.out.small m s hs).2
        rcases hr with rfl | ⟨b', off, e, hx⟩
        · simp at hs
        · cases e
          have := (hx m s hs).2.2.1
          rw [Nat.zero_add] at this
          exact ⟨s.due, this, hss⟩
      have hBq : Src w.heap.size 79 w4.drew b ∧ w4.grownBy w4.drew (some b) := ⟨HS4.out.kept rfl (Below.drew (Below.refl _ _)), rfl, rfl, rfl, Nat.le_refl _, fun _ _ _ => rfl⟩
      refine wp_region_facts (sz := 36) [4, 5] (by kernel_rfl) (by kernel_rfl) (by kernel_rfl) (fun W => Src w.heap.size 79 W b ∧ w4.grownBy W (some b)) (fun W W' => W.grownBy W' (some b)) (RG9 b g n cap2) rfl hBq ?_ ?_ ?_
      · intro j v w2 w3 hf hR
        unfold RG9 at hf ⊢
        split at hf <;> first | exact hf | trivial | skip
        obtain ⟨g, e, hgb, hz⟩ := hf
        exact ⟨g, e, hgb, fun i x hx => hR.cell (hz i x hx) (by intro e; exact hgb (Option.some.inj e))⟩
      · intro i o ho
        match i, ho with
        | 0, ho =>
          cases ho
          intro ev w' hc hfn hb hG hd
          have h0 : ev (.tmp 5) = .slice (some ⟨g, 0, none⟩) n cap2 := hb 5 (by simp)
          refine stepTo_gen fun K' hK => ?_
          simp [go_sem, stepTo, hc, hfn, h0]
          exact hK _ _ ⟨hG, grown_refl _ _, (fun h => by cases h), rfl⟩
        | 1, ho =>
          cases ho
          intro ev w' hc hfn hb hG hd
          have h0 : ev (.tmp 5) = .slice (some ⟨g, 0, none⟩) n cap2 := hb 5 (by simp)
          refine stepTo_gen fun K' hK => ?_
          simp [go_sem, stepTo, hc, hfn, h0]
          exact hK _ _ ⟨hG, grown_refl _ _, (fun h => by cases h), rfl⟩
        | 2, ho =>
          cases ho
          intro ev w' hc hfn hb hG hd
          have h0 : ev (.tmp 4) = .pointer (some ⟨b, 0, none⟩) := hb 4 (by simp)
          refine stepTo_gen fun K' hK => ?_
          simp [go_sem, stepTo, hc, hfn, h0]
          exact hK _ _ ⟨hG, grown_refl _ _, (fun h => by cases h), rfl⟩
        | 3, ho =>
          cases ho
          intro ev w' hc hfn hb hG hd
          have h0 : ev (.tmp 5) = .slice (some ⟨g, 0, none⟩) n cap2 := hb 5 (by simp)
          refine stepTo_gen fun K' hK => ?_
          simp [go_sem, stepTo, hc, hfn, h0]
          exact hK _ _ ⟨hG, grown_refl _ _, (fun h => by cases h), rfl⟩
        | 4, ho =>
          cases ho
          intro ev w' hc hfn hb hG hd
          have h0 : ev (.tmp 24) = .slice (some ⟨g, 0, none⟩) n cap2 := hd { on := 3, ground := .data } (by simp) rfl _ rfl
          refine stepTo_gen fun K' hK => ?_
          simp [go_sem, stepTo, hc, hfn, h0]
          exact hK _ _ ⟨hG, grown_refl _ _, (fun h => by cases h), rfl⟩
        | 5, ho =>
          cases ho
          intro ev w' hc hfn hb hG hd
          have h1 : ev (.tmp 23) = .pointer (some ⟨b, 0, none⟩) := hd { on := 2, ground := .data } (by simp) rfl _ rfl
          have h2 : ev (.tmp 25) = .int .i64 n := hd { on := 4, ground := .data } (by simp) rfl _ rfl
          refine stepTo_gen fun K' hK => ?_
          simp [go_sem, stepTo, hc, hfn, h1, h2]
          refine (specNext_any w.heap.size b n w' (by omega) hG.1).mono ?_
          rintro e w2 ⟨k, rfl, hk, hk1, hS, hg⟩
          obtain ⟨m, rfl, hm⟩ : ∃ m : Nat, k = m ∧ m < n := by
            by_cases h1 : 1 < n
            · have := hk (by omega); exact ⟨k.toNat, by omega, by omega⟩
            · have := hk1 (by omega); exact ⟨0, by omega, by omega⟩
          exact ⟨_, rfl, hK _ _ ⟨⟨hS, grown_trans hG.2 hg⟩, hg, (fun h => by cases h), m, rfl, hm⟩⟩
        | 6, ho =>
          cases ho
          intro ev w' hc hfn hb hG hd
          have h1 : ev (.tmp 22) = .slice (some ⟨g, 0, none⟩) n cap2 := hd { on := 1, ground := .data } (by simp) rfl _ rfl
          obtain ⟨m, h2, hmn⟩ : ∃ m : Nat, ev (.tmp 26) = .int .i64 m ∧ m < n := hd { on := 5, ground := .data } (by simp) rfl _ rfl
          have hmi : (m : Int) < n := by omega
          refine stepTo_gen fun K' hK => ?_
          simp [go_sem, stepTo, hc, hfn, h1, h2, hmi, hmn]
          exact hK _ _ ⟨hG, grown_refl _ _, (fun h => by cases h), m, by simp, hmn⟩
        | 7, ho =>
          cases ho
          intro ev w' hc hfn hb hG hd
          obtain ⟨m, h2, hmn⟩ : ∃ m : Nat, ev (.tmp 27) = .pointer (some ⟨g, m * 5, none⟩) ∧ m < n := hd { on := 6, ground := .data } (by simp) rfl _ rfl
          refine stepTo_gen fun K' hK => ?_
          simp [go_sem, stepTo, hc, hfn, h2]
          exact hK _ _ ⟨hG, grown_refl _ _, (fun h => by cases h), m, by simp, hmn⟩
        | 8, ho =>
          cases ho
          intro ev w' hc hfn hb hG hd
          obtain ⟨m, h2, hmn⟩ : ∃ m : Nat, ev (.tmp 28) = .pointer (some ⟨g, m * 5 + 2, none⟩) ∧ m < n := hd { on := 7, ground := .data } (by simp) rfl _ rfl
          obtain ⟨x, hx, hx0, hx1⟩ := hcell w' hG m hmn
          refine stepTo_gen fun K' hK => ?_
          simp [go_sem, stepTo, hc, hfn, h2, hx]
          exact hK _ _ ⟨hG, grown_refl _ _, (fun h => by cases h), x, rfl, hx0, hx1⟩
        | 9, ho =>
          cases ho
          intro ev w' hc hfn hb hG hd
          have h0 : ev (.tmp 4) = .pointer (some ⟨b, 0, none⟩) := hb 4 (by simp)
          refine stepTo_gen fun K' hK => ?_
          simp [go_sem, stepTo, hc, hfn, h0]
          exact hK _ _ ⟨hG, grown_refl _ _, (fun h => by cases h), rfl⟩
        | 10, ho =>
          cases ho
          intro ev w' hc hfn hb hG hd
          refine stepTo_gen fun K' hK => ?_
          simp [go_sem, stepTo, hc, hfn]
          exact hK _ _ ⟨⟨hG.1.alloc _, grown_trans hG.2 (grown_alloc _ _ _)⟩, grown_alloc _ _ _, (fun h => by cases h), _, rfl, by have := hG.1.lt; omega, alloc_ints w' 2 _⟩
        | 11, ho =>
          cases ho
          intro ev w' hc hfn hb hG hd
          have h1 : ev (.tmp 30) = .pointer (some ⟨b, 0, none⟩) := hd { on := 9, ground := .data } (by simp) rfl _ rfl
          obtain ⟨q, h2, hqb, hz⟩ : ∃ q, ev (.tmp 31) = .slice (some ⟨q, 0, none⟩) 6 6 ∧ q ≠ b ∧ ∀ i x, [(1 : Int), 15, 29, 43, 2, 0][i]? = some x → w'.cell? ⟨q, i, none⟩ = some (.int .i64 x) := hd { on := 10, ground := .data } (by simp) rfl _ rfl
          refine stepTo_gen fun K' hK => ?_
          simp [go_sem, stepTo, hc, hfn, h1, h2]
          refine (specPick_any w.heap.size b q [1, 15, 29, 43, 2, 0] 6 6 w' rfl (by omega) (by omega) hG.1 hqb hz).mono ?_
          rintro e w2 ⟨z, rfl, hz, hS, hg⟩
          have hz2 : 0 ≤ z ∧ z ≤ 100 := by simp at hz; omega
          exact ⟨_, rfl, hK _ _ ⟨⟨hS, grown_trans hG.2 hg⟩, hg, (fun h => by cases h), z, rfl, hz2.1, hz2.2⟩⟩
        | 12, ho =>
          cases ho
          intro ev w' hc hfn hb hG hd
          obtain ⟨x, h1, hx0, hx1⟩ : IntIn9 (-20) 100000 (ev (.tmp 29)) := hd { on := 8, ground := .data } (by simp) rfl _ rfl
          obtain ⟨y2, h2, hy0, hy1⟩ : IntIn9 0 100 (ev (.tmp 32)) := hd { on := 11, ground := .data } (by simp) rfl _ rfl
          have q1 : IntKind.i64.wrap (x + y2) = x + y2 := IntWalk.i64_in _ (by omega)
          refine stepTo_gen fun K' hK => ?_
          simp [go_sem, stepTo, hc, hfn, h1, h2, q1]
          exact hK _ _ ⟨hG, grown_refl _ _, (fun h => by cases h), x + y2, rfl, by omega, by omega⟩
        | 13, ho =>
          cases ho
          intro ev w' hc hfn hb hG hd
          have h0 : ev (.tmp 21) = .slice (some ⟨g, 0, none⟩) n cap2 := hd { on := 0, ground := .data } (by simp) rfl _ rfl
          refine stepTo_gen fun K' hK => ?_
          simp [go_sem, stepTo, hc, hfn, h0]
          exact hK _ _ ⟨hG, grown_refl _ _, (fun h => by cases h), rfl⟩
        | 14, ho =>
          cases ho
          intro ev w' hc hfn hb hG hd
          have h1 : IntIn9 (-20) 100100 (ev (.tmp 33)) := hd { on := 12, ground := .data } (by simp) rfl _ rfl
          refine stepTo_gen fun K' hK => ?_
          simp [go_sem, stepTo, hc, hfn]
          exact hK _ _ ⟨hG, grown_refl _ _, (fun h => by cases h), h1⟩
        | n + 15, ho => simp at ho
      · intro a' w' hb hs hdf hG hf
        obtain ⟨z, h3, hz0, hz1⟩ : IntIn9 (-20) 100100 (a'.eval (.tmp 3)) := hf 14 _ rfl
        have h2 : a'.eval (.tmp 2) = .slice (some ⟨g, 0, none⟩) n cap2 := hf 13 _ rfl
        have HF := Lib.hid (HD4.out.next hG.2 hgb)
        have HBF := Lib.hid (HB4.out.trans (grown_below hG.2 hbs (by omega)))
        obtain ⟨tmps, dfs⟩ := a'
        simp only at hdf
        subst hdf
        have h2' : tmps.getD 2 undef = .slice (some ⟨g, 0, none⟩) n cap2 := h2
        have h3' : tmps.getD 3 undef = .int .i64 z := h3
        clear hf hb h2 h3 hs hG
        go_wp2_with fail
        (try simp only [Exit.inBlock, Exit.then])
        refine bodyPost_ret (results_tmp2 rfl _ _ _) rfl ?_
        rw [h2', h3']
        exact ⟨g, cap2, ts, z, by rw [hn], HF.out, ⟨hz0, hz1⟩, HBF.out⟩
    · have hyb : decide (y > 0) = false := decide_eq_false hy0
      have HF := Lib.hid HD4.out
      go_wp2_with fail
      go_ret2
      exact ⟨g, cap2, ts, day, rfl, HD4.out, by omega, HB4.out⟩
  · have h0b : decide ((ts.length : Int) > 0) = false := decide_eq_false (by omega)
    go_wp2_with fail
    go_ret2
    exact ⟨g, cap2, ts, day, rfl, HD3.out, by omega, HB3.out⟩

set_option maxRecDepth 100000 in
set_option maxHeartbeats 2000000 in
theorem specDrawNextRem_any (a : Option Addr) (len cap : Nat) (bs : List Int) (w : World) (hl : bs.length = len) (hm : len ≤ 4096) (h : BytesAt w.heap.size w a bs) :
    Calls Tryd.prog 17 #[.slice a len cap] w (GaveMD w) := by
  have HC := Lib.hid (specDrawRem_any a len cap bs w hl hm h)
  clear h hl
  go_enter Tryd.func17, Tryd.ntmps17
  go_wp2_with fail
  refine HC.out.mono ?_; rintro e w1 ⟨g, cap2, ts, d, rfl, hd, hr, hB⟩
  have HD := Lib.hid hd; have HB := Lib.hid hB
  clear hd hB
  go_wp2_with fail
  go_ret2
  exact ⟨g, cap2, ts, d, rfl, HD.out, hr, HB.out⟩
end Go.Proofs.YtchffaohmeaccaaDoor
