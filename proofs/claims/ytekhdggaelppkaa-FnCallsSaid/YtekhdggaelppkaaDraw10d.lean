/- Contracts: DrawMayMove, DrawMoveCall, DrawFirstRoom. (written by draw10c.py) -/
import Derived.Test.YtekhdggaelppkaaChecked
import Derived.Test.YtekhdggaelppkaaBase0
import Derived.Test.YtekhdggaelppkaaInfo
import Derived.Test.YtekhdggaelppkaaNext
import Derived.Test.YtekhdggaelppkaaPick
import Derived.Test.YtekhdggaelppkaaFrom
import Derived.Test.YtekhdggaelppkaaOwnK
import Derived.Test.YtekhdggaelppkaaDrawH
import Derived.Test.YtekhdggaelppkaaDraw10a
import Derived.Test.YtekhdggaelppkaaDraw10b
import Derived.Test.YtekhdggaelppkaaPure100
import Derived.Test.YtekhdggaelppkaaDraw10c
import Derived.Test.YtekhdggaelppkaaFacts
import Derived.Test.YtekhdggaelppkaaSpec102
import Derived.RegionTactic
import Derived.WalkKit
import Derived.WalkSpells
import Derived.WalkLawsBesides
import Derived.Lib.Hide
import Derived.IntWalk
import Derived.OwnWalk
import Derived.Deep.QuietTactic
import Derived.BigQuiet
import Derived.Outline
namespace Go.Proofs.Ytekhdggaelppkaa
open Go.RowKit Pure1 Pure2 Pure6

def RM10 (b g n k cap2 : Nat) (hv : Value) (x f d : Int) : Nat → Value → World → Prop
  | 0, v, _ | 38, v, _ => v = hv
  | 1, v, _ | 4, v, _ | 13, v, _ | 19, v, _ | 25, v, _ | 30, v, _ | 39, v, _ => v = .slice (some ⟨g, 0, none⟩) n cap2
  | 2, v, _ | 40, v, _ => v = .int .i64 x
  | 3, v, _ | 10, v, _ => v = .pointer (some ⟨b, 0, none⟩)
  | 5, v, _ | 14, v, _ | 20, v, _ | 26, v, _ | 31, v, _ => v = .int .i64 (k : Int)
  | 6, v, _ | 15, v, _ | 21, v, _ | 27, v, _ | 32, v, _ => v = .pointer (some ⟨g, k * 4, none⟩)
  | 7, v, _ | 28, v, _ | 33, v, _ => v = .pointer (some ⟨g, k * 4 + 2, none⟩)
  | 16, v, _ | 22, v, _ => v = .pointer (some ⟨g, k * 4 + 1, none⟩)
  | 8, v, _ | 29, v, _ | 34, v, _ => v = .int .i64 d
  | 17, v, _ | 23, v, _ => v = .int .i64 f
  | 9, v, _ => v = .int .i64 (d + 1)
  | 11, v, _ => ∃ z : Int, v = .int .i64 z ∧ 0 ≤ z ∧ z < 20
  | 12, v, _ => ∃ z : Int, v = .int .i64 z
  | 18, v, _ => v = .int .i64 (f + 180)
  | 24, v, _ => v = .int .i64 (f + 181)
  | 35, v, _ => v = .int .i64 (d + 7)
  | 36, v, W => ∃ (q : Nat) (xs : List Int), v = .slice (some ⟨q, 0, none⟩) 5 5 ∧ q ≠ b ∧ xs.length = 5 ∧ ∀ i y, xs[i]? = some y → W.cell? ⟨q, i, none⟩ = some (.int .i64 y)
  | 37, v, _ | 41, v, _ => ∃ z : Int, v = .int .i64 z
  | _, _, _ => True

set_option maxRecDepth 100000 in
set_option maxHeartbeats 4000000 in
theorem specDrawMayMove_any (a : Option Addr) (len cap : Nat) (bs : List Int) (w : World) (hl : bs.length = len) (hm : len ≤ 4096) (h : BytesAt w.heap.size w a bs) :
    Calls Try.prog 49 #[.slice a len cap] w (GaveCH w) := by
  have HC := Lib.hid (specFrom_any a len cap bs w hl hm h)
  clear h hl
  go_enter Try.func49, Try.ntmps49
  go_wp2_with fail
  refine HC.out.mono ?_; rintro e w1 ⟨b, rfl, hS, hB⟩
  have HB1 := Lib.hid hB; have hsz1 := hB.size; have hbs := hS.base; have hb1 := hS.lt; have HS1 := Lib.hid hS
  clear hS hB HC
  go_wp2_with fail
  refine (specHolidays_any w.heap.size b w1 HS1.out).mono ?_; rintro e w2 ⟨ah, ch, hs, rfl, hhl, hh, hhb, hS, hB⟩
  have HB2 := Lib.hid (HB1.out.trans hB); have hsz2 := HB2.out.size; have HH2 := Lib.hid hh; have HHB := Lib.hid hhb; have hb2 := hS.lt; have HS2 := Lib.hid hS
  clear hh hhb hS hB HS1 HB1
  go_wp2_with fail
  refine (specList10_any w.heap.size b w2 HS2.out).mono ?_; rintro e w3 ⟨g, cap2, ts, rfl, hd, hS, hg⟩
  have hgb : g ≠ b := by have := hd.base; omega
  have HB3 := Lib.hid (HB2.out.trans (grown_below hg hbs (by omega))); have hsz3 : w.heap.size ≤ w3.heap.size := HB3.out.size; have hb3 := hS.lt; have HS3 := Lib.hid hS
  have HH3 := Lib.hid (ints_keep HH2.out HHB.out hg (Nat.lt_succ_self b))
  have HD3 := Lib.hid (hd.base_le hsz2)
  clear hd
  clear hS hg HS2 HB2 HH2
  go_wp2_with fail
  refine (specNumber10_any w.heap.size b g cap2 ts w3 HS3.out HD3.out.reads hgb HD3.out.len).mono ?_; rintro e w4 ⟨x, rfl, hS, hg⟩
  have HB4 := Lib.hid (HB3.out.trans (grown_below hg hbs (by omega))); have hsz4 : w.heap.size ≤ w4.heap.size := HB4.out.size; have hb4 := hS.lt; have HS4 := Lib.hid hS
  have HH4 := Lib.hid (ints_keep HH3.out HHB.out hg (Nat.lt_succ_self b))
  have HD4 := Lib.hid (HD3.out.next hg hgb)
  clear hS hg HS3 HB3 HH3 HD3
  have hln := HD4.out.len
  go_wp2_with fail
  refine (specFind10_any (some ⟨g, 0, none⟩) ts.length cap2 ts x w4 rfl (by unfold maxLen; omega) HD4.out.reads).mono ?_; rintro e wf ⟨rfl, hwf⟩
  obtain rfl : w4 = wf := hwf.symm
  rcases indexC_cases ts x with hix | ⟨k, hkl, hix⟩
  · rw [hix]
    clear hix
    go_wp2_with fail
    refine (specDay10_any w.heap.size b w4 HS4.out).mono ?_; rintro e w5 ⟨y, rfl, hx, hS, hg⟩
    clear hx
    have HB5 := Lib.hid (HB4.out.trans (grown_below hg hbs (by omega))); have hsz5 : w.heap.size ≤ w5.heap.size := HB5.out.size; have hb5 := hS.lt; have HS5 := Lib.hid hS
    have HH5 := Lib.hid (ints_keep HH4.out HHB.out hg (Nat.lt_succ_self b))
    have HD5 := Lib.hid (HD4.out.next hg hgb)
    clear hS hg HS4 HB4 HH4 HD4
    go_wp2_with fail
    (try simp only [Exit.inBlock, Exit.then])
    refine bodyPost_ret (results_four10 rfl _ _ _) rfl ?_
    exact ⟨ah, ch, hs, g, cap2, ts, x, y, rfl, hhl, HH5.out, (fun x e => by have := HHB.out x e; omega), HD5.out, HB5.out⟩
  · rw [hix]
    clear hix
    have hk0 : decide ((k : Int) ≥ 0) = true := decide_eq_true (by omega)
    go_wp2_with fail
    refine (specNext_any w.heap.size b 6 w4 (by omega) HS4.out).mono ?_; rintro e w5 ⟨z0, rfl, hx, _, hS, hg⟩
    obtain ⟨lz0, uz0⟩ := hx (by omega)
    clear hx
    have HB5 := Lib.hid (HB4.out.trans (grown_below hg hbs (by omega))); have hsz5 : w.heap.size ≤ w5.heap.size := HB5.out.size; have hb5 := hS.lt; have HS5 := Lib.hid hS
    have HH5 := Lib.hid (ints_keep HH4.out HHB.out hg (Nat.lt_succ_self b))
    have HD5 := Lib.hid (HD4.out.next hg hgb)
    clear hS hg HS4 HB4 HH4 HD4
    by_cases hz0 : 0 < z0
    · have hzb : decide (z0 > 0) = true := decide_eq_true hz0
      obtain ⟨s, hs1⟩ : ∃ s, ts[k]? = some s := ⟨_, List.getElem?_eq_getElem hkl⟩
      have hsm := HD5.out.small k s hs1
      obtain ⟨⟨hf0, hf1⟩, hd0, hd1⟩ := hsm
      have hcell : ∀ W : World, (Src w.heap.size 93 W b ∧ w5.grownBy W (some b)) → W.cell? ⟨g, k * 4 + 1, none⟩ = some (.int .i64 s.fst) ∧ W.cell? ⟨g, k * 4 + 2, none⟩ = some (.int .i64 s.day) := fun W hW => by
        have hr := ListAt_grown10 HD5.out.reads hW.2 hgb
        rcases hr with rfl | ⟨b', off, e, hx⟩
        · simp at hs1
        · cases e
          have := hx k s hs1
          rw [Nat.zero_add] at this
          exact ⟨this.2.1, this.2.2.1⟩
      obtain ⟨n, hn⟩ : ∃ n, ts.length = n := ⟨_, rfl⟩
      have hkn : k < n := by omega
      have hki : (k : Int) < (n : Int) := by omega
      have hGq : Src w.heap.size 93 w5.drew b ∧ w5.grownBy w5.drew (some b) := ⟨HS5.out.kept rfl (Below.drew (Below.refl _ _)), rfl, rfl, rfl, Nat.le_refl _, fun _ _ _ => rfl⟩
      have qd : IntKind.i64.wrap (s.day + 1) = s.day + 1 := IntWalk.i64_in _ (by omega)
      have qf : IntKind.i64.wrap (s.fst + 180) = s.fst + 180 := IntWalk.i64_in _ (by omega)
      have qg : IntKind.i64.wrap (s.fst + 181) = s.fst + 181 := IntWalk.i64_in _ (by omega)
      have qe : IntKind.i64.wrap (s.day + 7) = s.day + 7 := IntWalk.i64_in _ (by omega)
      clear hz0
      go_wp2_with fail
      (try rw [hn])
      refine wp_region_facts (sz := 73) [6, 7, 8, 9, 10] (by kernel_rfl) (by kernel_rfl) (by kernel_rfl) (fun W => Src w.heap.size 93 W b ∧ w5.grownBy W (some b)) (fun W W' => W.grownBy W' (some b)) (RM10 b g n k cap2 (.slice ah hs.length ch) x s.fst s.day) rfl hGq ?_ ?_ ?_
      · intro j v w2 w3 hf hR
        unfold RM10 at hf ⊢
        split at hf <;> first | exact hf | trivial | skip
        obtain ⟨q, xs, e, hqb, hlx, hz⟩ := hf
        exact ⟨q, xs, e, hqb, hlx, fun i y hy => hR.cell (hz i y hy) (by intro e; exact hqb (Option.some.inj e))⟩
      · intro i o ho
        match i, ho with
        | 0, ho =>
          cases ho
          intro ev w' hc hfn hb hG hd
          have h0 : ev (.tmp 7) = .slice ah hs.length ch := hb 7 (by simp)
          refine stepTo_gen fun K' hK => ?_
          simp [go_sem, stepTo, hc, hfn, h0]
          exact hK _ _ ⟨hG, grown_refl _ _, (fun h => by cases h), rfl⟩
        | 1, ho | 4, ho | 13, ho | 19, ho | 25, ho | 30, ho =>
          cases ho
          intro ev w' hc hfn hb hG hd
          have h0 : ev (.tmp 8) = .slice (some ⟨g, 0, none⟩) n cap2 := hb 8 (by simp)
          refine stepTo_gen fun K' hK => ?_
          simp [go_sem, stepTo, hc, hfn, h0]
          exact hK _ _ ⟨hG, grown_refl _ _, (fun h => by cases h), rfl⟩
        | 2, ho =>
          cases ho
          intro ev w' hc hfn hb hG hd
          have h0 : ev (.tmp 9) = .int .i64 x := hb 9 (by simp)
          refine stepTo_gen fun K' hK => ?_
          simp [go_sem, stepTo, hc, hfn, h0]
          exact hK _ _ ⟨hG, grown_refl _ _, (fun h => by cases h), rfl⟩
        | 3, ho | 10, ho =>
          cases ho
          intro ev w' hc hfn hb hG hd
          have h0 : ev (.tmp 6) = .pointer (some ⟨b, 0, none⟩) := hb 6 (by simp)
          refine stepTo_gen fun K' hK => ?_
          simp [go_sem, stepTo, hc, hfn, h0]
          exact hK _ _ ⟨hG, grown_refl _ _, (fun h => by cases h), rfl⟩
        | 5, ho | 14, ho | 20, ho | 26, ho | 31, ho =>
          cases ho
          intro ev w' hc hfn hb hG hd
          have h0 : ev (.tmp 10) = .int .i64 (k : Int) := hb 10 (by simp)
          refine stepTo_gen fun K' hK => ?_
          simp [go_sem, stepTo, hc, hfn, h0]
          exact hK _ _ ⟨hG, grown_refl _ _, (fun h => by cases h), rfl⟩
        | 6, ho =>
          cases ho
          intro ev w' hc hfn hb hG hd
          have h1 : ev (.tmp 34) = .slice (some ⟨g, 0, none⟩) n cap2 := hd { on := 4, ground := .data } (by simp) rfl _ rfl
          have h2 : ev (.tmp 35) = .int .i64 (k : Int) := hd { on := 5, ground := .data } (by simp) rfl _ rfl
          refine stepTo_gen fun K' hK => ?_
          simp [go_sem, stepTo, hc, hfn, h1, h2, hki, hkn]
          exact hK _ _ ⟨hG, grown_refl _ _, (fun h => by cases h), by simp [RM10]⟩
        | 15, ho =>
          cases ho
          intro ev w' hc hfn hb hG hd
          have h1 : ev (.tmp 43) = .slice (some ⟨g, 0, none⟩) n cap2 := hd { on := 13, ground := .data } (by simp) rfl _ rfl
          have h2 : ev (.tmp 44) = .int .i64 (k : Int) := hd { on := 14, ground := .data } (by simp) rfl _ rfl
          refine stepTo_gen fun K' hK => ?_
          simp [go_sem, stepTo, hc, hfn, h1, h2, hki, hkn]
          exact hK _ _ ⟨hG, grown_refl _ _, (fun h => by cases h), by simp [RM10]⟩
        | 21, ho =>
          cases ho
          intro ev w' hc hfn hb hG hd
          have h1 : ev (.tmp 49) = .slice (some ⟨g, 0, none⟩) n cap2 := hd { on := 19, ground := .data } (by simp) rfl _ rfl
          have h2 : ev (.tmp 50) = .int .i64 (k : Int) := hd { on := 20, ground := .data } (by simp) rfl _ rfl
          refine stepTo_gen fun K' hK => ?_
          simp [go_sem, stepTo, hc, hfn, h1, h2, hki, hkn]
          exact hK _ _ ⟨hG, grown_refl _ _, (fun h => by cases h), by simp [RM10]⟩
        | 27, ho =>
          cases ho
          intro ev w' hc hfn hb hG hd
          have h1 : ev (.tmp 55) = .slice (some ⟨g, 0, none⟩) n cap2 := hd { on := 25, ground := .data } (by simp) rfl _ rfl
          have h2 : ev (.tmp 56) = .int .i64 (k : Int) := hd { on := 26, ground := .data } (by simp) rfl _ rfl
          refine stepTo_gen fun K' hK => ?_
          simp [go_sem, stepTo, hc, hfn, h1, h2, hki, hkn]
          exact hK _ _ ⟨hG, grown_refl _ _, (fun h => by cases h), by simp [RM10]⟩
        | 32, ho =>
          cases ho
          intro ev w' hc hfn hb hG hd
          have h1 : ev (.tmp 60) = .slice (some ⟨g, 0, none⟩) n cap2 := hd { on := 30, ground := .data } (by simp) rfl _ rfl
          have h2 : ev (.tmp 61) = .int .i64 (k : Int) := hd { on := 31, ground := .data } (by simp) rfl _ rfl
          refine stepTo_gen fun K' hK => ?_
          simp [go_sem, stepTo, hc, hfn, h1, h2, hki, hkn]
          exact hK _ _ ⟨hG, grown_refl _ _, (fun h => by cases h), by simp [RM10]⟩
        | 7, ho =>
          cases ho
          intro ev w' hc hfn hb hG hd
          have h1 : ev (.tmp 36) = .pointer (some ⟨g, k * 4, none⟩) := hd { on := 6, ground := .data } (by simp) rfl _ rfl
          refine stepTo_gen fun K' hK => ?_
          simp [go_sem, stepTo, hc, hfn, h1]
          exact hK _ _ ⟨hG, grown_refl _ _, (fun h => by cases h), by simp [RM10]⟩
        | 16, ho =>
          cases ho
          intro ev w' hc hfn hb hG hd
          have h1 : ev (.tmp 45) = .pointer (some ⟨g, k * 4, none⟩) := hd { on := 15, ground := .data } (by simp) rfl _ rfl
          refine stepTo_gen fun K' hK => ?_
          simp [go_sem, stepTo, hc, hfn, h1]
          exact hK _ _ ⟨hG, grown_refl _ _, (fun h => by cases h), by simp [RM10]⟩
        | 22, ho =>
          cases ho
          intro ev w' hc hfn hb hG hd
          have h1 : ev (.tmp 51) = .pointer (some ⟨g, k * 4, none⟩) := hd { on := 21, ground := .data } (by simp) rfl _ rfl
          refine stepTo_gen fun K' hK => ?_
          simp [go_sem, stepTo, hc, hfn, h1]
          exact hK _ _ ⟨hG, grown_refl _ _, (fun h => by cases h), by simp [RM10]⟩
        | 28, ho =>
          cases ho
          intro ev w' hc hfn hb hG hd
          have h1 : ev (.tmp 57) = .pointer (some ⟨g, k * 4, none⟩) := hd { on := 27, ground := .data } (by simp) rfl _ rfl
          refine stepTo_gen fun K' hK => ?_
          simp [go_sem, stepTo, hc, hfn, h1]
          exact hK _ _ ⟨hG, grown_refl _ _, (fun h => by cases h), by simp [RM10]⟩
        | 33, ho =>
          cases ho
          intro ev w' hc hfn hb hG hd
          have h1 : ev (.tmp 62) = .pointer (some ⟨g, k * 4, none⟩) := hd { on := 32, ground := .data } (by simp) rfl _ rfl
          refine stepTo_gen fun K' hK => ?_
          simp [go_sem, stepTo, hc, hfn, h1]
          exact hK _ _ ⟨hG, grown_refl _ _, (fun h => by cases h), by simp [RM10]⟩
        | 8, ho =>
          cases ho
          intro ev w' hc hfn hb hG hd
          have h1 : ev (.tmp 37) = .pointer (some ⟨g, k * 4 + 2, none⟩) := hd { on := 7, ground := .data } (by simp) rfl _ rfl
          have hx := (hcell w' hG).2
          refine stepTo_gen fun K' hK => ?_
          simp [go_sem, stepTo, hc, hfn, h1, hx]
          exact hK _ _ ⟨hG, grown_refl _ _, (fun h => by cases h), rfl⟩
        | 17, ho =>
          cases ho
          intro ev w' hc hfn hb hG hd
          have h1 : ev (.tmp 46) = .pointer (some ⟨g, k * 4 + 1, none⟩) := hd { on := 16, ground := .data } (by simp) rfl _ rfl
          have hx := (hcell w' hG).1
          refine stepTo_gen fun K' hK => ?_
          simp [go_sem, stepTo, hc, hfn, h1, hx]
          exact hK _ _ ⟨hG, grown_refl _ _, (fun h => by cases h), rfl⟩
        | 23, ho =>
          cases ho
          intro ev w' hc hfn hb hG hd
          have h1 : ev (.tmp 52) = .pointer (some ⟨g, k * 4 + 1, none⟩) := hd { on := 22, ground := .data } (by simp) rfl _ rfl
          have hx := (hcell w' hG).1
          refine stepTo_gen fun K' hK => ?_
          simp [go_sem, stepTo, hc, hfn, h1, hx]
          exact hK _ _ ⟨hG, grown_refl _ _, (fun h => by cases h), rfl⟩
        | 29, ho =>
          cases ho
          intro ev w' hc hfn hb hG hd
          have h1 : ev (.tmp 58) = .pointer (some ⟨g, k * 4 + 2, none⟩) := hd { on := 28, ground := .data } (by simp) rfl _ rfl
          have hx := (hcell w' hG).2
          refine stepTo_gen fun K' hK => ?_
          simp [go_sem, stepTo, hc, hfn, h1, hx]
          exact hK _ _ ⟨hG, grown_refl _ _, (fun h => by cases h), rfl⟩
        | 34, ho =>
          cases ho
          intro ev w' hc hfn hb hG hd
          have h1 : ev (.tmp 63) = .pointer (some ⟨g, k * 4 + 2, none⟩) := hd { on := 33, ground := .data } (by simp) rfl _ rfl
          have hx := (hcell w' hG).2
          refine stepTo_gen fun K' hK => ?_
          simp [go_sem, stepTo, hc, hfn, h1, hx]
          exact hK _ _ ⟨hG, grown_refl _ _, (fun h => by cases h), rfl⟩
        | 9, ho =>
          cases ho
          intro ev w' hc hfn hb hG hd
          have h1 : ev (.tmp 38) = .int .i64 s.day := hd { on := 8, ground := .data } (by simp) rfl _ rfl
          refine stepTo_gen fun K' hK => ?_
          simp [go_sem, stepTo, hc, hfn, h1, qd]
          exact hK _ _ ⟨hG, grown_refl _ _, (fun h => by cases h), rfl⟩
        | 18, ho =>
          cases ho
          intro ev w' hc hfn hb hG hd
          have h1 : ev (.tmp 47) = .int .i64 s.fst := hd { on := 17, ground := .data } (by simp) rfl _ rfl
          refine stepTo_gen fun K' hK => ?_
          simp [go_sem, stepTo, hc, hfn, h1, qf]
          exact hK _ _ ⟨hG, grown_refl _ _, (fun h => by cases h), rfl⟩
        | 24, ho =>
          cases ho
          intro ev w' hc hfn hb hG hd
          have h1 : ev (.tmp 53) = .int .i64 s.fst := hd { on := 23, ground := .data } (by simp) rfl _ rfl
          refine stepTo_gen fun K' hK => ?_
          simp [go_sem, stepTo, hc, hfn, h1, qg]
          exact hK _ _ ⟨hG, grown_refl _ _, (fun h => by cases h), rfl⟩
        | 35, ho =>
          cases ho
          intro ev w' hc hfn hb hG hd
          have h1 : ev (.tmp 64) = .int .i64 s.day := hd { on := 34, ground := .data } (by simp) rfl _ rfl
          refine stepTo_gen fun K' hK => ?_
          simp [go_sem, stepTo, hc, hfn, h1, qe]
          exact hK _ _ ⟨hG, grown_refl _ _, (fun h => by cases h), rfl⟩
        | 11, ho =>
          cases ho
          intro ev w' hc hfn hb hG hd
          have h1 : ev (.tmp 40) = .pointer (some ⟨b, 0, none⟩) := hd { on := 10, ground := .data } (by simp) rfl _ rfl
          refine stepTo_gen fun K' hK => ?_
          simp [go_sem, stepTo, hc, hfn, h1]
          refine (specNext_any w.heap.size b 20 w' (by omega) hG.1).mono ?_
          rintro e w2 ⟨z, rfl, hz, _, hS, hg⟩
          obtain ⟨z0, z1⟩ := hz (by omega)
          exact ⟨_, rfl, hK _ _ ⟨⟨hS, grown_trans hG.2 hg⟩, hg, (fun h => by cases h), z, rfl, z0, z1⟩⟩
        | 12, ho =>
          cases ho
          intro ev w' hc hfn hb hG hd
          have h1 : ev (.tmp 39) = .int .i64 (s.day + 1) := hd { on := 9, ground := .data } (by simp) rfl _ rfl
          obtain ⟨z, h2, z0, z1⟩ : ∃ z : Int, ev (.tmp 41) = .int .i64 z ∧ 0 ≤ z ∧ z < 20 := hd { on := 11, ground := .data } (by simp) rfl _ rfl
          refine stepTo_gen fun K' hK => ?_
          simp [go_sem, stepTo, hc, hfn, h1, h2]
          exact hK _ _ ⟨hG, grown_refl _ _, (fun h => by cases h), _, rfl⟩
        | 36, ho =>
          cases ho
          intro ev w' hc hfn hb hG hd
          obtain ⟨z, h1⟩ : ∃ z : Int, ev (.tmp 42) = .int .i64 z := hd { on := 12, ground := .data } (by simp) rfl _ rfl
          have h2 : ev (.tmp 48) = .int .i64 (s.fst + 180) := hd { on := 18, ground := .data } (by simp) rfl _ rfl
          have h3 : ev (.tmp 54) = .int .i64 (s.fst + 181) := hd { on := 24, ground := .data } (by simp) rfl _ rfl
          have h4 : ev (.tmp 59) = .int .i64 s.day := hd { on := 29, ground := .data } (by simp) rfl _ rfl
          have h5 : ev (.tmp 65) = .int .i64 (s.day + 7) := hd { on := 35, ground := .data } (by simp) rfl _ rfl
          refine stepTo_gen fun K' hK => ?_
          simp [go_sem, stepTo, hc, hfn, h1, h2, h3, h4, h5]
          exact hK _ _ ⟨⟨hG.1.alloc _, grown_trans hG.2 (grown_alloc _ _ _)⟩, grown_alloc _ _ _, (fun h => by cases h), _, [z, s.fst + 180, s.fst + 181, s.day, s.day + 7], rfl, by have := hG.1.lt; omega, rfl, alloc_ints w' 2 _⟩
        | 37, ho =>
          cases ho
          intro ev w' hc hfn hb hG hd
          have h1 : ev (.tmp 33) = .pointer (some ⟨b, 0, none⟩) := hd { on := 3, ground := .data } (by simp) rfl _ rfl
          obtain ⟨q, xs, h2, hqb, hlx, hz⟩ : ∃ (q : Nat) (xs : List Int), ev (.tmp 66) = .slice (some ⟨q, 0, none⟩) 5 5 ∧ q ≠ b ∧ xs.length = 5 ∧ ∀ i y, xs[i]? = some y → w'.cell? ⟨q, i, none⟩ = some (.int .i64 y) := hd { on := 36, ground := .data } (by simp) rfl _ rfl
          refine stepTo_gen fun K' hK => ?_
          simp [go_sem, stepTo, hc, hfn, h1, h2]
          refine (specPick_any w.heap.size b q xs 5 5 w' hlx (by omega) (by omega) hG.1 hqb hz).mono ?_
          rintro e w2 ⟨z, rfl, hz, hS, hg⟩
          exact ⟨_, rfl, hK _ _ ⟨⟨hS, grown_trans hG.2 hg⟩, hg, (fun h => by cases h), z, rfl⟩⟩
        | 38, ho =>
          cases ho
          intro ev w' hc hfn hb hG hd
          have h0 : ev (.tmp 30) = .slice ah hs.length ch := hd { on := 0, ground := .data } (by simp) rfl _ rfl
          refine stepTo_gen fun K' hK => ?_
          simp [go_sem, stepTo, hc, hfn, h0]
          exact hK _ _ ⟨hG, grown_refl _ _, (fun h => by cases h), rfl⟩
        | 39, ho =>
          cases ho
          intro ev w' hc hfn hb hG hd
          have h0 : ev (.tmp 31) = .slice (some ⟨g, 0, none⟩) n cap2 := hd { on := 1, ground := .data } (by simp) rfl _ rfl
          refine stepTo_gen fun K' hK => ?_
          simp [go_sem, stepTo, hc, hfn, h0]
          exact hK _ _ ⟨hG, grown_refl _ _, (fun h => by cases h), rfl⟩
        | 40, ho =>
          cases ho
          intro ev w' hc hfn hb hG hd
          have h0 : ev (.tmp 32) = .int .i64 x := hd { on := 2, ground := .data } (by simp) rfl _ rfl
          refine stepTo_gen fun K' hK => ?_
          simp [go_sem, stepTo, hc, hfn, h0]
          exact hK _ _ ⟨hG, grown_refl _ _, (fun h => by cases h), rfl⟩
        | 41, ho =>
          cases ho
          intro ev w' hc hfn hb hG hd
          have h0 : ∃ z : Int, ev (.tmp 67) = .int .i64 z := hd { on := 37, ground := .data } (by simp) rfl _ rfl
          refine stepTo_gen fun K' hK => ?_
          simp [go_sem, stepTo, hc, hfn]
          exact hK _ _ ⟨hG, grown_refl _ _, (fun h => by cases h), h0⟩
        | m + 42, ho => simp at ho
      · intro a' w' hb hs2 hdf hG hf
        obtain ⟨z, h5⟩ : ∃ z : Int, a'.eval (.tmp 5) = .int .i64 z := hf 41 _ rfl
        have h4 : a'.eval (.tmp 4) = .int .i64 x := hf 40 _ rfl
        have h3 : a'.eval (.tmp 3) = .slice (some ⟨g, 0, none⟩) n cap2 := hf 39 _ rfl
        have h2 : a'.eval (.tmp 2) = .slice ah hs.length ch := hf 38 _ rfl
        have HF := Lib.hid (HD5.out.next hG.2 hgb)
        have HFH := Lib.hid (ints_keep HH5.out HHB.out hG.2 (Nat.lt_succ_self b))
        have HBF := Lib.hid (HB5.out.trans (grown_below hG.2 hbs (by omega)))
        obtain ⟨tmps, dfs⟩ := a'
        simp only at hdf
        subst hdf
        have h2' : tmps.getD 2 undef = .slice ah hs.length ch := h2
        have h3' : tmps.getD 3 undef = .slice (some ⟨g, 0, none⟩) n cap2 := h3
        have h4' : tmps.getD 4 undef = .int .i64 x := h4
        have h5' : tmps.getD 5 undef = .int .i64 z := h5
        clear hf hb h2 h3 h4 h5 hs2 hG
        go_wp2_with fail
        (try simp only [Exit.inBlock, Exit.then])
        refine bodyPost_ret (results_four10 rfl _ _ _) rfl ?_
        rw [h2', h3', h4', h5']
        exact ⟨ah, ch, hs, g, cap2, ts, x, z, by rw [hn], hhl, HFH.out, (fun x e => by have := HHB.out x e; omega), HF.out, HBF.out⟩
    · have hzb : decide (z0 > 0) = false := decide_eq_false hz0
      clear hz0
      go_wp2_with fail
      refine (specDay10_any w.heap.size b w5 HS5.out).mono ?_; rintro e w6 ⟨y, rfl, hx, hS, hg⟩
      clear hx
      have HB6 := Lib.hid (HB5.out.trans (grown_below hg hbs (by omega))); have hsz6 : w.heap.size ≤ w6.heap.size := HB6.out.size; have hb6 := hS.lt; have HS6 := Lib.hid hS
      have HH6 := Lib.hid (ints_keep HH5.out HHB.out hg (Nat.lt_succ_self b))
      have HD6 := Lib.hid (HD5.out.next hg hgb)
      clear hS hg HS5 HB5 HH5 HD5
      go_wp2_with fail
      (try simp only [Exit.inBlock, Exit.then])
      refine bodyPost_ret (results_four10 rfl _ _ _) rfl ?_
      exact ⟨ah, ch, hs, g, cap2, ts, x, y, rfl, hhl, HH6.out, (fun x e => by have := HHB.out x e; omega), HD6.out, HB6.out⟩

set_option maxRecDepth 100000 in
set_option maxHeartbeats 4000000 in
theorem specDrawMoveCall_any (a : Option Addr) (len cap : Nat) (bs : List Int) (w : World) (hl : bs.length = len) (hm : len ≤ 4096) (h : BytesAt w.heap.size w a bs) :
    Calls Try.prog 14 #[.slice a len cap] w (GaveCH w) := by
  have HC := Lib.hid (specDrawMayMove_any a len cap bs w hl hm h)
  clear h hl
  go_enter Try.func14, Try.ntmps14
  go_wp2_with fail
  refine HC.out.mono ?_; rintro e w1 ⟨ah, ch, hs, g, cap2, ts, x, y, rfl, hhl, hH, hH0, hd, hB⟩
  have HH := Lib.hid hH; have HH0 := Lib.hid hH0; clear hH0; have HD := Lib.hid hd; have HB := Lib.hid hB
  clear hH hd hB
  go_wp2_with fail
  (try simp only [Exit.inBlock, Exit.then])
  refine bodyPost_ret (results_four10 rfl _ _ _) rfl ?_
  exact ⟨ah, ch, hs, g, cap2, ts, x, y, rfl, hhl, HH.out, HH0.out, HD.out, HB.out⟩

set_option maxRecDepth 100000 in
set_option maxHeartbeats 4000000 in
theorem specDrawFirstRoom_any (a : Option Addr) (len cap : Nat) (bs : List Int) (w : World) (hl : bs.length = len) (hm : len ≤ 4096) (h : BytesAt w.heap.size w a bs) :
    Calls Try.prog 31 #[.slice a len cap] w (GaveCH w) := by
  have HC := Lib.hid (specFrom_any a len cap bs w hl hm h)
  have HM := Lib.hid (fun (W : World) (hB : Below w.heap.size w W) => specDrawMayMove_any a len cap bs W hl hm (h.later hB))
  clear h hl
  go_enter Try.func31, Try.ntmps31
  go_wp2_with fail
  refine HC.out.mono ?_; rintro e w1 ⟨b, rfl, hS, hB⟩
  have HB1 := Lib.hid hB; have hsz1 := hB.size; have hbs := hS.base; have hb1 := hS.lt; have HS1 := Lib.hid hS
  clear hS hB HC
  go_wp2_with fail
  refine (HM.out w1 HB1.out).mono ?_; rintro e w2 ⟨ah, ch, hs, g, cap2, ts, x, y, rfl, hhl, hH, hH0, hd, hB⟩
  have hgb : g ≠ b := by have := hd.base; omega
  have HB2 := Lib.hid (HB1.out.trans (hB.mono hsz1)); have hsz2 := HB2.out.size; have HD2 := Lib.hid (hd.base_le hsz1); have HS2 := Lib.hid (src_later10 HS1.out hB); have hb2 := HS2.out.lt; have HH2 := Lib.hid hH
  clear hH hd hB HS1 HB1 HM
  go_wp2_with fail
  refine (specPick_any w.heap.size b w2.heap.size [1, 2, 0, 20, 21, 1] 6 6 _ rfl (by omega) (by omega) (HS2.out.alloc _) (by omega) (alloc_ints w2 2 _)).mono ?_
  rintro e w3 ⟨z, rfl, hx, hS, hg⟩
  have hg' := grown_trans (grown_alloc w2 (.cells #[.int .i64 1, .int .i64 2, .int .i64 0, .int .i64 20, .int .i64 21, .int .i64 1] 2) (some b)) hg
  have HB3 := Lib.hid (HB2.out.trans (grown_below hg' hbs (by omega))); have HD3 := Lib.hid (HD2.out.next hg' hgb)
  have HH3 := Lib.hid (ints_keep HH2.out hH0 hg' hb1)
  have HH0 := Lib.hid (fun x e => Nat.le_trans hsz1 (hH0 x e))
  clear hH0
  clear hx hS hg hg'
  go_wp2_with fail
  (try simp only [Exit.inBlock, Exit.then])
  refine bodyPost_ret (results_four10 rfl _ _ _) rfl ?_
  exact ⟨ah, ch, hs, g, cap2, ts, x, z, rfl, hhl, HH3.out, HH0.out, HD3.out, HB3.out⟩

end Go.Proofs.Ytekhdggaelppkaa
