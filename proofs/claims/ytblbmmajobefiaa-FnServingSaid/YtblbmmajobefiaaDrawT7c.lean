/- Contract: spec.l07List draws terms. (written by draw7.py) -/
import Derived.Test.YtblbmmajobefiaaChecked
import Derived.Test.YtblbmmajobefiaaBase
import Derived.Test.YtblbmmajobefiaaInfo
import Derived.Test.YtblbmmajobefiaaPure6
import Derived.Test.YtblbmmajobefiaaNext
import Derived.Test.YtblbmmajobefiaaPick
import Derived.Test.YtblbmmajobefiaaTermA
import Derived.Test.YtblbmmajobefiaaTermB
import Derived.Test.YtblbmmajobefiaaTermC
import Derived.Test.YtblbmmajobefiaaFacts
import Derived.Test.YtblbmmajobefiaaPure70
import Derived.Test.YtblbmmajobefiaaSpec7
import Derived.Test.YtblbmmajobefiaaStepApp
import Derived.Test.YtblbmmajobefiaaAdd7
import Derived.Test.YtblbmmajobefiaaTermD
import Derived.Test.YtblbmmajobefiaaDrawT7a
import Derived.Test.YtblbmmajobefiaaDrawT7b
import Derived.WalkKit
import Derived.WalkSpells
import Derived.WalkLawsBesides
import Derived.Lib.Hide
import Derived.IntWalk
import Derived.Deep.OwnRows
import Derived.Deep.MidRow
import Derived.OwnWalk
import Derived.Outline
namespace Go.Proofs.Ytblbmmajobefiaa
open Go.RowKit Pure1 Pure2 Pure6

def SmallTL (ts : List Term) : Prop := ∀ q ∈ ts, SmallT q
theorem SmallTL.snoc {ts : List Term} {c : Term} (h : SmallTL ts) (hc : SmallT c) : SmallTL (ts ++ [c]) := by
  intro q hq
  rcases List.mem_append.1 hq with hq | hq
  · exact h q hq
  · rw [List.mem_singleton.1 hq]; exact hc
theorem addR7_cases (ts : List Term) (c : Term) : addR7 ts c = (ts ++ [c], 0) ∨ addR7 ts c = ([], 5) ∨ addR7 ts c = ([], 1) := by
  unfold addR7
  split
  · split
    · exact .inl rfl
    · exact .inr (.inl rfl)
  · exact .inr (.inr rfl)
theorem src_own {B b N : Nat} {T : TypeId} {w w' : World} {g : Nat} (h : Src B T w b) (hg : w.grownBy w' (some g)) (hN : N ≤ g) (hb : b < N) (hs : N ≤ w.heap.size) : Src B T w' b :=
  h.kept (hg.block b h.lt (fun e => by have := Option.some.inj e; omega)) ((Below.refl B w).grown hg (by have := h.base; omega) (fun k hk => by have := h.base; cases hk; omega))
/-- terms are drawn -/
def GaveTs (B b : Nat) (w : World) (e : Ending) (w' : World) : Prop := ∃ v qs, e = .returned v ∧ Term.L w' w.heap.size v qs ∧ qs.length ≤ 40 ∧ SmallTL qs ∧ Src B 82 w' b ∧ w.grownBy w' (some b)

set_option maxRecDepth 100000 in
set_option maxHeartbeats 4000000 in
theorem specList7_any (B b : Nat) (w : World) (h : Src B 82 w b) :
    Calls Try.prog 56 #[.pointer (some ⟨b, 0, none⟩)] w (GaveTs B b w) := by
  have hbB := h.base
  obtain ⟨N, hN⟩ : ∃ N, w.heap.size = N := ⟨_, rfl⟩
  have hbw := h.lt
  rw [hN] at hbw
  have HNE := Lib.hid hN
  have HC := Lib.hid (specNext_any B b 8 (w.alloc (.cells #[] 32)) (by omega) (h.alloc _)); clear h
  have HG0 := Lib.hid (grown_alloc w (.cells #[] 32) (some b))
  have HO0 := Lib.hid (Term.L_empty (w := w) (N := N) (by omega))
  (try rw [hN] at HO0)
  unfold GaveTs
  rw [hN]
  go_enter Try.func56, Try.ntmps56
  go_wp2_with fail
  refine HC.out.mono ?_; rintro e w1 ⟨x, rfl, hx, _, hS, hg⟩
  obtain ⟨l1, u1⟩ := hx (by omega)
  have HS := Lib.hid hS
  have HG := Lib.hid (grown_trans HG0.out hg)
  have HO := Lib.hid (HO0.out.grown hg hbw)
  obtain ⟨n0, rfl⟩ := Int.eq_ofNat_of_zero_le l1
  clear hS hg hx l1 HG0 HO0
  (try rw [hN])
  clear hN
  go_wp2_with fail
  go_loopw [3, 4, 5, 6] (fun v i _ _ wr => ∃ (qs : List Term) (m : Nat), i = .int .i64 m ∧ qs.length + m ≤ 7 ∧ SmallTL qs ∧ Term.L wr N v qs ∧ Src B 82 wr b ∧ w.grownBy wr (some b)) (fun _ i _ _ _ => (intOf i).toNat)
  case atStart => exact ⟨[], n0, rfl, by simp; omega, (fun q hq => by cases hq), HO.out, HS.out, HG.out⟩
  case round =>
    clear HO HS HG HC
    obtain ⟨qs, m, rfl, hm, hz, ho, hS, hG⟩ := hrel
    have HS := Lib.hid hS; have HG := Lib.hid hG; have HZ := Lib.hid hz
    have hbr := hS.lt
    have hNr : N ≤ wr.heap.size := by have := hG.size; rw [HNE.out] at this; exact this
    obtain ⟨g, cap, rfl⟩ := ho.1
    have HO := Lib.hid ho
    clear ho hS hG hz
    by_cases hm0 : 0 < m
    · go_wp2_with fail
      refine (specGood7_any B b wr HS.out).mono ?_; rintro e w4 ⟨c, rfl, hc, hS4, hg4⟩
      have hown := HO.out.grown hg4 hbw
      have HS4 := Lib.hid hS4; have HG4 := Lib.hid (grown_trans HG.out hg4); have HC4 := Lib.hid hc
      have hN4 : N ≤ w4.heap.size := Nat.le_trans hNr hg4.size
      have HO4 := Lib.hid hown
      have HA := Lib.hid (specAddTerm_any g 0 cap qs.length qs c w4 rfl (by omega) (fun i t ht => by rw [Nat.zero_add]; exact hown.at ht))
      clear hS4 hg4 hc hown
      obtain ⟨ql, hql⟩ : ∃ ql, qs.length = ql := ⟨_, rfl⟩
      have HQL := Lib.hid hql
      rw [hql] at HA hm ⊢
      clear hql
      rcases addR7_cases qs c with hr | hr | hr
      · rw [hr] at HA; clear hr
        go_wp2_with fail
        refine HA.out.mono ?_; rintro e w5 ⟨v5, rfl, ⟨a5, cap5, rfl⟩, ho5, hB5⟩
        have HO5 := Lib.hid (show Term.L w5 N (.slice a5 (qs ++ [c]).length cap5) (qs ++ [c]) from (Or.elim ho5 (fun h => by simp at h) id).base hN4)
        have HS5 := Lib.hid (src_later HS4.out hB5); have HG5 := Lib.hid (gb_below HG4.out hB5)
        have HZ5 := Lib.hid (HZ.out.snoc HC4.out)
        have HL5 := Lib.hid (show (qs ++ [c]).length = ql + 1 by rw [List.length_append, HQL.out]; rfl)
        clear ho5 hB5
        generalize qs ++ [c] = ys at HO5 HZ5 HL5 ⊢
        go_wp2_with fail
        go_roundw
        case rel => exact ⟨ys, m - 1, by go_num, by rw [HL5.out]; omega, HZ5.out, HO5.out, HS5.out, HG5.out⟩
        case measure => simp [intOf]; omega
      · rw [hr] at HA; clear hr
        go_wp2_with fail
        refine HA.out.mono ?_; rintro e w5 ⟨v5, rfl, ⟨a5, cap5, rfl⟩, _, hB5⟩
        have HO5 := Lib.hid (HO4.out.below hB5)
        have HS5 := Lib.hid (src_later HS4.out hB5); have HG5 := Lib.hid (gb_below HG4.out hB5)
        clear hB5
        go_wp2_with fail
        go_roundw
        case rel => exact ⟨qs, m - 1, by go_num, by rw [HQL.out]; omega, HZ.out, by have := HO5.out; rw [HQL.out] at this; exact this, HS5.out, HG5.out⟩
        case measure => simp [intOf]; omega
      · rw [hr] at HA; clear hr
        go_wp2_with fail
        refine HA.out.mono ?_; rintro e w5 ⟨v5, rfl, ⟨a5, cap5, rfl⟩, _, hB5⟩
        have HO5 := Lib.hid (HO4.out.below hB5)
        have HS5 := Lib.hid (src_later HS4.out hB5); have HG5 := Lib.hid (gb_below HG4.out hB5)
        clear hB5
        go_wp2_with fail
        go_roundw
        case rel => exact ⟨qs, m - 1, by go_num, by rw [HQL.out]; omega, HZ.out, by have := HO5.out; rw [HQL.out] at this; exact this, HS5.out, HG5.out⟩
        case measure => simp [intOf]; omega
    · go_wp2_with fail
      refine (specNext_any B b 24 wr (by omega) HS.out).mono ?_; rintro e w2 ⟨x2, rfl, hx2, _, hS2, hg2⟩
      have HO2 := Lib.hid (HO.out.grown hg2 hbw)
      have hN2 : N ≤ w2.heap.size := Nat.le_trans hNr hg2.size
      have HS2 := Lib.hid hS2; have HG2 := Lib.hid (grown_trans HG.out hg2); clear hS2 hg2 hx2
      by_cases hx0 : x2 = 0
      · have hx0' : (x2 == 0) = true := beq_iff_eq.2 hx0
        clear hx0
        go_wp2_with fail
        refine (specDraw7_any B b w2 HS2.out).mono ?_; rintro e w4 ⟨c, rfl, hc, hS4, hg4⟩
        have hN4 : N ≤ w4.heap.size := Nat.le_trans hN2 hg4.size
        have hown := (HO2.out.grown hg4 hbw).alloc (.cells #[.int .i64 c.num, .int .i64 c.frm, .int .i64 c.to] 32)
        have HS4 := Lib.hid (hS4.alloc (.cells #[.int .i64 c.num, .int .i64 c.frm, .int .i64 c.to] 32)); have HG4 := Lib.hid (grown_trans (grown_trans HG2.out hg4) (grown_alloc w4 (.cells #[.int .i64 c.num, .int .i64 c.frm, .int .i64 c.to] 32) (some b)))
        have HZ4 := Lib.hid (HZ.out.snoc hc)
        have hgN : N ≤ g := (hown.2.lt g rfl).1
        clear hS4 hg4 hc
        go_wp2_with (at_builtin; refine wpList_Term_append rfl _ _ rfl _ qs rfl hown ⟨w4.heap.size, 0, none⟩ 1 1 [c] rfl rfl (Term.lit_cells w4 c _) ?c2 ?c3 ?_)
        case c2 => simp; omega
        case c3 => simp; omega
        intro v5 w5 ho5 hg5 _
        have HO5 := Lib.hid ho5
        have hg5' : World.grownBy _ w5 (some g) := hg5
        have HS5 := Lib.hid (src_own HS4.out hg5' hgN hbw (by simp; omega))
        have HG5 := Lib.hid (gb_own HG4.out hg5' (fun k hk => by cases hk; rw [HNE.out]; exact hgN))
        clear hown ho5 hg5 hg5'
        go_wp2_with fail
        go_ret
        exact ⟨_, _, rfl, HO5.out, by simp; omega, HZ4.out, HS5.out, HG5.out⟩
      · have hx0' : (x2 == 0) = false := beq_eq_false_iff_ne.2 hx0
        clear hx0
        by_cases hx1 : x2 = 1
        · have hx1' : (x2 == 1) = true := beq_iff_eq.2 hx1
          clear hx1
          clear HO HS HG hbr hNr
          go_wp2_with fail
          go_loopw [3, 7] (fun v i wr => ∃ (qs : List Term) (k : Nat), i = .int .i64 k ∧ k ≤ 10 + qs.length ∧ qs.length ≤ 21 ∧ SmallTL qs ∧ Term.L wr N v qs ∧ Src B 82 wr b ∧ w.grownBy wr (some b)) (fun v _ _ => 22 - Term.lenL v)
          case atStart => exact ⟨qs, 10, rfl, by omega, by omega, HZ.out, HO2.out, HS2.out, HG2.out⟩
          case round =>
            clear HO2 HS2 HG2 HZ hm hN2
            obtain ⟨qs, k, rfl, hk, hl, hz, ho, hS, hG⟩ := hrel
            have HS := Lib.hid hS; have HG := Lib.hid hG; have HZ := Lib.hid hz
            have hbr := hS.lt
            have hNr : N ≤ wr.heap.size := by have := hG.size; rw [HNE.out] at this; exact this
            obtain ⟨g, cap, rfl⟩ := ho.1
            have HO := Lib.hid ho
            clear ho hS hG hz
            go_wp2_with fail
            refine (specNext_any B b 2 _ (by omega) HS.out).mono ?_; rintro e w4 ⟨y, rfl, hy, _, hS4, hg4⟩
            obtain ⟨ly, uy⟩ := hy (by omega)
            have hown0 := HO.out.grown hg4 hbw
            have hN4 : N ≤ w4.heap.size := Nat.le_trans hNr hg4.size
            have HG4 := Lib.hid (grown_trans HG.out hg4); have HS4 := Lib.hid hS4
            clear hS4 hg4 hy
            by_cases hlt : (qs.length : Int) < 20 + y
            · have hown := hown0.alloc (.cells #[.int .i64 (k : Int), .int .i64 5, .int .i64 9] 32)
              have hgN : N ≤ g := (hown.2.lt g rfl).1
              have HS5 := Lib.hid (HS4.out.alloc (.cells #[.int .i64 (k : Int), .int .i64 5, .int .i64 9] 32)); have HG5 := Lib.hid (grown_trans HG4.out (grown_alloc w4 (.cells #[.int .i64 (k : Int), .int .i64 5, .int .i64 9] 32) (some b)))
              have HZ4 := Lib.hid (HZ.out.snoc (c := ⟨(k : Int), 5, 9⟩) ⟨⟨by show (0 : Int) ≤ k; omega, by show (k : Int) ≤ 1000001; omega⟩, ⟨by show (0 : Int) ≤ 5; omega, by show (5 : Int) ≤ 30000; omega⟩, by show (-1 : Int) ≤ 9; omega, by show (9 : Int) ≤ 30000; omega⟩)
              go_wp2_with (at_builtin; refine wpList_Term_append rfl _ _ rfl _ qs rfl hown ⟨w4.heap.size, 0, none⟩ 1 1 [⟨(k : Int), 5, 9⟩] rfl rfl (Term.lit_cells w4 ⟨(k : Int), 5, 9⟩ _) ?c2 ?c3 ?_)
              case c2 => simp; omega
              case c3 => simp; omega
              intro v5 w5 ho5 hg5 _
              have HO6 := Lib.hid ho5
              have hg5' : World.grownBy _ w5 (some g) := hg5
              have HS6 := Lib.hid (src_own HS5.out hg5' hgN hbw (by simp; omega))
              have HG6 := Lib.hid (gb_own HG5.out hg5' (fun k hk => by cases hk; rw [HNE.out]; exact hgN))
              have HL6 := Lib.hid (show Term.lenL v5 = qs.length + 1 by rw [ho5.len, List.length_append]; rfl)
              clear hown hown0 ho5 hg5 hg5'
              go_wp2_with fail
              go_roundw
              case rel => exact ⟨_, k + 1, by go_num, by simp; omega, by simp; omega, HZ4.out, HO6.out, HS6.out, HG6.out⟩
              case measure => rw [HL6.out]; show _ < 22 - qs.length; omega
            · have HO4 := Lib.hid hown0
              clear hown0
              go_wp2_with fail
              go_ret
              exact ⟨_, _, rfl, HO4.out, by omega, HZ.out, HS4.out, HG4.out⟩
        · have hx1' : (x2 == 1) = false := beq_eq_false_iff_ne.2 hx1
          clear hx1
          go_wp2_with fail
          go_ret
          exact ⟨_, _, rfl, HO2.out, by omega, HZ.out, HS2.out, HG2.out⟩
end Go.Proofs.Ytblbmmajobefiaa
