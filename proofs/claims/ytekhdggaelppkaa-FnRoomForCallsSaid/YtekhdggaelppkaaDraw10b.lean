/- Contracts: spec.l10List, spec.l10DrawDay. (written by draw10.py) -/
import Derived.Test.YtekhdggaelppkaaChecked
import Derived.Test.YtekhdggaelppkaaBase0
import Derived.Test.YtekhdggaelppkaaInfo
import Derived.Test.YtekhdggaelppkaaNext
import Derived.Test.YtekhdggaelppkaaPick
import Derived.Test.YtekhdggaelppkaaCallB
import Derived.Test.YtekhdggaelppkaaCallC
import Derived.Test.YtekhdggaelppkaaCallD
import Derived.Test.YtekhdggaelppkaaPure100
import Derived.Test.YtekhdggaelppkaaSet10
import Derived.Test.YtekhdggaelppkaaDraw10a
import Derived.WalkKit
import Derived.WalkSpells
import Derived.WalkLawsBesides
import Derived.Lib.Hide
import Derived.IntWalk
import Derived.Deep.OwnRows
import Derived.Deep.MidRow
import Derived.Deep.RegionHeld3
import Derived.OwnWalk
import Derived.RegionTactic
import Derived.Outline
namespace Go.Proofs.Ytekhdggaelppkaa
open Go.RowKit Pure1 Pure2 Pure6

theorem ListAt_grown10 {w w' : World} {g q : Nat} {ts : List Call} (h : Call.ListAt w (some ⟨g, 0, none⟩) ts) (hg : w.grownBy w' (some q)) (hne : g ≠ q) : Call.ListAt w' (some ⟨g, 0, none⟩) ts := by
  rcases h with rfl | ⟨b, off, e, hc⟩
  · exact .inl rfl
  · cases e; exact .inr ⟨g, 0, rfl, fun i c hi => (hc i c hi).grown hg hne⟩
theorem L_frozen10 {w : World} {N g n cap : Nat} {ts : List Call} (h : Call.L w N (.slice (some ⟨g, 0, none⟩) n cap) ts) (j : Nat) : w.frozen? ⟨g, j, none⟩ = false := by
  rcases h.2.2 with ⟨e, _⟩ | ⟨g', cap', cur, e, _, hh, _⟩
  · cases e
  · cases e; simp [World.frozen?, hh]
theorem L_cap10 {w : World} {N g n cap : Nat} {ts : List Call} (h : Call.L w N (.slice (some ⟨g, 0, none⟩) n cap) ts) : ts.length ≤ cap ∧ cap ≤ maxLen := by
  obtain ⟨⟨g0, cap0, e0⟩, _⟩ := id h
  rcases h.2.2 with ⟨e, _⟩ | ⟨g', cap', cur, e, _, hh, h5, h6, _⟩
  · cases e
  · cases e; exact ⟨h5, h6⟩
/-- one number of one of them is stored -/
theorem list_set10 {w : World} {g k r : Nat} {ts : List Call} {s s' : Call} {x : Int} (h : Call.ListAt w (some ⟨g, 0, none⟩) ts) (hs : ts[k]? = some s) (hr : r < 4)
    (hn : ∀ j, j < 4 → s'.nth j = if j = r then x else s.nth j) : Call.ListAt (w.setCell ⟨g, k * 4 + r, none⟩ (.int .i64 x)) (some ⟨g, 0, none⟩) (ts.set k s') := by
  have hk := lt_of_getC hs
  rcases h with rfl | ⟨b, off, e, hc⟩
  · simp at hs
  cases e
  refine .inr ⟨g, 0, rfl, fun i c hi => ?_⟩
  have cells : ∀ q, q < ts.length → ∀ j, j < 4 → w.cell? ⟨g, 0 + q * 4 + j, none⟩ = some (.int .i64 ((ts[q]?.getD ⟨0, 0, 0, 0⟩).nth j)) := fun q hq j hj => by
    have hx : ts[q]? = some (ts[q]'hq) := List.getElem?_eq_getElem hq
    obtain ⟨a0, a1, a2, a3⟩ := hc q _ hx
    rw [hx]
    have hcs : j = 0 ∨ j = 1 ∨ j = 2 ∨ j = 3 := by omega
    rcases hcs with rfl | rfl | rfl | rfl <;> assumption
  have key : ∀ j, j < 4 → (w.setCell ⟨g, k * 4 + r, none⟩ (.int .i64 x)).cell? ⟨g, 0 + i * 4 + j, none⟩ = some (.int .i64 (c.nth j)) := fun j hj => by
    by_cases hik : i = k
    · subst hik
      rw [List.getElem?_set_self hk] at hi
      cases hi
      by_cases hjr : j = r
      · subst hjr
        rw [show 0 + i * 4 + j = i * 4 + j by omega, World.cell?_setCell_same' _ _ _ (by have := cells i hk j hj; rw [show 0 + i * 4 + j = i * 4 + j by omega] at this; rw [this]; rfl), hn j hj, if_pos rfl]
      · rw [World.cell?_setCell_other _ _ _ _ (by first | (simp; done) | (simp; omega)), cells i hk j hj, hs, hn j hj, if_neg hjr]; rfl
    · have hil : i < ts.length := by have := lt_of_getC hi; rwa [List.length_set] at this
      rw [List.getElem?_set_ne (by omega)] at hi
      rw [World.cell?_setCell_other _ _ _ _ (by first | (simp; done) | (simp; omega)), cells i hil j hj, hi]; rfl
  exact ⟨key 0 (by omega), key 1 (by omega), key 2 (by omega), key 3 (by omega)⟩
theorem smallCL_set {ts : List Call} {k : Nat} {s : Call} (h : SmallCL ts) (hs : SmallC s) : SmallCL (ts.set k s) := by
  intro i c hc
  by_cases e : i = k
  · subst e
    have hk := lt_of_getC hc
    rw [List.length_set] at hk
    rw [List.getElem?_set_self hk] at hc; cases hc; exact hs
  · rw [List.getElem?_set_ne (by omega)] at hc; exact h i c hc
/-- a list that was drawn: where it lies -/
structure DrawnC (w0 w : World) (g cap m : Nat) (ts : List Call) : Prop where
  cap : ts.length ≤ cap ∧ cap ≤ maxLen
  base : w0.heap.size ≤ g
  lt : g < w.heap.size
  reads : Call.ListAt w (some ⟨g, 0, none⟩) ts
  len : ts.length ≤ m
  small : SmallCL ts
def DrawC (B b m : Nat) (w : World) (e : Ending) (w' : World) : Prop := ∃ g cap ts, e = .returned (.slice (some ⟨g, 0, none⟩) ts.length cap) ∧ DrawnC w w' g cap m ts ∧ Src B 93 w' b ∧ w.grownBy w' (some b)
theorem DrawnC.later {w0 w w' : World} {g cap m : Nat} {ts : List Call} (h : DrawnC w0 w g cap m ts) (hB : Below w.heap.size w w') : DrawnC w0 w' g cap m ts :=
  ⟨h.cap, h.base, Nat.lt_of_lt_of_le h.lt hB.size, h.reads.below hB, h.len, h.small⟩
theorem DrawnC.next {w0 w w' : World} {g cap m b : Nat} {ts : List Call} (h : DrawnC w0 w g cap m ts) (hg : w.grownBy w' (some b)) (hb : g ≠ b) : DrawnC w0 w' g cap m ts :=
  ⟨h.cap, h.base, Nat.lt_of_lt_of_le h.lt hg.size, ListAt_grown10 h.reads hg hb, h.len, h.small⟩

set_option maxRecDepth 100000 in
set_option maxHeartbeats 8000000 in
theorem specList10_any (B b : Nat) (w : World) (h : Src B 93 w b) :
    Calls Try.prog 59 #[.pointer (some ⟨b, 0, none⟩)] w (DrawC B b 21 w) := by
  have hlt := h.lt
  have HBB := Lib.hid h.base
  have HC := Lib.hid (specGood10_any B b w h)
  clear h
  go_enter Try.func59, Try.ntmps59
  go_wp2_with fail
  refine HC.out.mono ?_; rintro e w1 ⟨v, ts, rfl, hL, hl5, hsm, hS, hg⟩
  obtain ⟨g, cap, rfl⟩ := hL.1
  obtain ⟨hgB, hgl⟩ := hL.2.lt g rfl
  have hgb : g ≠ b := by omega
  have HL1 := Lib.hid hL; have HM := Lib.hid hsm; have HS1 := Lib.hid hS; have HG1 := Lib.hid hg
  clear hL hsm hS hg HC
  by_cases h0 : ts.length = 0
  · have HF := Lib.hid (show DrawnC w w1 g cap 21 ts from ⟨L_cap10 HL1.out, hgB, hgl, HL1.out.reads, by omega, HM.out⟩)
    rw [h0]
    go_wp2_with fail
    go_ret
    exact ⟨g, cap, ts, by rw [h0]; rfl, HF.out, HS1.out, HG1.out⟩
  · have hpos : 0 < ts.length := by omega
    go_wp2_with fail
    refine (specNext_any B b ts.length w1 (by omega) HS1.out).mono ?_; rintro e w2 ⟨kk, rfl, hx, hx1, hS, hg⟩
    have hkk : 0 ≤ kk ∧ kk < (ts.length : Int) := by
      by_cases hh : 1 < (ts.length : Int)
      · exact hx hh
      · have := hx1 (by omega); omega
    clear hx1
    obtain ⟨lk, uk⟩ := hkk
    obtain ⟨k, rfl⟩ := Int.eq_ofNat_of_zero_le lk
    have hkl : k < ts.length := by omega
    have HS2 := Lib.hid hS; have HG2 := Lib.hid (grown_trans HG1.out hg); have HL2 := Lib.hid (HL1.out.grown hg hlt)
    clear hS hg hx lk uk HL1
    go_wp2_with fail
    refine (specNext_any B b 40 w2 (by omega) HS2.out).mono ?_; rintro e w3 ⟨sw, rfl, hx, _, hS, hg⟩
    obtain ⟨ls, us⟩ := hx (by omega)
    have HS3 := Lib.hid hS; have HG3 := Lib.hid (grown_trans HG2.out hg); have HL3 := Lib.hid (HL2.out.grown hg hlt)
    have hgl3 := (HL3.out.2.lt g rfl).2
    clear hS hg hx HL2 hgl
    obtain ⟨s, hs⟩ : ∃ s, ts[k]? = some s := ⟨_, List.getElem?_eq_getElem hkl⟩
    have HSK := Lib.hid hs
    have hsml := HM.out k s hs
    obtain ⟨⟨hse1, hse2⟩, hsd1, hsd2⟩ := hsml
    clear hs
    have hsw : sw = 0 ∨ sw = 1 ∨ sw = 2 ∨ sw = 3 ∨ 4 ≤ sw := by omega
    rcases hsw with rfl | rfl | rfl | rfl | hsw
    · go_wp2_with fail
      refine (specNext_any B b 5 w3 (by omega) HS3.out).mono ?_; rintro e w4 ⟨p, rfl, hx, _, hS, hg⟩
      obtain ⟨l6, u6⟩ := hx (by omega)
      have q1 : IntKind.i64.wrap (p - 1) = p - 1 := IntWalk.i64_in _ (by omega)
      have HS4 := Lib.hid hS; have HG4 := Lib.hid (grown_trans HG3.out hg); have HL4 := Lib.hid (HL3.out.grown hg hlt)
      clear hS hg hx
      obtain ⟨c0, c1, c2, c3⟩ := HL4.out.at HSK.out
      have hfz := L_frozen10 HL4.out (k * 4 + 3)
      have hgl4 := (HL4.out.2.lt g rfl).2
      have HF := Lib.hid (show DrawnC w (w4.setCell ⟨g, k * 4 + 3, none⟩ (.int .i64 (p - 1))) g cap 21 (ts.set k { s with moves := (p - 1) }) from
        ⟨by rw [List.length_set]; exact L_cap10 HL4.out, hgB, by simp [World.setCell]; exact hgl4,
         list_set10 HL4.out.reads HSK.out (by omega) (by intro j hj; have hcs : j = 0 ∨ j = 1 ∨ j = 2 ∨ j = 3 := (by omega); rcases hcs with rfl | rfl | rfl | rfl <;> rfl),
         by rw [List.length_set]; omega, smallCL_set HM.out ⟨by show -100 ≤ s.fst ∧ s.fst ≤ 100000; omega, by show -20 ≤ s.day ∧ s.day ≤ 90000; omega⟩⟩)
      have HS5 := Lib.hid (src_set10 HS4.out (Ne.symm hgb) (by have := HBB.out; omega) (.int .i64 (p - 1)) (k := g) (o := k * 4 + 3))
      have HG5 := Lib.hid (grown_new10 HG4.out hgB (.int .i64 (p - 1)) (o := k * 4 + 3))
      go_wp2_with fail
      go_ret
      exact ⟨g, cap, _, by rw [List.length_set]; rfl, HF.out, HS5.out, HG5.out⟩
    · obtain ⟨c0, c1, c2, c3⟩ := HL3.out.at HSK.out
      have q1 : IntKind.i64.wrap (s.day + 1) = s.day + 1 := IntWalk.i64_in _ (by omega)
      have hfz := L_frozen10 HL3.out (k * 4 + 1)
      have HF := Lib.hid (show DrawnC w (w3.setCell ⟨g, k * 4 + 1, none⟩ (.int .i64 (s.day + 1))) g cap 21 (ts.set k { s with fst := (s.day + 1) }) from
        ⟨by rw [List.length_set]; exact L_cap10 HL3.out, hgB, by simp [World.setCell]; exact hgl3,
         list_set10 HL3.out.reads HSK.out (by omega) (by intro j hj; have hcs : j = 0 ∨ j = 1 ∨ j = 2 ∨ j = 3 := (by omega); rcases hcs with rfl | rfl | rfl | rfl <;> rfl),
         by rw [List.length_set]; omega, smallCL_set HM.out ⟨by show -100 ≤ s.day + 1 ∧ s.day + 1 ≤ 100000; omega, by show -20 ≤ s.day ∧ s.day ≤ 90000; omega⟩⟩)
      have HS5 := Lib.hid (src_set10 HS3.out (Ne.symm hgb) (by have := HBB.out; omega) (.int .i64 (s.day + 1)) (k := g) (o := k * 4 + 1))
      have HG5 := Lib.hid (grown_new10 HG3.out hgB (.int .i64 (s.day + 1)) (o := k * 4 + 1))
      go_wp2_with fail
      go_ret
      exact ⟨g, cap, _, by rw [List.length_set]; rfl, HF.out, HS5.out, HG5.out⟩
    · go_wp2_with fail
      refine (specPick_any B b w3.heap.size [0, 1000000, 1000001] 3 3 _ rfl (by omega) (by omega) (HS3.out.alloc _) (by have := HS3.out.lt; omega) (alloc_ints w3 2 _)).mono ?_
      rintro e w4 ⟨p, rfl, hp, hS, hg⟩
      have HS4 := Lib.hid hS; have HG4 := Lib.hid (grown_trans (grown_trans HG3.out (grown_alloc _ _ _)) hg); have HL4 := Lib.hid ((HL3.out.alloc _).grown hg hlt)
      clear hS hg hp
      obtain ⟨c0, c1, c2, c3⟩ := HL4.out.at HSK.out
      have hfz := L_frozen10 HL4.out (k * 4)
      have hgl4 := (HL4.out.2.lt g rfl).2
      have HF := Lib.hid (show DrawnC w (w4.setCell ⟨g, k * 4, none⟩ (.int .i64 p)) g cap 21 (ts.set k { s with num := p }) from
        ⟨by rw [List.length_set]; exact L_cap10 HL4.out, hgB, by simp [World.setCell]; exact hgl4,
         list_set10 (k := k) (r := 0) HL4.out.reads HSK.out (by omega) (by intro j hj; have hcs : j = 0 ∨ j = 1 ∨ j = 2 ∨ j = 3 := (by omega); rcases hcs with rfl | rfl | rfl | rfl <;> rfl),
         by rw [List.length_set]; omega, smallCL_set HM.out ⟨by show -100 ≤ s.fst ∧ s.fst ≤ 100000; omega, by show -20 ≤ s.day ∧ s.day ≤ 90000; omega⟩⟩)
      have HS5 := Lib.hid (src_set10 HS4.out (Ne.symm hgb) (by have := HBB.out; omega) (.int .i64 p) (k := g) (o := k * 4))
      have HG5 := Lib.hid (grown_new10 HG4.out hgB (.int .i64 p) (o := k * 4))
      go_wp2_with fail
      go_ret
      exact ⟨g, cap, _, by rw [List.length_set]; rfl, HF.out, HS5.out, HG5.out⟩
    · have hLen := Lib.hid hl5
      have HS3' := Lib.hid HS3.out; have HG3' := Lib.hid HG3.out; have HL3' := Lib.hid HL3.out
      go_wp2_with fail
      go_loopw [3, 5] (fun v i wr => ∃ (qs : List Call) (m : Nat), i = .int .i64 (200 + (m : Int)) ∧ m ≤ qs.length ∧ qs.length ≤ 21 ∧ SmallCL qs ∧ Call.L wr w.heap.size v qs ∧ Src B 93 wr b ∧ w.grownBy wr (some b)) (fun _ i _ => (300 - intOf i).toNat)
      case atStart => exact ⟨ts, 0, rfl, by omega, by omega, HM.out, HL3'.out, HS3'.out, HG3'.out⟩
      case round =>
        clear HSK HS3 HG3 HL3 HS3' HG3' HL3' HM hsd1 hsd2 hse1 hse2 hkl hpos h0
        obtain ⟨qs, m, rfl, hm, hq21, hsm, ho, hS, hG⟩ := hrel
        have HS := Lib.hid hS; have HG := Lib.hid hG; have HM := Lib.hid hsm
        obtain ⟨g2, cap2, rfl⟩ := ho.1
        have HO := Lib.hid ho
        have q1 : IntKind.i64.wrap (200 + (m : Int) + 1) = 200 + (m : Int) + 1 := IntWalk.i64_in _ (by omega)
        clear ho hS hG hsm
        go_wp2_with fail
        refine (specNext_any B b 2 wr (by omega) HS.out).mono ?_; rintro e w4 ⟨y, rfl, hx, _, hS, hg⟩
        obtain ⟨ly, uy⟩ := hx (by omega)
        have q2 : IntKind.i64.wrap (20 + y) = 20 + y := IntWalk.i64_in _ (by omega)
        have HS4 := Lib.hid hS; have HG4 := Lib.hid (grown_trans HG.out hg); have HO4 := Lib.hid (HO.out.grown hg hlt)
        clear hS hg hx
        by_cases hlen : (qs.length : Int) < 20 + y
        · have hdec : decide ((qs.length : Int) < 20 + y) = true := decide_eq_true hlen
          have HLt := Lib.hid (HO4.out.alloc (.cells #[.int .i64 (200 + (m : Int)), .int .i64 125, .int .i64 125, .int .i64 0] 41))
          have HSt := Lib.hid (HS4.out.alloc (.cells #[.int .i64 (200 + (m : Int)), .int .i64 125, .int .i64 125, .int .i64 0] 41))
          have HGt := Lib.hid (grown_trans HG4.out (grown_alloc w4 (.cells #[.int .i64 (200 + (m : Int)), .int .i64 125, .int .i64 125, .int .i64 0] 41) (some b)))
          have hszt : w.heap.size ≤ (w4.alloc (.cells #[.int .i64 (200 + (m : Int)), .int .i64 125, .int .i64 125, .int .i64 0] 41)).heap.size := HGt.out.size
          go_wp2_with (at_builtin; refine wpList_Call_append rfl _ _ rfl _ qs rfl HLt.out ⟨w4.heap.size, 0, none⟩ 1 1 [⟨200 + (m : Int), 125, 125, 0⟩] rfl rfl (Call.lit_cells w4 ⟨200 + (m : Int), 125, 125, 0⟩ 41) ?c1 ?c2 ?_)
          case c1 => simp; omega
          case c2 => exact hszt
          intro v8 w8 hL8 hg8 _
          have HL8 := Lib.hid hL8
          have HS8 := Lib.hid (src_row10 HSt.out hg8 (fun k hk => by have := (HLt.out.2.lt k hk).1; have := HBB.out; omega))
          have HG8 := Lib.hid (gb_own10 HGt.out hg8 (fun k hk => (HLt.out.2.lt k hk).1))
          have HSM := Lib.hid (smallCL_snoc HM.out (c := ⟨200 + (m : Int), 125, 125, 0⟩) ⟨by show (-100 : Int) ≤ 125 ∧ (125 : Int) ≤ 100000; omega, by show (-20 : Int) ≤ 125 ∧ (125 : Int) ≤ 90000; omega⟩)
          clear hL8 hg8 hszt HLt HSt HGt
          go_wp2_with fail
          go_roundw
          case rel => exact ⟨qs ++ [⟨200 + (m : Int), 125, 125, 0⟩], m + 1, by go_num, by simp; omega, by simp; omega, HSM.out, HL8.out, HS8.out, HG8.out⟩
          case measure => simp [intOf]; omega
        · have hdec : decide ((qs.length : Int) < 20 + y) = false := decide_eq_false hlen
          have hgl4 := (HO4.out.2.lt g2 rfl).2
          have hgb2 := (HO4.out.2.lt g2 rfl).1
          have HF := Lib.hid (show DrawnC w w4 g2 cap2 21 qs from ⟨L_cap10 HO4.out, hgb2, hgl4, HO4.out.reads, hq21, HM.out⟩)
          go_wp2_with fail
          go_ret
          exact ⟨g2, cap2, qs, rfl, HF.out, HS4.out, HG4.out⟩
    · have hsb0 : (sw == 0) = false := beq_eq_false_iff_ne.2 (by omega)
      have hsb1 : (sw == 1) = false := beq_eq_false_iff_ne.2 (by omega)
      have hsb2 : (sw == 2) = false := beq_eq_false_iff_ne.2 (by omega)
      have hsb3 : (sw == 3) = false := beq_eq_false_iff_ne.2 (by omega)
      have HF := Lib.hid (show DrawnC w w3 g cap 21 ts from ⟨L_cap10 HL3.out, hgB, hgl3, HL3.out.reads, by omega, HM.out⟩)
      clear hsw ls us
      go_wp2_with fail
      go_ret
      exact ⟨g, cap, ts, rfl, HF.out, HS3.out, HG3.out⟩
end Go.Proofs.Ytekhdggaelppkaa
