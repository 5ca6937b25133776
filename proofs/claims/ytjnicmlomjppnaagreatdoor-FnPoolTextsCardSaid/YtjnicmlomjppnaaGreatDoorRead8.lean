/- Contract: spec.ReadPool reads a pool's text. -/
import Derived.Test.YtjnicmlomjppnaaGreatDoorChecked
import Derived.Test.YtjnicmlomjppnaaGreatDoorBase0
import Derived.Test.YtjnicmlomjppnaaGreatDoorPoolA
import Derived.Test.YtjnicmlomjppnaaGreatDoorRowV
import Derived.Test.YtjnicmlomjppnaaGreatDoorSplit
import Derived.Test.YtjnicmlomjppnaaGreatDoorSplitS
import Derived.Test.YtjnicmlomjppnaaGreatDoorMidB
import Derived.Test.YtjnicmlomjppnaaGreatDoorText8
import Derived.Test.YtjnicmlomjppnaaGreatDoorSpec80
import Derived.WalkKit
import Derived.WalkSpells
import Derived.WalkLawsBesides
import Derived.Lib.Hide
namespace Go.Proofs.YtjnicmlomjppnaaGreatDoor
open Go.RowKit Pure1 Pure2 Pure3 Pure4 Pure5 Pure7 Pure8 Pure30 Pure40 Pure42 Pure60 Pure86 Rec
open Pure80 hiding zeroP

/-- a pool and a code -/
def SaysQ (q : PoolV) (n : Int) (w : World) (e : Ending) (w' : World) : Prop :=
  ∃ a0 c0 a1 c1, e = .returned (.tuple #[.agg #[.slice a0 q.nums.length c0, .slice a1 q.drawn.length c1, .int .i64 q.state], .int .i64 n]) ∧ PoolV.In w' a0 q.nums.length a1 q.drawn.length q ∧ q.drawn.length ≤ c1 ∧ Below w.heap.size w w'
theorem SaysQ.zero {w w' : World} (h : Below w.heap.size w w') : SaysQ Pure80.zeroP 6 w (.returned (.tuple #[.agg #[.slice none 0 0, .slice none 0 0, .int .i64 0], .int .i64 6])) w' :=
  ⟨none, 0, none, 0, rfl, ⟨⟨rfl, Nat.zero_le _, .inl rfl⟩, ⟨rfl, Nat.zero_le _, .inl rfl⟩⟩, Nat.le_refl _, h⟩
theorem intsAt_grown {W W' : World} {a : Option Addr} {zs : List Int} {b : Nat} (h : IntsAt W a zs) (hg : W.grownBy W' (some b)) (hne : ∀ x, a = some x → x.block ≠ b) : IntsAt W' a zs := by
  rcases h with rfl | ⟨g, off, rfl, hc⟩
  · exact .inl rfl
  · exact .inr ⟨g, off, rfl, fun i x hx => hg.cell (hc i x hx) (by intro e; cases e; exact hne _ rfl rfl)⟩
theorem three_of {ss : List ByteArray} (h : ss.length = 3) : ∃ a b c, ss = [a, b, c] := by
  match ss, h with
  | [a, b, c], _ => exact ⟨a, b, c, rfl⟩
theorem below_put3 {w W : World} (h : Below w.heap.size w W) (u v x : Value) : Below w.heap.size w (((W.setCell ⟨w.heap.size, 0, none⟩ u).setCell ⟨w.heap.size, 1, none⟩ v).setCell ⟨w.heap.size, 2, none⟩ x) :=
  ((h.setCell (Nat.le_refl _) u).setCell (Nat.le_refl _) v).setCell (Nat.le_refl _) x

set_option maxRecDepth 100000 in
set_option maxHeartbeats 4000000 in
theorem specReadPool_any (s : ByteArray) (w : World) (hs : s.size ≤ 1048576) :
    Calls Tryz.prog 10 #[.string s] w (SaysQ (readQ s).1 (readQ s).2 w) := by
  have HW := Lib.hid (boxed w (.cells #[.slice none 0 0, .slice none 0 0, .int .i64 0] 26))
  have HR0 := Lib.hid (rowV_box w 26 [.slice none 0 0, .slice none 0 0, .int .i64 0])
  have HS := Lib.hid (specSplitS_any s (w.alloc (.cells #[.slice none 0 0, .slice none 0 0, .int .i64 0] 26)) hs)
  go_enter Tryz.func10, Tryz.ntmps10
  go_wp2_with fail
  refine HS.out.mono ?_; rintro e w1 ⟨v, rfl, ho, hB⟩
  obtain ⟨a, cap, rfl, _, hat⟩ := strsAt_of_owns ho
  have HB1 := Lib.hid (HW.out.trans (hB.mono HW.out.size)); have HR1 := Lib.hid (HR0.out.below hB)
  have HAt := Lib.hid hat
  clear hB hat ho HW HR0 HS
  by_cases h3 : (partsS s).length = 3
  · obtain ⟨ta, tb, tc, hp3⟩ := three_of h3
    have hszs := partsS_sizes s
    rw [hp3] at hszs
    have za := hszs ta (by simp); have zb := hszs tb (by simp); have zc := hszs tc (by simp)
    have hn3 : (((partsS s).length : Int) != 3) = false := by rw [h3]; rfl
    have HP3 := Lib.hid hp3
    have hat := HAt.out
    rw [hp3] at hat
    have h3' : (partsS s).length = 3 := h3
    generalize (partsS s).length = len at h3' hn3 ⊢
    subst h3'
    clear h3 hszs hp3 HAt
    rcases hat with hnil | ⟨g, off, hga, hat⟩
    · cases hnil
    · subst hga
      have c0 := hat 0 ta rfl; have c1 := hat 1 tb rfl; have c2 := hat 2 tc rfl
      rw [Nat.add_zero] at c0
      have HCe := Lib.hid (show w1.cell? ⟨g, off + 1, none⟩ = some (.string tb) ∧ w1.cell? ⟨g, off + 2, none⟩ = some (.string tc) from ⟨c1, c2⟩)
      clear hat c1 c2
      go_wp2_with fail
      refine (specReadListC_any ta w1 (by omega)).mono ?_; rintro e w2 ⟨a0, e0, rfl, l0, o0, hI0, hB⟩
      have hrl1 := HR1.out.lt
      have P0 := Lib.hid (show ∀ x, a0 = some x → x.block ≠ w.heap.size from fun x hx => by have := o0 x hx; omega)
      have HB2 := Lib.hid (HB1.out.trans (hB.mono HB1.out.size)); have HR2 := Lib.hid (HR1.out.below hB)
      have c1 := cell_later hB HCe.out.1
      have HC2 := Lib.hid (cell_later hB HCe.out.2)
      have HI2 := Lib.hid hI0
      clear hB hI0 HB1 HR1 HCe c0 o0
      obtain ⟨n1, k1, hr1⟩ : ∃ x y, readList ta = (x, y) := ⟨_, _, rfl⟩
      have hn1 := readList_len ta
      rw [hr1] at HI2 l0 hn1 ⊢
      simp only at HI2 l0 hn1 ⊢
      go_wp2_with fail
      refine (specReadListC_any tb w2 (by omega)).mono ?_; rintro e w3 ⟨a1, e1, rfl, l1, o1, hI1, hB⟩
      have hrl2 := HR2.out.lt
      have P1 := Lib.hid (show ∀ x, a1 = some x → x.block ≠ w.heap.size from fun x hx => by have := o1 x hx; omega)
      clear o1
      have HB3 := Lib.hid (HB2.out.trans (hB.mono HB2.out.size)); have HR3 := Lib.hid (HR2.out.below hB)
      have c2 := cell_later hB HC2.out
      have HI3 := Lib.hid (HI2.out.below hB)
      have HJ3 := Lib.hid hI1
      clear hB hI1 HB2 HR2 HC2 HI2 c1
      obtain ⟨n2, k2, hr2⟩ : ∃ x y, readList tb = (x, y) := ⟨_, _, rfl⟩
      have hn2 := readList_len tb
      rw [hr2] at HJ3 l1 hn2 ⊢
      simp only at HJ3 l1 hn2 ⊢
      go_wp2_with fail
      refine (specValue_any tc w3 (by omega)).mono ?_; rintro e w4 ⟨st, bb, rfl, b0, b1, hv, hB⟩
      have HB4 := Lib.hid (HB3.out.trans (hB.mono HB3.out.size)); have HR4 := Lib.hid (HR3.out.below hB)
      have hin : PoolV.In w4 a0 n1.length a1 n2.length ⟨n1, n2, st⟩ := ⟨⟨rfl, by unfold maxLen; omega, HI3.out.below hB⟩, ⟨rfl, by unfold maxLen; omega, HJ3.out.below hB⟩⟩
      have HIn4 := Lib.hid hin
      clear hB hin HB3 HR3 HI3 HJ3 c2
      have hal := boxed w4 (.cells #[.slice a0 n1.length e0, .slice a1 n2.length e1, .int .i64 st] 26)
      have HB5 := Lib.hid (HB4.out.trans (hal.mono HB4.out.size)); have HR5 := Lib.hid (HR4.out.below hal)
      have HIn5 := Lib.hid (HIn4.out.below hal)
      have HX5 := Lib.hid (PoolV.boxed w4 a0 n1.length e0 a1 n2.length e1 ⟨n1, n2, st⟩ 26)
      clear hal HB4 HR4 HIn4
      have r0 := HR5.out.cell (show _[0]? = some _ from rfl); have r1 := HR5.out.cell (show _[1]? = some _ from rfl); have r2 := HR5.out.cell (show _[2]? = some _ from rfl)
      have f0 := HR5.out.frozen 0; have f1 := HR5.out.frozen 1; have f2 := HR5.out.frozen 2
      have HBad := Lib.hid (fun (h : readQ s = (Pure80.zeroP, 6)) => show SaysQ (readQ s).1 (readQ s).2 w (.returned (.tuple #[.agg #[.slice none 0 0, .slice none 0 0, .int .i64 0], .int .i64 6])) _ from by rw [h]; exact SaysQ.zero (below_put3 HB5.out (.slice none 0 0) (.slice none 0 0) (.int .i64 0)))
      by_cases hk1 : k1 = 0
      · by_cases hk2 : k2 = 0
        · subst hk1 hk2
          cases bb with
          | false =>
            have HN := Lib.hid (HBad.out (readQ_third HP3.out (by omega) (by omega) hv))
            clear HBad hv
            go_wp2_with fail
            (try simp only [Exit.inBlock, Exit.then])
            refine bodyPost_ret (v := .tuple #[.agg #[.slice none 0 0, .slice none 0 0, .int .i64 0], .int .i64 6]) ?_ rfl HN.out
            rw [Rec.results_cell_tmp rfl]
            go_simp
          | true =>
            obtain ⟨x0, x1, x2⟩ := HX5.out
            have hdc := (hv.1 rfl).1
            cases hp : isPool ⟨n1, n2, st⟩
            · have HN := Lib.hid (readQ_fourth HP3.out hr1 hr2 hdc (by omega) hp)
              have HC := Lib.hid (fun W (hx : PoolV.In W a0 n1.length a1 n2.length ⟨n1, n2, st⟩) => show Calls Tryz.prog 18 #[.agg #[.slice a0 n1.length e0, .slice a1 n2.length e1, .int .i64 st]] W (SaysP false W) from by have e := specIsPool8_any a0 n1.length e0 a1 n2.length e1 ⟨n1, n2, st⟩ W hx l1; rw [hp] at e; exact e)
              clear hp hdc hv HBad r0 r1 r2 f0 f1 f2 hr1 hr2
              go_wp2_with fail
              refine (HC.out _ HIn5.out).mono ?_; rintro e w6 ⟨rfl, hB⟩
              have HB6 := Lib.hid (HB5.out.trans (hB.mono HB5.out.size)); have HR6 := Lib.hid (HR5.out.below hB)
              have r0 := HR6.out.cell (show _[0]? = some _ from rfl); have r1 := HR6.out.cell (show _[1]? = some _ from rfl); have r2 := HR6.out.cell (show _[2]? = some _ from rfl)
              have f0 := HR6.out.frozen 0; have f1 := HR6.out.frozen 1; have f2 := HR6.out.frozen 2
              clear hB x0 x1 x2
              have HN2 := Lib.hid (show SaysQ (readQ s).1 (readQ s).2 w (.returned (.tuple #[.agg #[.slice none 0 0, .slice none 0 0, .int .i64 0], .int .i64 6])) _ from by rw [HN.out]; exact SaysQ.zero (below_put3 HB6.out (.slice none 0 0) (.slice none 0 0) (.int .i64 0)))
              clear HN
              go_wp2_with fail
              (try simp only [Exit.inBlock, Exit.then])
              refine bodyPost_ret (v := .tuple #[.agg #[.slice none 0 0, .slice none 0 0, .int .i64 0], .int .i64 6]) ?_ rfl HN2.out
              rw [Rec.results_cell_tmp rfl]
              go_simp
            · have HN := Lib.hid (readQ_good HP3.out hr1 hr2 hdc hp)
              have HC := Lib.hid (fun W (hx : PoolV.In W a0 n1.length a1 n2.length ⟨n1, n2, st⟩) => show Calls Tryz.prog 18 #[.agg #[.slice a0 n1.length e0, .slice a1 n2.length e1, .int .i64 st]] W (SaysP true W) from by have e := specIsPool8_any a0 n1.length e0 a1 n2.length e1 ⟨n1, n2, st⟩ W hx l1; rw [hp] at e; exact e)
              clear hp hdc hv HBad r0 r1 r2 f0 f1 f2 hr1 hr2
              go_wp2_with fail
              refine (HC.out _ HIn5.out).mono ?_; rintro e w6 ⟨rfl, hB⟩
              have HB6 := Lib.hid (HB5.out.trans (hB.mono HB5.out.size)); have HR6 := Lib.hid (HR5.out.below hB); have HIn6 := Lib.hid (HIn5.out.below hB)
              have r0 := HR6.out.cell (show _[0]? = some _ from rfl); have r1 := HR6.out.cell (show _[1]? = some _ from rfl); have r2 := HR6.out.cell (show _[2]? = some _ from rfl)
              have f0 := HR6.out.frozen 0; have f1 := HR6.out.frozen 1; have f2 := HR6.out.frozen 2
              clear x0 x1 x2
              obtain ⟨x0, x1, x2⟩ := HX5.out.below hB
              clear hB
              have hgw := grown_on (grown_on (grown_cell w6 w.heap.size 0 (.slice a0 n1.length e0)) (grown_cell _ w.heap.size 1 (.slice a1 n2.length e1))) (grown_cell _ w.heap.size 2 (.int .i64 st))
              have HF := Lib.hid (show SaysQ (readQ s).1 (readQ s).2 w (.returned (.tuple #[.agg #[.slice a0 n1.length e0, .slice a1 n2.length e1, .int .i64 st], .int .i64 0])) _ from by
                rw [HN.out]
                exact ⟨a0, e0, a1, e1, rfl, ⟨⟨rfl, HIn6.out.1.2.1, intsAt_grown HIn6.out.1.2.2 hgw P0.out⟩, ⟨rfl, HIn6.out.2.2.1, intsAt_grown HIn6.out.2.2.2 hgw P1.out⟩⟩, l1, below_put3 HB6.out (.slice a0 n1.length e0) (.slice a1 n2.length e1) (.int .i64 st)⟩)
              clear hgw HN
              go_wp2_with fail
              (try simp only [Exit.inBlock, Exit.then])
              refine bodyPost_ret (v := .tuple #[.agg #[.slice a0 n1.length e0, .slice a1 n2.length e1, .int .i64 st], .int .i64 0]) ?_ rfl HF.out
              rw [Rec.results_cell_tmp rfl]
              go_simp
        · have HN := Lib.hid (HBad.out (readQ_second HP3.out (by rw [hr2]; exact hk2)))
          have ek : (k2 == 0) = false := beq_eq_false_iff_ne.2 hk2
          have ek2 : (k2 != 0) = true := bne_iff_ne.2 hk2
          subst hk1
          clear HBad hv hk2
          go_wp2_with fail
          (try simp only [Exit.inBlock, Exit.then])
          refine bodyPost_ret (v := .tuple #[.agg #[.slice none 0 0, .slice none 0 0, .int .i64 0], .int .i64 6]) ?_ rfl HN.out
          rw [Rec.results_cell_tmp rfl]
          go_simp
      · have HN := Lib.hid (HBad.out (readQ_first HP3.out (by rw [hr1]; exact hk1)))
        have ek : (k1 == 0) = false := beq_eq_false_iff_ne.2 hk1
        have ek2 : (k1 != 0) = true := bne_iff_ne.2 hk1
        clear HBad hv hk1
        go_wp2_with fail
        (try simp only [Exit.inBlock, Exit.then])
        refine bodyPost_ret (v := .tuple #[.agg #[.slice none 0 0, .slice none 0 0, .int .i64 0], .int .i64 6]) ?_ rfl HN.out
        rw [Rec.results_cell_tmp rfl]
        go_simp
  · have hn3 : (((partsS s).length : Int) != 3) = true := bne_iff_ne.2 (by omega)
    have hn4 : (((partsS s).length : Int) == 3) = false := beq_eq_false_iff_ne.2 (by omega)
    have r0 := HR1.out.cell (show _[0]? = some _ from rfl); have r1 := HR1.out.cell (show _[1]? = some _ from rfl); have r2 := HR1.out.cell (show _[2]? = some _ from rfl)
    have f0 := HR1.out.frozen 0; have f1 := HR1.out.frozen 1; have f2 := HR1.out.frozen 2
    have HN := Lib.hid (show SaysQ (readQ s).1 (readQ s).2 w (.returned (.tuple #[.agg #[.slice none 0 0, .slice none 0 0, .int .i64 0], .int .i64 6])) _ from by rw [readQ_len h3]; exact SaysQ.zero (below_put3 HB1.out (.slice none 0 0) (.slice none 0 0) (.int .i64 0)))
    clear h3
    go_wp2_with fail
    (try simp only [Exit.inBlock, Exit.then])
    refine bodyPost_ret (v := .tuple #[.agg #[.slice none 0 0, .slice none 0 0, .int .i64 0], .int .i64 6]) ?_ rfl HN.out
    rw [Rec.results_cell_tmp rfl]
    go_simp
end Go.Proofs.YtjnicmlomjppnaaGreatDoor
