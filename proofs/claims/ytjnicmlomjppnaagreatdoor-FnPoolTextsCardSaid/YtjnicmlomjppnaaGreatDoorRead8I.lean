/- Contract: impl.ReadPool reads a pool's text, into memory of its own. -/
import Derived.Test.YtjnicmlomjppnaaGreatDoorChecked
import Derived.Test.YtjnicmlomjppnaaGreatDoorBase0
import Derived.Test.YtjnicmlomjppnaaGreatDoorPoolA
import Derived.Test.YtjnicmlomjppnaaGreatDoorRowV
import Derived.Test.YtjnicmlomjppnaaGreatDoorSplit
import Derived.Test.YtjnicmlomjppnaaGreatDoorSplitS
import Derived.Test.YtjnicmlomjppnaaGreatDoorMidB
import Derived.Test.YtjnicmlomjppnaaGreatDoorText8
import Derived.Test.YtjnicmlomjppnaaGreatDoorImpl8b
import Derived.Test.YtjnicmlomjppnaaGreatDoorRead8
import Derived.Test.YtjnicmlomjppnaaGreatDoorSpl
import Derived.WalkKit
import Derived.WalkSpells
import Derived.WalkLawsBesides
import Derived.Lib.Hide
namespace Go.Proofs.YtjnicmlomjppnaaGreatDoor
open Go.RowKit Pure1 Pure2 Pure3 Pure4 Pure5 Pure7 Pure8 Pure30 Pure40 Pure42 Pure60 Pure86 Rec
open Pure80 hiding zeroP

/-- a pool of our own and a code -/
def SaysQO (q : PoolV) (n : Int) (w : World) (e : Ending) (w' : World) : Prop :=
  ∃ a0 e0 a1 e1, e = .returned (.tuple #[.agg #[.slice a0 q.nums.length e0, .slice a1 q.drawn.length e1, .int .i64 q.state], .int .i64 n]) ∧ OwnI w.heap.size w' a0 q.nums.length (fun i => q.nums.getD i 0) ∧ OwnI w.heap.size w' a1 q.drawn.length (fun i => q.drawn.getD i 0) ∧ Apart a0 a1 ∧
    (∀ x, a0 = some x → w.heap.size ≤ x.block ∧ x.block < w'.heap.size) ∧ (∀ x, a1 = some x → w.heap.size ≤ x.block ∧ x.block < w'.heap.size) ∧ Below w.heap.size w w' ∧ q.drawn.length ≤ e1
theorem SaysQO.zero {w w' : World} (h : Below w.heap.size w w') : SaysQO Pure80.zeroP 6 w (.returned (.tuple #[.agg #[.slice none 0 0, .slice none 0 0, .int .i64 0], .int .i64 6])) w' :=
  ⟨none, 0, none, 0, rfl, .inl rfl, .inl rfl, (fun x y hx => by cases hx), (fun x hx => by cases hx), (fun x hx => by cases hx), h, Nat.le_refl _⟩
theorem ownI_grown8 {B b : Nat} {w w' : World} {a : Option Addr} {len : Nat} {g : Nat → Int} (h : OwnI B w a len g) (hg : w.grownBy w' (some b)) (hb : b < B) : OwnI B w' a len g := by
  rcases h with h | ⟨c, f, N, rfl, hB, hN, hr, hf⟩
  · exact .inl h
  · exact .inr ⟨c, f, N, rfl, hB, hN, hr.of_block (hg.block c hr.lt (by intro e; cases e; omega)), hf⟩
theorem ownI_base8 {B C : Nat} {w : World} {a : Option Addr} {len : Nat} {g : Nat → Int} (h : OwnI B w a len g) (hb : C ≤ B) : OwnI C w a len g := by
  rcases h with h | ⟨c, f, N, rfl, hB, hN, hr, hf⟩
  · exact .inl h
  · exact .inr ⟨c, f, N, rfl, Nat.le_trans hb hB, hN, hr, hf⟩

set_option maxRecDepth 100000 in
set_option maxHeartbeats 4000000 in
theorem implReadPool_any (s : ByteArray) (w : World) (hs : s.size ≤ 1048576) (hM : MaxAt w) (hE : ErrsAt w) (hT : Tabs Tryz.prog w) :
    Calls Tryz.prog 9 #[.string s] w (SaysQO (readQ s).1 (readQ s).2 w) := by
  have HW := Lib.hid (boxed w (.cells #[.slice none 0 0, .slice none 0 0, .int .i64 0] 26))
  have HR0 := Lib.hid (rowV_box w 26 [.slice none 0 0, .slice none 0 0, .int .i64 0])
  have HS := Lib.hid (show Calls Tryz.prog 23 #[.string s, .string ⟨#[47]⟩] (w.alloc (.cells #[.slice none 0 0, .slice none 0 0, .int .i64 0] 26)) (fun e w' => ∃ a cap, e = .returned (.slice a (partsS s).length cap) ∧ StrsAt w' a (partsS s) ∧ Below (w.alloc (.cells #[.slice none 0 0, .slice none 0 0, .int .i64 0] 26)).heap.size (w.alloc (.cells #[.slice none 0 0, .slice none 0 0, .int .i64 0] 26)) w') from by
    obtain ⟨m, hm⟩ := hM.below HW.out
    have hC := Tryz.strings_Split s slash m (w.alloc (.cells #[.slice none 0 0, .slice none 0 0, .int .i64 0] 26)) (by omega) hm (by decide)
    rw [splitB_partsS, ← partsS_length] at hC
    refine hC.mono ?_
    rintro e w' ⟨rfl, rfl⟩
    exact ⟨_, _, rfl, .inr ⟨_, 0, rfl, fun i x hx => by rw [Nat.zero_add]; exact alloc_strs8 _ _ _ i x hx⟩, boxed _ _⟩)
  have HM := Lib.hid hM; have HE := Lib.hid hE; have HT := Lib.hid hT
  clear hM hE hT
  go_enter Tryz.func9, Tryz.ntmps9
  go_wp2_with fail
  refine HS.out.mono ?_; rintro e w1 ⟨a, cap, rfl, hat, hB⟩
  have HB1 := Lib.hid (HW.out.trans (hB.mono HW.out.size)); have HR1 := Lib.hid (HR0.out.below hB)
  have HAt := Lib.hid hat
  clear hB hat HW HR0 HS
  by_cases h3 : (partsS s).length = 3
  · obtain ⟨ta, tb, tc, hp3⟩ := three_of h3
    have hszs := partsS_sizes s
    rw [hp3] at hszs
    have za := hszs ta (by simp); have zb := hszs tb (by simp); have zc := hszs tc (by simp)
    have hn3 : (((partsS s).length : Int) != 3) = false := by rw [h3]; rfl
    have HP3 := Lib.hid hp3
    have hat := HAt.out
    rw [hp3] at hat
    have h3' : (partsS s).length = 3 := h3
    generalize (partsS s).length = len at h3' hn3 ⊢
    subst h3'
    clear h3 hszs hp3 HAt
    rcases hat with hnil | ⟨g, off, hga, hat⟩
    · cases hnil
    · subst hga
      have c0 := hat 0 ta rfl; have c1 := hat 1 tb rfl; have c2 := hat 2 tc rfl
      rw [Nat.add_zero] at c0
      have HCe := Lib.hid (show w1.cell? ⟨g, off + 1, none⟩ = some (.string tb) ∧ w1.cell? ⟨g, off + 2, none⟩ = some (.string tc) from ⟨c1, c2⟩)
      clear hat c1 c2
      go_wp2_with fail
      refine (implReadListC_any ta w1 (by omega) (HM.out.below HB1.out) (HE.out.below HB1.out) (HT.out.below Tryz.gPow HB1.out)).mono ?_; rintro e w2 ⟨a0, e0, rfl, l0, o0, hI0, hB⟩
      have hrl1 := HR1.out.lt
      have hs1 := HB1.out.size
      have P0 := Lib.hid (show ∀ x, a0 = some x → w.heap.size ≤ x.block ∧ x.block < w2.heap.size from fun x hx => by have := o0 x hx; omega)
      have HB2 := Lib.hid (HB1.out.trans (hB.mono HB1.out.size)); have HR2 := Lib.hid (HR1.out.below hB)
      have c1 := cell_later hB HCe.out.1
      have HC2 := Lib.hid (cell_later hB HCe.out.2)
      have HI2 := Lib.hid hI0
      clear hB hI0 HB1 HR1 HCe c0 o0
      obtain ⟨n1, k1, hr1⟩ : ∃ x y, readList ta = (x, y) := ⟨_, _, rfl⟩
      have hn1 := readList_len ta
      rw [hr1] at HI2 l0 hn1 ⊢
      simp only at HI2 l0 hn1 ⊢
      go_wp2_with fail
      refine (implReadListC_any tb w2 (by omega) (HM.out.below HB2.out) (HE.out.below HB2.out) (HT.out.below Tryz.gPow HB2.out)).mono ?_; rintro e w3 ⟨a1, e1, rfl, l1, o1, hI1, hB⟩
      have hrl2 := HR2.out.lt
      have hs2 := HB2.out.size
      have hs3 := hB.size
      have P1 := Lib.hid (show ∀ x, a1 = some x → w2.heap.size ≤ x.block ∧ x.block < w3.heap.size from fun x hx => o1 x hx)
      clear o1
      have HB3 := Lib.hid (HB2.out.trans (hB.mono HB2.out.size)); have HR3 := Lib.hid (HR2.out.below hB)
      have c2 := cell_later hB HC2.out
      have HI3 := Lib.hid (HI2.out.below hB)
      have HJ3 := Lib.hid hI1
      clear hB hI1 HB2 HR2 HC2 HI2 c1
      obtain ⟨n2, k2, hr2⟩ : ∃ x y, readList tb = (x, y) := ⟨_, _, rfl⟩
      have hn2 := readList_len tb
      rw [hr2] at HJ3 l1 hn2 ⊢
      simp only at HJ3 l1 hn2 ⊢
      go_wp2_with fail
      refine (implReadNumber_any tc w3 (by omega) (HE.out.below HB3.out) (HT.out.below Tryz.gPow HB3.out)).mono ?_; rintro e w4 ⟨st, bb, rfl, hv, hB⟩
      have HB4 := Lib.hid (HB3.out.trans (hB.mono HB3.out.size)); have HR4 := Lib.hid (HR3.out.below hB)
      have hin : PoolV.In w4 a0 n1.length a1 n2.length ⟨n1, n2, st⟩ := ⟨⟨rfl, by unfold maxLen; omega, ownI_reads (HI3.out.below hB)⟩, ⟨rfl, by unfold maxLen; omega, ownI_reads (HJ3.out.below hB)⟩⟩
      have HI4 := Lib.hid (HI3.out.below hB); have HJ4 := Lib.hid (HJ3.out.below hB)
      have hs4 := hB.size
      have HIn4 := Lib.hid hin
      clear hB hin HB3 HR3 HI3 HJ3 c2
      have hal := boxed w4 (.cells #[.slice a0 n1.length e0, .slice a1 n2.length e1, .int .i64 st] 26)
      have HB5 := Lib.hid (HB4.out.trans (hal.mono HB4.out.size)); have HR5 := Lib.hid (HR4.out.below hal)
      have HIn5 := Lib.hid (HIn4.out.below hal)
      have HI5 := Lib.hid (HI4.out.below hal); have HJ5 := Lib.hid (HJ4.out.below hal)
      have hs5 := hal.size
      have HX5 := Lib.hid (PoolV.boxed w4 a0 n1.length e0 a1 n2.length e1 ⟨n1, n2, st⟩ 26)
      clear hal HB4 HR4 HIn4 HI4 HJ4
      have r0 := HR5.out.cell (show _[0]? = some _ from rfl); have r1 := HR5.out.cell (show _[1]? = some _ from rfl); have r2 := HR5.out.cell (show _[2]? = some _ from rfl)
      have f0 := HR5.out.frozen 0; have f1 := HR5.out.frozen 1; have f2 := HR5.out.frozen 2
      have HBad := Lib.hid (fun (h : readQ s = (Pure80.zeroP, 6)) => show SaysQO (readQ s).1 (readQ s).2 w (.returned (.tuple #[.agg #[.slice none 0 0, .slice none 0 0, .int .i64 0], .int .i64 6])) _ from by rw [h]; exact SaysQO.zero (below_put3 HB5.out (.slice none 0 0) (.slice none 0 0) (.int .i64 0)))
      by_cases hk1 : k1 = 0
      · by_cases hk2 : k2 = 0
        · subst hk1 hk2
          cases bb with
          | false =>
            have HN := Lib.hid (HBad.out (readQ_third HP3.out (by omega) (by omega) hv))
            clear HBad hv
            go_wp2_with fail
            (try simp only [Exit.inBlock, Exit.then])
            refine bodyPost_ret (v := .tuple #[.agg #[.slice none 0 0, .slice none 0 0, .int .i64 0], .int .i64 6]) ?_ rfl HN.out
            rw [Rec.results_cell_tmp rfl]
            go_simp
          | true =>
            obtain ⟨x0, x1, x2⟩ := HX5.out
            have hdc := (hv.1 rfl).1
            have hb2 := (hv.1 rfl).2
            cases hp : isPool ⟨n1, n2, st⟩
            · have HN := Lib.hid (readQ_fourth HP3.out hr1 hr2 hdc (by omega) hp)
              have HC := Lib.hid (fun W (hx : PoolV.In W a0 n1.length a1 n2.length ⟨n1, n2, st⟩) => show Calls Tryz.prog 12 #[.agg #[.slice a0 n1.length e0, .slice a1 n2.length e1, .int .i64 st]] W (SaysP false W) from by have e := implIsPool8_any a0 n1.length e0 a1 n2.length e1 ⟨n1, n2, st⟩ W hx l1 (by omega); rw [hp] at e; exact e)
              clear hp hdc hv HBad r0 r1 r2 f0 f1 f2 hr1 hr2
              go_wp2_with fail
              refine (HC.out _ HIn5.out).mono ?_; rintro e w6 ⟨rfl, hB⟩
              have HB6 := Lib.hid (HB5.out.trans (hB.mono HB5.out.size)); have HR6 := Lib.hid (HR5.out.below hB)
              have r0 := HR6.out.cell (show _[0]? = some _ from rfl); have r1 := HR6.out.cell (show _[1]? = some _ from rfl); have r2 := HR6.out.cell (show _[2]? = some _ from rfl)
              have f0 := HR6.out.frozen 0; have f1 := HR6.out.frozen 1; have f2 := HR6.out.frozen 2
              clear hB x0 x1 x2
              have HN2 := Lib.hid (show SaysQO (readQ s).1 (readQ s).2 w (.returned (.tuple #[.agg #[.slice none 0 0, .slice none 0 0, .int .i64 0], .int .i64 6])) _ from by rw [HN.out]; exact SaysQO.zero (below_put3 HB6.out (.slice none 0 0) (.slice none 0 0) (.int .i64 0)))
              clear HN
              go_wp2_with fail
              (try simp only [Exit.inBlock, Exit.then])
              refine bodyPost_ret (v := .tuple #[.agg #[.slice none 0 0, .slice none 0 0, .int .i64 0], .int .i64 6]) ?_ rfl HN2.out
              rw [Rec.results_cell_tmp rfl]
              go_simp
            · have HN := Lib.hid (readQ_good HP3.out hr1 hr2 hdc hp)
              have HC := Lib.hid (fun W (hx : PoolV.In W a0 n1.length a1 n2.length ⟨n1, n2, st⟩) => show Calls Tryz.prog 12 #[.agg #[.slice a0 n1.length e0, .slice a1 n2.length e1, .int .i64 st]] W (SaysP true W) from by have e := implIsPool8_any a0 n1.length e0 a1 n2.length e1 ⟨n1, n2, st⟩ W hx l1 (by omega); rw [hp] at e; exact e)
              clear hp hdc hv HBad r0 r1 r2 f0 f1 f2 hr1 hr2
              go_wp2_with fail
              refine (HC.out _ HIn5.out).mono ?_; rintro e w6 ⟨rfl, hB⟩
              have HB6 := Lib.hid (HB5.out.trans (hB.mono HB5.out.size)); have HR6 := Lib.hid (HR5.out.below hB); have HI6 := Lib.hid (HI5.out.below hB); have HJ6 := Lib.hid (HJ5.out.below hB); have hs6 := hB.size
              have r0 := HR6.out.cell (show _[0]? = some _ from rfl); have r1 := HR6.out.cell (show _[1]? = some _ from rfl); have r2 := HR6.out.cell (show _[2]? = some _ from rfl)
              have f0 := HR6.out.frozen 0; have f1 := HR6.out.frozen 1; have f2 := HR6.out.frozen 2
              clear x0 x1 x2
              obtain ⟨x0, x1, x2⟩ := HX5.out.below hB
              clear hB
              have hgw := grown_on (grown_on (grown_cell w6 w.heap.size 0 (.slice a0 n1.length e0)) (grown_cell _ w.heap.size 1 (.slice a1 n2.length e1))) (grown_cell _ w.heap.size 2 (.int .i64 st))
              have HF := Lib.hid (show SaysQO (readQ s).1 (readQ s).2 w (.returned (.tuple #[.agg #[.slice a0 n1.length e0, .slice a1 n2.length e1, .int .i64 st], .int .i64 0])) _ from by
                rw [HN.out]
                have hgs := hgw.size
                exact ⟨a0, e0, a1, e1, rfl, ownI_base8 (ownI_grown8 HI6.out hgw (by omega)) (by omega), ownI_base8 (ownI_grown8 HJ6.out hgw (by omega)) (by omega), (fun x y hx hy => by have := P0.out x hx; have := P1.out y hy; omega), (fun x hx => by have := P0.out x hx; omega), (fun x hx => by have := P1.out x hx; omega), below_put3 HB6.out (.slice a0 n1.length e0) (.slice a1 n2.length e1) (.int .i64 st), l1⟩)
              clear hgw HN
              go_wp2_with fail
              (try simp only [Exit.inBlock, Exit.then])
              refine bodyPost_ret (v := .tuple #[.agg #[.slice a0 n1.length e0, .slice a1 n2.length e1, .int .i64 st], .int .i64 0]) ?_ rfl HF.out
              rw [Rec.results_cell_tmp rfl]
              go_simp
        · have HN := Lib.hid (HBad.out (readQ_second HP3.out (by rw [hr2]; exact hk2)))
          have ek : (k2 == 0) = false := beq_eq_false_iff_ne.2 hk2
          have ek2 : (k2 != 0) = true := bne_iff_ne.2 hk2
          subst hk1
          clear HBad hv hk2
          go_wp2_with fail
          (try simp only [Exit.inBlock, Exit.then])
          refine bodyPost_ret (v := .tuple #[.agg #[.slice none 0 0, .slice none 0 0, .int .i64 0], .int .i64 6]) ?_ rfl HN.out
          rw [Rec.results_cell_tmp rfl]
          go_simp
      · have HN := Lib.hid (HBad.out (readQ_first HP3.out (by rw [hr1]; exact hk1)))
        have ek : (k1 == 0) = false := beq_eq_false_iff_ne.2 hk1
        have ek2 : (k1 != 0) = true := bne_iff_ne.2 hk1
        clear HBad hv hk1
        go_wp2_with fail
        (try simp only [Exit.inBlock, Exit.then])
        refine bodyPost_ret (v := .tuple #[.agg #[.slice none 0 0, .slice none 0 0, .int .i64 0], .int .i64 6]) ?_ rfl HN.out
        rw [Rec.results_cell_tmp rfl]
        go_simp
  · have hn3 : (((partsS s).length : Int) != 3) = true := bne_iff_ne.2 (by omega)
    have hn4 : (((partsS s).length : Int) == 3) = false := beq_eq_false_iff_ne.2 (by omega)
    have r0 := HR1.out.cell (show _[0]? = some _ from rfl); have r1 := HR1.out.cell (show _[1]? = some _ from rfl); have r2 := HR1.out.cell (show _[2]? = some _ from rfl)
    have f0 := HR1.out.frozen 0; have f1 := HR1.out.frozen 1; have f2 := HR1.out.frozen 2
    have HN := Lib.hid (show SaysQO (readQ s).1 (readQ s).2 w (.returned (.tuple #[.agg #[.slice none 0 0, .slice none 0 0, .int .i64 0], .int .i64 6])) _ from by rw [readQ_len h3]; exact SaysQO.zero (below_put3 HB1.out (.slice none 0 0) (.slice none 0 0) (.int .i64 0)))
    clear h3
    go_wp2_with fail
    (try simp only [Exit.inBlock, Exit.then])
    refine bodyPost_ret (v := .tuple #[.agg #[.slice none 0 0, .slice none 0 0, .int .i64 0], .int .i64 6]) ?_ rfl HN.out
    rw [Rec.results_cell_tmp rfl]
    go_simp
end Go.Proofs.YtjnicmlomjppnaaGreatDoor
