/- Contracts of the laws' own helpers on rules: szRules, toRules, eqRules, markRules. -/
import Derived.Test.YtjnjmoiilapbiaaChecked
import Derived.Test.YtjnjmoiilapbiaaBase
import Derived.Test.YtjnjmoiilapbiaaInfo
import Derived.Test.YtjnjmoiilapbiaaPure40
import Derived.Test.YtjnjmoiilapbiaaPure61
import Derived.Test.YtjnjmoiilapbiaaMarkI
import Derived.Test.YtjnjmoiilapbiaaEqInt
import Derived.Test.YtjnjmoiilapbiaaPersLaw
import Derived.Test.YtjnjmoiilapbiaaBuild6
import Derived.Test.YtjnjmoiilapbiaaTruth6
import Derived.Test.YtjnjmoiilapbiaaAns6
import Derived.WalkKit
import Derived.WalkSpells
import Derived.WalkLawsBesides
import Derived.Lib.Hide
import Derived.Lib.QuietBelow
import Derived.IntWalk
import Derived.Deep.OwnRows
import Derived.Deep.QuietTactic
import Derived.BigQuiet
import Derived.Outline
namespace Go.Proofs.Ytjnjmoiilapbiaa
open Go.RowKit Go.Sort Pure1 Pure2 Pure40 Pure61

theorem grown_on {w1 w2 w3 : World} {r : Option Nat} (h : w1.grownBy w2 r) (h' : w2.grownBy w3 r) : w1.grownBy w3 r :=
  ⟨h'.os.trans h.os, h'.tape.trans h.tape, h'.output.trans h.output, Nat.le_trans h.size h'.size, fun k hk hne => (h'.block k (Nat.lt_of_lt_of_le hk h.size) hne).trans (h.block k hk hne)⟩
theorem grown_cell (w : World) (b k : Nat) (v : Value) : w.grownBy (w.setCell ⟨b, k, none⟩ v) (some b) :=
  ⟨rfl, rfl, rfl, by simp, fun j _ hne => Below.heap_setCell w ⟨b, k, none⟩ v j (fun e => hne (by rw [e]))⟩
theorem szInt_any (a : Option Addr) (len cap : Nat) (m : Int) (w : World) (hm : len ≤ maxLen) (h0 : 0 ≤ m) (h1 : m ≤ 1048576) :
    Calls Try.prog 66 #[.slice a len cap, .int .i64 m] w fun e w' => e = .returned (.int .i64 (if m - len < 0 then -1 else m - len)) ∧ w' = w := by
  unfold maxLen at hm
  by_cases hn : m - len < 0
  · have HN := Lib.hid (show (if m - (len : Int) < 0 then (-1 : Int) else m - len) = -1 from if_pos hn)
    go_enter Try.func66, Try.ntmps66
    go_wp2
    go_ret
    exact ⟨rfl, rfl⟩
  · have HN := Lib.hid (show (if m - (len : Int) < 0 then (-1 : Int) else m - len) = m - len from if_neg hn)
    go_enter Try.func66, Try.ntmps66
    go_wp2
    go_ret
    exact ⟨rfl, rfl⟩

/-- what is left behind rules: where it is not negative, their lists are no longer than what there was -/
def LeftR (zl jl : Nat) (w : World) (e : Ending) (w' : World) : Prop := ∃ L : Int, e = .returned (.int .i64 L) ∧ L ≤ 1048576 ∧ (0 ≤ L → zl ≤ 1048576 ∧ jl ≤ 1048576) ∧ Below w.heap.size w w'

set_option maxRecDepth 100000 in
set_option maxHeartbeats 1000000 in
theorem szRules_any (y l m : Int) (za : Option Addr) (zl zc : Nat) (ja : Option Addr) (jl jc : Nat) (zz jj : List Int) (q : Int) (w : World) (h0 : 0 ≤ q) (h1 : q ≤ 1048576) (hz : zl ≤ maxLen) (hj : jl ≤ maxLen) :
    Calls Try.prog 34 #[.agg #[.int .i64 y, .int .i64 l, .int .i64 m, .slice za zl zc, .slice ja jl jc], .int .i64 q] w (LeftR zl jl w) := by
  have HW := Lib.hid (boxed w (.cells #[.int .i64 y, .int .i64 l, .int .i64 m, .slice za zl zc, .slice ja jl jc] 54))
  by_cases hn : q - zl < 0
  · have HC := Lib.hid (szInt_any za zl zc q (w.alloc (.cells #[.int .i64 y, .int .i64 l, .int .i64 m, .slice za zl zc, .slice ja jl jc] 54)) hz h0 h1)
    rw [if_pos hn] at HC
    go_enter Try.func34, Try.ntmps34
    go_wp2_with fail
    refine HC.out.mono ?_; rintro e w1 ⟨rfl, rfl⟩
    go_wp2_with fail
    go_ret
    exact ⟨-1, rfl, by omega, fun h => by omega, HW.out⟩
  · have HC := Lib.hid (szInt_any za zl zc q (w.alloc (.cells #[.int .i64 y, .int .i64 l, .int .i64 m, .slice za zl zc, .slice ja jl jc] 54)) hz h0 h1)
    rw [if_neg hn] at HC
    have HD := Lib.hid (szInt_any ja jl jc (q - zl) (w.alloc (.cells #[.int .i64 y, .int .i64 l, .int .i64 m, .slice za zl zc, .slice ja jl jc] 54)) hj (by omega) (by omega))
    by_cases hn2 : q - zl - jl < 0
    · rw [if_pos hn2] at HD
      go_enter Try.func34, Try.ntmps34
      go_wp2_with fail
      refine HC.out.mono ?_; rintro e w1 ⟨rfl, rfl⟩
      go_wp2_with fail
      refine HD.out.mono ?_; rintro e w1 ⟨rfl, rfl⟩
      go_wp2_with fail
      go_ret
      exact ⟨-1, rfl, by omega, fun h => by omega, HW.out⟩
    · rw [if_neg hn2] at HD
      go_enter Try.func34, Try.ntmps34
      go_wp2_with fail
      refine HC.out.mono ?_; rintro e w1 ⟨rfl, rfl⟩
      go_wp2_with fail
      refine HD.out.mono ?_; rintro e w1 ⟨rfl, rfl⟩
      go_wp2_with fail
      go_ret
      exact ⟨q - zl - jl, rfl, by omega, fun h => by omega, HW.out⟩

/-- a new slice that reads zs and may be written; nothing that was there has turned -/
def IsCopyW (w : World) (len : Nat) (zs : List Int) (e : Ending) (w' : World) : Prop :=
  ∃ b, e = .returned (.slice (some ⟨b, 0, none⟩) len len) ∧ w.heap.size ≤ b ∧ b < w'.heap.size ∧ OwnI w.heap.size w' (some ⟨b, 0, none⟩) len (fun i => zs.getD i 0) ∧ IntsAt w' (some ⟨b, 0, none⟩) zs ∧ Below w.heap.size w w'

set_option maxHeartbeats 400000 in
theorem toInt64W_any (a : Option Addr) (len cap : Nat) (zs : List Int) (w : World) (hl : zs.length = len) (hm : len ≤ 1048576) (h : IntsAt w a zs) :
    Calls Try.prog 67 #[.slice a len cap] w (IsCopyW w len zs) := by
  have HL := Lib.hid hl; clear hl
  have HI := Lib.hid h; clear h
  have hmk := run_make_row' (P := Try.prog) 24 2 (.int .i64 0) 8 Try.underlying24 Try.info_i64 rfl .i64 .i64 len (by omega) (by omega)
  go_enter Try.func67, Try.ntmps67
  go_wp2
  go_loopw [4] (fun i wr => ∃ k : Nat, k ≤ len ∧ i = .int .i64 k ∧ Below w.heap.size w wr ∧ ∃ f, wr.rowIs w.heap.size 2 len f ∧ ∀ i x, i < k → zs[i]? = some x → f i = .int .i64 x) (fun i _ => len - (intOf i).toNat)
  case atStart => exact ⟨0, Nat.zero_le _, rfl, (Below.refl _ _).alloc (Nat.le_refl _) _, _, World.rowIs_made _ _ _ _, fun i x hi => by omega⟩
  case round =>
    obtain ⟨k, hk, rfl, hB, f, hr, hf⟩ := hrel
    have HB := Lib.hid hB; have HR := Lib.hid hr; have HF := Lib.hid hf; clear hB hr hf
    by_cases hlt : k < len
    · obtain ⟨b, off, x, ha, hc, ht, hx⟩ := (HI.out.below HB.out).at HL.out hlt
      have HX := Lib.hid hx; clear hx ht
      have hc2 := HR.out.cell hlt
      have hf2 := HR.out.frozen k
      subst ha
      go_wp2
      go_roundw
      case rel => exact ⟨k + 1, by omega, by go_num, HB.out.setCell (Nat.le_refl _) _, _, HR.out.set _ _, copy_step HF.out HX.out⟩
      case measure => simp [intOf]; omega
    · have HE := Lib.hid (show k = len by omega)
      go_wp2
      go_ret
      have hO : OwnI w.heap.size wr (some ⟨w.heap.size, 0, none⟩) len (fun i => zs.getD i 0) := .inr ⟨_, f, len, rfl, Nat.le_refl _, Nat.le_refl _, HR.out, fun i hi => by
        have hx : zs[i]? = some (zs[i]'(by rw [HL.out]; exact hi)) := List.getElem?_eq_getElem (by rw [HL.out]; exact hi)
        rw [HF.out i _ (by rw [HE.out]; exact hi) hx]; show _ = Value.int .i64 (zs.getD i 0); rw [List.getD_eq_getElem?_getD, hx]; rfl⟩
      refine ⟨_, rfl, Nat.le_refl _, HR.out.lt, hO, ?_, HB.out⟩
      have h2 := HL.out
      exact ownI_reads (by rw [h2]; exact hO)

/-- rules whose lists have been copied -/
def CopyR (y l m : Int) (zl jl : Nat) (zz jj : List Int) (w : World) (e : Ending) (w' : World) : Prop :=
  ∃ bz bj, e = .returned (.agg #[.int .i64 y, .int .i64 l, .int .i64 m, .slice (some ⟨bz, 0, none⟩) zl zl, .slice (some ⟨bj, 0, none⟩) jl jl]) ∧ w.heap.size ≤ bz ∧ w.heap.size ≤ bj ∧ bz < w'.heap.size ∧ bj < w'.heap.size ∧
    OwnI w.heap.size w' (some ⟨bz, 0, none⟩) zl (fun i => zz.getD i 0) ∧ OwnI w.heap.size w' (some ⟨bj, 0, none⟩) jl (fun i => jj.getD i 0) ∧ bz ≠ bj ∧ RulesIn w' (some ⟨bz, 0, none⟩) zl (some ⟨bj, 0, none⟩) jl zz jj ∧ Below w.heap.size w w'
/-- a row of five cells, by its values -/
def Row5 (b : Nat) (w : World) (T : TypeId) (v0 v1 v2 v3 v4 : Value) : Prop := ∃ f, w.rowIs b T 5 f ∧ f 0 = v0 ∧ f 1 = v1 ∧ f 2 = v2 ∧ f 3 = v3 ∧ f 4 = v4
theorem Row5.cells {b : Nat} {w : World} {T : TypeId} {v0 v1 v2 v3 v4 : Value} (h : Row5 b w T v0 v1 v2 v3 v4) : w.cell? ⟨b, 0, none⟩ = some v0 ∧ w.cell? ⟨b, 1, none⟩ = some v1 ∧ w.cell? ⟨b, 2, none⟩ = some v2 ∧ w.cell? ⟨b, 3, none⟩ = some v3 ∧ w.cell? ⟨b, 4, none⟩ = some v4 := by
  obtain ⟨f, hr, h0, h1, h2, h3, h4⟩ := h
  exact ⟨by rw [hr.cell (by omega), h0], by rw [hr.cell (by omega), h1], by rw [hr.cell (by omega), h2], by rw [hr.cell (by omega), h3], by rw [hr.cell (by omega), h4]⟩
theorem Row5.frozen {b : Nat} {w : World} {T : TypeId} {v0 v1 v2 v3 v4 : Value} (h : Row5 b w T v0 v1 v2 v3 v4) (k : Nat) : w.frozen? ⟨b, k, none⟩ = false := by
  obtain ⟨f, hr, _⟩ := h; exact hr.frozen k
theorem Row5.below {b : Nat} {w w' : World} {T : TypeId} {v0 v1 v2 v3 v4 : Value} (h : Row5 b w T v0 v1 v2 v3 v4) (hb : Below w.heap.size w w') : Row5 b w' T v0 v1 v2 v3 v4 := by
  obtain ⟨f, hr, hf⟩ := h; exact ⟨f, hr.of_block (hb.block b hr.lt), hf⟩
theorem Row5.lt {b : Nat} {w : World} {T : TypeId} {v0 v1 v2 v3 v4 : Value} (h : Row5 b w T v0 v1 v2 v3 v4) : b < w.heap.size := by
  obtain ⟨f, hr, _⟩ := h; exact hr.lt
theorem row5_box (w : World) (T : TypeId) (v0 v1 v2 v3 v4 : Value) : Row5 w.heap.size (w.alloc (.cells #[v0, v1, v2, v3, v4] T)) T v0 v1 v2 v3 v4 :=
  ⟨fun i => (#[v0, v1, v2, v3, v4] : Array Value)[i]?.getD undef, World.rowIs_alloc w #[v0, v1, v2, v3, v4] T _ (fun i hi => by rw [Array.getElem?_eq_getElem hi]; rfl), rfl, rfl, rfl, rfl, rfl⟩
theorem Row5.other {b g o : Nat} {w : World} {T : TypeId} {v0 v1 v2 v3 v4 : Value} (h : Row5 b w T v0 v1 v2 v3 v4) (hne : g ≠ b) (v : Value) : Row5 b (w.setCell ⟨g, o, none⟩ v) T v0 v1 v2 v3 v4 := by
  obtain ⟨f, hr, hf⟩ := h; exact ⟨f, hr.of_block (Below.heap_setCell _ _ _ _ (fun e => hne e.symm)), hf⟩
theorem Row5.set4 {b : Nat} {w : World} {T : TypeId} {v0 v1 v2 v3 v4 : Value} (h : Row5 b w T v0 v1 v2 v3 v4) (v : Value) : Row5 b (w.setCell ⟨b, 4, none⟩ v) T v0 v1 v2 v3 v := by
  obtain ⟨f, hr, h0, h1, h2, h3, h4⟩ := h; exact ⟨_, hr.set 4 v, h0, h1, h2, h3, rfl⟩
theorem Row5.set3 {b : Nat} {w : World} {T : TypeId} {v0 v1 v2 v3 v4 : Value} (h : Row5 b w T v0 v1 v2 v3 v4) (v : Value) : Row5 b (w.setCell ⟨b, 3, none⟩ v) T v0 v1 v2 v v4 := by
  obtain ⟨f, hr, h0, h1, h2, h3, h4⟩ := h; exact ⟨_, hr.set 3 v, h0, h1, h2, rfl, h4⟩
theorem ownI_stored {B : Nat} {w : World} {a : Option Addr} {len : Nat} {g : Nat → Int} (h : OwnI B w a len g) {x : Addr} (hx : x.block < B) (u : Value) : OwnI B (w.setCell x u) a len g := by
  rcases h with h | ⟨b, f, N, e, hB, hN, hr, hf⟩
  · exact .inl h
  · exact .inr ⟨b, f, N, e, hB, hN, hr.of_block (Below.heap_setCell _ _ _ _ (by omega)), hf⟩
theorem ints_stored {w : World} {a : Option Addr} {zs : List Int} (h : IntsAt w a zs) {x : Addr} (hx : ∀ b off, a = some ⟨b, off, none⟩ → x.block ≠ b) (u : Value) : IntsAt (w.setCell x u) a zs := by
  rcases h with h | ⟨b, off, rfl, hc⟩
  · exact .inl h
  · refine .inr ⟨b, off, rfl, fun i y hy => ?_⟩
    rw [← hc i y hy]; exact World.cell?_of_block (w := w) (Below.heap_setCell _ _ _ _ (fun e => hx b off rfl e.symm))

set_option maxRecDepth 100000 in
set_option maxHeartbeats 2000000 in
theorem toRules_any (y l m : Int) (za : Option Addr) (zl zc : Nat) (ja : Option Addr) (jl jc : Nat) (zz jj : List Int) (w : World) (hR : RulesIn w za zl ja jl zz jj) (hz : zl ≤ 1048576) (hj : jl ≤ 1048576) :
    Calls Try.prog 35 #[.agg #[.int .i64 y, .int .i64 l, .int .i64 m, .slice za zl zc, .slice ja jl jc]] w (CopyR y l m zl jl zz jj w) := by
  have HX0 := Lib.hid (((row5_box w 54 (.int .i64 y) (.int .i64 l) (.int .i64 m) (.slice za zl zc) (.slice ja jl jc)).below (boxed _ (.cells #[.int .i64 0, .int .i64 0, .int .i64 0, .slice none 0 0, .slice none 0 0] 26))).below (boxed _ (.cells #[.int .i64 y, .int .i64 l, .int .i64 m, .slice none 0 0, .slice none 0 0] 26)))
  have hrow1 := (row5_box (w.alloc (.cells #[.int .i64 y, .int .i64 l, .int .i64 m, .slice za zl zc, .slice ja jl jc] 54)) 26 (.int .i64 0) (.int .i64 0) (.int .i64 0) (.slice none 0 0) (.slice none 0 0)).below (boxed _ (.cells #[.int .i64 y, .int .i64 l, .int .i64 m, .slice none 0 0, .slice none 0 0] 26))
  have hrow2 := row5_box ((w.alloc (.cells #[.int .i64 y, .int .i64 l, .int .i64 m, .slice za zl zc, .slice ja jl jc] 54)).alloc (.cells #[.int .i64 0, .int .i64 0, .int .i64 0, .slice none 0 0, .slice none 0 0] 26)) 26 (.int .i64 y) (.int .i64 l) (.int .i64 m) (.slice none 0 0) (.slice none 0 0)
  have hx1 : (w.alloc (.cells #[.int .i64 y, .int .i64 l, .int .i64 m, .slice za zl zc, .slice ja jl jc] 54)).heap.size = w.heap.size + 1 := by simp
  have hx2 : ((w.alloc (.cells #[.int .i64 y, .int .i64 l, .int .i64 m, .slice za zl zc, .slice ja jl jc] 54)).alloc (.cells #[.int .i64 0, .int .i64 0, .int .i64 0, .slice none 0 0, .slice none 0 0] 26)).heap.size = w.heap.size + 1 + 1 := by simp
  rw [hx1] at hrow1
  rw [hx2] at hrow2
  have HP0 := Lib.hid hrow1; have HO0 := Lib.hid hrow2
  have HW0 := Lib.hid (boxes3_below w (.cells #[.int .i64 y, .int .i64 l, .int .i64 m, .slice za zl zc, .slice ja jl jc] 54) (.cells #[.int .i64 0, .int .i64 0, .int .i64 0, .slice none 0 0, .slice none 0 0] 26) (.cells #[.int .i64 y, .int .i64 l, .int .i64 m, .slice none 0 0, .slice none 0 0] 26))
  have hsz0 : (((w.alloc (.cells #[.int .i64 y, .int .i64 l, .int .i64 m, .slice za zl zc, .slice ja jl jc] 54)).alloc (.cells #[.int .i64 0, .int .i64 0, .int .i64 0, .slice none 0 0, .slice none 0 0] 26)).alloc (.cells #[.int .i64 y, .int .i64 l, .int .i64 m, .slice none 0 0, .slice none 0 0] 26)).heap.size = w.heap.size + 1 + 1 + 1 := by simp
  have HR0 := Lib.hid (hR.below HW0.out)
  have HRW := Lib.hid hR
  clear hrow1 hrow2 hx1 hx2 hR
  go_enter Try.func35, Try.ntmps35
  go_wp2_with fail
  generalize ((w.alloc (.cells #[.int .i64 y, .int .i64 l, .int .i64 m, .slice za zl zc, .slice ja jl jc] 54)).alloc (.cells #[.int .i64 0, .int .i64 0, .int .i64 0, .slice none 0 0, .slice none 0 0] 26)).alloc (.cells #[.int .i64 y, .int .i64 l, .int .i64 m, .slice none 0 0, .slice none 0 0] 26) = w0 at HX0 HP0 HO0 HW0 HR0 hsz0 ⊢
  obtain ⟨xb, hxb⟩ : ∃ xb, w.heap.size = xb := ⟨_, rfl⟩
  have HXB := Lib.hid hxb
  obtain ⟨pb, hpb⟩ : ∃ pb, xb + 1 = pb := ⟨_, rfl⟩
  obtain ⟨ob, hob⟩ : ∃ ob, pb + 1 = ob := ⟨_, rfl⟩
  rw [hxb] at HX0 HP0 HO0 HW0 hsz0 ⊢
  rw [hpb] at HP0 HO0 hsz0 ⊢
  rw [hob] at HO0 hsz0 ⊢
  have n1 : xb ≠ pb := by omega
  have n2 : xb ≠ ob := by omega
  have n3 : pb ≠ ob := by omega
  have n4 : xb ≤ ob := by omega
  have n5 : xb ≤ pb := by omega
  have HL := Lib.hid (show xb < ob + 1 ∧ pb < ob + 1 from ⟨by omega, by omega⟩)
  clear hxb hpb hob
  have hz1 := HR0.out.1; have hz3 := HR0.out.2.2.1
  have HZ := Lib.hid (toInt64W_any za zl zc zz w0 hz1 hz hz3)
  clear hz1 hz3
  refine HZ.out.mono ?_; rintro e w1 ⟨bz, rfl, hbz, hbz2, hoz, hiz, hB⟩
  have HX1 := Lib.hid (HX0.out.below hB); have HP1 := Lib.hid (HP0.out.below hB); have HO1 := Lib.hid (HO0.out.below hB)
  have HW1 := Lib.hid (HW0.out.trans (hB.mono (by omega))); have HR1 := Lib.hid (HR0.out.below hB)
  rw [hsz0] at hbz
  have HOZ := Lib.hid (show OwnI (ob + 1) w1 (some ⟨bz, 0, none⟩) zl (fun i => zz.getD i 0) by rw [← hsz0]; exact hoz)
  have HIZ := Lib.hid hiz
  have hsz1 := hB.size
  rw [hsz0] at hsz1
  clear hoz hiz hB HZ HX0 HP0 HO0 HW0 HR0 hsz0
  have c3 := HO1.out.cells.2.2.2.1
  have f3 := HO1.out.frozen 3
  obtain ⟨x0, x1, x2, x3, x4⟩ := HX1.out.cells
  have HX2 := Lib.hid (HX1.out.other (o := 3) (fun e => n2 e.symm) (.slice (some ⟨bz, 0, none⟩) zl zl)); have HP2 := Lib.hid (HP1.out.other (o := 3) (fun e => n3 e.symm) (.slice (some ⟨bz, 0, none⟩) zl zl)); have HO2 := Lib.hid (HO1.out.set3 (.slice (some ⟨bz, 0, none⟩) zl zl))
  have HW2 := Lib.hid (HW1.out.setCell (show xb ≤ (⟨ob, 3, none⟩ : Addr).block from n4) (.slice (some ⟨bz, 0, none⟩) zl zl))
  have HOZ2 := Lib.hid (ownI_stored HOZ.out (x := ⟨ob, 3, none⟩) (Nat.lt_succ_self ob) (.slice (some ⟨bz, 0, none⟩) zl zl)); have HIZ2 := Lib.hid (ints_stored HIZ.out (x := ⟨ob, 3, none⟩) (fun b off e => by cases e; exact Nat.ne_of_lt hbz) (.slice (some ⟨bz, 0, none⟩) zl zl))
  have hsz2 : ob + 1 ≤ (w1.setCell ⟨ob, 3, none⟩ (.slice (some ⟨bz, 0, none⟩) zl zl)).heap.size := by simpa using hsz1
  have HRJ := Lib.hid (show IntsAt (w1.setCell ⟨ob, 3, none⟩ (.slice (some ⟨bz, 0, none⟩) zl zl)) ja jj from HRW.out.2.2.2.2.2.below (by rw [HXB.out]; exact HW2.out))
  have hbz3 : bz < (w1.setCell ⟨ob, 3, none⟩ (.slice (some ⟨bz, 0, none⟩) zl zl)).heap.size := by simpa using hbz2
  go_wp2_with fail
  generalize w1.setCell ⟨ob, 3, none⟩ (.slice (some ⟨bz, 0, none⟩) zl zl) = w2 at HX2 HP2 HO2 HW2 HOZ2 HIZ2 hsz2 hbz3 HRJ ⊢
  clear c3 f3 x0 x1 x2 x3 x4 HX1 HP1 HO1 hbz2 HOZ HIZ hsz1 HW1
  obtain ⟨x0, x1, x2, x3, x4⟩ := HX2.out.cells
  have hj1 := HR1.out.2.2.2.1
  have hj3 : IntsAt w2 ja jj := HRJ.out
  have HJ := Lib.hid (toInt64W_any ja jl jc jj w2 hj1 hj hj3)
  clear hj1 hj3
  refine HJ.out.mono ?_; rintro e w3 ⟨bj, rfl, hbj, hbj2, hoj, hij, hB⟩
  have HX3 := Lib.hid (HX2.out.below hB); have HP3 := Lib.hid (HP2.out.below hB); have HO3 := Lib.hid (HO2.out.below hB)
  have HW3 := Lib.hid (HW2.out.trans (hB.mono (by omega)))
  have HOZ3 := Lib.hid (HOZ2.out.below hB); have HIZ3 := Lib.hid (HIZ2.out.below hB)
  have HOJ := Lib.hid (ownI_mono hoj hsz2); have HIJ := Lib.hid hij
  have hbz4 : bz < w3.heap.size := Nat.lt_of_lt_of_le hbz3 hB.size
  have hne : bz ≠ bj := by omega
  have hbjo : ob < bj := by omega
  have hbzo : ob < bz := by omega
  have hsz3 : ob + 1 ≤ w3.heap.size := by omega
  clear hoj hij hB HJ HX2 HP2 HO2 HW2 HOZ2 HIZ2 hbz3 hbj hsz2 x0 x1 x2 x3 x4
  obtain ⟨c0, c1, c2, c3, c4⟩ := HO3.out.cells
  have f4 := HO3.out.frozen 4
  obtain ⟨p0, p1, p2, p3, p4⟩ := HP3.out.cells
  have g0 := HP3.out.frozen 0; have g1 := HP3.out.frozen 1; have g2 := HP3.out.frozen 2; have g3 := HP3.out.frozen 3; have g4 := HP3.out.frozen 4
  go_wp2_with fail
  (try simp only [Exit.inBlock, Exit.then])
  refine bodyPost_ret (v := .agg #[.int .i64 y, .int .i64 l, .int .i64 m, .slice (some ⟨bz, 0, none⟩) zl zl, (.slice (some ⟨bj, 0, none⟩) jl jl)]) ?_ rfl ?_
  · rw [results_cell1 rfl]
    go_simp
  · have hfin : ∀ W : World, W = (((((w3.setCell ⟨ob, 4, none⟩ (.slice (some ⟨bj, 0, none⟩) jl jl)).setCell ⟨pb, 0, none⟩ (.int .i64 y)).setCell ⟨pb, 1, none⟩ (.int .i64 l)).setCell ⟨pb, 2, none⟩ (.int .i64 m)).setCell ⟨pb, 3, none⟩ (.slice (some ⟨bz, 0, none⟩) zl zl)).setCell ⟨pb, 4, none⟩ (.slice (some ⟨bj, 0, none⟩) jl jl) →
        (bz < W.heap.size ∧ bj < W.heap.size ∧ OwnI (ob + 1) W (some ⟨bz, 0, none⟩) zl (fun i => zz.getD i 0) ∧ OwnI (ob + 1) W (some ⟨bj, 0, none⟩) jl (fun i => jj.getD i 0) ∧ IntsAt W (some ⟨bz, 0, none⟩) zz ∧ IntsAt W (some ⟨bj, 0, none⟩) jj ∧ Below xb w W) := by
      rintro W rfl
      have hl := HL.out
      refine ⟨by simpa using hbz4, by simpa using hbj2, ?_, ?_, ?_, ?_, ?_⟩
      · exact ownI_stored (ownI_stored (ownI_stored (ownI_stored (ownI_stored (ownI_stored HOZ3.out (Nat.lt_succ_self ob) _) hl.2 _) hl.2 _) hl.2 _) hl.2 _) hl.2 _
      · exact ownI_stored (ownI_stored (ownI_stored (ownI_stored (ownI_stored (ownI_stored HOJ.out (Nat.lt_succ_self ob) _) hl.2 _) hl.2 _) hl.2 _) hl.2 _) hl.2 _
      · have k1 : ∀ b off, (some (⟨bz, 0, none⟩ : Addr)) = some ⟨b, off, none⟩ → ob ≠ b := fun b off e => by cases e; omega
        have k2 : ∀ b off, (some (⟨bz, 0, none⟩ : Addr)) = some ⟨b, off, none⟩ → pb ≠ b := fun b off e => by cases e; omega
        exact ints_stored (ints_stored (ints_stored (ints_stored (ints_stored (ints_stored HIZ3.out k1 _) k2 _) k2 _) k2 _) k2 _) k2 _
      · have k1 : ∀ b off, (some (⟨bj, 0, none⟩ : Addr)) = some ⟨b, off, none⟩ → ob ≠ b := fun b off e => by cases e; omega
        have k2 : ∀ b off, (some (⟨bj, 0, none⟩ : Addr)) = some ⟨b, off, none⟩ → pb ≠ b := fun b off e => by cases e; omega
        exact ints_stored (ints_stored (ints_stored (ints_stored (ints_stored (ints_stored HIJ.out k1 _) k2 _) k2 _) k2 _) k2 _) k2 _
      · exact (((((HW3.out.setCell (p := ⟨ob, 4, none⟩) n4 _).setCell (p := ⟨pb, 0, none⟩) n5 _).setCell (p := ⟨pb, 1, none⟩) n5 _).setCell (p := ⟨pb, 2, none⟩) n5 _).setCell (p := ⟨pb, 3, none⟩) n5 _).setCell (p := ⟨pb, 4, none⟩) n5 _
    obtain ⟨q1, q2, q3, q4, q5, q6, q7⟩ := hfin _ rfl
    have hxb := HXB.out
    refine ⟨bz, bj, rfl, by omega, by omega, q1, q2, ownI_mono q3 (by omega), ownI_mono q4 (by omega), hne, ⟨HR1.out.1, HR1.out.2.1, q5, HR1.out.2.2.2.1, HR1.out.2.2.2.2.1, q6⟩, by rw [hxb]; exact q7⟩


set_option maxRecDepth 100000 in
set_option maxHeartbeats 1000000 in
/-- two rules whose lists read the same are told to be the same -/
theorem eqRules_same (y l m : Int) (za : Option Addr) (zl zc : Nat) (ja : Option Addr) (jl jc : Nat) (zz jj : List Int) (za' : Option Addr) (zc' : Nat) (ja' : Option Addr) (jc' : Nat) (w : World) (h : RulesIn w za zl ja jl zz jj) (h' : RulesIn w za' zl ja' jl zz jj) :
    Calls Try.prog 36 #[.agg #[.int .i64 y, .int .i64 l, .int .i64 m, .slice za zl zc, .slice ja jl jc], .agg #[.int .i64 y, .int .i64 l, .int .i64 m, .slice za' zl zc', .slice ja' jl jc']] w (fun e w' => e = .returned (.bool true) ∧ Below w.heap.size w w') := by
  have HW := Lib.hid (boxes_below w (.cells #[.int .i64 y, .int .i64 l, .int .i64 m, .slice za zl zc, .slice ja jl jc] 26) (.cells #[.int .i64 y, .int .i64 l, .int .i64 m, .slice za' zl zc', .slice ja' jl jc'] 26))
  have hA := h.below HW.out; have hA' := h'.below HW.out
  have HZ := Lib.hid (eqInt64S_any za za' zl zc zl zc' zz zz ((w.alloc (.cells #[.int .i64 y, .int .i64 l, .int .i64 m, .slice za zl zc, .slice ja jl jc] 26)).alloc (.cells #[.int .i64 y, .int .i64 l, .int .i64 m, .slice za' zl zc', .slice ja' jl jc'] 26)) h.1 h.1 h.2.1 h.2.1 hA.2.2.1 hA'.2.2.1)
  have HJ := Lib.hid (fun n => eqInt64S_any ja ja' jl jc jl jc' jj jj (((w.alloc (.cells #[.int .i64 y, .int .i64 l, .int .i64 m, .slice za zl zc, .slice ja jl jc] 26)).alloc (.cells #[.int .i64 y, .int .i64 l, .int .i64 m, .slice za' zl zc', .slice ja' jl jc'] 26)).drewN n) h.2.2.2.1 h.2.2.2.1 h.2.2.2.2.1 h.2.2.2.2.1 (hA.2.2.2.2.2.below (below_drewN (Below.refl _ _) _)) (hA'.2.2.2.2.2.below (below_drewN (Below.refl _ _) _)))
  rw [sameL_self] at HZ
  simp only [sameL_self] at HJ
  clear h h' hA hA'
  go_enter Try.func36, Try.ntmps36
  go_wp2_with fail
  refine HZ.out.mono ?_; rintro e w1 ⟨rfl, n, rfl⟩
  go_wp2_with fail
  refine (HJ.out n).mono ?_; rintro e w1 ⟨rfl, n2, rfl⟩
  go_wp2_with fail
  go_ret
  exact ⟨rfl, below_drewN HW.out _⟩

set_option maxRecDepth 100000 in
set_option maxHeartbeats 400000 in
theorem markInt64T_any (B b len cap : Nat) (g : Nat → Int) (k : Int) (w : World) (hl : len ≤ 1000000000) (h0 : 0 < k) (h1 : k ≤ 1000000000) (h : OwnI B w (some ⟨b, 0, none⟩) len g) :
    Calls Try.prog 43 #[.slice (some ⟨b, 0, none⟩) len cap, .int .i64 k] w (fun e w' => e = .returned (.int .i64 (k + len)) ∧ w.grownBy w' (some b)) := by
  rcases h with rfl | ⟨b', f, N, e, hb, hN, hr, hf⟩
  · go_enter Try.func43, Try.ntmps43
    go_wp2
    go_loopw [1, 5] (fun kk i wr => i = .int .i64 0 ∧ kk = .int .i64 k ∧ wr = w) (fun _ _ _ => 0)
    case atStart => exact ⟨rfl, rfl, rfl⟩
    case round =>
      obtain ⟨rfl, rfl, rfl⟩ := hrel
      go_wp2
      go_ret
      exact ⟨ret_i64 (by simp), ⟨rfl, rfl, rfl, Nat.le_refl _, fun _ _ _ => rfl⟩⟩
  · cases e
    have HR := Lib.hid hr; clear hr hf
    go_enter Try.func43, Try.ntmps43
    go_wp2
    go_loopw [1, 5] (fun kk i wr => ∃ n : Nat, n ≤ len ∧ i = .int .i64 n ∧ kk = .int .i64 (k + n) ∧ w.grownBy wr (some b) ∧ ∃ f, wr.rowIs b 2 N f) (fun _ i _ => len - (intOf i).toNat)
    case atStart => exact ⟨0, Nat.zero_le _, rfl, by simp, ⟨rfl, rfl, rfl, Nat.le_refl _, fun _ _ _ => rfl⟩, _, HR.out⟩
    case round =>
      obtain ⟨n, hn, rfl, rfl, hg, f, hr⟩ := hrel
      have HG := Lib.hid hg; have HR := Lib.hid hr; clear hg hr
      by_cases hlt : n < len
      · have hc2 := HR.out.cell (Nat.lt_of_lt_of_le hlt hN)
        have hf2 := HR.out.frozen n
        go_wp2_with fail
        go_roundw
        case rel => exact ⟨n + 1, by omega, by go_num, by rw [show k + (n : Int) + 1 = k + ((n + 1 : Nat) : Int) by omega], grown_on HG.out (grown_cell _ _ _ _), _, HR.out.set _ _⟩
        case measure => simp [intOf]; omega
      · have HN := Lib.hid (show n = len by omega)
        go_wp2
        go_ret
        exact ⟨ret_i64 (by rw [HN.out]), HG.out⟩

/-- only blocks from B on, below C, may have turned -/
def Between (B C : Nat) (w w' : World) : Prop := w'.os = w.os ∧ w'.tape = w.tape ∧ w'.output = w.output ∧ w.heap.size ≤ w'.heap.size ∧ ∀ k, k < w.heap.size → (k < B ∨ C ≤ k) → w'.heap[k]? = w.heap[k]?
theorem between_of {B C b : Nat} {w w' : World} (h : w.grownBy w' (some b)) (h1 : B ≤ b) (h2 : b < C) : Between B C w w' :=
  ⟨h.os, h.tape, h.output, h.size, fun k hk hbc => h.block k hk (fun e => by cases e; omega)⟩
theorem Between.trans {B C : Nat} {w w' w'' : World} (h : Between B C w w') (h' : Between B C w' w'') : Between B C w w'' :=
  ⟨h'.1.trans h.1, h'.2.1.trans h.2.1, h'.2.2.1.trans h.2.2.1, Nat.le_trans h.2.2.2.1 h'.2.2.2.1, fun k hk hbc => (h'.2.2.2.2 k (Nat.lt_of_lt_of_le hk h.2.2.2.1) hbc).trans (h.2.2.2.2 k hk hbc)⟩
theorem Between.below {B C : Nat} {w w' : World} (h : Between B C w w') (hs : B ≤ w.heap.size) : Below B w w' :=
  ⟨h.1, h.2.1, h.2.2.1, h.2.2.2.1, fun k hk => h.2.2.2.2 k (by omega) (.inl hk)⟩
theorem Between.mono {B C C' : Nat} {w w' : World} (h : Between B C w w') (hC : C ≤ C') : Between B C' w w' := ⟨h.1, h.2.1, h.2.2.1, h.2.2.2.1, fun k hk hbc => h.2.2.2.2 k hk (by omega)⟩
theorem between_below {B C : Nat} {w w' : World} (h : Below w.heap.size w w') : Between B C w w' := ⟨h.os, h.tape, h.output, h.size, fun k hk _ => h.block k hk⟩
theorem ownI_between {B C : Nat} {w w' : World} {a : Option Addr} {len : Nat} {g : Nat → Int} (h : OwnI C w a len g) (hb : Between B C w w') : OwnI C w' a len g := by
  rcases h with h | ⟨b, f, N, e, hB, hN, hr, hf⟩
  · exact .inl h
  · exact .inr ⟨b, f, N, e, hB, hN, hr.of_block (hb.2.2.2.2 b hr.lt (.inr hB)), hf⟩
theorem ownI_apart {B : Nat} {b g : Nat} {w w' : World} {len : Nat} {f : Nat → Int} (h : OwnI B w (some ⟨b, 0, none⟩) len f) (hg : w.grownBy w' (some g)) (hne : b ≠ g) : OwnI B w' (some ⟨b, 0, none⟩) len f := by
  rcases h with h | ⟨b', f', N, e, hB, hN, hr, hf⟩
  · exact .inl h
  · cases e
    exact .inr ⟨b, f', N, rfl, hB, hN, hr.of_block (hg.block b hr.lt (fun e => by cases e; exact hne rfl)), hf⟩

set_option maxRecDepth 100000 in
set_option maxHeartbeats 1000000 in
theorem markRules_any (B C : Nat) (y l m : Int) (bz bj zl jl : Nat) (gz gj : Nat → Int) (k : Int) (w : World) (hz : zl ≤ 1048576) (hj : jl ≤ 1048576) (h0 : 0 < k) (h1 : k ≤ 1000000)
    (hoz : OwnI B w (some ⟨bz, 0, none⟩) zl gz) (hoj : OwnI B w (some ⟨bj, 0, none⟩) jl gj) (hne : bz ≠ bj) (b1 : B ≤ bz) (b2 : bz < C) (b3 : B ≤ bj) (b4 : bj < C) (hbz : bz < w.heap.size) (hbj : bj < w.heap.size) :
    Calls Try.prog 41 #[.agg #[.int .i64 y, .int .i64 l, .int .i64 m, .slice (some ⟨bz, 0, none⟩) zl zl, .slice (some ⟨bj, 0, none⟩) jl jl], .int .i64 k] w (fun e w' => e = .returned (.int .i64 (k + zl + jl)) ∧ Between B C w w') := by
  have HW := Lib.hid (boxed w (.cells #[.int .i64 y, .int .i64 l, .int .i64 m, .slice (some ⟨bz, 0, none⟩) zl zl, .slice (some ⟨bj, 0, none⟩) jl jl] 26))
  have HX := Lib.hid (row5_box w 26 (.int .i64 y) (.int .i64 l) (.int .i64 m) (.slice (some ⟨bz, 0, none⟩) zl zl) (.slice (some ⟨bj, 0, none⟩) jl jl))
  have HZ := Lib.hid (markInt64T_any B bz zl zl gz k (w.alloc (.cells #[.int .i64 y, .int .i64 l, .int .i64 m, .slice (some ⟨bz, 0, none⟩) zl zl, .slice (some ⟨bj, 0, none⟩) jl jl] 26)) (by omega) h0 (by omega) (hoz.below HW.out))
  have HJ0 := Lib.hid (hoj.below HW.out)
  clear hoz hoj
  go_enter Try.func41, Try.ntmps41
  go_wp2_with fail
  refine HZ.out.mono ?_; rintro e w1 ⟨rfl, hg⟩
  have hX1 := HX.out
  obtain ⟨fx, hrx, hfx⟩ := hX1
  have HX1 := Lib.hid (show Row5 w.heap.size w1 26 (.int .i64 y) (.int .i64 l) (.int .i64 m) (.slice (some ⟨bz, 0, none⟩) zl zl) (.slice (some ⟨bj, 0, none⟩) jl jl) from ⟨fx, hrx.of_block (hg.block _ hrx.lt (fun e => by cases e; omega)), hfx⟩)
  have HG := Lib.hid ((between_below HW.out).trans (between_of (B := B) (C := C) hg b1 b2))
  have HJ := Lib.hid (markInt64T_any B bj jl jl gj (k + zl) w1 (by omega) (by omega) (by omega) (ownI_apart HJ0.out hg (fun e => hne e.symm)))
  clear hg hrx hfx HX HZ HJ0
  obtain ⟨x0, x1, x2, x3, x4⟩ := HX1.out.cells
  go_wp2_with fail
  refine HJ.out.mono ?_; rintro e w2 ⟨rfl, hg⟩
  have HG2 := Lib.hid (HG.out.trans (between_of (B := B) (C := C) hg b3 b4))
  clear hg x0 x1 x2 x3 x4
  go_wp2_with fail
  go_ret
  exact ⟨rfl, HG2.out⟩

end Go.Proofs.Ytjnjmoiilapbiaa
