/- Contracts: the drawing functions of chapter 7. (written by draw7.py) -/
import Derived.Test.YtblbmmajobefiaaChecked
import Derived.Test.YtblbmmajobefiaaBase
import Derived.Test.YtblbmmajobefiaaInfo
import Derived.Test.YtblbmmajobefiaaPure6
import Derived.Test.YtblbmmajobefiaaNext
import Derived.Test.YtblbmmajobefiaaPick
import Derived.Test.YtblbmmajobefiaaTermA
import Derived.Test.YtblbmmajobefiaaTermB
import Derived.Test.YtblbmmajobefiaaTermC
import Derived.Test.YtblbmmajobefiaaFrom
import Derived.Test.YtblbmmajobefiaaFacts
import Derived.Test.YtblbmmajobefiaaTermM
import Derived.Test.YtblbmmajobefiaaTermD
import Derived.Test.YtblbmmajobefiaaDrawT7a
import Derived.Test.YtblbmmajobefiaaDrawT7b
import Derived.Test.YtblbmmajobefiaaDrawT7c
import Derived.WalkKit
import Derived.WalkSpells
import Derived.WalkLawsBesides
import Derived.Lib.Hide
import Derived.IntWalk
import Derived.Deep.OwnRows
import Derived.Deep.MidRow
import Derived.OwnWalk
import Derived.Outline
namespace Go.Proofs.Ytblbmmajobefiaa
open Go.RowKit Pure1 Pure2 Pure6

/-- terms, a number and a day (or less) are drawn -/
def GaveL (w : World) (v : Value) (qs : List Term) (w' : World) : Prop := (∃ g cap, v = .slice (some ⟨g, 0, none⟩) qs.length cap) ∧ Term.L w' w.heap.size v qs ∧ qs.length ≤ 40 ∧ SmallTL qs ∧ Below w.heap.size w w'
def GaveLN (w : World) (e : Ending) (w' : World) : Prop := ∃ v qs n, e = .returned (.tuple #[v, .int .i64 n]) ∧ GaveL w v qs w' ∧ (0 ≤ n ∧ n ≤ 1000001)
def GaveLND (w : World) (e : Ending) (w' : World) : Prop := ∃ v qs n d, e = .returned (.tuple #[v, .int .i64 n, .int .i64 d]) ∧ GaveL w v qs w' ∧ (0 ≤ n ∧ n ≤ 1000001) ∧ (-2 ≤ d ∧ d ≤ 40000)
def GaveLD (w : World) (e : Ending) (w' : World) : Prop := ∃ v qs d, e = .returned (.tuple #[v, .int .i64 d]) ∧ GaveL w v qs w' ∧ (-2 ≤ d ∧ d ≤ 40000)
def GaveLC (w : World) (e : Ending) (w' : World) : Prop := ∃ v qs c, e = .returned (.tuple #[v, .agg #[.int .i64 c.num, .int .i64 c.frm, .int .i64 c.to]]) ∧ GaveL w v qs w' ∧ SmallT c
theorem gaveL_of {w w' : World} {v : Value} {qs : List Term} {N : Nat} (hN : w.heap.size ≤ N) (ho : Term.L w' N v qs) (hl : qs.length ≤ 40) (hz : SmallTL qs) (hB : Below w.heap.size w w') : GaveL w v qs w' :=
  ⟨ho.1, ho.base hN, hl, hz, hB⟩

set_option maxRecDepth 100000 in
set_option maxHeartbeats 1000000 in
theorem specDrawBusiest_any (a : Option Addr) (len cap : Nat) (bs : List Int) (w : World) (hl : bs.length = len) (hm : len ≤ 4096) (h : BytesAt w.heap.size w a bs) :
    Calls Try.prog 29 #[.slice a len cap] w fun e w' => ∃ v qs, e = .returned v ∧ GaveL w v qs w' := by
  have HC := Lib.hid (specFrom_any a len cap bs w hl hm h)
  clear h hl
  go_enter Try.func29, Try.ntmps29
  go_wp2_with fail
  refine HC.out.mono ?_; rintro e w1 ⟨b, rfl, hS, hB⟩
  have HB := Lib.hid hB; have hsz := hB.size; have hbs := hS.base
  have HL := Lib.hid (specList7_any w.heap.size b w1 hS); clear hS hB
  go_wp2_with fail
  refine HL.out.mono ?_; rintro e w2 ⟨v, qs, rfl, ho, hl, hz, _, hg⟩
  have HX := Lib.hid (gaveL_of hsz ho hl hz (HB.out.trans (grown_below hg hbs hsz))); clear ho hl hz hg
  go_wp2_with fail
  go_ret
  exact ⟨_, _, rfl, HX.out⟩

set_option maxRecDepth 100000 in
set_option maxHeartbeats 2000000 in
theorem specDrawDays_any (a : Option Addr) (len cap : Nat) (bs : List Int) (w : World) (hl : bs.length = len) (hm : len ≤ 4096) (h : BytesAt w.heap.size w a bs) :
    Calls Try.prog 23 #[.slice a len cap] w (GaveLN w) := by
  have HC := Lib.hid (specFrom_any a len cap bs w hl hm h)
  clear h hl
  go_enter Try.func23, Try.ntmps23
  go_wp2_with fail
  refine HC.out.mono ?_; rintro e w1 ⟨b, rfl, hS, hB⟩
  have HB := Lib.hid hB; have hsz := hB.size; have hbs := hS.base; have hb1 := hS.lt
  have HL := Lib.hid (specList7_any w.heap.size b w1 hS); clear hS hB
  go_wp2_with fail
  refine HL.out.mono ?_; rintro e w2 ⟨v, qs, rfl, ho, hl, hz, hS, hg⟩
  have hb2 := hS.lt
  have HO := Lib.hid (ho.alloc (.cells #[.int .i64 1, .int .i64 2, .int .i64 3, .int .i64 4, .int .i64 5, .int .i64 0, .int .i64 1000001] 2)); have HZ := Lib.hid hz
  have HB2 := Lib.hid ((HB.out.trans (grown_below hg hbs hsz)).alloc (by have := hg.size; omega) (.cells #[.int .i64 1, .int .i64 2, .int .i64 3, .int .i64 4, .int .i64 5, .int .i64 0, .int .i64 1000001] 2))
  have HP := Lib.hid (specPick_any w.heap.size b w2.heap.size [1, 2, 3, 4, 5, 0, 1000001] 7 7 _ rfl (by omega) (by omega) (hS.alloc _) (by omega) (alloc_ints w2 2 _))
  have hw2 : w.heap.size ≤ w2.heap.size + 1 := by have := hg.size; omega
  clear ho hz hS hg
  go_wp2_with fail
  refine HP.out.mono ?_; rintro e w3 ⟨n, rfl, hn, hS, hg⟩
  have hn2 : 0 ≤ n ∧ n ≤ 1000001 := by simp at hn; omega
  have HX := Lib.hid (gaveL_of hsz (HO.out.grown hg hb1) hl HZ.out (HB2.out.trans (grown_below hg hbs (by simp; omega)))); clear hS hg hn
  go_wp2_with fail
  go_ret2
  exact ⟨_, _, _, rfl, HX.out, hn2⟩

theorem results_tmp_cell {fn : Func} {p u : Tmp} {ty : TypeId} (h : fn.results = #[.tmp u, .cell p ty]) (tmps : Array Value) (P : Program) (w : World) :
    (results fn tmps).run P w = ((asAddr (tmps.getD p undef)).run P w).andThen fun a w₁ => ((loadVar ty a).run P w₁).andThen fun v w₂ => .ok (.tuple #[tmps.getD u undef, v]) w₂ := by
  simp only [results, h]
  simp [Sem.run_bind, Result.andThen]
set_option maxRecDepth 100000 in
set_option maxHeartbeats 2000000 in
theorem specDrawAdd_any (a : Option Addr) (len cap : Nat) (bs : List Int) (w : World) (hl : bs.length = len) (hm : len ≤ 4096) (h : BytesAt w.heap.size w a bs) :
    Calls Try.prog 20 #[.slice a len cap] w (GaveLC w) := by
  have HW := Lib.hid (Term.bx w (.cells #[.int .i64 0, .int .i64 0, .int .i64 0] 32))
  have HC := Lib.hid (specFrom_any a len cap bs (w.alloc (.cells #[.int .i64 0, .int .i64 0, .int .i64 0] 32)) hl hm (h.later HW.out))
  have HR := Lib.hid (row3 w (.int .i64 0) (.int .i64 0) (.int .i64 0) 32)
  have hz1 : (w.alloc (.cells #[.int .i64 0, .int .i64 0, .int .i64 0] 32)).heap.size = w.heap.size + 1 := by simp
  have HZ1 := Lib.hid hz1
  clear h hl hz1
  go_enter Try.func20, Try.ntmps20
  go_wp2_with fail
  obtain ⟨rv, hrv⟩ : ∃ rv, w.heap.size = rv := ⟨_, rfl⟩
  have HRV := Lib.hid hrv
  refine HC.out.mono ?_; rintro e w1 ⟨b, rfl, hS, hB⟩
  have HB := Lib.hid (HW.out.trans (hB.mono HW.out.size)); have hsz := hB.size; have hbs := hS.base; have hb1 := hS.lt
  rw [HZ1.out] at hsz hbs
  have HR1 := Lib.hid (HR.out.of_block (hB.block _ (by rw [HZ1.out]; omega)))
  have HL := Lib.hid (specList7_any _ b w1 hS); clear hS hB
  rw [hrv] at hsz hbs HR1 ⊢
  clear hrv
  go_wp2_with fail
  refine HL.out.mono ?_; rintro e w2 ⟨v, qs, rfl, ho, hl, hz, hS, hg⟩
  have HO := Lib.hid ho; have HZ := Lib.hid hz
  have HB2 := Lib.hid (HB.out.trans (grown_below hg (show w.heap.size ≤ b by have := HRV.out; omega) HB.out.size))
  have HR2 := Lib.hid (row_grown HR1.out hg (by omega))
  have HD := Lib.hid (specDraw7_any _ b w2 hS)
  have hz2 := hg.size
  clear ho hz hS hg
  go_wp2_with fail
  refine HD.out.mono ?_; rintro e w3 ⟨c, rfl, hc, hS, hg⟩
  have HR3 := Lib.hid (row_grown HR2.out hg (by omega))
  have HO3 := Lib.hid (HO.out.grown hg hb1)
  have HB3 := Lib.hid (HB2.out.trans (grown_below hg (show w.heap.size ≤ b by have := HRV.out; omega) HB2.out.size))
  have HCC := Lib.hid hc
  have c0 := HR3.out.cell (show 0 < 3 by omega); have c1 := HR3.out.cell (show 1 < 3 by omega); have c2 := HR3.out.cell (show 2 < 3 by omega)
  have f0 := HR3.out.frozen 0; have f1 := HR3.out.frozen 1; have f2 := HR3.out.frozen 2
  have hNr : rv < w1.heap.size := by omega
  clear hS hg hc
  have HRf := Lib.hid (((HR3.out.set 0 (.int .i64 c.num)).set 1 (.int .i64 c.frm)).set 2 (.int .i64 c.to))
  have HOf := Lib.hid (((HO3.out.grown (Term.mcell w3 rv 0 (.int .i64 c.num)) hNr).grown (Term.mcell _ rv 1 (.int .i64 c.frm)) hNr).grown (Term.mcell _ rv 2 (.int .i64 c.to)) hNr)
  have hrw : w.heap.size ≤ rv := by rw [HRV.out]; exact Nat.le_refl _
  have HBf := Lib.hid (((HB3.out.setCell (p := ⟨rv, 0, none⟩) hrw (.int .i64 c.num)).setCell (p := ⟨rv, 1, none⟩) hrw (.int .i64 c.frm)).setCell (p := ⟨rv, 2, none⟩) hrw (.int .i64 c.to))
  obtain ⟨g, cap2, rfl⟩ := HO.out.1
  obtain ⟨ql, hql⟩ : ∃ ql, qs.length = ql := ⟨_, rfl⟩
  have HQL := Lib.hid hql
  go_wp2_with fail
  (try simp only [Exit.inBlock, Exit.then])
  have hNw : w.heap.size ≤ w1.heap.size := by have := HRV.out; omega
  refine bodyPost_ret (v := .tuple #[.slice (some ⟨g, 0, none⟩) qs.length cap2, .agg #[.int .i64 c.num, .int .i64 c.frm, .int .i64 c.to]]) ?_ rfl ⟨_, qs, c, rfl, gaveL_of hNw HOf.out hl HZ.out HBf.out, HCC.out⟩
  rw [results_tmp_cell rfl]
  have r0 := HRf.out.cell (show 0 < 3 by omega); have r1 := HRf.out.cell (show 1 < 3 by omega); have r2 := HRf.out.cell (show 2 < 3 by omega)
  go_simp

/-- what each operation of the drawn end leaves -/
def RF (b rb : Nat) (lv : Value) (c : Term) : Nat → Value → World → Prop
  | 0, v, _ => v = lv
  | 1, v, _ => v = .pointer (some ⟨rb, 0, none⟩)
  | 2, v, _ => v = .int .i64 c.num
  | 3, v, _ => v = .pointer (some ⟨b, 0, none⟩)
  | 4, v, _ => v = .pointer (some ⟨rb, 2, none⟩)
  | 5, v, _ => v = .int .i64 c.to
  | 6, v, _ => v = .int .i64 (c.to + 730)
  | 7, v, _ => v = .pointer (some ⟨rb, 2, none⟩)
  | 8, v, _ => v = .int .i64 c.to
  | 9, v, _ => v = .int .i64 (c.to + 730)
  | 10, v, _ => v = .int .i64 (c.to + 730 - 1)
  | 11, v, _ => v = .pointer (some ⟨rb, 1, none⟩)
  | 12, v, _ => v = .int .i64 c.frm
  | 13, v, _ => v = .pointer (some ⟨rb, 1, none⟩)
  | 14, v, _ => v = .int .i64 c.frm
  | 15, v, _ => v = .int .i64 (c.frm + 1)
  | 16, v, w => ∃ g, v = .slice (some ⟨g, 0, none⟩) 4 4 ∧ g ≠ b ∧ ∀ i x, [c.to + 730, c.to + 730 - 1, c.frm, c.frm + 1][i]? = some x → w.cell? ⟨g, i, none⟩ = some (.int .i64 x)
  | 17, v, _ | 20, v, _ => IntIn (-2) 40000 v
  | 18, v, _ => v = lv
  | 19, v, _ => v = .int .i64 c.num
  | _, _, _ => True

set_option maxRecDepth 100000 in
set_option maxHeartbeats 4000000 in
theorem specDrawRested_any (a : Option Addr) (len cap : Nat) (bs : List Int) (w : World) (hl : bs.length = len) (hm : len ≤ 4096) (h : BytesAt w.heap.size w a bs) :
    Calls Try.prog 17 #[.slice a len cap] w (GaveLND w) := by
  have HC := Lib.hid (specFrom_any a len cap bs w hl hm h)
  have HY := Lib.hid h; have HL0 := Lib.hid hl
  clear h hl
  obtain ⟨B, hBe⟩ : ∃ B, w.heap.size = B := ⟨_, rfl⟩
  have HBE := Lib.hid hBe
  clear hBe
  go_enter Try.func17, Try.ntmps17
  go_wp2_with fail
  refine HC.out.mono ?_; rintro e w1 ⟨b, rfl, hS, hB⟩
  have HB := Lib.hid hB; have hsz := hB.size; have hbs := hS.base; have hb1 := hS.lt
  have HS := Lib.hid hS
  have HD := Lib.hid (specDrawDays_any a len cap bs w1 HL0.out hm (HY.out.later hB)); clear hS hB
  go_wp2_with fail
  refine HD.out.mono ?_; rintro e w2 ⟨v, qs, n, rfl, ⟨⟨g, cap2, rfl⟩, ho, hl, hz, hB⟩, hn⟩
  have HO := Lib.hid ho; have HZ := Lib.hid hz
  have HS2 := Lib.hid (src_later HS.out hB); have HB2 := Lib.hid (HB.out.trans (hB.mono hsz)); have hsz2 := hB.size
  clear ho hz hB HC HD
  go_wp2_with fail
  refine (specNext_any _ b 2500 w2 (by omega) HS2.out).mono ?_; rintro e w3 ⟨x, rfl, hx, _, hS, hg⟩
  obtain ⟨l1, u1⟩ := hx (by omega)
  have q0 : IntKind.i64.wrap (100 + x) = 100 + x := IntWalk.i64_in _ (by omega)
  have HO3 := Lib.hid (HO.out.grown hg hb1); have HS3 := Lib.hid hS; have HB3 := Lib.hid (HB2.out.trans (grown_below hg hbs (by omega))); have hsz3 := hg.size
  clear hS hg hx
  obtain ⟨day, hday⟩ : ∃ day, 100 + x = day := ⟨_, rfl⟩
  have hd0 : 100 ≤ day ∧ day ≤ 2600 := by omega
  rw [hday] at q0
  obtain ⟨ql, hql⟩ : ∃ ql, qs.length = ql := ⟨_, rfl⟩
  have HQL := Lib.hid hql
  rw [hql] at HO3 hl ⊢
  -- the end without a term
  have HEND := Lib.hid (show ∀ w4 : World, w.heap.size ≤ w4.heap.size → w1.heap.size ≤ w4.heap.size → Term.L w4 w1.heap.size (.slice (some ⟨g, 0, none⟩) ql cap2) qs → Src w.heap.size 82 w4 b → Below w.heap.size w w4 →
      Calls Try.prog 55 #[.pointer (some ⟨b, 0, none⟩), .slice (some ⟨w4.heap.size, 0, none⟩) 4 4] (w4.alloc (.cells #[.int .i64 day, .int .i64 day, .int .i64 20000, .int .i64 20001] 2)) fun e w5 => ∃ d, e = .returned (.int .i64 d) ∧ (-2 ≤ d ∧ d ≤ 40000) ∧ GaveL w (.slice (some ⟨g, 0, none⟩) ql cap2) qs w5 from fun w4 h4 h41 ho hS hB => by
    refine (specPick_any _ b w4.heap.size [day, day, 20000, 20001] 4 4 _ rfl (by omega) (by omega) (hS.alloc _) (by have := hS.lt; omega) (alloc_ints w4 2 _)).mono ?_
    rintro e w5 ⟨z, rfl, hz, _, hg⟩
    have hz2 : -2 ≤ z ∧ z ≤ 40000 := by simp at hz; omega
    exact ⟨z, rfl, hz2, gaveL_of hsz ((ho.alloc _).grown hg hb1) (by rw [HQL.out]; exact hl) HZ.out ((hB.alloc h4 _).trans (grown_below hg hbs (by simp; omega)))⟩)
  clear hql
  by_cases h0 : 0 < ql
  · have h0b : decide ((ql : Int) > 0) = true := decide_eq_true (by omega)
    go_wp2_with fail
    refine (specNext_any _ b 2 w3 (by omega) HS3.out).mono ?_; rintro e w4 ⟨y, rfl, hy, _, hS, hg⟩
    have HO4 := Lib.hid (HO3.out.grown hg hb1); have HS4 := Lib.hid hS; have HB4 := Lib.hid (HB3.out.trans (grown_below hg hbs (by omega))); have hsz4 := hg.size
    clear hS hg hy
    by_cases hy0 : y = 0
    · have hyb : (y == 0) = true := beq_iff_eq.2 hy0
      clear hy0
      go_wp2_with fail
      refine (specNext_any _ b ql w4 (by omega) HS4.out).mono ?_; rintro e w5 ⟨k, rfl, hk, hk1, hS, hg⟩
      obtain ⟨m, rfl, hm⟩ : ∃ m : Nat, k = m ∧ m < ql := by
        by_cases h1 : 1 < ql
        · have := hk (by omega); exact ⟨k.toNat, by omega, by omega⟩
        · have := hk1 (by omega); exact ⟨0, by omega, by omega⟩
      have hx5 := HO4.out.grown hg hb1
      obtain ⟨c, hqc⟩ : ∃ c, qs[m]? = some c := ⟨_, List.getElem?_eq_getElem (by rw [HQL.out]; exact hm)⟩
      have hc := hx5.at hqc
      have HCS := Lib.hid (HZ.out c (List.mem_of_getElem? hqc))
      have HO5 := Lib.hid (hx5.alloc (.cells #[.int .i64 c.num, .int .i64 c.frm, .int .i64 c.to] 32)); have HS5 := Lib.hid (hS.alloc (.cells #[.int .i64 c.num, .int .i64 c.frm, .int .i64 c.to] 32)); have HB5 := Lib.hid ((HB4.out.trans (grown_below hg hbs (by omega))).alloc (by have := hg.size; omega) (.cells #[.int .i64 c.num, .int .i64 c.frm, .int .i64 c.to] 32)); have hsz5 := hg.size
      have HX5 := Lib.hid (Term.boxed w5 c 32)
      have hb5 := hS.lt
      obtain ⟨c0, c1, c2⟩ := hc
      clear hS hg hk hk1 hx5 hqc
      go_wp2_with fail
      clear c0 c1 c2
      generalize w5.alloc (.cells #[.int .i64 c.num, .int .i64 c.frm, .int .i64 c.to] 32) = w6 at HO5 HS5 HB5 HX5 ⊢
      obtain ⟨rb, hrb⟩ : ∃ rb, w5.heap.size = rb := ⟨_, rfl⟩
      rw [hrb] at HX5 hb5 ⊢
      obtain ⟨⟨hn0, hn1⟩, ⟨hf0, hf1⟩, ht0, ht1⟩ := HCS.out
      have q1 : IntKind.i64.wrap (c.to + 730) = c.to + 730 := IntWalk.i64_in _ (by omega)
      have q2 : IntKind.i64.wrap (c.to + 730 - 1) = c.to + 730 - 1 := IntWalk.i64_in _ (by omega)
      have q3 : IntKind.i64.wrap (c.frm + 1) = c.frm + 1 := IntWalk.i64_in _ (by omega)
      have hbx : ∀ W, w6.grownBy W (some b) → Term.Box W rb c := fun W hg => HX5.out.grown hg (by omega)
      have HWB := Lib.hid HBE.out
      have hBq : Src w.heap.size 82 w6.drew b ∧ w6.grownBy w6.drew (some b) := ⟨HS5.out.kept rfl (Below.drew (Below.refl _ _)), rfl, rfl, rfl, Nat.le_refl _, fun _ _ _ => rfl⟩
      rw [HBE.out] at hBq
      refine wp_region_facts (sz := 60) [5, 6, 9] (by kernel_rfl) (by kernel_rfl) (by kernel_rfl) (fun W => Src B 82 W b ∧ w6.grownBy W (some b)) (fun W W' => W.grownBy W' (some b)) (RF b rb (.slice (some ⟨g, 0, none⟩) ql cap2) c) rfl hBq ?_ ?_ ?_
      · intro j v w2 w3 hf hR
        unfold RF at hf ⊢
        split at hf <;> first | exact hf | trivial | skip
        obtain ⟨g, e, hgb, hz⟩ := hf
        exact ⟨g, e, hgb, fun i x hx => hR.cell (hz i x hx) (by intro e; exact hgb (Option.some.inj e))⟩
      · intro i o ho
        generalize (Value.slice (some ⟨g, 0, none⟩) ql cap2) = lv
        have hbox : ∀ W, (Src B 82 W b ∧ w6.grownBy W (some b)) → Term.Box W rb c := fun W h => hbx W h.2
        match i, ho with
        | 0, ho =>
          cases ho
          intro ev w' hc hfn hb hG hd
          have h0 : ev (.tmp 6) = lv := hb 6 (by simp)
          refine stepTo_gen fun K' hK => ?_
          simp [go_sem, stepTo, hc, hfn, h0]
          exact hK _ _ ⟨hG, grown_refl _ _, (fun h => by cases h), rfl⟩
        | 1, ho =>
          cases ho
          intro ev w' hc hfn hb hG hd
          have h0 : ev (.tmp 9) = .pointer (some ⟨rb, 0, none⟩) := hb 9 (by simp)
          refine stepTo_gen fun K' hK => ?_
          simp [go_sem, stepTo, hc, hfn, h0]
          exact hK _ _ ⟨hG, grown_refl _ _, (fun h => by cases h), rfl⟩
        | 2, ho =>
          cases ho
          intro ev w' hc hfn hb hG hd
          have h0 : ev (.tmp 36) = .pointer (some ⟨rb, 0, none⟩) := hd { on := 1, ground := .data } (by simp) rfl _ rfl
          obtain ⟨c0, c1, c2⟩ := hbox w' hG
          refine stepTo_gen fun K' hK => ?_
          simp [go_sem, stepTo, hc, hfn, h0, c0]
          exact hK _ _ ⟨hG, grown_refl _ _, (fun h => by cases h), rfl⟩
        | 3, ho =>
          cases ho
          intro ev w' hc hfn hb hG hd
          have h0 : ev (.tmp 5) = .pointer (some ⟨b, 0, none⟩) := hb 5 (by simp)
          refine stepTo_gen fun K' hK => ?_
          simp [go_sem, stepTo, hc, hfn, h0]
          exact hK _ _ ⟨hG, grown_refl _ _, (fun h => by cases h), rfl⟩
        | 4, ho =>
          cases ho
          intro ev w' hc hfn hb hG hd
          have h0 : ev (.tmp 9) = .pointer (some ⟨rb, 0, none⟩) := hb 9 (by simp)
          refine stepTo_gen fun K' hK => ?_
          simp [go_sem, stepTo, hc, hfn, h0]
          exact hK _ _ ⟨hG, grown_refl _ _, (fun h => by cases h), rfl⟩
        | 5, ho =>
          cases ho
          intro ev w' hc hfn hb hG hd
          have h0 : ev (.tmp 39) = .pointer (some ⟨rb, 2, none⟩) := hd { on := 4, ground := .data } (by simp) rfl _ rfl
          obtain ⟨c0, c1, c2⟩ := hbox w' hG
          refine stepTo_gen fun K' hK => ?_
          simp [go_sem, stepTo, hc, hfn, h0, c2]
          exact hK _ _ ⟨hG, grown_refl _ _, (fun h => by cases h), rfl⟩
        | 6, ho =>
          cases ho
          intro ev w' hc hfn hb hG hd
          have h0 : ev (.tmp 40) = .int .i64 (c.to) := hd { on := 5, ground := .data } (by simp) rfl _ rfl
          refine stepTo_gen fun K' hK => ?_
          simp [go_sem, stepTo, hc, hfn, h0, q1, q2, q3]
          exact hK _ _ ⟨hG, grown_refl _ _, (fun h => by cases h), rfl⟩
        | 7, ho =>
          cases ho
          intro ev w' hc hfn hb hG hd
          have h0 : ev (.tmp 9) = .pointer (some ⟨rb, 0, none⟩) := hb 9 (by simp)
          refine stepTo_gen fun K' hK => ?_
          simp [go_sem, stepTo, hc, hfn, h0]
          exact hK _ _ ⟨hG, grown_refl _ _, (fun h => by cases h), rfl⟩
        | 8, ho =>
          cases ho
          intro ev w' hc hfn hb hG hd
          have h0 : ev (.tmp 42) = .pointer (some ⟨rb, 2, none⟩) := hd { on := 7, ground := .data } (by simp) rfl _ rfl
          obtain ⟨c0, c1, c2⟩ := hbox w' hG
          refine stepTo_gen fun K' hK => ?_
          simp [go_sem, stepTo, hc, hfn, h0, c2]
          exact hK _ _ ⟨hG, grown_refl _ _, (fun h => by cases h), rfl⟩
        | 9, ho =>
          cases ho
          intro ev w' hc hfn hb hG hd
          have h0 : ev (.tmp 43) = .int .i64 (c.to) := hd { on := 8, ground := .data } (by simp) rfl _ rfl
          refine stepTo_gen fun K' hK => ?_
          simp [go_sem, stepTo, hc, hfn, h0, q1, q2, q3]
          exact hK _ _ ⟨hG, grown_refl _ _, (fun h => by cases h), rfl⟩
        | 10, ho =>
          cases ho
          intro ev w' hc hfn hb hG hd
          have h0 : ev (.tmp 44) = .int .i64 (c.to + 730) := hd { on := 9, ground := .data } (by simp) rfl _ rfl
          refine stepTo_gen fun K' hK => ?_
          simp [go_sem, stepTo, hc, hfn, h0, q1, q2, q3]
          exact hK _ _ ⟨hG, grown_refl _ _, (fun h => by cases h), rfl⟩
        | 11, ho =>
          cases ho
          intro ev w' hc hfn hb hG hd
          have h0 : ev (.tmp 9) = .pointer (some ⟨rb, 0, none⟩) := hb 9 (by simp)
          refine stepTo_gen fun K' hK => ?_
          simp [go_sem, stepTo, hc, hfn, h0]
          exact hK _ _ ⟨hG, grown_refl _ _, (fun h => by cases h), rfl⟩
        | 12, ho =>
          cases ho
          intro ev w' hc hfn hb hG hd
          have h0 : ev (.tmp 46) = .pointer (some ⟨rb, 1, none⟩) := hd { on := 11, ground := .data } (by simp) rfl _ rfl
          obtain ⟨c0, c1, c2⟩ := hbox w' hG
          refine stepTo_gen fun K' hK => ?_
          simp [go_sem, stepTo, hc, hfn, h0, c1]
          exact hK _ _ ⟨hG, grown_refl _ _, (fun h => by cases h), rfl⟩
        | 13, ho =>
          cases ho
          intro ev w' hc hfn hb hG hd
          have h0 : ev (.tmp 9) = .pointer (some ⟨rb, 0, none⟩) := hb 9 (by simp)
          refine stepTo_gen fun K' hK => ?_
          simp [go_sem, stepTo, hc, hfn, h0]
          exact hK _ _ ⟨hG, grown_refl _ _, (fun h => by cases h), rfl⟩
        | 14, ho =>
          cases ho
          intro ev w' hc hfn hb hG hd
          have h0 : ev (.tmp 48) = .pointer (some ⟨rb, 1, none⟩) := hd { on := 13, ground := .data } (by simp) rfl _ rfl
          obtain ⟨c0, c1, c2⟩ := hbox w' hG
          refine stepTo_gen fun K' hK => ?_
          simp [go_sem, stepTo, hc, hfn, h0, c1]
          exact hK _ _ ⟨hG, grown_refl _ _, (fun h => by cases h), rfl⟩
        | 15, ho =>
          cases ho
          intro ev w' hc hfn hb hG hd
          have h0 : ev (.tmp 49) = .int .i64 (c.frm) := hd { on := 14, ground := .data } (by simp) rfl _ rfl
          refine stepTo_gen fun K' hK => ?_
          simp [go_sem, stepTo, hc, hfn, h0, q1, q2, q3]
          exact hK _ _ ⟨hG, grown_refl _ _, (fun h => by cases h), rfl⟩
        | 16, ho =>
          cases ho
          intro ev w' hc hfn hb hG hd
          have h1 : ev (.tmp 41) = .int .i64 (c.to + 730) := hd { on := 6, ground := .data } (by simp) rfl _ rfl
          have h2 : ev (.tmp 45) = .int .i64 (c.to + 730 - 1) := hd { on := 10, ground := .data } (by simp) rfl _ rfl
          have h3 : ev (.tmp 47) = .int .i64 c.frm := hd { on := 12, ground := .data } (by simp) rfl _ rfl
          have h4 : ev (.tmp 50) = .int .i64 (c.frm + 1) := hd { on := 15, ground := .data } (by simp) rfl _ rfl
          refine stepTo_gen fun K' hK => ?_
          simp [go_sem, stepTo, hc, hfn, h1, h2, h3, h4]
          exact hK _ _ ⟨⟨hG.1.alloc _, grown_trans hG.2 (grown_alloc _ _ _)⟩, grown_alloc _ _ _, (fun h => by cases h), _, rfl, by have := hG.1.lt; omega, alloc_ints w' 2 _⟩
        | 17, ho =>
          cases ho
          intro ev w' hc hfn hb hG hd
          have h1 : ev (.tmp 38) = .pointer (some ⟨b, 0, none⟩) := hd { on := 3, ground := .data } (by simp) rfl _ rfl
          obtain ⟨g, h2, hgb, hz⟩ : ∃ g, ev (.tmp 51) = .slice (some ⟨g, 0, none⟩) 4 4 ∧ g ≠ b ∧ ∀ i x, [c.to + 730, c.to + 730 - 1, c.frm, c.frm + 1][i]? = some x → w'.cell? ⟨g, i, none⟩ = some (.int .i64 x) := hd { on := 16, ground := .data } (by simp) rfl _ rfl
          refine stepTo_gen fun K' hK => ?_
          simp [go_sem, stepTo, hc, hfn, h1, h2]
          refine (specPick_any B b g [c.to + 730, c.to + 730 - 1, c.frm, c.frm + 1] 4 4 w' rfl (by omega) (by omega) hG.1 hgb hz).mono ?_
          rintro e w2 ⟨z, rfl, hz, hS, hg⟩
          have hz2 : -2 ≤ z ∧ z ≤ 40000 := by simp at hz; omega
          exact ⟨_, rfl, hK _ _ ⟨⟨hS, grown_trans hG.2 hg⟩, hg, (fun h => by cases h), z, rfl, hz2.1, hz2.2⟩⟩
        | 18, ho =>
          cases ho
          intro ev w' hc hfn hb hG hd
          have h1 : ev (.tmp 35) = lv := hd { on := 0, ground := .data } (by simp) rfl _ rfl
          refine stepTo_gen fun K' hK => ?_
          simp [go_sem, stepTo, hc, hfn, h1]
          exact hK _ _ ⟨hG, grown_refl _ _, (fun h => by cases h), rfl⟩
        | 19, ho =>
          cases ho
          intro ev w' hc hfn hb hG hd
          have h1 : ev (.tmp 37) = .int .i64 c.num := hd { on := 2, ground := .data } (by simp) rfl _ rfl
          refine stepTo_gen fun K' hK => ?_
          simp [go_sem, stepTo, hc, hfn, h1]
          exact hK _ _ ⟨hG, grown_refl _ _, (fun h => by cases h), rfl⟩
        | 20, ho =>
          cases ho
          intro ev w' hc hfn hb hG hd
          have h1 : IntIn (-2) 40000 (ev (.tmp 52)) := hd { on := 17, ground := .data } (by simp) rfl _ rfl
          refine stepTo_gen fun K' hK => ?_
          simp [go_sem, stepTo, hc, hfn]
          exact hK _ _ ⟨hG, grown_refl _ _, (fun h => by cases h), h1⟩
        | n + 21, ho => simp at ho
      · intro a' w' hb hs hdf hG hf
        obtain ⟨z, h4, hz0, hz1⟩ : IntIn (-2) 40000 (a'.eval (.tmp 4)) := hf 20 _ rfl
        have h2 : a'.eval (.tmp 2) = .slice (some ⟨g, 0, none⟩) ql cap2 := hf 18 _ rfl
        have h3 : a'.eval (.tmp 3) = .int .i64 c.num := hf 19 _ rfl
        have HX := Lib.hid (gaveL_of hsz (HO5.out.grown hG.2 hb1) (by rw [HQL.out]; exact hl) HZ.out (HB5.out.trans (grown_below hG.2 hbs (by have := HB5.out.size; omega))))
        obtain ⟨tmps, dfs⟩ := a'
        simp only at hdf
        subst hdf
        have h2' : tmps.getD 2 undef = .slice (some ⟨g, 0, none⟩) ql cap2 := h2
        have h3' : tmps.getD 3 undef = .int .i64 c.num := h3
        have h4' : tmps.getD 4 undef = .int .i64 z := h4
        clear hf hb h2 h3 h4 hs hG
        go_wp2_with fail
        (try simp only [Exit.inBlock, Exit.then])
        refine bodyPost_ret (results_tmp3 rfl _ _ _) rfl ?_
        rw [h2', h3', h4']
        exact ⟨_, _, _, _, rfl, HX.out, ⟨hn0, hn1⟩, hz0, hz1⟩
    · have hyb : (y == 0) = false := beq_eq_false_iff_ne.2 hy0
      clear hy0
      have HE := Lib.hid (HEND.out w4 (by omega) (by omega) HO4.out HS4.out HB4.out)
      go_wp2_with fail
      refine HE.out.mono ?_; rintro e w5 ⟨z, rfl, hz, hx⟩
      have HX := Lib.hid hx; clear hx
      go_wp2_with fail
      go_ret3
      exact ⟨_, _, _, _, rfl, HX.out, hn, hz⟩
  · have h0b : decide ((ql : Int) > 0) = false := decide_eq_false (by omega)
    have HE := Lib.hid (HEND.out w3 (by omega) (by omega) HO3.out HS3.out HB3.out)
    go_wp2_with fail
    refine HE.out.mono ?_; rintro e w5 ⟨z, rfl, hz, hx⟩
    have HX := Lib.hid hx; clear hx
    go_wp2_with fail
    go_ret3
    exact ⟨_, _, _, _, rfl, HX.out, hn, hz⟩

set_option maxRecDepth 100000 in
set_option maxHeartbeats 2000000 in
theorem specDrawFrom_any (a : Option Addr) (len cap : Nat) (bs : List Int) (w : World) (hl : bs.length = len) (hm : len ≤ 4096) (h : BytesAt w.heap.size w a bs) :
    Calls Try.prog 14 #[.slice a len cap] w (GaveLND w) := by
  have HC := Lib.hid (specFrom_any a len cap bs w hl hm h)
  have HY := Lib.hid h; have HL0 := Lib.hid hl
  clear h hl
  go_enter Try.func14, Try.ntmps14
  go_wp2_with fail
  refine HC.out.mono ?_; rintro e w1 ⟨b, rfl, hS, hB⟩
  have HB := Lib.hid hB; have hsz := hB.size; have hbs := hS.base; have hb1 := hS.lt
  have HS := Lib.hid hS
  have HD := Lib.hid (specDrawRested_any a len cap bs w1 HL0.out hm (HY.out.later hB)); clear hS hB
  go_wp2_with fail
  refine HD.out.mono ?_; rintro e w2 ⟨v, qs, n, d, rfl, ⟨⟨g, cap2, rfl⟩, ho, hl, hz, hB⟩, hn, hd⟩
  have HO := Lib.hid ho; have HZ := Lib.hid hz
  have HS2 := Lib.hid (src_later HS.out hB); have HB2 := Lib.hid (HB.out.trans (hB.mono hsz)); have hsz2 := hB.size
  clear ho hz hB HC HD
  go_wp2_with fail
  refine (specNext_any _ b 16 w2 (by omega) HS2.out).mono ?_; rintro e w3 ⟨x, rfl, hx, _, hS, hg⟩
  have HO3 := Lib.hid (HO.out.grown hg hb1); have HB3 := Lib.hid (HB2.out.trans (grown_below hg hbs (by omega))); have hsz3 := hg.size
  clear hS hg hx
  by_cases hx0 : x = 0
  · have h0 : (x == 0) = true := beq_iff_eq.2 hx0
    clear hx0
    have HX := Lib.hid (gaveL_of (w := w) (N := w.heap.size) (qs := [⟨1, 19000, 19500⟩]) (Nat.le_refl _) (Term.L_lit (w := w3) ⟨1, 19000, 19500⟩ (show w.heap.size ≤ w3.heap.size by omega)) (by simp) (fun q hq => by rw [List.mem_singleton.1 hq]; exact ⟨⟨by show (0 : Int) ≤ 1; omega, by show (1 : Int) ≤ 1000001; omega⟩, ⟨by show (0 : Int) ≤ 19000; omega, by show (19000 : Int) ≤ 30000; omega⟩, by show (-1 : Int) ≤ 19500; omega, by show (19500 : Int) ≤ 30000; omega⟩) (HB3.out.alloc (by omega) (.cells #[.int .i64 1, .int .i64 19000, .int .i64 19500] 32)))
    go_wp2_with fail
    go_ret3
    exact ⟨_, _, _, _, rfl, HX.out, ⟨by omega, by omega⟩, by omega, by omega⟩
  · have h0 : (x == 0) = false := beq_eq_false_iff_ne.2 hx0
    clear hx0
    have HX := Lib.hid (gaveL_of hsz HO3.out hl HZ.out HB3.out)
    generalize qs.length = ql at HX ⊢
    go_wp2_with fail
    go_ret3
    exact ⟨_, _, _, _, rfl, HX.out, hn, hd⟩

set_option maxHeartbeats 1000000 in
theorem specDrawServing_any (a : Option Addr) (len cap : Nat) (bs : List Int) (w : World) (hl : bs.length = len) (hm : len ≤ 4096) (h : BytesAt w.heap.size w a bs) :
    Calls Try.prog 32 #[.slice a len cap] w (GaveLD w) := by
  have HC := Lib.hid (specDrawRested_any a len cap bs w hl hm h)
  clear h hl
  go_enter Try.func32, Try.ntmps32
  go_wp2_with fail
  refine HC.out.mono ?_; rintro e w1 ⟨v, qs, n, d, rfl, hx, hn, hd⟩
  have HX := Lib.hid hx; clear hx
  go_wp2_with fail
  go_ret2
  exact ⟨_, _, _, rfl, HX.out, hd⟩

end Go.Proofs.Ytblbmmajobefiaa
