/- The program's sort: keys, the comparison, the stable sort of at most 20 terms, byDay, byPerson. (written by sort7.py) -/
import Derived.Test.YtblbmmajobefiaaChecked
import Derived.Test.YtblbmmajobefiaaBase
import Derived.Test.YtblbmmajobefiaaTermA
import Derived.Test.YtblbmmajobefiaaTermB
import Derived.Test.YtblbmmajobefiaaTermC
import Derived.Test.YtblbmmajobefiaaTermD
import Derived.Test.YtblbmmajobefiaaPure72
import Derived.Test.YtblbmmajobefiaaLay7
import Derived.WalkKit
import Derived.WalkSpells
import Derived.WalkLawsBesides
import Derived.Lib.Hide
import Derived.Lib.QuietBelow
import Derived.Deep.QuietTactic
import Derived.BigQuiet
import Derived.OwnWalk
import Derived.Shelf.SlSortCmp.InsertionK
import Derived.Outline
namespace Go.Proofs.Ytblbmmajobefiaa
open Go.RowKit Go.Sort Go.Shelf Pure1 Pure2

/-- a list of terms of our own is returned; nothing that was there has turned -/
def SaysTL (ts : List Term) (w : World) (e : Ending) (w' : World) : Prop := ∃ v, e = .returned v ∧ Term.Bd w' w.heap.size v ts ∧ Below w.heap.size w w'
theorem cell_below {B : Nat} {w w' : World} {a : Addr} {v : Value} (hb : Below B w w') (ha : a.block < B) (h : w.cell? a = some v) : w'.cell? a = some v := (hb.cell ha).trans h
def cmpI (x y : Int) : Int := if x < y then -1 else if y < x then 1 else 0
theorem cmpI_neg (x y : Int) : decide (cmpI x y < 0) = decide (x < y) := by
  unfold cmpI
  by_cases h : x < y
  · rw [if_pos h]; simp [h]
  · rw [if_neg h]; split <;> simp [h]

set_option maxHeartbeats 1000000 in
theorem implKey_frm (c : Term) (w : World) : Calls Try.prog 72 #[.agg #[.int .i64 c.num, .int .i64 c.frm, .int .i64 c.to]] w fun e w' => e = .returned (.int .i64 c.frm) ∧ ∃ q os', w' = grow (w.drewN q) os' := by
  have HA := Lib.hid (Term.boxed w c 32)
  go_enter Try.func72, Try.ntmps72
  obtain ⟨a0, a1, a2⟩ := HA.out
  go_wp2_with fail
  go_ret
  exact ⟨rfl, 0, _, by rw [alloc_eq_grow]; rfl⟩

set_option maxHeartbeats 1000000 in
theorem implKey_num (c : Term) (w : World) : Calls Try.prog 85 #[.agg #[.int .i64 c.num, .int .i64 c.frm, .int .i64 c.to]] w fun e w' => e = .returned (.int .i64 c.num) ∧ ∃ q os', w' = grow (w.drewN q) os' := by
  have HA := Lib.hid (Term.boxed w c 32)
  go_enter Try.func85, Try.ntmps85
  obtain ⟨a0, a1, a2⟩ := HA.out
  go_wp2_with fail
  go_ret
  exact ⟨rfl, 0, _, by rw [alloc_eq_grow]; rfl⟩

set_option maxHeartbeats 1000000 in
theorem implNaN_any (x : Int) (w : World) : Calls Try.prog 87 #[.int .i64 x] w fun e w' => e = .returned (.bool false) ∧ w' = w := by
  have hx : (x != x) = false := by simp
  go_enter Try.func87, Try.ntmps87
  go_wp2_with fail
  go_ret
  exact ⟨rfl, rfl⟩
set_option maxHeartbeats 1000000 in
theorem implCompare_any (x y : Int) (w : World) : Calls Try.prog 84 #[.int .i64 x, .int .i64 y] w fun e w' => e = .returned (.int .i64 (cmpI x y)) ∧ w' = w := by
  have H1 := Lib.hid (implNaN_any x w)
  have H2 := Lib.hid (implNaN_any y w)
  by_cases h : x < y
  · have HN := Lib.hid (show cmpI x y = -1 from if_pos h)
    go_enter Try.func84, Try.ntmps84
    go_wp2_with fail
    refine H1.out.mono ?_; rintro e w1 ⟨rfl, rfl⟩
    go_wp2_with fail
    refine H2.out.mono ?_; rintro e w1 ⟨rfl, rfl⟩
    go_wp2_with fail
    go_ret
    exact ⟨ret_i64 HN.out.symm, rfl⟩
  · have hb : decide (x < y) = false := decide_eq_false h
    by_cases h2 : y < x
    · have HN := Lib.hid (show cmpI x y = 1 by unfold cmpI; rw [if_neg h, if_pos h2])
      go_enter Try.func84, Try.ntmps84
      go_wp2_with fail
      refine H1.out.mono ?_; rintro e w1 ⟨rfl, rfl⟩
      go_wp2_with fail
      refine H2.out.mono ?_; rintro e w1 ⟨rfl, rfl⟩
      go_wp2_with fail
      go_ret
      exact ⟨ret_i64 HN.out.symm, rfl⟩
    · have HN := Lib.hid (show cmpI x y = 0 by unfold cmpI; rw [if_neg h, if_neg h2])
      have hb2 : decide (x > y) = false := decide_eq_false h2
      go_enter Try.func84, Try.ntmps84
      go_wp2_with fail
      refine H1.out.mono ?_; rintro e w1 ⟨rfl, rfl⟩
      go_wp2_with fail
      refine H2.out.mono ?_; rintro e w1 ⟨rfl, rfl⟩
      go_wp2_with fail
      go_ret
      exact ⟨ret_i64 HN.out.symm, rfl⟩

set_option maxRecDepth 100000 in
set_option maxHeartbeats 4000000 in
theorem implCmp_frm (bk : Nat) (x y : Term) (w : World) (hf : w.cell? ⟨bk, 0, none⟩ = some (.func (.func 72) #[] #[])) :
    Calls Try.prog 83 #[.agg #[.int .i64 x.num, .int .i64 x.frm, .int .i64 x.to], .agg #[.int .i64 y.num, .int .i64 y.frm, .int .i64 y.to], .pointer (some ⟨bk, 0, none⟩)] w fun e w' => e = .returned (.int .i64 (cmpI x.frm y.frm)) ∧ ∃ q os', w' = grow (w.drewN q) os' := by
  have hbk : bk < w.heap.size := World.block_lt_of_cell? w _ hf
  obtain ⟨w2, hw2⟩ : ∃ w2, (w.alloc (.cells #[.int .i64 x.num, .int .i64 x.frm, .int .i64 x.to] 32)).alloc (.cells #[.int .i64 y.num, .int .i64 y.frm, .int .i64 y.to] 32) = w2 := ⟨_, rfl⟩
  have HG := Lib.hid (show w2 = grow w #[.cells #[.int .i64 x.num, .int .i64 x.frm, .int .i64 x.to] 32, .cells #[.int .i64 y.num, .int .i64 y.frm, .int .i64 y.to] 32] by rw [← hw2, alloc_eq_grow, alloc_eq_grow, grow_grow]; rfl)
  have hB1 : Below w.heap.size w w2 := by rw [← hw2]; exact (Term.bx w _).trans ((Term.bx _ _).mono (Term.bx w _).size)
  have hX : Term.Box w2 w.heap.size x := by rw [← hw2]; exact (Term.boxed w x 32).below (Term.bx _ _)
  have hY : Term.Box w2 (w.heap.size + 1) y := by rw [← hw2]; have := Term.boxed (w.alloc (.cells #[.int .i64 x.num, .int .i64 x.frm, .int .i64 x.to] 32)) y 32; simpa using this
  have hF : w2.cell? ⟨bk, 0, none⟩ = some (.func (.func 72) #[] #[]) := cell_later hB1 hf
  have hs2 : w2.heap.size = w.heap.size + 2 := by rw [← hw2]; simp
  have cF : ∀ n os, (grow (w2.drewN n) os).cell? ⟨bk, 0, none⟩ = some (.func (.func 72) #[] #[]) := cell_grown (by show bk < w2.heap.size; omega) hF
  have cX : ∀ n os, Term.Box (grow (w2.drewN n) os) w.heap.size x := fun n os => ⟨cell_grown (by show w.heap.size < w2.heap.size; omega) hX.1 n os, cell_grown (by show w.heap.size < w2.heap.size; omega) hX.2.1 n os, cell_grown (by show w.heap.size < w2.heap.size; omega) hX.2.2 n os⟩
  have cY : ∀ n os, Term.Box (grow (w2.drewN n) os) (w.heap.size + 1) y := fun n os => ⟨cell_grown (by show w.heap.size + 1 < w2.heap.size; omega) hY.1 n os, cell_grown (by show w.heap.size + 1 < w2.heap.size; omega) hY.2.1 n os, cell_grown (by show w.heap.size + 1 < w2.heap.size; omega) hY.2.2 n os⟩
  have x0 := fun n os => (cX n os).1; have x1 := fun n os => (cX n os).2.1; have x2 := fun n os => (cX n os).2.2
  have y0 := fun n os => (cY n os).1; have y1 := fun n os => (cY n os).2.1; have y2 := fun n os => (cY n os).2.2
  have kX := fun n os => implKey_frm x (grow (w2.drewN n) os)
  have kY := fun n os => implKey_frm y (grow (w2.drewN n) os)
  have kC : ∀ n os, Calls Try.prog 84 #[.int .i64 x.frm, .int .i64 y.frm] (grow (w2.drewN n) os) fun e w' => e = .returned (.int .i64 (cmpI x.frm y.frm)) ∧ ∃ q os', w' = grow ((grow (w2.drewN n) os).drewN q) os' := fun n os => (implCompare_any _ _ _).mono fun e w' ⟨he, hw⟩ => ⟨he, 0, #[], by rw [hw, grow_empty]; rfl⟩
  have HX := Lib.hid hX; have HY := Lib.hid hY
  clear cX cY hX hY hs2 hB1 hf
  have KX := Lib.hid kX; have KY := Lib.hid kY; have KC := Lib.hid kC
  clear kX kY kC
  generalize cmpI x.frm y.frm = r at KC ⊢
  go_enter Try.func83, Try.ntmps83
  have eg1 : ∀ args w, (callFunc 72 args).run Try.prog w = .ok (.enter 72 args) w := enters_of Try.func72 (by kernel_rfl) rfl
  have eg2 : ∀ args w, (callFunc 84 args).run Try.prog w = .ok (.enter 84 args) w := enters_of Try.func84 (by kernel_rfl) rfl
  have mixed : Try.prog.follows .mixedOrders = true := by kernel_rfl
  go_wp2_with fail
  go_quiet_grown (first | (go_at_fn 72; refine Calls.grown_of (KX.out _ _)) | (go_at_fn 72; refine Calls.grown_of (KY.out _ _)) | (go_at_fn 84; refine Calls.grown_of (KC.out _ _)))
  go_wp2_with fail
  go_ret
  exact ⟨rfl, nq, _, by rw [HG.out]; show grow (grow (w.drewN nq) _) osq = _; rw [grow_grow]⟩

set_option maxRecDepth 100000 in
set_option maxHeartbeats 4000000 in
theorem implCmp_num (bk : Nat) (x y : Term) (w : World) (hf : w.cell? ⟨bk, 0, none⟩ = some (.func (.func 85) #[] #[])) :
    Calls Try.prog 83 #[.agg #[.int .i64 x.num, .int .i64 x.frm, .int .i64 x.to], .agg #[.int .i64 y.num, .int .i64 y.frm, .int .i64 y.to], .pointer (some ⟨bk, 0, none⟩)] w fun e w' => e = .returned (.int .i64 (cmpI x.num y.num)) ∧ ∃ q os', w' = grow (w.drewN q) os' := by
  have hbk : bk < w.heap.size := World.block_lt_of_cell? w _ hf
  obtain ⟨w2, hw2⟩ : ∃ w2, (w.alloc (.cells #[.int .i64 x.num, .int .i64 x.frm, .int .i64 x.to] 32)).alloc (.cells #[.int .i64 y.num, .int .i64 y.frm, .int .i64 y.to] 32) = w2 := ⟨_, rfl⟩
  have HG := Lib.hid (show w2 = grow w #[.cells #[.int .i64 x.num, .int .i64 x.frm, .int .i64 x.to] 32, .cells #[.int .i64 y.num, .int .i64 y.frm, .int .i64 y.to] 32] by rw [← hw2, alloc_eq_grow, alloc_eq_grow, grow_grow]; rfl)
  have hB1 : Below w.heap.size w w2 := by rw [← hw2]; exact (Term.bx w _).trans ((Term.bx _ _).mono (Term.bx w _).size)
  have hX : Term.Box w2 w.heap.size x := by rw [← hw2]; exact (Term.boxed w x 32).below (Term.bx _ _)
  have hY : Term.Box w2 (w.heap.size + 1) y := by rw [← hw2]; have := Term.boxed (w.alloc (.cells #[.int .i64 x.num, .int .i64 x.frm, .int .i64 x.to] 32)) y 32; simpa using this
  have hF : w2.cell? ⟨bk, 0, none⟩ = some (.func (.func 85) #[] #[]) := cell_later hB1 hf
  have hs2 : w2.heap.size = w.heap.size + 2 := by rw [← hw2]; simp
  have cF : ∀ n os, (grow (w2.drewN n) os).cell? ⟨bk, 0, none⟩ = some (.func (.func 85) #[] #[]) := cell_grown (by show bk < w2.heap.size; omega) hF
  have cX : ∀ n os, Term.Box (grow (w2.drewN n) os) w.heap.size x := fun n os => ⟨cell_grown (by show w.heap.size < w2.heap.size; omega) hX.1 n os, cell_grown (by show w.heap.size < w2.heap.size; omega) hX.2.1 n os, cell_grown (by show w.heap.size < w2.heap.size; omega) hX.2.2 n os⟩
  have cY : ∀ n os, Term.Box (grow (w2.drewN n) os) (w.heap.size + 1) y := fun n os => ⟨cell_grown (by show w.heap.size + 1 < w2.heap.size; omega) hY.1 n os, cell_grown (by show w.heap.size + 1 < w2.heap.size; omega) hY.2.1 n os, cell_grown (by show w.heap.size + 1 < w2.heap.size; omega) hY.2.2 n os⟩
  have x0 := fun n os => (cX n os).1; have x1 := fun n os => (cX n os).2.1; have x2 := fun n os => (cX n os).2.2
  have y0 := fun n os => (cY n os).1; have y1 := fun n os => (cY n os).2.1; have y2 := fun n os => (cY n os).2.2
  have kX := fun n os => implKey_num x (grow (w2.drewN n) os)
  have kY := fun n os => implKey_num y (grow (w2.drewN n) os)
  have kC : ∀ n os, Calls Try.prog 84 #[.int .i64 x.num, .int .i64 y.num] (grow (w2.drewN n) os) fun e w' => e = .returned (.int .i64 (cmpI x.num y.num)) ∧ ∃ q os', w' = grow ((grow (w2.drewN n) os).drewN q) os' := fun n os => (implCompare_any _ _ _).mono fun e w' ⟨he, hw⟩ => ⟨he, 0, #[], by rw [hw, grow_empty]; rfl⟩
  have HX := Lib.hid hX; have HY := Lib.hid hY
  clear cX cY hX hY hs2 hB1 hf
  have KX := Lib.hid kX; have KY := Lib.hid kY; have KC := Lib.hid kC
  clear kX kY kC
  generalize cmpI x.num y.num = r at KC ⊢
  go_enter Try.func83, Try.ntmps83
  have eg1 : ∀ args w, (callFunc 85 args).run Try.prog w = .ok (.enter 85 args) w := enters_of Try.func85 (by kernel_rfl) rfl
  have eg2 : ∀ args w, (callFunc 84 args).run Try.prog w = .ok (.enter 84 args) w := enters_of Try.func84 (by kernel_rfl) rfl
  have mixed : Try.prog.follows .mixedOrders = true := by kernel_rfl
  go_wp2_with fail
  go_quiet_grown (first | (go_at_fn 85; refine Calls.grown_of (KX.out _ _)) | (go_at_fn 85; refine Calls.grown_of (KY.out _ _)) | (go_at_fn 84; refine Calls.grown_of (KC.out _ _)))
  go_wp2_with fail
  go_ret
  exact ⟨rfl, nq, _, by rw [HG.out]; show grow (grow (w.drewN nq) _) osq = _; rw [grow_grow]⟩

set_option maxRecDepth 100000 in
set_option maxHeartbeats 1000000 in
theorem implClone7_any (a : Option Addr) (len cap : Nat) (ts : List Term) (w : World) (hl : ts.length = len) (hm : len ≤ 10000) (h : Term.ListAt w a ts) :
    Calls Try.prog 58 #[.slice a len cap] w (SaysTL ts w) := by
  have q22 : ∀ (w : World) (a : Option Addr) (n c n' c' : Nat), (binOp .eql 24 (.slice a n c) (.slice none n' c')).run Try.prog w = .ok (.bool a.isNone) w := fun w a n c n' c' => Lib.run_eql_slice_nil w _ _ a n c n' c' Try.underlying24
  cases a with
  | none =>
    have h0 : ts = [] := Or.elim h id (fun ⟨b, off, e, _⟩ => by cases e)
    go_enter Try.func58, Try.ntmps58
    go_wp2_with fail
    go_ret
    subst h0
    exact ⟨_, rfl, Term.Bd.nil _ _, Below.refl _ _⟩
  | some ad =>
    have HC := Lib.hid (fun (W : World) (hB : Below w.heap.size w W) j u hu => vals_of2 (h.below hB) rfl j u hu)
    have HE := Lib.hid (show Term.Bd (w.alloc (.cells #[] 32)) w.heap.size (.slice (some ⟨w.heap.size, 0, none⟩) 0 0) [] from (Term.L_empty (Nat.le_refl _)).2)
    have HW := Lib.hid (Term.bx w (.cells #[] 32))
    have HL := Lib.hid hl
    clear h
    go_enter Try.func58, Try.ntmps58
    go_wp2_with (at_builtin; refine wpList_terms_append rfl _ _ rfl _ [] rfl HE.out ad len cap ts HL.out rfl (HC.out _ HW.out) ?c1 ?c2 ?_)
    case c1 => simp; have := HL.out; omega
    case c2 => simp
    intro v' w' ho hg
    have HB := Lib.hid (HE.out.grew HW.out (Nat.le_refl _) (by simp) hg)
    have HO := Lib.hid ho
    clear ho hg
    go_wp2_with fail
    go_ret
    exact ⟨_, rfl, HO.out, HB.out⟩

theorem cmpLays_frm (bk blk : Nat) (hne : bk ≠ blk) (size : Nat) (w : World) (hf : w.cell? ⟨bk, 0, none⟩ = some (.func (.func 72) #[] #[])) (hbk : bk < w.heap.size) :
    CmpLays Try.prog 83 #[.pointer (some ⟨bk, 0, none⟩)] Term.cells 3 (fun x y => cmpI x.frm y.frm) blk 0 size w := by
  intro m os dk _ x y
  refine implCmp_frm bk x y _ ?_
  unfold sortWorldK
  rw [cell?_grow _ _ _ (by rw [size_putRowK]; exact hbk), cell?_putRowK_other _ _ _ _ _ _ _ hne]
  exact hf
set_option maxRecDepth 100000 in
set_option maxHeartbeats 1000000 in
theorem implIns_frm (bk B g n cap i : Nat) (ts : List Term) (w : World) (hBw : B ≤ w.heap.size) (hbk : bk < B) (hf : w.cell? ⟨bk, 0, none⟩ = some (.func (.func 72) #[] #[])) (hL : Term.L w B (.slice (some ⟨g, 0, none⟩) n cap) ts) (hn : ts.length = n) (hi : n ≤ 10000) (h0 : i = 0 ∨ i = n) :
    Calls Try.prog 88 #[.slice (some ⟨g, 0, none⟩) n cap, .int .i64 (i : Int), .int .i64 (n : Int), .func (.func 83) #[] #[.pointer (some ⟨bk, 0, none⟩)]] w fun e w' => e = .returned (.tuple #[]) ∧ Term.L w' B (.slice (some ⟨g, 0, none⟩) n cap) (if i = 0 then sortK (·.frm) ts else ts) ∧ Below B w w' := by
  obtain ⟨hg, hBg⟩ : g < w.heap.size ∧ B ≤ g := by
    rcases hL.2.2 with ⟨e, _⟩ | ⟨g', cap', cur, e, hb, hh, _⟩
    · cases e
    · cases e; exact ⟨(Array.getElem?_eq_some_iff.1 hh).1, hb⟩
  have hsz : ts.toArray.size = n := by simpa using hn
  have eg : ∀ args w, (callFunc 83 args).run Try.prog w = .ok (.enter 83 args) w := enters_of Try.func83 (by kernel_rfl) rfl
  have hc := AnyQ.insertionSortCmpFunc Try.layIns 3 Try.isAgg32 Try.sizeOf32 Term.cells (fun _ => rfl) (fun x v hv => by simp [Term.cells] at hv; rcases hv with rfl | rfl | rfl <;> rfl) (fun x y => cmpI x.frm y.frm) 83 #[.pointer (some ⟨bk, 0, none⟩)] g 0 cap i n ts.toArray w eg (cmpLays_frm bk g (by omega) _ w hf (by omega)) hL.holds hg (by omega) (by omega) (by omega)
  have hs : Sort.insertionSort (ltOf fun x y => cmpI x.frm y.frm) ts.toArray i n = (if i = 0 then sortK (·.frm) ts else ts).toArray := by
    by_cases h : i = 0
    · rw [if_pos h, h, ← insertion_list (·.frm) (ltOf fun x y => cmpI x.frm y.frm) (fun a b => cmpI_neg _ _) ts, hsz]
    · rw [if_neg h, show i = n by omega]
      unfold Sort.insertionSort
      rw [Sort.insOuter, if_neg (by omega)]
  have hlen : (if i = 0 then sortK (·.frm) ts else ts).length = ts.length := by split <;> first | rfl | exact sortK_length _ _
  rw [hsz, hs] at hc
  refine hc.mono ?_
  rintro e w' ⟨he, q, os, rfl⟩
  exact ⟨he, hL.put hlen os, below_sortWorldK (Below.refl _ _) hBw hBg⟩
set_option maxRecDepth 100000 in
set_option maxHeartbeats 1000000 in
theorem implStable_frm (bk B g n cap : Nat) (ts : List Term) (w : World) (hBw : B ≤ w.heap.size) (hbk : bk < B) (hf : w.cell? ⟨bk, 0, none⟩ = some (.func (.func 72) #[] #[])) (hL : Term.L w B (.slice (some ⟨g, 0, none⟩) n cap) ts) (hn : ts.length = n) (hi : n ≤ 20) :
    Calls Try.prog 86 #[.slice (some ⟨g, 0, none⟩) n cap, .int .i64 (n : Int), .func (.func 83) #[] #[.pointer (some ⟨bk, 0, none⟩)]] w fun e w' => e = .returned (.tuple #[]) ∧ Term.L w' B (.slice (some ⟨g, 0, none⟩) n cap) (sortK (·.frm) ts) ∧ Below B w w' := by
  have H0 := Lib.hid (implIns_frm bk B g n cap 0 ts w hBw hbk hf hL hn (by omega) (.inl rfl))
  by_cases h20 : n = 20
  · have HF := Lib.hid hf; have HBW := Lib.hid hBw
    have HS := Lib.hid (fun (W : World) (hW : B ≤ W.heap.size) (hFW : W.cell? ⟨bk, 0, none⟩ = some (.func (.func 72) #[] #[])) (hLW : Term.L W B (.slice (some ⟨g, 0, none⟩) 20 cap) (sortK (·.frm) ts)) => implIns_frm bk B g 20 cap 20 (sortK (·.frm) ts) W hW hbk hFW hLW (by rw [sortK_length]; omega) (by omega) (.inr rfl))
    subst h20
    clear hf hL hBw
    go_enter Try.func86, Try.ntmps86
    go_wp2_with fail
    refine wp_loop_rounds 2 ?_
    rw [rounds_succ]
    go_wp2_with fail
    refine H0.out.mono ?_; rintro e w1 ⟨rfl, hL1, hB1⟩
    have HL1 := Lib.hid hL1; have HB1 := Lib.hid hB1
    have hf1 := cell_below hB1 hbk HF.out
    have hBw1 : B ≤ w1.heap.size := Nat.le_trans HBW.out hB1.size
    have H2 := Lib.hid (HS.out w1 hBw1 hf1 hL1)
    clear hL1 hB1 hf1
    go_wp2_with fail
    rw [rounds_succ]
    go_wp2_with fail
    refine H2.out.mono ?_; rintro e w2 ⟨rfl, hL2, hB2⟩
    have HL2 := Lib.hid hL2; have HB2 := Lib.hid (HB1.out.trans hB2)
    clear hL2 hB2
    go_wp2_with fail
    refine wp_loop_rounds 1 ?_
    rw [rounds_succ]
    go_wp2_with fail
    go_end0
    exact ⟨rfl, HL2.out, HB2.out⟩
  · have hlt : n < 20 := by omega
    clear hL
    go_enter Try.func86, Try.ntmps86
    go_wp2_with fail
    refine wp_loop_rounds 1 ?_
    rw [rounds_succ]
    go_wp2_with fail
    refine H0.out.mono ?_; rintro e w1 ⟨rfl, hL1, hB1⟩
    have HL1 := Lib.hid hL1; have HB1 := Lib.hid hB1
    clear hL1 hB1
    go_wp2_with fail
    refine wp_loop_rounds 1 ?_
    rw [rounds_succ]
    go_wp2_with fail
    go_end0
    exact ⟨rfl, HL1.out, HB1.out⟩

theorem cmpLays_num (bk blk : Nat) (hne : bk ≠ blk) (size : Nat) (w : World) (hf : w.cell? ⟨bk, 0, none⟩ = some (.func (.func 85) #[] #[])) (hbk : bk < w.heap.size) :
    CmpLays Try.prog 83 #[.pointer (some ⟨bk, 0, none⟩)] Term.cells 3 (fun x y => cmpI x.num y.num) blk 0 size w := by
  intro m os dk _ x y
  refine implCmp_num bk x y _ ?_
  unfold sortWorldK
  rw [cell?_grow _ _ _ (by rw [size_putRowK]; exact hbk), cell?_putRowK_other _ _ _ _ _ _ _ hne]
  exact hf
set_option maxRecDepth 100000 in
set_option maxHeartbeats 1000000 in
theorem implIns_num (bk B g n cap i : Nat) (ts : List Term) (w : World) (hBw : B ≤ w.heap.size) (hbk : bk < B) (hf : w.cell? ⟨bk, 0, none⟩ = some (.func (.func 85) #[] #[])) (hL : Term.L w B (.slice (some ⟨g, 0, none⟩) n cap) ts) (hn : ts.length = n) (hi : n ≤ 10000) (h0 : i = 0 ∨ i = n) :
    Calls Try.prog 88 #[.slice (some ⟨g, 0, none⟩) n cap, .int .i64 (i : Int), .int .i64 (n : Int), .func (.func 83) #[] #[.pointer (some ⟨bk, 0, none⟩)]] w fun e w' => e = .returned (.tuple #[]) ∧ Term.L w' B (.slice (some ⟨g, 0, none⟩) n cap) (if i = 0 then sortK (·.num) ts else ts) ∧ Below B w w' := by
  obtain ⟨hg, hBg⟩ : g < w.heap.size ∧ B ≤ g := by
    rcases hL.2.2 with ⟨e, _⟩ | ⟨g', cap', cur, e, hb, hh, _⟩
    · cases e
    · cases e; exact ⟨(Array.getElem?_eq_some_iff.1 hh).1, hb⟩
  have hsz : ts.toArray.size = n := by simpa using hn
  have eg : ∀ args w, (callFunc 83 args).run Try.prog w = .ok (.enter 83 args) w := enters_of Try.func83 (by kernel_rfl) rfl
  have hc := AnyQ.insertionSortCmpFunc Try.layIns 3 Try.isAgg32 Try.sizeOf32 Term.cells (fun _ => rfl) (fun x v hv => by simp [Term.cells] at hv; rcases hv with rfl | rfl | rfl <;> rfl) (fun x y => cmpI x.num y.num) 83 #[.pointer (some ⟨bk, 0, none⟩)] g 0 cap i n ts.toArray w eg (cmpLays_num bk g (by omega) _ w hf (by omega)) hL.holds hg (by omega) (by omega) (by omega)
  have hs : Sort.insertionSort (ltOf fun x y => cmpI x.num y.num) ts.toArray i n = (if i = 0 then sortK (·.num) ts else ts).toArray := by
    by_cases h : i = 0
    · rw [if_pos h, h, ← insertion_list (·.num) (ltOf fun x y => cmpI x.num y.num) (fun a b => cmpI_neg _ _) ts, hsz]
    · rw [if_neg h, show i = n by omega]
      unfold Sort.insertionSort
      rw [Sort.insOuter, if_neg (by omega)]
  have hlen : (if i = 0 then sortK (·.num) ts else ts).length = ts.length := by split <;> first | rfl | exact sortK_length _ _
  rw [hsz, hs] at hc
  refine hc.mono ?_
  rintro e w' ⟨he, q, os, rfl⟩
  exact ⟨he, hL.put hlen os, below_sortWorldK (Below.refl _ _) hBw hBg⟩
set_option maxRecDepth 100000 in
set_option maxHeartbeats 1000000 in
theorem implStable_num (bk B g n cap : Nat) (ts : List Term) (w : World) (hBw : B ≤ w.heap.size) (hbk : bk < B) (hf : w.cell? ⟨bk, 0, none⟩ = some (.func (.func 85) #[] #[])) (hL : Term.L w B (.slice (some ⟨g, 0, none⟩) n cap) ts) (hn : ts.length = n) (hi : n ≤ 20) :
    Calls Try.prog 86 #[.slice (some ⟨g, 0, none⟩) n cap, .int .i64 (n : Int), .func (.func 83) #[] #[.pointer (some ⟨bk, 0, none⟩)]] w fun e w' => e = .returned (.tuple #[]) ∧ Term.L w' B (.slice (some ⟨g, 0, none⟩) n cap) (sortK (·.num) ts) ∧ Below B w w' := by
  have H0 := Lib.hid (implIns_num bk B g n cap 0 ts w hBw hbk hf hL hn (by omega) (.inl rfl))
  by_cases h20 : n = 20
  · have HF := Lib.hid hf; have HBW := Lib.hid hBw
    have HS := Lib.hid (fun (W : World) (hW : B ≤ W.heap.size) (hFW : W.cell? ⟨bk, 0, none⟩ = some (.func (.func 85) #[] #[])) (hLW : Term.L W B (.slice (some ⟨g, 0, none⟩) 20 cap) (sortK (·.num) ts)) => implIns_num bk B g 20 cap 20 (sortK (·.num) ts) W hW hbk hFW hLW (by rw [sortK_length]; omega) (by omega) (.inr rfl))
    subst h20
    clear hf hL hBw
    go_enter Try.func86, Try.ntmps86
    go_wp2_with fail
    refine wp_loop_rounds 2 ?_
    rw [rounds_succ]
    go_wp2_with fail
    refine H0.out.mono ?_; rintro e w1 ⟨rfl, hL1, hB1⟩
    have HL1 := Lib.hid hL1; have HB1 := Lib.hid hB1
    have hf1 := cell_below hB1 hbk HF.out
    have hBw1 : B ≤ w1.heap.size := Nat.le_trans HBW.out hB1.size
    have H2 := Lib.hid (HS.out w1 hBw1 hf1 hL1)
    clear hL1 hB1 hf1
    go_wp2_with fail
    rw [rounds_succ]
    go_wp2_with fail
    refine H2.out.mono ?_; rintro e w2 ⟨rfl, hL2, hB2⟩
    have HL2 := Lib.hid hL2; have HB2 := Lib.hid (HB1.out.trans hB2)
    clear hL2 hB2
    go_wp2_with fail
    refine wp_loop_rounds 1 ?_
    rw [rounds_succ]
    go_wp2_with fail
    go_end0
    exact ⟨rfl, HL2.out, HB2.out⟩
  · have hlt : n < 20 := by omega
    clear hL
    go_enter Try.func86, Try.ntmps86
    go_wp2_with fail
    refine wp_loop_rounds 1 ?_
    rw [rounds_succ]
    go_wp2_with fail
    refine H0.out.mono ?_; rintro e w1 ⟨rfl, hL1, hB1⟩
    have HL1 := Lib.hid hL1; have HB1 := Lib.hid hB1
    clear hL1 hB1
    go_wp2_with fail
    refine wp_loop_rounds 1 ?_
    rw [rounds_succ]
    go_wp2_with fail
    go_end0
    exact ⟨rfl, HL1.out, HB1.out⟩

set_option maxHeartbeats 1000000 in
theorem implIns_none (a : Option Addr) (cap : Nat) (fv : Value) (w : World) : Calls Try.prog 88 #[.slice a 0 cap, .int .i64 0, .int .i64 0, fv] w fun e w' => e = .returned (.tuple #[]) ∧ w' = w := by
  go_enter Try.func88, Try.ntmps88
  go_wp2_with fail
  refine wp_loop_rounds 1 ?_
  rw [rounds_succ]
  go_wp2_with fail
  go_end0
  exact ⟨rfl, rfl⟩
set_option maxHeartbeats 1000000 in
theorem implStable_none (a : Option Addr) (cap : Nat) (fv : Value) (w : World) : Calls Try.prog 86 #[.slice a 0 cap, .int .i64 0, fv] w fun e w' => e = .returned (.tuple #[]) ∧ w' = w := by
  have H0 := Lib.hid (implIns_none a cap fv w)
  go_enter Try.func86, Try.ntmps86
  go_wp2_with fail
  refine wp_loop_rounds 1 ?_
  rw [rounds_succ]
  go_wp2_with fail
  refine H0.out.mono ?_; rintro e w1 ⟨rfl, rfl⟩
  go_wp2_with fail
  refine wp_loop_rounds 1 ?_
  rw [rounds_succ]
  go_wp2_with fail
  go_end0
  exact ⟨rfl, rfl⟩

/-- the library's stable sort is its stableCmpFunc -/
theorem implSS_any (a : Option Addr) (len cap : Nat) (fv : Value) (w : World) (R : Ending → World → Prop) (h : Calls Try.prog 86 #[.slice a len cap, .int .i64 (len : Int), fv] w fun e w' => e = .returned (.tuple #[]) ∧ R e w') :
    Calls Try.prog 82 #[.slice a len cap, fv] w fun e w' => e = .returned (.tuple #[]) ∧ R e w' := by
  have H := Lib.hid h
  clear h
  go_enter Try.func82, Try.ntmps82
  go_wp2_with fail
  refine H.out.mono ?_; rintro e w1 ⟨rfl, h⟩
  go_wp2_with fail
  go_end0
  exact ⟨rfl, h⟩

set_option maxRecDepth 100000 in
set_option maxHeartbeats 1000000 in
theorem implSortedBy_frm (a : Option Addr) (len cap : Nat) (ts : List Term) (w : World) (hl : ts.length = len) (hm : len ≤ 20) (h : Term.ListAt w a ts) :
    Calls Try.prog 71 #[.slice a len cap, .func (.func 72) #[] #[]] w (SaysTL (sortK (·.frm) ts) w) := by
  have HW := Lib.hid (Term.bx w (.cells #[.func (.func 72) #[] #[]] 85))
  have hc0 : (w.alloc (.cells #[.func (.func 72) #[] #[]] 85)).cell? ⟨w.heap.size, 0, none⟩ = some (.func (.func 72) #[] #[]) := by
    unfold World.cell?; rw [heap_alloc_new]; rfl
  have HC0 := Lib.hid hc0
  have hsz1 : (w.alloc (.cells #[.func (.func 72) #[] #[]] 85)).heap.size = w.heap.size + 1 := by simp
  have HS1 := Lib.hid hsz1
  have HC := Lib.hid (implClone7_any a len cap ts (w.alloc (.cells #[.func (.func 72) #[] #[]] 85)) hl (by omega) (h.below HW.out))
  have HL := Lib.hid hl
  clear h hc0 hsz1
  go_enter Try.func71, Try.ntmps71
  go_wp2_with fail
  refine HC.out.mono ?_; rintro e w1 ⟨v, rfl, ho, hB⟩
  rw [HS1.out] at ho hB
  have hs1 : w.heap.size + 1 ≤ w1.heap.size := by have := hB.size; rw [HS1.out] at this; exact this
  have HB1 := Lib.hid (HW.out.trans (hB.mono (Nat.le_succ _)))
  have HF := Lib.hid (cell_below hB (Nat.lt_succ_self _) HC0.out)
  rcases ho.parts with ⟨rfl, rfl⟩ | hL
  · have hl0 : len = 0 := by have := HL.out; simpa using this.symm
    subst hl0
    have H2 := Lib.hid (implStable_none none 0 (.func (.func 83) #[] #[.pointer (some ⟨w.heap.size, 0, none⟩)]) w1)
    clear ho hB
    go_wp2_with fail
    (go_at_call 82)
    refine (implSS_any _ _ _ _ _ _ H2.out).mono ?_; rintro e w2 ⟨rfl, rfl⟩
    go_wp2_with fail
    go_ret
    exact ⟨_, rfl, Term.Bd.nil _ _, HB1.out⟩
  · obtain ⟨⟨g, cap2, rfl⟩, _⟩ := id hL
    have hl2 := HL.out
    rw [hl2] at hL
    have H2 := Lib.hid (implStable_frm w.heap.size (w.heap.size + 1) g len cap2 ts w1 hs1 (Nat.lt_succ_self _) HF.out hL hl2 hm)
    clear ho hB hL
    rw [hl2]
    clear hl2
    go_wp2_with fail
    refine (implSS_any _ _ _ _ _ _ H2.out).mono ?_; rintro e w2 ⟨rfl, hL2, hB2⟩
    have HL2 := Lib.hid hL2; have HB2 := Lib.hid (HB1.out.trans (hB2.mono (Nat.le_succ _))); clear hL2 hB2
    go_wp2_with fail
    go_ret
    exact ⟨_, rfl, (HL2.out.base (Nat.le_succ _)).2, HB2.out⟩

set_option maxRecDepth 100000 in
set_option maxHeartbeats 1000000 in
theorem implSortedBy_num (a : Option Addr) (len cap : Nat) (ts : List Term) (w : World) (hl : ts.length = len) (hm : len ≤ 20) (h : Term.ListAt w a ts) :
    Calls Try.prog 71 #[.slice a len cap, .func (.func 85) #[] #[]] w (SaysTL (sortK (·.num) ts) w) := by
  have HW := Lib.hid (Term.bx w (.cells #[.func (.func 85) #[] #[]] 85))
  have hc0 : (w.alloc (.cells #[.func (.func 85) #[] #[]] 85)).cell? ⟨w.heap.size, 0, none⟩ = some (.func (.func 85) #[] #[]) := by
    unfold World.cell?; rw [heap_alloc_new]; rfl
  have HC0 := Lib.hid hc0
  have hsz1 : (w.alloc (.cells #[.func (.func 85) #[] #[]] 85)).heap.size = w.heap.size + 1 := by simp
  have HS1 := Lib.hid hsz1
  have HC := Lib.hid (implClone7_any a len cap ts (w.alloc (.cells #[.func (.func 85) #[] #[]] 85)) hl (by omega) (h.below HW.out))
  have HL := Lib.hid hl
  clear h hc0 hsz1
  go_enter Try.func71, Try.ntmps71
  go_wp2_with fail
  refine HC.out.mono ?_; rintro e w1 ⟨v, rfl, ho, hB⟩
  rw [HS1.out] at ho hB
  have hs1 : w.heap.size + 1 ≤ w1.heap.size := by have := hB.size; rw [HS1.out] at this; exact this
  have HB1 := Lib.hid (HW.out.trans (hB.mono (Nat.le_succ _)))
  have HF := Lib.hid (cell_below hB (Nat.lt_succ_self _) HC0.out)
  rcases ho.parts with ⟨rfl, rfl⟩ | hL
  · have hl0 : len = 0 := by have := HL.out; simpa using this.symm
    subst hl0
    have H2 := Lib.hid (implStable_none none 0 (.func (.func 83) #[] #[.pointer (some ⟨w.heap.size, 0, none⟩)]) w1)
    clear ho hB
    go_wp2_with fail
    (go_at_call 82)
    refine (implSS_any _ _ _ _ _ _ H2.out).mono ?_; rintro e w2 ⟨rfl, rfl⟩
    go_wp2_with fail
    go_ret
    exact ⟨_, rfl, Term.Bd.nil _ _, HB1.out⟩
  · obtain ⟨⟨g, cap2, rfl⟩, _⟩ := id hL
    have hl2 := HL.out
    rw [hl2] at hL
    have H2 := Lib.hid (implStable_num w.heap.size (w.heap.size + 1) g len cap2 ts w1 hs1 (Nat.lt_succ_self _) HF.out hL hl2 hm)
    clear ho hB hL
    rw [hl2]
    clear hl2
    go_wp2_with fail
    refine (implSS_any _ _ _ _ _ _ H2.out).mono ?_; rintro e w2 ⟨rfl, hL2, hB2⟩
    have HL2 := Lib.hid hL2; have HB2 := Lib.hid (HB1.out.trans (hB2.mono (Nat.le_succ _))); clear hL2 hB2
    go_wp2_with fail
    go_ret
    exact ⟨_, rfl, (HL2.out.base (Nat.le_succ _)).2, HB2.out⟩

set_option maxHeartbeats 1000000 in
theorem implByDay_any (a : Option Addr) (len cap : Nat) (ts : List Term) (w : World) (hl : ts.length = len) (hm : len ≤ 20) (h : Term.ListAt w a ts) :
    Calls Try.prog 50 #[.slice a len cap] w (SaysTL (byDayL ts) w) := by
  have HC := Lib.hid (implSortedBy_frm a len cap ts w hl hm h)
  go_enter Try.func50, Try.ntmps50
  go_wp2_with fail
  refine HC.out.mono ?_; rintro e w1 ⟨v, rfl, ho, hB⟩
  have HO := Lib.hid ho; have HB := Lib.hid hB; clear ho hB
  go_wp2_with fail
  go_ret
  exact ⟨_, rfl, HO.out, HB.out⟩
set_option maxHeartbeats 1000000 in
theorem implByPerson_any (a : Option Addr) (len cap : Nat) (ts : List Term) (w : World) (hl : ts.length = len) (hm : len ≤ 20) (h : Term.ListAt w a ts) :
    Calls Try.prog 78 #[.slice a len cap] w (SaysTL (byPersL ts) w) := by
  have HC := Lib.hid (implByDay_any a len cap ts w hl hm h)
  have hlen : (byDayL ts).length = len := by rw [byDayL_length, hl]
  have HLN := Lib.hid hlen
  have HE := Lib.hid (show byPersL ts = sortK (·.num) (byDayL ts) from rfl)
  generalize byDayL ts = ds at HC HLN HE
  clear h hl hlen
  go_enter Try.func78, Try.ntmps78
  go_wp2_with fail
  refine HC.out.mono ?_; rintro e w1 ⟨v, rfl, ho, hB⟩
  obtain ⟨a1, cap1, rfl, hr⟩ := ho.slice
  have hs1 := hB.size
  have H2 := Lib.hid (implSortedBy_num a1 ds.length cap1 ds w1 rfl (by rw [HLN.out]; exact hm) hr)
  have HB := Lib.hid hB; clear ho hB hr
  go_wp2_with fail
  refine H2.out.mono ?_; rintro e w2 ⟨v, rfl, ho, hB⟩
  have HO := Lib.hid (ho.base hs1); have HB2 := Lib.hid (HB.out.trans (hB.mono hs1)); clear ho hB
  go_wp2_with fail
  go_ret
  rw [HE.out]
  exact ⟨_, rfl, HO.out, HB2.out⟩
end Go.Proofs.Ytblbmmajobefiaa
