/- Contract: spec.l10Good draws calls. (written by draw10.py) -/
import Derived.Test.YtekhdggaelppkaaChecked
import Derived.Test.YtekhdggaelppkaaBase0
import Derived.Test.YtekhdggaelppkaaInfo
import Derived.Test.YtekhdggaelppkaaNext
import Derived.Test.YtekhdggaelppkaaPick
import Derived.Test.YtekhdggaelppkaaCallB
import Derived.Test.YtekhdggaelppkaaCallC
import Derived.Test.YtekhdggaelppkaaCallD
import Derived.Test.YtekhdggaelppkaaPure100
import Derived.Test.YtekhdggaelppkaaSet10
import Derived.WalkKit
import Derived.WalkSpells
import Derived.WalkLawsBesides
import Derived.Lib.Hide
import Derived.IntWalk
import Derived.Deep.OwnRows
import Derived.Deep.MidRow
import Derived.Deep.RegionHeld3
import Derived.OwnWalk
import Derived.RegionTactic
import Derived.Outline
namespace Go.Proofs.Ytekhdggaelppkaa
open Go.RowKit Pure1 Pure2 Pure6

/-- calls whose days are small -/
def SmallC (c : Call) : Prop := (-100 ≤ c.fst ∧ c.fst ≤ 100000) ∧ (-20 ≤ c.day ∧ c.day ≤ 90000)
def SmallCL (ts : List Call) : Prop := ∀ (i : Nat) c, ts[i]? = some c → SmallC c
theorem smallCL_nil : SmallCL [] := fun i c h => by simp at h
theorem smallCL_snoc {ts : List Call} {c : Call} (h : SmallCL ts) (hc : SmallC c) : SmallCL (ts ++ [c]) := by
  intro i x hx
  by_cases hi : i < ts.length
  · rw [List.getElem?_append_left hi] at hx; exact h i x hx
  · rw [List.getElem?_append_right (by omega)] at hx
    have : i - ts.length = 0 := by have := (List.getElem?_eq_some_iff.1 hx).1; simp at this; omega
    rw [this] at hx; cases hx; exact hc
theorem row_grown10 {w w' : World} {b B n : Nat} {T : TypeId} {f : Nat → Value} (h : w.rowIs b T n f) (hg : w.grownBy w' (some B)) (hne : b ≠ B) : w'.rowIs b T n f :=
  h.of_block (hg.block b h.lt (fun e => hne (Option.some.inj e)))
theorem src_set10 {B b k o : Nat} {T : TypeId} {w : World} (h : Src B T w b) (hne : b ≠ k) (hB : B ≤ k) (v : Value) : Src B T (w.setCell ⟨k, o, none⟩ v) b :=
  h.kept (Below.heap_setCell _ _ _ _ hne) ((Below.refl B w).setCell (p := ⟨k, o, none⟩) hB v)
theorem grown_new10 {b k o : Nat} {w w' : World} (h : w.grownBy w' (some b)) (hk : w.heap.size ≤ k) (v : Value) : w.grownBy (w'.setCell ⟨k, o, none⟩ v) (some b) :=
  ⟨h.os, h.tape, h.output, by simp [World.setCell]; exact h.size, fun i hi hb => (Below.heap_setCell _ _ _ _ (by show i ≠ k; omega)).trans (h.block i hi hb)⟩
theorem src_later10 {B b : Nat} {T : TypeId} {w w' : World} (h : Src B T w b) (hB : Below w.heap.size w w') : Src B T w' b :=
  h.kept (hB.block _ h.lt) (hB.mono (Nat.le_trans h.base (Nat.le_of_lt h.lt)))
theorem gb_below10 {b : Nat} {w w1 w2 : World} (h : w.grownBy w1 (some b)) (h2 : Below w1.heap.size w1 w2) : w.grownBy w2 (some b) :=
  grown_trans h ⟨h2.os, h2.tape, h2.output, h2.size, fun k hk _ => h2.block k hk⟩
theorem gb_own10 {b : Nat} {w w1 w2 : World} {row : Option Nat} (h : w.grownBy w1 (some b)) (h2 : w1.grownBy w2 row) (hr : ∀ k, row = some k → w.heap.size ≤ k) : w.grownBy w2 (some b) :=
  ⟨h2.os.trans h.os, h2.tape.trans h.tape, h2.output.trans h.output, Nat.le_trans h.size h2.size, fun k hk hne => (h2.block k (Nat.lt_of_lt_of_le hk h.size) (fun e => by have := hr k e.symm; omega)).trans (h.block k hk hne)⟩
theorem src_row10 {B b : Nat} {T : TypeId} {w w' : World} {row : Option Nat} (h : Src B T w b) (hg : w.grownBy w' row) (hr : ∀ k, row = some k → k ≠ b ∧ B ≤ k) : Src B T w' b :=
  h.kept (hg.block b h.lt (fun e => (hr b e.symm).1 rfl)) ⟨hg.os, hg.tape, hg.output, hg.size, fun k hk => hg.block k (Nat.lt_of_lt_of_le hk (Nat.le_trans h.base (Nat.le_of_lt h.lt))) (fun e => by have := (hr k e.symm).2; omega)⟩
theorem L_keep10 {w w' : World} {N rv : Nat} {v : Value} {ts : List Call} (h : Call.L w N v ts) (hg : w.grownBy w' (some rv)) (hne : ∀ g, v.ownBlock = some g → g ≠ rv) : Call.L w' N v ts :=
  ⟨h.1, h.2.kept hg (.inr (fun e => hne rv e rfl))⟩
theorem row_congr10 {w : World} {b n : Nat} {T : TypeId} {f g : Nat → Value} (h : w.rowIs b T n f) (he : ∀ i, i < n → f i = g i) : w.rowIs b T n g := by
  obtain ⟨c, h1, h2, h3⟩ := h
  exact ⟨c, h1, h2, fun i hi => by rw [h3 i hi, he i hi]⟩

/-- while one is drawn: the source, the list of our own, the new one in its box rv -/
structure GoC (B b N rv : Nat) (w0 w : World) (v : Value) (ts : List Call) (c : Call) : Prop where
  src : Src B 93 w b
  grow : w0.grownBy w (some b)
  list : Call.L w N v ts
  ne : ∀ g, v.ownBlock = some g → g ≠ rv
  row : w.rowIs rv 41 4 (fun j => .int .i64 (c.nth j))
theorem GoC.next {B b N rv : Nat} {w0 w w' : World} {v : Value} {ts : List Call} {c : Call} (h : GoC B b N rv w0 w v ts c) (hs : Src B 93 w' b) (hg : w.grownBy w' (some b)) (hb : b < N) (hr : rv ≠ b) : GoC B b N rv w0 w' v ts c :=
  ⟨hs, grown_trans h.grow hg, h.list.grown hg hb, h.ne, row_grown10 h.row hg hr⟩
theorem GoC.drew {B b N rv : Nat} {w0 w : World} {v : Value} {ts : List Call} {c : Call} (h : GoC B b N rv w0 w v ts c) : GoC B b N rv w0 w.drew v ts c :=
  ⟨src_later10 h.src (Below.refl _ _).drew, gb_below10 h.grow (Below.refl _ _).drew, h.list.below (Below.refl _ _).drew, h.ne, h.row⟩
theorem GoC.set {B b N rv : Nat} {w0 w : World} {v : Value} {ts : List Call} {c c' : Call} (h : GoC B b N rv w0 w v ts c) {k : Nat} {x : Int} (hc : ∀ j, j < 4 → (if j = k then Value.int .i64 x else .int .i64 (c.nth j)) = .int .i64 (c'.nth j)) (hw : w0.heap.size ≤ rv) (hb : b ≠ rv) (hB : B ≤ rv) : GoC B b N rv w0 (w.setCell ⟨rv, k, none⟩ (.int .i64 x)) v ts c' :=
  ⟨src_set10 h.src hb hB _, grown_new10 h.grow hw _, L_keep10 h.list (grown_set w rv k _) h.ne, h.ne, row_congr10 (h.row.set k (.int .i64 x)) hc⟩
/-- a list of our own is handed out -/
def GaveC (B b m : Nat) (w : World) (e : Ending) (w' : World) : Prop := ∃ v ts, e = .returned v ∧ Call.L w' w.heap.size v ts ∧ ts.length ≤ m ∧ SmallCL ts ∧ Src B 93 w' b ∧ w.grownBy w' (some b)

set_option maxRecDepth 100000 in
set_option maxHeartbeats 8000000 in
theorem specGood10_any (B b : Nat) (w : World) (h : Src B 93 w b) :
    Calls Try.prog 90 #[.pointer (some ⟨b, 0, none⟩)] w (GaveC B b 6 w) := by
  have hlt := h.lt
  have HBB := Lib.hid h.base
  have HS0 := Lib.hid (h.alloc (.cells #[] 41))
  have HL0 := Lib.hid (Call.L_empty (w := w) (Nat.le_refl _))
  have HG0 := Lib.hid (grown_alloc w (.cells #[] 41) (some b))
  clear h
  go_enter Try.func90, Try.ntmps90
  go_wp2_with fail
  refine (specNext_any B b 5 _ (by omega) HS0.out).mono ?_; rintro e w1 ⟨x1, rfl, hx, _, hS, hg⟩
  obtain ⟨l1, u1⟩ := hx (by omega)
  have HS1 := Lib.hid hS; have HG1 := Lib.hid (grown_trans HG0.out hg); have HL1 := Lib.hid (HL0.out.grown hg hlt)
  have q1 : IntKind.i64.wrap (1 + x1) = 1 + x1 := IntWalk.i64_in _ (by omega)
  clear hS hg hx
  go_wp2_with fail
  refine (specNext_any B b 7 w1 (by omega) HS1.out).mono ?_; rintro e w2 ⟨n2, rfl, hn, _, hS, hg⟩
  obtain ⟨l2, u2⟩ := hn (by omega)
  have HS2 := Lib.hid hS; have HG2 := Lib.hid (grown_trans HG1.out hg); have HL2 := Lib.hid (HL1.out.grown hg hlt)
  clear hS hg hn
  go_wp2_with fail
  go_loopw [3, 4, 5, 6] (fun v xx nn _ wr => ∃ (x n : Int) (ts : List Call), xx = .int .i64 x ∧ nn = .int .i64 n ∧ 0 ≤ n ∧ n ≤ 6 ∧ ts.length + n.toNat ≤ 6 ∧ 0 ≤ x ∧ x ≤ 100 - 10 * n ∧ SmallCL ts ∧ Call.L wr w.heap.size v ts ∧ Src B 93 wr b ∧ w.grownBy wr (some b)) (fun _ _ nn _ _ => (intOf nn).toNat)
  case atStart => exact ⟨1 + x1, n2, [], rfl, rfl, l2, by omega, by simp; omega, by omega, by omega, smallCL_nil, HL2.out, HS2.out, HG2.out⟩
  case round =>
    obtain ⟨x, n, ts, rfl, rfl, hn0, hn5, hts, hx0, hx1, hsm, hL, hS, hg⟩ := hrel
    have HM := Lib.hid hsm; have HL := Lib.hid hL; have HS := Lib.hid hS; have HG := Lib.hid hg
    have hltr := hS.lt
    clear hsm hL hS hg HS0 HL0 HG0 HS1 HG1 HL1 HS2 HG2 HL2
    by_cases hpos : 0 < n
    · go_wp2_with fail
      refine (specNext_any B b 12 wr (by omega) HS.out).mono ?_; rintro e w3 ⟨p, rfl, hp, _, hS, hg⟩
      obtain ⟨l3, u3⟩ := hp (by omega)
      have q3 : IntKind.i64.wrap (120 + p) = 120 + p := IntWalk.i64_in _ (by omega)
      have HX6 := Lib.hid (show GoC B b w.heap.size w3.heap.size w (w3.alloc (.cells #[.int .i64 x, .int .i64 (120 + p), .int .i64 (120 + p), .int .i64 0] 41)) _ ts ⟨x, 120 + p, 120 + p, 0⟩ from
        ⟨hS.alloc _, grown_trans (grown_trans HG.out hg) (grown_alloc _ _ _), (HL.out.grown hg hlt).alloc _, fun g hg' => by have := ((HL.out.grown hg hlt).2.lt g hg').2; omega, Call.box_row w3 ⟨x, 120 + p, 120 + p, 0⟩ 41⟩)
      have hrw : w.heap.size ≤ w3.heap.size := by have := hg.size; have := HG.out.size; omega
      have hrb : b ≠ w3.heap.size := by have := hS.lt; omega
      obtain ⟨rv, hrv⟩ : ∃ rv, w3.heap.size = rv := ⟨_, rfl⟩
      have hBr : B ≤ rv := by have := HBB.out; omega
      rw [hrv] at HX6 hrw hrb
      clear hS hg hp
      go_wp2_with fail
      (try rw [hrv])
      generalize w3.alloc (.cells #[.int .i64 x, .int .i64 (120 + p), .int .i64 (120 + p), .int .i64 0] 41) = w6 at HX6 ⊢
      clear hrv
      generalize hss : 120 + p = sent at HX6
      (try rw [hss])
      have hs1 : 120 ≤ sent ∧ sent ≤ 131 := by omega
      clear hss
      refine (specNext_any B b 2 w6 (by omega) HX6.out.src).mono ?_; rintro e w7 ⟨y7, rfl, hy, _, hS, hg⟩
      obtain ⟨l7, u7⟩ := hy (by omega)
      have HX7 := Lib.hid (HX6.out.next hS hg hlt (by omega))
      clear hS hg hy HX6
      by_cases h7 : y7 = 0
      · have h7b : (y7 == 0) = true := beq_iff_eq.2 h7
        clear h7
        go_wp2_with fail
        refine (specNext_any B b 2 w7 (by omega) HX7.out.src).mono ?_; rintro e wa ⟨an, rfl, hy, _, hS, hg⟩
        obtain ⟨la, ua⟩ := hy (by omega)
        have qa : IntKind.i64.wrap (1 + an) = 1 + an := IntWalk.i64_in _ (by omega)
        have HXa := Lib.hid (HX7.out.next hS hg hlt (by omega))
        have ha3 := HXa.out.row.cell (show 3 < 4 by omega)
        have fa3 := HXa.out.row.frozen 3
        simp only [Call.nth, List.getD_cons_zero, List.getD_cons_succ] at ha3
        have HXb := Lib.hid (HXa.out.set (k := 3) (x := 1 + an) (c' := ⟨x, sent, sent, 1 + an⟩) (fun j hj => by
          have hc : j = 0 ∨ j = 1 ∨ j = 2 ∨ j = 3 := by omega
          rcases hc with rfl | rfl | rfl | rfl <;> rfl) hrw hrb hBr)
        clear hS hg hy HX7
        go_wp2_with fail
        clear ha3 fa3 HXa
        generalize wa.setCell ⟨rv, 3, none⟩ (.int .i64 (1 + an)) = wb at HXb ⊢
        generalize 1 + an = ans at HXb ⊢
        have HXc := Lib.hid HXb.out.drew
        have h41 := HXc.out.row.cell (show 1 < 4 by omega)
        simp only [Call.nth, List.getD_cons_zero, List.getD_cons_succ] at h41
        have HCc := Lib.hid (specNext_any B b 100 wb.drew (by omega) HXc.out.src)
        have q0 : IntKind.i64.wrap (sent + 1) = sent + 1 := IntWalk.i64_in _ (by omega)
        have q4 : ∀ z : Int, 0 ≤ z → z < 100 → IntKind.i64.wrap (sent + 1 + z) = sent + 1 + z := fun z _ _ => IntWalk.i64_in _ (by omega)
        go_region_held3 (fun W => W.cell? ⟨rv, 1, none⟩ = some (.int .i64 sent)) (first | exact h41 | exact h51 | (rw [World.cell?_setCell_other _ _ _ _ (by simp)]; exact h51) | go_simp) (first | (go_at_call 61; refine HCc.out.mono ?_; rintro e w5 ⟨z, rfl, hz, _, hS, hg⟩; obtain ⟨l4, u4⟩ := hz (by omega); have q5 := q4 z l4 u4; have HX5 := Lib.hid (HXc.out.next hS hg hlt (by omega)); have h51 := HX5.out.row.cell (show 1 < 4 by omega); have h52 := HX5.out.row.cell (show 2 < 4 by omega); have f52 := HX5.out.row.frozen 2; simp only [Call.nth, List.getD_cons_zero, List.getD_cons_succ] at h51 h52))
        have HXd := Lib.hid (HX5.out.set (k := 2) (x := sent + 1 + z) (c' := ⟨x, sent, sent + 1 + z, ans⟩) (fun j hj => by
          have hc : j = 0 ∨ j = 1 ∨ j = 2 ∨ j = 3 := by omega
          rcases hc with rfl | rfl | rfl | rfl <;> rfl) hrw hrb hBr)
        have hd1 : 121 ≤ sent + 1 + z ∧ sent + 1 + z ≤ 231 := by omega
        clear h41 h51 h52 f52 hS hg hz q4 q0 q5 HXb HXc HX5 HCc
        generalize w5.setCell ⟨rv, 2, none⟩ (.int .i64 (sent + 1 + z)) = we at HXd ⊢
        generalize sent + 1 + z = due at HXd hd1
        have HXt := HXd
        have t0 := HXt.out.row.cell (show 0 < 4 by omega); have t1 := HXt.out.row.cell (show 1 < 4 by omega); have t2 := HXt.out.row.cell (show 2 < 4 by omega); have t3 := HXt.out.row.cell (show 3 < 4 by omega)
        simp only [Call.nth, List.getD_cons_zero, List.getD_cons_succ] at t0 t1 t2 t3
        have HLt := Lib.hid (HXt.out.list.alloc (.cells #[.int .i64 x, .int .i64 sent, .int .i64 due, .int .i64 ans] 41))
        have HSt := Lib.hid (HXt.out.src.alloc (.cells #[.int .i64 x, .int .i64 sent, .int .i64 due, .int .i64 ans] 41))
        have HGt := Lib.hid (grown_trans HXt.out.grow (grown_alloc we (.cells #[.int .i64 x, .int .i64 sent, .int .i64 due, .int .i64 ans] 41) (some b)))
        have hszt : w.heap.size ≤ (we.alloc (.cells #[.int .i64 x, .int .i64 sent, .int .i64 due, .int .i64 ans] 41)).heap.size := HGt.out.size
        go_wp2_with (at_builtin; refine wpList_Call_append rfl _ _ rfl _ ts rfl HLt.out ⟨we.heap.size, 0, none⟩ 1 1 [⟨x, sent, due, ans⟩] rfl rfl (Call.lit_cells we ⟨x, sent, due, ans⟩ 41) ?c1 ?c2 ?_)
        case c1 => simp; omega
        case c2 => exact hszt
        intro v8 w8 hL8 hg8 _
        have HL8 := Lib.hid hL8
        have HS8 := Lib.hid (src_row10 HSt.out hg8 (fun k hk => by have := (HLt.out.2.lt k hk).1; have := HBB.out; omega))
        have HG8 := Lib.hid (gb_own10 HGt.out hg8 (fun k hk => (HLt.out.2.lt k hk).1))
        have HSM := Lib.hid (smallCL_snoc HM.out (c := ⟨x, sent, due, ans⟩) ⟨by show -100 ≤ sent ∧ sent ≤ 100000; omega, by show -20 ≤ due ∧ due ≤ 90000; omega⟩)
        clear hL8 hg8 hszt t0 t1 t2 t3 HLt HSt HGt
        have q8 : IntKind.i64.wrap (x + 1) = x + 1 := IntWalk.i64_in _ (by omega)
        have q10 : IntKind.i64.wrap (n - 1) = n - 1 := IntWalk.i64_in _ (by omega)
        go_wp2_with fail
        refine (specNext_any B b 4 w8 (by omega) HS8.out).mono ?_; rintro e w9 ⟨y, rfl, hy, _, hS, hg⟩
        obtain ⟨l9, u9⟩ := hy (by omega)
        have q9 : IntKind.i64.wrap (x + 1 + y) = x + 1 + y := IntWalk.i64_in _ (by omega)
        have HS9 := Lib.hid hS; have HG9 := Lib.hid (grown_trans HG8.out hg); have HL9 := Lib.hid (HL8.out.grown hg hlt)
        clear hS hg hy
        go_wp2_with fail
        go_roundw
        case rel => exact ⟨x + 1 + y, n - 1, ts ++ [⟨x, sent, due, ans⟩], by go_num, by go_num, by omega, by omega, by simp; omega, by omega, by omega, HSM.out, HL9.out, HS9.out, HG9.out⟩
        case measure => simp [intOf]; omega
      · have h7b : (y7 == 0) = false := beq_eq_false_iff_ne.2 h7
        clear h7
        have HXt := HX7
        have t0 := HXt.out.row.cell (show 0 < 4 by omega); have t1 := HXt.out.row.cell (show 1 < 4 by omega); have t2 := HXt.out.row.cell (show 2 < 4 by omega); have t3 := HXt.out.row.cell (show 3 < 4 by omega)
        simp only [Call.nth, List.getD_cons_zero, List.getD_cons_succ] at t0 t1 t2 t3
        have HLt := Lib.hid (HXt.out.list.alloc (.cells #[.int .i64 x, .int .i64 sent, .int .i64 sent, .int .i64 0] 41))
        have HSt := Lib.hid (HXt.out.src.alloc (.cells #[.int .i64 x, .int .i64 sent, .int .i64 sent, .int .i64 0] 41))
        have HGt := Lib.hid (grown_trans HXt.out.grow (grown_alloc w7 (.cells #[.int .i64 x, .int .i64 sent, .int .i64 sent, .int .i64 0] 41) (some b)))
        have hszt : w.heap.size ≤ (w7.alloc (.cells #[.int .i64 x, .int .i64 sent, .int .i64 sent, .int .i64 0] 41)).heap.size := HGt.out.size
        go_wp2_with (at_builtin; refine wpList_Call_append rfl _ _ rfl _ ts rfl HLt.out ⟨w7.heap.size, 0, none⟩ 1 1 [⟨x, sent, sent, 0⟩] rfl rfl (Call.lit_cells w7 ⟨x, sent, sent, 0⟩ 41) ?c1 ?c2 ?_)
        case c1 => simp; omega
        case c2 => exact hszt
        intro v8 w8 hL8 hg8 _
        have HL8 := Lib.hid hL8
        have HS8 := Lib.hid (src_row10 HSt.out hg8 (fun k hk => by have := (HLt.out.2.lt k hk).1; have := HBB.out; omega))
        have HG8 := Lib.hid (gb_own10 HGt.out hg8 (fun k hk => (HLt.out.2.lt k hk).1))
        have HSM := Lib.hid (smallCL_snoc HM.out (c := ⟨x, sent, sent, 0⟩) ⟨by show -100 ≤ sent ∧ sent ≤ 100000; omega, by show -20 ≤ sent ∧ sent ≤ 90000; omega⟩)
        clear hL8 hg8 hszt t0 t1 t2 t3 HLt HSt HGt
        have q8 : IntKind.i64.wrap (x + 1) = x + 1 := IntWalk.i64_in _ (by omega)
        have q10 : IntKind.i64.wrap (n - 1) = n - 1 := IntWalk.i64_in _ (by omega)
        go_wp2_with fail
        refine (specNext_any B b 4 w8 (by omega) HS8.out).mono ?_; rintro e w9 ⟨y, rfl, hy, _, hS, hg⟩
        obtain ⟨l9, u9⟩ := hy (by omega)
        have q9 : IntKind.i64.wrap (x + 1 + y) = x + 1 + y := IntWalk.i64_in _ (by omega)
        have HS9 := Lib.hid hS; have HG9 := Lib.hid (grown_trans HG8.out hg); have HL9 := Lib.hid (HL8.out.grown hg hlt)
        clear hS hg hy
        go_wp2_with fail
        go_roundw
        case rel => exact ⟨x + 1 + y, n - 1, ts ++ [⟨x, sent, sent, 0⟩], by go_num, by go_num, by omega, by omega, by simp; omega, by omega, by omega, HSM.out, HL9.out, HS9.out, HG9.out⟩
        case measure => simp [intOf]; omega
    · have hn0' : n = 0 := by omega
      have hnb : decide (n > 0) = false := decide_eq_false (by omega)
      have HLL := Lib.hid (show ts.length ≤ 6 by omega)
      clear hn0'
      go_wp2_with fail
      go_ret
      exact ⟨_, ts, rfl, HL.out, HLL.out, HM.out, HS.out, HG.out⟩
end Go.Proofs.Ytekhdggaelppkaa
