/- Contract: spec.l09Good draws summonses. (written by draw9.py) -/
import Derived.Test.YtchffaohmeaccaaDoorChecked
import Derived.Test.YtchffaohmeaccaaDoorBase
import Derived.Test.YtchffaohmeaccaaDoorInfo
import Derived.Test.YtchffaohmeaccaaDoorPure6
import Derived.Test.YtchffaohmeaccaaDoorNext
import Derived.Test.YtchffaohmeaccaaDoorPick
import Derived.Test.YtchffaohmeaccaaDoorSummonsA
import Derived.Test.YtchffaohmeaccaaDoorSummonsB
import Derived.Test.YtchffaohmeaccaaDoorSummonsC
import Derived.Test.YtchffaohmeaccaaDoorSummonsD
import Derived.Test.YtchffaohmeaccaaDoorPure90
import Derived.Test.YtchffaohmeaccaaDoorSet9
import Derived.WalkKit
import Derived.WalkSpells
import Derived.WalkLawsBesides
import Derived.Lib.Hide
import Derived.IntWalk
import Derived.Deep.OwnRows
import Derived.Deep.MidRow
import Derived.Deep.RegionHeld3
import Derived.OwnWalk
import Derived.RegionTactic
import Derived.Outline
namespace Go.Proofs.YtchffaohmeaccaaDoor
open Go.RowKit Pure1 Pure2 Pure6

/-- summonses whose days are small -/
def SmallM (c : Summons) : Prop := (-10 ≤ c.sent ∧ c.sent ≤ 100000) ∧ (-20 ≤ c.due ∧ c.due ≤ 100000)
def SmallML (ts : List Summons) : Prop := ∀ (i : Nat) c, ts[i]? = some c → SmallM c
theorem smallML_nil : SmallML [] := fun i c h => by simp at h
theorem smallML_snoc {ts : List Summons} {c : Summons} (h : SmallML ts) (hc : SmallM c) : SmallML (ts ++ [c]) := by
  intro i x hx
  by_cases hi : i < ts.length
  · rw [List.getElem?_append_left hi] at hx; exact h i x hx
  · rw [List.getElem?_append_right (by omega)] at hx
    have : i - ts.length = 0 := by have := (List.getElem?_eq_some_iff.1 hx).1; simp at this; omega
    rw [this] at hx; cases hx; exact hc
theorem row_grown9 {w w' : World} {b B n : Nat} {T : TypeId} {f : Nat → Value} (h : w.rowIs b T n f) (hg : w.grownBy w' (some B)) (hne : b ≠ B) : w'.rowIs b T n f :=
  h.of_block (hg.block b h.lt (fun e => hne (Option.some.inj e)))
theorem src_set9 {B b k o : Nat} {T : TypeId} {w : World} (h : Src B T w b) (hne : b ≠ k) (hB : B ≤ k) (v : Value) : Src B T (w.setCell ⟨k, o, none⟩ v) b :=
  h.kept (Below.heap_setCell _ _ _ _ hne) ((Below.refl B w).setCell (p := ⟨k, o, none⟩) hB v)
theorem grown_new9 {b k o : Nat} {w w' : World} (h : w.grownBy w' (some b)) (hk : w.heap.size ≤ k) (v : Value) : w.grownBy (w'.setCell ⟨k, o, none⟩ v) (some b) :=
  ⟨h.os, h.tape, h.output, by simp [World.setCell]; exact h.size, fun i hi hb => (Below.heap_setCell _ _ _ _ (by show i ≠ k; omega)).trans (h.block i hi hb)⟩
theorem src_later9 {B b : Nat} {T : TypeId} {w w' : World} (h : Src B T w b) (hB : Below w.heap.size w w') : Src B T w' b :=
  h.kept (hB.block _ h.lt) (hB.mono (Nat.le_trans h.base (Nat.le_of_lt h.lt)))
theorem gb_below9 {b : Nat} {w w1 w2 : World} (h : w.grownBy w1 (some b)) (h2 : Below w1.heap.size w1 w2) : w.grownBy w2 (some b) :=
  grown_trans h ⟨h2.os, h2.tape, h2.output, h2.size, fun k hk _ => h2.block k hk⟩
theorem gb_own9 {b : Nat} {w w1 w2 : World} {row : Option Nat} (h : w.grownBy w1 (some b)) (h2 : w1.grownBy w2 row) (hr : ∀ k, row = some k → w.heap.size ≤ k) : w.grownBy w2 (some b) :=
  ⟨h2.os.trans h.os, h2.tape.trans h.tape, h2.output.trans h.output, Nat.le_trans h.size h2.size, fun k hk hne => (h2.block k (Nat.lt_of_lt_of_le hk h.size) (fun e => by have := hr k e.symm; omega)).trans (h.block k hk hne)⟩
theorem src_row9 {B b : Nat} {T : TypeId} {w w' : World} {row : Option Nat} (h : Src B T w b) (hg : w.grownBy w' row) (hr : ∀ k, row = some k → k ≠ b ∧ B ≤ k) : Src B T w' b :=
  h.kept (hg.block b h.lt (fun e => (hr b e.symm).1 rfl)) ⟨hg.os, hg.tape, hg.output, hg.size, fun k hk => hg.block k (Nat.lt_of_lt_of_le hk (Nat.le_trans h.base (Nat.le_of_lt h.lt))) (fun e => by have := (hr k e.symm).2; omega)⟩
theorem L_keep9 {w w' : World} {N rv : Nat} {v : Value} {ts : List Summons} (h : Summons.L w N v ts) (hg : w.grownBy w' (some rv)) (hne : ∀ g, v.ownBlock = some g → g ≠ rv) : Summons.L w' N v ts :=
  ⟨h.1, h.2.kept hg (.inr (fun e => hne rv e rfl))⟩
theorem row_congr9 {w : World} {b n : Nat} {T : TypeId} {f g : Nat → Value} (h : w.rowIs b T n f) (he : ∀ i, i < n → f i = g i) : w.rowIs b T n g := by
  obtain ⟨c, h1, h2, h3⟩ := h
  exact ⟨c, h1, h2, fun i hi => by rw [h3 i hi, he i hi]⟩

/-- while one is drawn: the source, the list of our own, the new one in its box rv -/
structure GoM (B b N rv : Nat) (w0 w : World) (v : Value) (ts : List Summons) (c : Summons) : Prop where
  src : Src B 79 w b
  grow : w0.grownBy w (some b)
  list : Summons.L w N v ts
  ne : ∀ g, v.ownBlock = some g → g ≠ rv
  row : w.rowIs rv 53 5 (fun j => .int .i64 (c.nth j))
theorem GoM.next {B b N rv : Nat} {w0 w w' : World} {v : Value} {ts : List Summons} {c : Summons} (h : GoM B b N rv w0 w v ts c) (hs : Src B 79 w' b) (hg : w.grownBy w' (some b)) (hb : b < N) (hr : rv ≠ b) : GoM B b N rv w0 w' v ts c :=
  ⟨hs, grown_trans h.grow hg, h.list.grown hg hb, h.ne, row_grown9 h.row hg hr⟩
theorem GoM.drew {B b N rv : Nat} {w0 w : World} {v : Value} {ts : List Summons} {c : Summons} (h : GoM B b N rv w0 w v ts c) : GoM B b N rv w0 w.drew v ts c :=
  ⟨src_later9 h.src (Below.refl _ _).drew, gb_below9 h.grow (Below.refl _ _).drew, h.list.below (Below.refl _ _).drew, h.ne, h.row⟩
theorem GoM.set {B b N rv : Nat} {w0 w : World} {v : Value} {ts : List Summons} {c c' : Summons} (h : GoM B b N rv w0 w v ts c) {k : Nat} {x : Int} (hc : ∀ j, j < 5 → (if j = k then Value.int .i64 x else .int .i64 (c.nth j)) = .int .i64 (c'.nth j)) (hw : w0.heap.size ≤ rv) (hb : b ≠ rv) (hB : B ≤ rv) : GoM B b N rv w0 (w.setCell ⟨rv, k, none⟩ (.int .i64 x)) v ts c' :=
  ⟨src_set9 h.src hb hB _, grown_new9 h.grow hw _, L_keep9 h.list (grown_set w rv k _) h.ne, h.ne, row_congr9 (h.row.set k (.int .i64 x)) hc⟩
/-- a list of our own is handed out -/
def GaveM (B b m : Nat) (w : World) (e : Ending) (w' : World) : Prop := ∃ v ts, e = .returned v ∧ Summons.L w' w.heap.size v ts ∧ ts.length ≤ m ∧ SmallML ts ∧ Src B 79 w' b ∧ w.grownBy w' (some b)

set_option maxRecDepth 100000 in
set_option maxHeartbeats 8000000 in
theorem specGood9_any (B b : Nat) (w : World) (h : Src B 79 w b) :
    Calls Tryd.prog 67 #[.pointer (some ⟨b, 0, none⟩)] w (GaveM B b 5 w) := by
  have hlt := h.lt
  have HBB := Lib.hid h.base
  have HS0 := Lib.hid (h.alloc (.cells #[] 53))
  have HL0 := Lib.hid (Summons.L_empty (w := w) (Nat.le_refl _))
  have HG0 := Lib.hid (grown_alloc w (.cells #[] 53) (some b))
  clear h
  go_enter Tryd.func67, Tryd.ntmps67
  go_wp2_with fail
  refine (specNext_any B b 5 _ (by omega) HS0.out).mono ?_; rintro e w1 ⟨x1, rfl, hx, _, hS, hg⟩
  obtain ⟨l1, u1⟩ := hx (by omega)
  have HS1 := Lib.hid hS; have HG1 := Lib.hid (grown_trans HG0.out hg); have HL1 := Lib.hid (HL0.out.grown hg hlt)
  have q1 : IntKind.i64.wrap (1 + x1) = 1 + x1 := IntWalk.i64_in _ (by omega)
  clear hS hg hx
  go_wp2_with fail
  refine (specNext_any B b 6 w1 (by omega) HS1.out).mono ?_; rintro e w2 ⟨n2, rfl, hn, _, hS, hg⟩
  obtain ⟨l2, u2⟩ := hn (by omega)
  have HS2 := Lib.hid hS; have HG2 := Lib.hid (grown_trans HG1.out hg); have HL2 := Lib.hid (HL1.out.grown hg hlt)
  clear hS hg hn
  go_wp2_with fail
  go_loopw [3, 4, 5, 6] (fun v xx nn _ wr => ∃ (x n : Int) (ts : List Summons), xx = .int .i64 x ∧ nn = .int .i64 n ∧ 0 ≤ n ∧ n ≤ 5 ∧ ts.length + n.toNat ≤ 5 ∧ 0 ≤ x ∧ x ≤ 100 - 10 * n ∧ SmallML ts ∧ Summons.L wr w.heap.size v ts ∧ Src B 79 wr b ∧ w.grownBy wr (some b)) (fun _ _ nn _ _ => (intOf nn).toNat)
  case atStart => exact ⟨1 + x1, n2, [], rfl, rfl, l2, by omega, by simp; omega, by omega, by omega, smallML_nil, HL2.out, HS2.out, HG2.out⟩
  case round =>
    obtain ⟨x, n, ts, rfl, rfl, hn0, hn5, hts, hx0, hx1, hsm, hL, hS, hg⟩ := hrel
    have HM := Lib.hid hsm; have HL := Lib.hid hL; have HS := Lib.hid hS; have HG := Lib.hid hg
    have hltr := hS.lt
    clear hsm hL hS hg HS0 HL0 HG0 HS1 HG1 HL1 HS2 HG2 HL2
    by_cases hpos : 0 < n
    · go_wp2_with fail
      refine (specNext_any B b 30 wr (by omega) HS.out).mono ?_; rintro e w3 ⟨p, rfl, hp, _, hS, hg⟩
      obtain ⟨l3, u3⟩ := hp (by omega)
      have q3 : IntKind.i64.wrap (100 + p) = 100 + p := IntWalk.i64_in _ (by omega)
      have HX3 := Lib.hid (show GoM B b w.heap.size w3.heap.size w (w3.alloc (.cells #[.int .i64 x, .int .i64 (100 + p), .int .i64 0, .int .i64 0, .int .i64 0] 53)) _ ts ⟨x, 100 + p, 0, 0, 0⟩ from
        ⟨hS.alloc _, grown_trans (grown_trans HG.out hg) (grown_alloc _ _ _), (HL.out.grown hg hlt).alloc _, fun g hg' => by have := ((HL.out.grown hg hlt).2.lt g hg').2; omega, Summons.box_row w3 ⟨x, 100 + p, 0, 0, 0⟩ 53⟩)
      have hrw : w.heap.size ≤ w3.heap.size := by have := hg.size; have := HG.out.size; omega
      have hrb : b ≠ w3.heap.size := by have := hS.lt; omega
      clear hS hg hp
      go_wp2_with fail
      generalize w3.alloc (.cells #[.int .i64 x, .int .i64 (100 + p), .int .i64 0, .int .i64 0, .int .i64 0] 53) = w4 at HX3 ⊢
      obtain ⟨rv, hrv⟩ : ∃ rv, w3.heap.size = rv := ⟨_, rfl⟩
      rw [hrv] at HX3 hrw hrb
      (try rw [hrv])
      clear hrv
      have HX4 := Lib.hid HX3.out.drew
      have hBr : B ≤ rv := by have := HBB.out; omega
      have h41 := HX4.out.row.cell (show 1 < 5 by omega)
      simp only [Summons.nth, List.getD_cons_zero, List.getD_cons_succ] at h41
      have HC4 := Lib.hid (specNext_any B b 30 w4.drew (by omega) HX4.out.src)
      have q4 : ∀ z : Int, 0 ≤ z → z < 30 → IntKind.i64.wrap (100 + p + z) = 100 + p + z := fun z _ _ => IntWalk.i64_in _ (by omega)
      go_region_held3 (fun W => W.cell? ⟨rv, 1, none⟩ = some (.int .i64 (100 + p))) (first | exact h41 | exact h51 | (rw [World.cell?_setCell_other _ _ _ _ (by simp)]; exact h51) | go_simp) (first | (go_at_call 43; refine HC4.out.mono ?_; rintro e w5 ⟨z, rfl, hz, _, hS, hg⟩; obtain ⟨l4, u4⟩ := hz (by omega); have q5 := q4 z l4 u4; have HX5 := Lib.hid (HX4.out.next hS hg hlt (by omega)); have h51 := HX5.out.row.cell (show 1 < 5 by omega); have h52 := HX5.out.row.cell (show 2 < 5 by omega); have f52 := HX5.out.row.frozen 2; simp only [Summons.nth, List.getD_cons_zero, List.getD_cons_succ] at h51 h52))
      have HX6 := Lib.hid (HX5.out.set (k := 2) (x := 100 + p + z) (c' := ⟨x, 100 + p, 100 + p + z, 0, 0⟩) (fun j hj => by
        have hc : j = 0 ∨ j = 1 ∨ j = 2 ∨ j = 3 ∨ j = 4 := by omega
        rcases hc with rfl | rfl | rfl | rfl | rfl <;> rfl) hrw hrb hBr)
      clear h41 h51 h52 f52 hS hg hz q4 q5 HX3 HX4 HX5 HC4
      generalize w5.setCell ⟨rv, 2, none⟩ (.int .i64 (100 + p + z)) = w6 at HX6 ⊢
      generalize hdd : 100 + p + z = due at HX6
      (try rw [hdd])
      generalize hss : 100 + p = sent at HX6 hdd
      (try rw [hss])
      have hs1 : 100 ≤ sent ∧ sent ≤ 129 := by omega
      have hd1 : 100 ≤ due ∧ due ≤ 158 := by omega
      clear hdd hss
      go_wp2_with fail
      refine (specNext_any B b 2 w6 (by omega) HX6.out.src).mono ?_; rintro e w7 ⟨y7, rfl, hy, _, hS, hg⟩
      obtain ⟨l7, u7⟩ := hy (by omega)
      have HX7 := Lib.hid (HX6.out.next hS hg hlt (by omega))
      clear hS hg hy HX6
      by_cases h7 : y7 = 0
      · have h7b : (y7 == 0) = true := beq_iff_eq.2 h7
        clear h7
        go_wp2_with fail
        refine (specNext_any B b 3 w7 (by omega) HX7.out.src).mono ?_; rintro e wa ⟨an, rfl, hy, _, hS, hg⟩
        obtain ⟨la, ua⟩ := hy (by omega)
        have qa : IntKind.i64.wrap (1 + an) = 1 + an := IntWalk.i64_in _ (by omega)
        have HXa := Lib.hid (HX7.out.next hS hg hlt (by omega))
        have ha3 := HXa.out.row.cell (show 3 < 5 by omega)
        have fa3 := HXa.out.row.frozen 3
        simp only [Summons.nth, List.getD_cons_zero, List.getD_cons_succ] at ha3
        have HXb := Lib.hid (HXa.out.set (k := 3) (x := 1 + an) (c' := ⟨x, sent, due, 1 + an, 0⟩) (fun j hj => by
          have hc : j = 0 ∨ j = 1 ∨ j = 2 ∨ j = 3 ∨ j = 4 := by omega
          rcases hc with rfl | rfl | rfl | rfl | rfl <;> rfl) hrw hrb hBr)
        clear hS hg hy HX7
        go_wp2_with fail
        clear ha3 fa3 HXa
        generalize wa.setCell ⟨rv, 3, none⟩ (.int .i64 (1 + an)) = wb at HXb ⊢
        generalize 1 + an = ans at HXb ⊢
        have HXc := Lib.hid HXb.out.drew
        have h41 := HXc.out.row.cell (show 1 < 5 by omega)
        simp only [Summons.nth, List.getD_cons_zero, List.getD_cons_succ] at h41
        have HCc := Lib.hid (specNext_any B b 60 wb.drew (by omega) HXc.out.src)
        have q4 : ∀ z : Int, 0 ≤ z → z < 60 → IntKind.i64.wrap (sent + z) = sent + z := fun z _ _ => IntWalk.i64_in _ (by omega)
        go_region_held3 (fun W => W.cell? ⟨rv, 1, none⟩ = some (.int .i64 sent)) (first | exact h41 | exact h51 | (rw [World.cell?_setCell_other _ _ _ _ (by simp)]; exact h51) | go_simp) (first | (go_at_call 43; refine HCc.out.mono ?_; rintro e w5 ⟨z, rfl, hz, _, hS, hg⟩; obtain ⟨l4, u4⟩ := hz (by omega); have q5 := q4 z l4 u4; have HX5 := Lib.hid (HXc.out.next hS hg hlt (by omega)); have h51 := HX5.out.row.cell (show 1 < 5 by omega); have h52 := HX5.out.row.cell (show 4 < 5 by omega); have f52 := HX5.out.row.frozen 4; simp only [Summons.nth, List.getD_cons_zero, List.getD_cons_succ] at h51 h52))
        have HXd := Lib.hid (HX5.out.set (k := 4) (x := sent + z) (c' := ⟨x, sent, due, ans, sent + z⟩) (fun j hj => by
          have hc : j = 0 ∨ j = 1 ∨ j = 2 ∨ j = 3 ∨ j = 4 := by omega
          rcases hc with rfl | rfl | rfl | rfl | rfl <;> rfl) hrw hrb hBr)
        clear h41 h51 h52 f52 hS hg hz q4 q5 HXb HXc HX5 HCc
        generalize w5.setCell ⟨rv, 4, none⟩ (.int .i64 (sent + z)) = we at HXd ⊢
        generalize sent + z = done at HXd
        have HXt := HXd
        have t0 := HXt.out.row.cell (show 0 < 5 by omega); have t1 := HXt.out.row.cell (show 1 < 5 by omega); have t2 := HXt.out.row.cell (show 2 < 5 by omega); have t3 := HXt.out.row.cell (show 3 < 5 by omega); have t4 := HXt.out.row.cell (show 4 < 5 by omega)
        simp only [Summons.nth, List.getD_cons_zero, List.getD_cons_succ] at t0 t1 t2 t3 t4
        have HLt := Lib.hid (HXt.out.list.alloc (.cells #[.int .i64 x, .int .i64 sent, .int .i64 due, .int .i64 ans, .int .i64 done] 53))
        have HSt := Lib.hid (HXt.out.src.alloc (.cells #[.int .i64 x, .int .i64 sent, .int .i64 due, .int .i64 ans, .int .i64 done] 53))
        have HGt := Lib.hid (grown_trans HXt.out.grow (grown_alloc we (.cells #[.int .i64 x, .int .i64 sent, .int .i64 due, .int .i64 ans, .int .i64 done] 53) (some b)))
        have hszt : w.heap.size ≤ (we.alloc (.cells #[.int .i64 x, .int .i64 sent, .int .i64 due, .int .i64 ans, .int .i64 done] 53)).heap.size := HGt.out.size
        go_wp2_with (at_builtin; refine wpList_Summons_append rfl _ _ rfl _ ts rfl HLt.out ⟨we.heap.size, 0, none⟩ 1 1 [⟨x, sent, due, ans, done⟩] rfl rfl (Summons.lit_cells we ⟨x, sent, due, ans, done⟩ 53) ?c1 ?c2 ?_)
        case c1 => simp; omega
        case c2 => exact hszt
        intro v8 w8 hL8 hg8 _
        have HL8 := Lib.hid hL8
        have HS8 := Lib.hid (src_row9 HSt.out hg8 (fun k hk => by have := (HLt.out.2.lt k hk).1; have := HBB.out; omega))
        have HG8 := Lib.hid (gb_own9 HGt.out hg8 (fun k hk => (HLt.out.2.lt k hk).1))
        have HSM := Lib.hid (smallML_snoc HM.out (c := ⟨x, sent, due, ans, done⟩) ⟨by show -10 ≤ sent ∧ sent ≤ 100000; omega, by show -20 ≤ due ∧ due ≤ 100000; omega⟩)
        clear hL8 hg8 hszt t0 t1 t2 t3 t4 HLt HSt HGt
        have q8 : IntKind.i64.wrap (x + 1) = x + 1 := IntWalk.i64_in _ (by omega)
        have q10 : IntKind.i64.wrap (n - 1) = n - 1 := IntWalk.i64_in _ (by omega)
        go_wp2_with fail
        refine (specNext_any B b 4 w8 (by omega) HS8.out).mono ?_; rintro e w9 ⟨y, rfl, hy, _, hS, hg⟩
        obtain ⟨l9, u9⟩ := hy (by omega)
        have q9 : IntKind.i64.wrap (x + 1 + y) = x + 1 + y := IntWalk.i64_in _ (by omega)
        have HS9 := Lib.hid hS; have HG9 := Lib.hid (grown_trans HG8.out hg); have HL9 := Lib.hid (HL8.out.grown hg hlt)
        clear hS hg hy
        go_wp2_with fail
        go_roundw
        case rel => exact ⟨x + 1 + y, n - 1, ts ++ [⟨x, sent, due, ans, done⟩], by go_num, by go_num, by omega, by omega, by simp; omega, by omega, by omega, HSM.out, HL9.out, HS9.out, HG9.out⟩
        case measure => simp [intOf]; omega
      · have h7b : (y7 == 0) = false := beq_eq_false_iff_ne.2 h7
        clear h7
        have HXt := HX7
        have t0 := HXt.out.row.cell (show 0 < 5 by omega); have t1 := HXt.out.row.cell (show 1 < 5 by omega); have t2 := HXt.out.row.cell (show 2 < 5 by omega); have t3 := HXt.out.row.cell (show 3 < 5 by omega); have t4 := HXt.out.row.cell (show 4 < 5 by omega)
        simp only [Summons.nth, List.getD_cons_zero, List.getD_cons_succ] at t0 t1 t2 t3 t4
        have HLt := Lib.hid (HXt.out.list.alloc (.cells #[.int .i64 x, .int .i64 sent, .int .i64 due, .int .i64 0, .int .i64 0] 53))
        have HSt := Lib.hid (HXt.out.src.alloc (.cells #[.int .i64 x, .int .i64 sent, .int .i64 due, .int .i64 0, .int .i64 0] 53))
        have HGt := Lib.hid (grown_trans HXt.out.grow (grown_alloc w7 (.cells #[.int .i64 x, .int .i64 sent, .int .i64 due, .int .i64 0, .int .i64 0] 53) (some b)))
        have hszt : w.heap.size ≤ (w7.alloc (.cells #[.int .i64 x, .int .i64 sent, .int .i64 due, .int .i64 0, .int .i64 0] 53)).heap.size := HGt.out.size
        go_wp2_with (at_builtin; refine wpList_Summons_append rfl _ _ rfl _ ts rfl HLt.out ⟨w7.heap.size, 0, none⟩ 1 1 [⟨x, sent, due, 0, 0⟩] rfl rfl (Summons.lit_cells w7 ⟨x, sent, due, 0, 0⟩ 53) ?c1 ?c2 ?_)
        case c1 => simp; omega
        case c2 => exact hszt
        intro v8 w8 hL8 hg8 _
        have HL8 := Lib.hid hL8
        have HS8 := Lib.hid (src_row9 HSt.out hg8 (fun k hk => by have := (HLt.out.2.lt k hk).1; have := HBB.out; omega))
        have HG8 := Lib.hid (gb_own9 HGt.out hg8 (fun k hk => (HLt.out.2.lt k hk).1))
        have HSM := Lib.hid (smallML_snoc HM.out (c := ⟨x, sent, due, 0, 0⟩) ⟨by show -10 ≤ sent ∧ sent ≤ 100000; omega, by show -20 ≤ due ∧ due ≤ 100000; omega⟩)
        clear hL8 hg8 hszt t0 t1 t2 t3 t4 HLt HSt HGt
        have q8 : IntKind.i64.wrap (x + 1) = x + 1 := IntWalk.i64_in _ (by omega)
        have q10 : IntKind.i64.wrap (n - 1) = n - 1 := IntWalk.i64_in _ (by omega)
        go_wp2_with fail
        refine (specNext_any B b 4 w8 (by omega) HS8.out).mono ?_; rintro e w9 ⟨y, rfl, hy, _, hS, hg⟩
        obtain ⟨l9, u9⟩ := hy (by omega)
        have q9 : IntKind.i64.wrap (x + 1 + y) = x + 1 + y := IntWalk.i64_in _ (by omega)
        have HS9 := Lib.hid hS; have HG9 := Lib.hid (grown_trans HG8.out hg); have HL9 := Lib.hid (HL8.out.grown hg hlt)
        clear hS hg hy
        go_wp2_with fail
        go_roundw
        case rel => exact ⟨x + 1 + y, n - 1, ts ++ [⟨x, sent, due, 0, 0⟩], by go_num, by go_num, by omega, by omega, by simp; omega, by omega, by omega, HSM.out, HL9.out, HS9.out, HG9.out⟩
        case measure => simp [intOf]; omega
    · have hn0' : n = 0 := by omega
      have hnb : decide (n > 0) = false := decide_eq_false (by omega)
      have HLL := Lib.hid (show ts.length ≤ 5 by omega)
      clear hn0'
      go_wp2_with fail
      go_ret
      exact ⟨_, ts, rfl, HL.out, HLL.out, HM.out, HS.out, HG.out⟩
end Go.Proofs.YtchffaohmeaccaaDoor
