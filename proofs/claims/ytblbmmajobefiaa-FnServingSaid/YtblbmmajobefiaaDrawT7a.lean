/- Contract: spec.l07Good draws a term. (written by draw7.py) -/
import Derived.Test.YtblbmmajobefiaaChecked
import Derived.Test.YtblbmmajobefiaaBase
import Derived.Test.YtblbmmajobefiaaInfo
import Derived.Test.YtblbmmajobefiaaPure6
import Derived.Test.YtblbmmajobefiaaNext
import Derived.Test.YtblbmmajobefiaaPick
import Derived.Test.YtblbmmajobefiaaTermA
import Derived.Test.YtblbmmajobefiaaTermB
import Derived.Test.YtblbmmajobefiaaTermC
import Derived.Test.YtblbmmajobefiaaFacts
import Derived.WalkKit
import Derived.WalkSpells
import Derived.WalkLawsBesides
import Derived.Lib.Hide
import Derived.IntWalk
import Derived.Deep.OwnRows
import Derived.Deep.MidRow
import Derived.OwnWalk
import Derived.Outline
namespace Go.Proofs.Ytblbmmajobefiaa
open Go.RowKit Pure1 Pure2 Pure6

/-- a term whose numbers are small -/
def SmallT (c : Term) : Prop := (0 ≤ c.num ∧ c.num ≤ 1000001) ∧ (0 ≤ c.frm ∧ c.frm ≤ 30000) ∧ (-1 ≤ c.to ∧ c.to ≤ 30000)
/-- a term is handed out -/
def GaveT (B b : Nat) (w : World) (e : Ending) (w' : World) : Prop := ∃ c : Term, e = .returned (.agg #[.int .i64 c.num, .int .i64 c.frm, .int .i64 c.to]) ∧ SmallT c ∧ Src B 82 w' b ∧ w.grownBy w' (some b)

/-- below block w.heap.size nothing has turned but blocks b and rv -/
structure Two (b rv : Nat) (w w' : World) : Prop where
  os : w'.os = w.os
  tape : w'.tape = w.tape
  output : w'.output = w.output
  size : w.heap.size ≤ w'.heap.size
  block : ∀ k, k < w.heap.size → k ≠ b → k ≠ rv → w'.heap[k]? = w.heap[k]?
theorem Two.refl (b rv : Nat) (w : World) : Two b rv w w := ⟨rfl, rfl, rfl, Nat.le_refl _, fun _ _ _ _ => rfl⟩
theorem Two.trans {b rv : Nat} {w w' w'' : World} (h : Two b rv w w') (h' : Two b rv w' w'') : Two b rv w w'' :=
  ⟨h'.os.trans h.os, h'.tape.trans h.tape, h'.output.trans h.output, Nat.le_trans h.size h'.size, fun k hk h1 h2 => (h'.block k (Nat.lt_of_lt_of_le hk h.size) h1 h2).trans (h.block k hk h1 h2)⟩
theorem Two.grown {b rv : Nat} {w w' : World} (h : w.grownBy w' (some b)) : Two b rv w w' :=
  ⟨h.os, h.tape, h.output, h.size, fun k hk h1 _ => h.block k hk (fun e => h1 (Option.some.inj e))⟩
theorem Two.alloc (b rv : Nat) (w : World) (o : Obj) : Two b rv w (w.alloc o) := ⟨rfl, rfl, rfl, by simp, fun k hk _ _ => Below.heap_alloc _ _ _ hk⟩
theorem Two.cell {b rv : Nat} {w w' : World} (h : Two b rv w w') {g o : Nat} {v : Value} (hc : w.cell? ⟨g, o, none⟩ = some v) (h1 : g ≠ b) (h2 : g ≠ rv) : w'.cell? ⟨g, o, none⟩ = some v :=
  (World.cell?_of_block (w := w) (h.block g (World.block_lt_of_cell? w _ hc) h1 h2)).trans hc
theorem Two.set {b rv o : Nat} {w w' : World} (h : Two b rv w w') (v : Value) : Two b rv w (w'.setCell ⟨rv, o, none⟩ v) :=
  h.trans ⟨rfl, rfl, rfl, by simp [World.setCell], fun k hk _ h2 => Below.heap_setCell _ _ _ _ h2⟩
theorem row_grown {w w' : World} {b B n : Nat} {T : TypeId} {f : Nat → Value} (h : w.rowIs b T n f) (hg : w.grownBy w' (some B)) (hne : b ≠ B) : w'.rowIs b T n f :=
  h.of_block (hg.block b h.lt (fun e => hne (Option.some.inj e)))
theorem Src_set {B b k o : Nat} {T : TypeId} {w : World} (h : Src B T w b) (hne : b ≠ k) (hB : B ≤ k) (v : Value) : Src B T (w.setCell ⟨k, o, none⟩ v) b :=
  h.kept (Below.heap_setCell _ _ _ _ hne) ((Below.refl B w).setCell (p := ⟨k, o, none⟩) hB v)
theorem grown_new {b k o : Nat} {w w' : World} (h : w.grownBy w' (some b)) (hk : w.heap.size ≤ k) (v : Value) : w.grownBy (w'.setCell ⟨k, o, none⟩ v) (some b) :=
  ⟨h.os, h.tape, h.output, by simp [World.setCell]; exact h.size, fun i hi hb => (Below.heap_setCell _ _ _ _ (by show i ≠ k; omega)).trans (h.block i hi hb)⟩
theorem src_later {B b : Nat} {T : TypeId} {w w' : World} (h : Src B T w b) (hB : Below w.heap.size w w') : Src B T w' b :=
  h.kept (hB.block _ h.lt) (hB.mono (Nat.le_trans h.base (Nat.le_of_lt h.lt)))
theorem gb_below {b : Nat} {w w1 w2 : World} (h : w.grownBy w1 (some b)) (h2 : Below w1.heap.size w1 w2) : w.grownBy w2 (some b) :=
  grown_trans h ⟨h2.os, h2.tape, h2.output, h2.size, fun k hk _ => h2.block k hk⟩
theorem gb_own {b : Nat} {w w1 w2 : World} {row : Option Nat} (h : w.grownBy w1 (some b)) (h2 : w1.grownBy w2 row) (hr : ∀ k, row = some k → w.heap.size ≤ k) : w.grownBy w2 (some b) :=
  ⟨h2.os.trans h.os, h2.tape.trans h.tape, h2.output.trans h.output, Nat.le_trans h.size h2.size, fun k hk hne => (h2.block k (Nat.lt_of_lt_of_le hk h.size) (fun e => by have := hr k e.symm; omega)).trans (h.block k hk hne)⟩
theorem row3 (w : World) (v0 v1 v2 : Value) (T : TypeId) : (w.alloc (.cells #[v0, v1, v2] T)).rowIs w.heap.size T 3 (fun j => (#[v0, v1, v2] : Array Value)[j]?.getD undef) :=
  World.rowIs_alloc w #[v0, v1, v2] T _ (fun i hi => by rw [Array.getElem?_eq_getElem hi]; rfl)

def IntIn (lo hi : Int) (v : Value) : Prop := ∃ x, v = .int .i64 x ∧ lo ≤ x ∧ x ≤ hi
/-- what always holds while the last day is drawn -/
def GG (B b rb : Nat) (n f0 : Int) (w1 w : World) : Prop := Src B 82 w b ∧ Two b rb w1 w ∧ rb < w.heap.size ∧ ∃ f, w.rowIs rb 32 3 f ∧ f 0 = .int .i64 n ∧ f 1 = .int .i64 f0
/-- how the world may turn -/
def GR (b rb : Nat) (f0 : Int) (w w' : World) : Prop := Two b rb w w' ∧ (w'.heap[rb]? = w.heap[rb]? ∨ ∃ x, f0 ≤ x ∧ x ≤ f0 + 49 ∧ w'.cell? ⟨rb, 2, none⟩ = some (.int .i64 x))
def LaidI (b rb : Nat) (v : Value) (w : World) : Prop := ∃ g x y, v = .slice (some ⟨g, 0, none⟩) 3 3 ∧ g ≠ b ∧ g ≠ rb ∧ (0 ≤ x ∧ x ≤ 49) ∧ (0 ≤ y ∧ y ≤ 49) ∧ w.cell? ⟨g, 0, none⟩ = some (.int .i64 0) ∧ w.cell? ⟨g, 1, none⟩ = some (.int .i64 x) ∧ w.cell? ⟨g, 2, none⟩ = some (.int .i64 y)
theorem LaidI.mono {b rb : Nat} {v : Value} {w w' : World} (h : LaidI b rb v w) (ht : Two b rb w w') : LaidI b rb v w' := by
  obtain ⟨g, x, y, e, h1, h2, h3, h4, c0, c1, c2⟩ := h
  exact ⟨g, x, y, e, h1, h2, h3, h4, ht.cell c0 h1 h2, ht.cell c1 h1 h2, ht.cell c2 h1 h2⟩
/-- what each operation leaves -/
def GF (b rb : Nat) (f0 : Int) : Nat → Value → World → Prop
  | 0, v, _ => v = .pointer (some ⟨rb, 1, none⟩)
  | 1, v, _ => v = .int .i64 f0
  | 2, v, _ | 3, v, _ | 5, v, _ => v = .pointer (some ⟨b, 0, none⟩)
  | 4, v, _ => IntIn 0 9 v
  | 6, v, _ => IntIn 0 49 v
  | 7, v, w => LaidI b rb v w
  | 8, v, _ => IntIn 0 49 v
  | 9, v, _ => IntIn f0 (f0 + 49) v
  | 10, v, _ => v = .pointer (some ⟨rb, 2, none⟩)
  | 11, _, w => ∃ x, f0 ≤ x ∧ x ≤ f0 + 49 ∧ w.cell? ⟨rb, 2, none⟩ = some (.int .i64 x)
  | _, _, _ => True
theorem GR.same {b rb : Nat} {f0 : Int} (w : World) : GR b rb f0 w w := ⟨Two.refl _ _ _, .inl rfl⟩
theorem GG.drew {B b rb : Nat} {n f0 : Int} {w1 w : World} (h : GG B b rb n f0 w1 w) : GG B b rb n f0 w1 w.drew := by
  obtain ⟨h1, h2, h3, f, h4, h5⟩ := h
  exact ⟨h1.kept rfl (Below.drew (Below.refl _ _)), ⟨h2.os, h2.tape, h2.output, h2.size, h2.block⟩, h3, f, h4, h5⟩
theorem GG.alloc {B b rb : Nat} {n f0 : Int} {w1 w : World} (h : GG B b rb n f0 w1 w) (o : Obj) : GG B b rb n f0 w1 (w.alloc o) := by
  obtain ⟨h1, h2, h3, f, h4, h5⟩ := h
  exact ⟨h1.alloc o, h2.trans (Two.alloc _ _ _ _), by simp; omega, f, h4.alloc o, h5⟩
theorem GG.next {B b rb : Nat} {n f0 : Int} {w1 w w' : World} (h : GG B b rb n f0 w1 w) (hne : rb ≠ b) (hs : Src B 82 w' b) (hg : w.grownBy w' (some b)) : GG B b rb n f0 w1 w' := by
  obtain ⟨h1, h2, h3, f, h4, h5⟩ := h
  exact ⟨hs, h2.trans (Two.grown hg), Nat.lt_of_lt_of_le h3 hg.size, f, h4.of_block (hg.block rb h3 (fun e => hne (Option.some.inj e))), h5⟩

set_option maxRecDepth 100000 in
set_option maxHeartbeats 4000000 in
theorem specGood7_any (B b : Nat) (w : World) (h : Src B 82 w b) :
    Calls Try.prog 75 #[.pointer (some ⟨b, 0, none⟩)] w (GaveT B b w) := by
  have hlt := h.lt
  have HS0 := Lib.hid (h.alloc (.cells #[.int .i64 0, .int .i64 0, .int .i64 0] 32))
  have HR0 := Lib.hid (row3 w (.int .i64 0) (.int .i64 0) (.int .i64 0) 32)
  have HG0 := Lib.hid (grown_alloc w (.cells #[.int .i64 0, .int .i64 0, .int .i64 0] 32) (some b))
  clear h
  go_enter Try.func75, Try.ntmps75
  go_wp2_with fail
  generalize w.alloc (.cells #[.int .i64 0, .int .i64 0, .int .i64 0] 32) = w1 at HS0 HR0 HG0 ⊢
  obtain ⟨rv, hrv⟩ : ∃ rv, w.heap.size = rv := ⟨_, rfl⟩
  have HRV := Lib.hid hrv
  rw [hrv] at HR0 hlt ⊢
  clear hrv
  refine (specNext_any B b 4 w1 (by omega) HS0.out).mono ?_; rintro e w2 ⟨x, rfl, hx, _, hS, hg⟩
  obtain ⟨l1, u1⟩ := hx (by omega)
  have HS2 := Lib.hid hS; have HG2 := Lib.hid (grown_trans HG0.out hg); have HR2 := Lib.hid (row_grown HR0.out hg (by omega))
  have q1 : IntKind.i64.wrap (1 + x) = 1 + x := IntWalk.i64_in _ (by omega)
  clear hS hg hx
  go_wp2_with fail
  refine (specNext_any B b 60 w2 (by omega) HS2.out).mono ?_; rintro e w3 ⟨y, rfl, hy, _, hS, hg⟩
  obtain ⟨l2, u2⟩ := hy (by omega)
  have HS3 := Lib.hid hS; have HG3 := Lib.hid (grown_trans HG2.out hg); have HR3 := Lib.hid (row_grown HR2.out hg (by omega))
  clear hS hg hy
  go_wp2_with fail
  refine (specNext_any B b 1500 w3 (by omega) HS3.out).mono ?_; rintro e w4 ⟨z, rfl, hz, _, hS, hg⟩
  obtain ⟨l3, u3⟩ := hz (by omega)
  have HS4 := Lib.hid hS; have HG4 := Lib.hid (grown_trans HG3.out hg); have HR4 := Lib.hid (row_grown HR3.out hg (by omega))
  have hlt4 := hS.lt
  clear hS hg hz
  go_wp2_with fail
  refine (specPick_any B b w4.heap.size [y, z] 2 2 _ rfl (by omega) (by omega) (HS4.out.alloc _) (by omega) (alloc_ints w4 2 [y, z])).mono ?_
  rintro e w5 ⟨p, rfl, hp, hS, hg⟩
  have hp2 : 0 ≤ p ∧ p ≤ 1499 := by simp at hp; omega
  obtain ⟨lp, up⟩ := hp2
  have q2 : IntKind.i64.wrap (100 + p) = 100 + p := IntWalk.i64_in _ (by omega)
  have hlt5 := hS.lt
  have hw5 : w4.heap.size + 1 ≤ w5.heap.size := by have := hg.size; simp at this; omega
  have HS5 := Lib.hid (hS.alloc (.cells #[.int .i64 (1 + x), .int .i64 (100 + p), .int .i64 0] 32))
  have HG5 := Lib.hid (grown_trans (grown_trans (grown_trans HG4.out (grown_alloc _ _ _)) hg) (grown_alloc w5 (.cells #[.int .i64 (1 + x), .int .i64 (100 + p), .int .i64 0] 32) (some b)))
  have HR5 := Lib.hid ((row_grown (HR4.out.alloc _) hg (by omega)).alloc (.cells #[.int .i64 (1 + x), .int .i64 (100 + p), .int .i64 0] 32))
  have HB5 := Lib.hid (row3 w5 (.int .i64 (1 + x)) (.int .i64 (100 + p)) (.int .i64 0) 32)
  have hrl4 := HR4.out.lt
  clear hS hg hp
  go_wp2_with fail
  generalize w5.alloc (.cells #[.int .i64 (1 + x), .int .i64 (100 + p), .int .i64 0] 32) = w6 at HS5 HG5 HR5 HB5 ⊢
  obtain ⟨rb, hrb⟩ : ∃ rb, w5.heap.size = rb := ⟨_, rfl⟩
  rw [hrb] at HB5 hlt5 hw5 ⊢
  clear hrb
  have hne : rb ≠ b := by omega
  have hrvb : rv < rb := by omega
  have hGG : GG B b rb (1 + x) (100 + p) w6 w6 := ⟨HS5.out, Two.refl _ _ _, HB5.out.lt, _, HB5.out, rfl, rfl⟩
  have hn0 : 0 ≤ 1 + x := by omega
  have hn1 : 1 + x ≤ 1000001 := by omega
  generalize 1 + x = nn at hGG q1 hn0 hn1
  refine wp_region_facts (sz := 28) [0, 2, 3] (by kernel_rfl) (by kernel_rfl) (by kernel_rfl) (GG B b rb _ (100 + p) w6) (GR b rb (100 + p)) (GF b rb (100 + p)) rfl hGG.drew ?_ ?_ ?_
  · intro j v w2 w3 hf hR
    unfold GF at hf ⊢
    split at hf <;> first | exact hf | exact hf.mono hR.1 | trivial | skip
    obtain ⟨x, h1, h2, hx⟩ := hf
    rcases hR.2 with e | hx2
    · exact ⟨x, h1, h2, (World.cell?_of_block (w := w2) e).trans hx⟩
    · exact hx2
  · intro i o ho
    match i, ho with
    | 0, ho =>
      cases ho
      intro ev w' hc hfn hb hG hd
      have h3 : ev (.tmp 3) = .pointer (some ⟨rb, 0, none⟩) := hb 3 (by simp)
      refine stepTo_gen fun K' hK => ?_
      simp [go_sem, stepTo, hc, hfn, h3]
      exact hK _ _ ⟨hG, GR.same _, (fun h => by cases h), rfl⟩
    | 1, ho =>
      cases ho
      intro ev w' hc hfn hb hG hd
      have h3 : ev (.tmp 16) = .pointer (some ⟨rb, 1, none⟩) := hd { on := 0, ground := .data } (by simp) rfl _ rfl
      obtain ⟨g1, g2, g3, f, hr, hf0, hf1⟩ := id hG
      have c1 := hr.cell (show 1 < 3 by omega)
      rw [hf1] at c1
      refine stepTo_gen fun K' hK => ?_
      simp [go_sem, stepTo, hc, hfn, h3, c1]
      exact hK _ _ ⟨hG, GR.same _, (fun h => by cases h), rfl⟩
    | 2, ho =>
      cases ho
      intro ev w' hc hfn hb hG hd
      have h0 : ev (.tmp 0) = .pointer (some ⟨b, 0, none⟩) := hb 0 (by simp)
      refine stepTo_gen fun K' hK => ?_
      simp [go_sem, stepTo, hc, hfn, h0]
      exact hK _ _ ⟨hG, GR.same _, (fun h => by cases h), rfl⟩
    | 3, ho =>
      cases ho
      intro ev w' hc hfn hb hG hd
      have h0 : ev (.tmp 0) = .pointer (some ⟨b, 0, none⟩) := hb 0 (by simp)
      refine stepTo_gen fun K' hK => ?_
      simp [go_sem, stepTo, hc, hfn, h0]
      exact hK _ _ ⟨hG, GR.same _, (fun h => by cases h), rfl⟩
    | 4, ho =>
      cases ho
      intro ev w' hc hfn hb hG hd
      have h3 : ev (.tmp 19) = .pointer (some ⟨b, 0, none⟩) := hd { on := 3, ground := .data } (by simp) rfl _ rfl
      refine stepTo_gen fun K' hK => ?_
      simp [go_sem, stepTo, hc, hfn, h3]
      refine (specNext_any B b 10 w' (by omega) hG.1).mono ?_; rintro e w2 ⟨x, rfl, hx, _, hS, hg⟩
      obtain ⟨l1, u1⟩ := hx (by omega)
      exact ⟨_, rfl, hK _ _ ⟨hG.next hne hS hg, ⟨Two.grown hg, .inl (hg.block rb hG.2.2.1 (fun e => hne (Option.some.inj e)))⟩, (fun h => by cases h), ⟨x, rfl, by omega, by omega⟩⟩⟩
    | 5, ho =>
      cases ho
      intro ev w' hc hfn hb hG hd
      have h0 : ev (.tmp 0) = .pointer (some ⟨b, 0, none⟩) := hb 0 (by simp)
      refine stepTo_gen fun K' hK => ?_
      simp [go_sem, stepTo, hc, hfn, h0]
      exact hK _ _ ⟨hG, GR.same _, (fun h => by cases h), rfl⟩
    | 6, ho =>
      cases ho
      intro ev w' hc hfn hb hG hd
      have h3 : ev (.tmp 21) = .pointer (some ⟨b, 0, none⟩) := hd { on := 5, ground := .data } (by simp) rfl _ rfl
      refine stepTo_gen fun K' hK => ?_
      simp [go_sem, stepTo, hc, hfn, h3]
      refine (specNext_any B b 50 w' (by omega) hG.1).mono ?_; rintro e w2 ⟨x, rfl, hx, _, hS, hg⟩
      obtain ⟨l1, u1⟩ := hx (by omega)
      exact ⟨_, rfl, hK _ _ ⟨hG.next hne hS hg, ⟨Two.grown hg, .inl (hg.block rb hG.2.2.1 (fun e => hne (Option.some.inj e)))⟩, (fun h => by cases h), ⟨x, rfl, by omega, by omega⟩⟩⟩
    | 7, ho =>
      cases ho
      intro ev w' hc hfn hb hG hd
      obtain ⟨x, h20, hx0, hx1⟩ : IntIn 0 9 (ev (.tmp 20)) := hd { on := 4, ground := .data } (by simp) rfl _ rfl
      obtain ⟨y, h22, hy0, hy1⟩ : IntIn 0 49 (ev (.tmp 22)) := hd { on := 6, ground := .data } (by simp) rfl _ rfl
      refine stepTo_gen fun K' hK => ?_
      simp [go_sem, stepTo, hc, hfn, h20, h22]
      have hlb := hG.1.lt
      have hlr := hG.2.2.1
      have hal := alloc_ints w' 2 [0, x, y]
      exact hK _ _ ⟨hG.alloc _, ⟨Two.alloc _ _ _ _, .inl (Below.heap_alloc _ _ _ hlr)⟩, (fun h => by cases h), _, x, y, rfl, by omega, by omega, ⟨hx0, by omega⟩, ⟨hy0, hy1⟩, hal 0 0 rfl, hal 1 x rfl, hal 2 y rfl⟩
    | 8, ho =>
      cases ho
      intro ev w' hc hfn hb hG hd
      have h18 : ev (.tmp 18) = .pointer (some ⟨b, 0, none⟩) := hd { on := 2, ground := .data } (by simp) rfl _ rfl
      obtain ⟨g, x, y, h23, hgb, hgr, hx, hy, c0, c1, c2⟩ : LaidI b rb (ev (.tmp 23)) w' := hd { on := 7, ground := .data } (by simp) rfl _ rfl
      refine stepTo_gen fun K' hK => ?_
      simp [go_sem, stepTo, hc, hfn, h18, h23]
      refine (specPick_any B b g [0, x, y] 3 3 w' rfl (by omega) (by omega) hG.1 hgb (fun i z hz => ?_)).mono ?_
      · match i, hz with
        | 0, hz => cases hz; exact c0
        | 1, hz => cases hz; exact c1
        | 2, hz => cases hz; exact c2
      · rintro e w2 ⟨z, rfl, hz, hS, hg⟩
        have hz2 : 0 ≤ z ∧ z ≤ 49 := by simp at hz; omega
        exact ⟨_, rfl, hK _ _ ⟨hG.next hne hS hg, ⟨Two.grown hg, .inl (hg.block rb hG.2.2.1 (fun e => hne (Option.some.inj e)))⟩, (fun h => by cases h), ⟨z, rfl, hz2.1, hz2.2⟩⟩⟩
    | 9, ho =>
      cases ho
      intro ev w' hc hfn hb hG hd
      have h17 : ev (.tmp 17) = .int .i64 (100 + p) := hd { on := 1, ground := .data } (by simp) rfl _ rfl
      obtain ⟨z, h24, hz0, hz1⟩ : IntIn 0 49 (ev (.tmp 24)) := hd { on := 8, ground := .data } (by simp) rfl _ rfl
      have q3 : IntKind.i64.wrap (100 + p + z) = 100 + p + z := IntWalk.i64_in _ (by omega)
      refine stepTo_gen fun K' hK => ?_
      simp [go_sem, stepTo, hc, hfn, h17, h24, q3]
      exact hK _ _ ⟨hG, GR.same _, (fun h => by cases h), _, rfl, by omega, by omega⟩
    | 10, ho =>
      cases ho
      intro ev w' hc hfn hb hG hd
      have h3 : ev (.tmp 3) = .pointer (some ⟨rb, 0, none⟩) := hb 3 (by simp)
      refine stepTo_gen fun K' hK => ?_
      simp [go_sem, stepTo, hc, hfn, h3]
      exact hK _ _ ⟨hG, GR.same _, (fun h => by cases h), rfl⟩
    | 11, ho =>
      cases ho
      intro ev w' hc hfn hb hG hd
      obtain ⟨z, h25, hz0, hz1⟩ : IntIn (100 + p) (100 + p + 49) (ev (.tmp 25)) := hd { on := 9, ground := .data } (by simp) rfl _ rfl
      have h26 : ev (.tmp 26) = .pointer (some ⟨rb, 2, none⟩) := hd { on := 10, ground := .data } (by simp) rfl _ rfl
      obtain ⟨g1, g2, g3, f, hr, hf0, hf1⟩ := hG
      have c2 := hr.cell (show 2 < 3 by omega); have f2 := hr.frozen 2
      refine stepTo_gen fun K' hK => ?_
      simp [go_sem, stepTo, hc, hfn, h25, h26, c2, f2]
      have hr2 := hr.set 2 (.int .i64 z)
      have hT : Two b rb w' _ := (Two.refl b rb w').set (o := 2) (.int .i64 z)
      have hBr : B ≤ rb := by have := g1.base; omega
      exact hK _ _ ⟨⟨Src_set g1 (by omega) hBr _, g2.trans hT, Nat.lt_of_lt_of_le g3 hT.size, _, hr2, hf0, hf1⟩, ⟨hT, .inr ⟨z, hz0, hz1, hr2.cell (show 2 < 3 by omega)⟩⟩, fun _ => rfl, z, hz0, hz1, hr2.cell (show 2 < 3 by omega)⟩
    | n + 12, ho => simp at ho
  · intro a w' hb hs hdf hG hf
    obtain ⟨z, hz0, hz1, hc2⟩ : ∃ z, 100 + p ≤ z ∧ z ≤ 100 + p + 49 ∧ w'.cell? ⟨rb, 2, none⟩ = some (.int .i64 z) := hf 11 _ rfl
    have h2 := hb 2 (by simp)
    have h3 := hb 3 (by simp)
    obtain ⟨⟨ls⟩, dfs⟩ := a
    simp only at hdf
    subst hdf
    have hs : ls.length = 28 := by simpa using hs
    have h2' : (⟨ls⟩ : Array Value).getD 2 undef = .pointer (some ⟨rv, 0, none⟩) := h2
    have h3' : (⟨ls⟩ : Array Value).getD 3 undef = .pointer (some ⟨rb, 0, none⟩) := h3
    obtain ⟨g1, g2, g3, f, hr, hf0, hf1⟩ := hG
    have c0 := hr.cell (show 0 < 3 by omega); have c1 := hr.cell (show 1 < 3 by omega)
    rw [hf0] at c0; rw [hf1] at c1
    have hrv2 : w'.rowIs rv 32 3 _ := HR5.out.of_block (g2.block rv HR5.out.lt (by omega) (by omega))
    have d0 := hrv2.cell (show 0 < 3 by omega); have d1 := hrv2.cell (show 1 < 3 by omega); have d2 := hrv2.cell (show 2 < 3 by omega)
    have e0 := hrv2.frozen 0; have e1 := hrv2.frozen 1; have e2 := hrv2.frozen 2
    have HX := Lib.hid (show Src B 82 w' b ∧ w.grownBy w' (some b) from ⟨g1, by
      have h1 := HG5.out
      have hr := HRV.out
      exact ⟨g2.os.trans h1.os, g2.tape.trans h1.tape, g2.output.trans h1.output, Nat.le_trans h1.size g2.size, fun k hk hkb => (g2.block k (Nat.lt_of_lt_of_le hk h1.size) (fun e => hkb (by rw [e])) (by omega)).trans (h1.block k hk hkb)⟩⟩)
    have hBv : B ≤ rv := by have := g1.base; omega
    have hwv : w.heap.size ≤ rv := by rw [HRV.out]; exact Nat.le_refl _
    have HNB := Lib.hid (show rv ≠ b by omega)
    clear hf hb h2 h3 hr g1 g2 g3
    match ls, hs with
    | [x0, x1, x2, x3, x4, x5, x6, x7, x8, x9, x10, x11, x12, x13, x14, x15, x16, x17, x18, x19, x20, x21, x22, x23, x24, x25, x26, x27], _ =>
      have e2' : x2 = .pointer (some ⟨rv, 0, none⟩) := h2'
      have e3' : x3 = .pointer (some ⟨rb, 0, none⟩) := h3'
      subst e2' e3'
      clear h2' h3'
      go_wp2_with fail
      (try simp only [Exit.inBlock, Exit.then])
      refine bodyPost_ret (v := .agg #[.int .i64 nn, .int .i64 (100 + p), .int .i64 z]) ?_ rfl ⟨⟨nn, 100 + p, z⟩, rfl, ⟨⟨hn0, hn1⟩, ⟨by show 0 ≤ 100 + p; omega, by show 100 + p ≤ 30000; omega⟩, by show -1 ≤ z; omega, by show z ≤ 30000; omega⟩, Src_set (o := 2) (Src_set (o := 1) (Src_set (o := 0) HX.out.1 HNB.out.symm hBv (.int .i64 nn)) HNB.out.symm hBv (.int .i64 (100 + p))) HNB.out.symm hBv (.int .i64 z), grown_new (o := 2) (grown_new (o := 1) (grown_new (o := 0) HX.out.2 hwv (.int .i64 nn)) hwv (.int .i64 (100 + p))) hwv (.int .i64 z)⟩
      rw [Term.results1 rfl]
      go_simp
end Go.Proofs.Ytblbmmajobefiaa
