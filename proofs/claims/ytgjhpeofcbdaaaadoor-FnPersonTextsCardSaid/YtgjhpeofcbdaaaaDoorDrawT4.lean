/- Contracts: spec.DrawPersonText and spec.DrawReadPerson draw a person and a text of a person. -/
import Derived.Test.YtgjhpeofcbdaaaaDoorChecked
import Derived.Test.YtgjhpeofcbdaaaaDoorBase
import Derived.Test.YtgjhpeofcbdaaaaDoorPure40
import Derived.Test.YtgjhpeofcbdaaaaDoorPure42
import Derived.Test.YtgjhpeofcbdaaaaDoorPure43
import Derived.Test.YtgjhpeofcbdaaaaDoorPure6
import Derived.Test.YtgjhpeofcbdaaaaDoorFrom
import Derived.Test.YtgjhpeofcbdaaaaDoorPersLaw
import Derived.Test.YtgjhpeofcbdaaaaDoorGood4
import Derived.Test.YtgjhpeofcbdaaaaDoorDraw4
import Derived.Test.YtgjhpeofcbdaaaaDoorText4
import Derived.Test.YtgjhpeofcbdaaaaDoorDamage
import Derived.WalkKit
import Derived.WalkSpells
import Derived.WalkLawsBesides
import Derived.Lib.Hide
import Derived.IntWalk
import Derived.Laws.StructEq
import Derived.Test.YtgjhpeofcbdaaaaDoorIsPers
import Derived.Outline
namespace Go.Proofs.YtgjhpeofcbdaaaaDoor
open Go.RowKit Pure2 Pure3 Pure4 Pure6 Pure40 Pure42

/-- a person with short names and small numbers is drawn -/
def DrewP (w : World) (e : Ending) (w' : World) : Prop := ∃ p : Pers, e = .returned (.agg #[.int .i64 p.num, .string p.fst, .string p.lst, .int .i64 p.born, .int .i64 p.zone]) ∧ Small p ∧ Below w.heap.size w w'

set_option maxRecDepth 100000 in
set_option maxHeartbeats 2000000 in
theorem specDrawPersonText_any (a : Option Addr) (len cap : Nat) (bs : List Int) (w : World) (hl : bs.length = len) (hm : len ≤ 4096) (h : BytesAt w.heap.size w a bs) :
    Calls Tryd.prog 7 #[.slice a len cap] w (DrewP w) := by
  have hBx := boxed w (.cells #[.int .i64 0, .string ⟨#[]⟩, .string ⟨#[]⟩, .int .i64 0, .int .i64 0] 25)
  have HF := Lib.hid (specFrom_any a len cap bs _ hl hm (h.later hBx)); clear h hl
  have HR0 := Lib.hid (row_box w ⟨0, ⟨#[]⟩, ⟨#[]⟩, 0, 0⟩ 25)
  have HB0 := Lib.hid hBx; clear hBx
  go_enter Tryd.func7, Tryd.ntmps7
  go_wp2_with fail
  refine HF.out.mono ?_; rintro e w1 ⟨b, rfl, hS, hB⟩
  have hbB := hS.base
  have HR1 := Lib.hid (HR0.out.of_block (hB.block _ HR0.out.lt))
  have HB1 := Lib.hid (HB0.out.trans (hB.mono HB0.out.size)); have HS1 := Lib.hid hS; clear hS hB
  go_wp2_with fail
  refine (specDraw4_any _ b w1 HS1.out).mono ?_; rintro e w2 ⟨p, rfl, hp, hS, hg⟩
  have hsz : w.heap.size < b := by have := HR0.out.lt; omega
  have HR2 := Lib.hid (row_grown HR1.out hg (by omega))
  have HB2 := Lib.hid (HB1.out.trans (grown_below hg (by omega) HB1.out.size)); have HP := Lib.hid hp; clear hg hS hp
  have d0 := HR2.out.cell (show 0 < 5 by omega); have d1 := HR2.out.cell (show 1 < 5 by omega); have d2 := HR2.out.cell (show 2 < 5 by omega); have d3 := HR2.out.cell (show 3 < 5 by omega); have d4 := HR2.out.cell (show 4 < 5 by omega)
  have e0 := HR2.out.frozen 0; have e1 := HR2.out.frozen 1; have e2 := HR2.out.frozen 2; have e3 := HR2.out.frozen 3; have e4 := HR2.out.frozen 4
  go_wp2_with fail
  (try simp only [Exit.inBlock, Exit.then])
  refine bodyPost_ret (v := .agg #[.int .i64 p.num, .string p.fst, .string p.lst, .int .i64 p.born, .int .i64 p.zone]) ?_ rfl ⟨p, rfl, HP.out, ((((HB2.out.setCell (p := ⟨w.heap.size, 0, none⟩) (Nat.le_refl _) _).setCell (p := ⟨w.heap.size, 1, none⟩) (Nat.le_refl _) _).setCell (p := ⟨w.heap.size, 2, none⟩) (Nat.le_refl _) _).setCell (p := ⟨w.heap.size, 3, none⟩) (Nat.le_refl _) _).setCell (p := ⟨w.heap.size, 4, none⟩) (Nat.le_refl _) _⟩
  rw [results_cell1 rfl]
  go_simp

theorem textP_size {p : Pers} (h : Small0 p) : (textP p).size ≤ 200 := by
  obtain ⟨⟨hf, hl, ⟨_, n1⟩, ⟨_, b1⟩, _, z1⟩, n0, b0, z0⟩ := h
  have hsn := decB_size (n := p.num) (by omega) (by omega)
  have hsb := decB_size (n := p.born) (by omega) (by omega)
  have hsz := decB_size (n := p.zone) (by omega) (by omega)
  have hs : slash.size = 1 := rfl
  simp only [textP, ByteArray.size_append]
  omega

theorem small0_of {p : Pers} (h : isPers p = true) : Small0 p := by
  obtain ⟨h0, h1, h2, h3, h4⟩ := Pure41.isPers_parts h
  exact ⟨⟨by omega, by omega, by omega, by omega, by omega⟩, by omega, by omega, by omega⟩

/-- what is known of a person and of his text -/
theorem text_there (p : Pers) (hp : Small p) : ∃ t c ok, textOfP p = (t, c) ∧ isPers p = ok ∧ ((c = 0 ∧ ok = true ∧ t.size ≤ 1048576 ∧ readR t = (p, 0)) ∨ (c = 1 ∧ ok = false)) := by
  cases h : isPers p
  · exact ⟨⟨#[]⟩, 1, false, by simp [textOfP, h], rfl, .inr ⟨rfl, rfl⟩⟩
  · exact ⟨textP p, 0, true, by simp [textOfP, h], rfl, .inl ⟨rfl, rfl, Nat.le_trans (textP_size (small0_of h)) (by omega), read_text h⟩⟩
/-- what is known of a text and of the person read from it -/
theorem text_back (s : ByteArray) : ∃ y c, readR s = (y, c) ∧ y.fits ∧ ((c = 0 ∧ textOfP y = (s, 0)) ∨ c = 6) := by
  rcases readR_cases s with ⟨p, hp, _, he⟩ | he
  · exact ⟨p, 0, he, by obtain ⟨⟨h1, h2, _⟩, _⟩ := small0_of hp; unfold Pers.fits maxLen; omega, .inl ⟨rfl, text_read he⟩⟩
  · exact ⟨zeroP, 6, he, by unfold Pers.fits maxLen; exact ⟨by decide, by decide⟩, .inr rfl⟩

theorem persNeq (T : TypeId) (hT : T = 25) (n : Int) (f l : ByteArray) (b z : Int) (w : World) :
    (binOp .neq T (.agg #[.int .i64 n, .string f, .string l, .int .i64 b, .int .i64 z]) (.agg #[.int .i64 n, .string f, .string l, .int .i64 b, .int .i64 z])).run Tryd.prog w = .ok (.bool false) w := by
  subst hT
  have hS : Tryd.prog.underlying 25 = some (.struct (Tryd.prog.fieldsOf 25)) := by kernel_rfl
  have hp : Tryd.prog.stoodInHeld 25 = false := by kernel_rfl
  rw [Go.run_neq_struct, show (10000 : Nat) = 9999 + 1 from rfl, Go.run_equalIn_agg w 9999 25 _ _ hS hp]
  simp only [Program.fieldsOf, Tryd.underlying25]
  go_simp

set_option maxRecDepth 100000 in
set_option maxHeartbeats 2000000 in
theorem specDrawReadPerson_any (a : Option Addr) (len cap : Nat) (bs : List Int) (w : World) (hl : bs.length = len) (hm : len ≤ 4096) (h : BytesAt w.heap.size w a bs) :
    Calls Tryd.prog 10 #[.slice a len cap] w (DrewS 1000 w) := by
  have HF := Lib.hid (specFrom_any a len cap bs w hl hm h); clear h hl
  go_enter Tryd.func10, Tryd.ntmps10
  go_wp2_with fail
  refine HF.out.mono ?_; rintro e w1 ⟨b, rfl, hS, hB⟩
  have HB := Lib.hid hB; have HS := Lib.hid hS; have hbB := hS.base; clear hS hB
  go_wp2_with fail
  refine (specGood4_any _ b w1 HS.out).mono ?_; rintro e w2 ⟨p, rfl, hp, hS, hg⟩
  have hts := textP_size hp
  have hT : Told p := by obtain ⟨⟨hf, hl, ⟨_, n1⟩, ⟨_, b1⟩, _, z1⟩, n0, b0, z0⟩ := hp; exact ⟨by omega, by omega, by omega, by omega, by omega⟩
  have HT := Lib.hid (show ∀ W, Calls Tryd.prog 22 #[.agg #[.int .i64 p.num, .string p.fst, .string p.lst, .int .i64 p.born, .int .i64 p.zone]] W (SaysT (textP p) W) from fun W => specText4_any p.num p.fst p.lst p.born p.zone W hT)
  have HS2 := Lib.hid hS; have HB2 := Lib.hid (HB.out.trans (grown_below hg hbB HB.out.size)); clear hS hg hp hT
  generalize textP p = t at hts HT ⊢
  go_wp2_with fail
  refine (HT.out w2).mono ?_; rintro e w3 ⟨rfl, hB3⟩
  have HS3 := Lib.hid (src_calls HS2.out hB3); have HB3 := Lib.hid (HB2.out.trans (hB3.mono HB2.out.size)); clear hB3
  go_wp2_with fail
  refine (specNext_any w.heap.size b 3 w3 (by omega) HS3.out).mono ?_; rintro e w4 ⟨x4, rfl, hx4, _, hS4, hg4⟩
  have HS4 := Lib.hid hS4; have HB4 := Lib.hid (HB3.out.trans (grown_below hg4 hbB HB3.out.size)); clear hS4 hg4 hx4
  by_cases h0 : x4 = 0
  · have e0 : (x4 == 0) = true := beq_iff_eq.2 h0
    clear h0
    go_wp2_with fail
    refine (specDamage_any w.heap.size b t w4 (by omega) HS4.out).mono ?_; rintro e w5 ⟨s, rfl, hs, _, hg5⟩
    have HZ := Lib.hid (show s.size ≤ 1000 by omega)
    have HB5 := Lib.hid (HB4.out.trans (grown_below hg5 hbB HB4.out.size)); clear hg5 hs
    go_wp2_with fail
    go_ret
    exact ⟨s, rfl, HZ.out, HB5.out⟩
  · have e0 : (x4 == 0) = false := beq_eq_false_iff_ne.2 h0
    have HZ := Lib.hid (show t.size ≤ 1000 by omega)
    clear h0
    go_wp2_with fail
    go_ret
    exact ⟨t, rfl, HZ.out, HB4.out⟩

end Go.Proofs.YtgjhpeofcbdaaaaDoor
