/- Contracts of the laws' own helpers on marks in slices of persons: markText, markPersonS, heldPersonS; a copy of persons that may be marked (toPersonS). -/
import Derived.Test.YtdeiillfdjebdaaChecked
import Derived.Test.YtdeiillfdjebdaaBase
import Derived.Test.YtdeiillfdjebdaaPure4
import Derived.Test.YtdeiillfdjebdaaPure40
import Derived.Test.YtdeiillfdjebdaaPersLaw
import Derived.Test.YtdeiillfdjebdaaPersSlice
import Derived.WalkKit
import Derived.WalkSpells
import Derived.WalkLawsBesides
import Derived.Lib.Hide
import Derived.Lib.QuietBelow
import Derived.IntWalk
import Derived.Deep.OwnRows
import Derived.Deep.QuietTactic
import Derived.BigQuiet
import Derived.Outline
namespace Go.Proofs.Ytdeiillfdjebdaa
open Go.RowKit Go.Sort Pure1 Pure3 Pure4 Pure40

set_option maxRecDepth 100000 in
set_option maxHeartbeats 400000 in
theorem markText_any (k : Int) (w : World) (h0 : 0 < k) (h1 : k ≤ 1000000000000) :
    Calls Try.prog 77 #[.int .i64 k] w (SaysT (mk k) w) := by
  have hcv := run_string_one (P := Try.prog) 22 9 5 Try.underlying22 Try.underlying5 Try.underlying9
  go_enter Try.func77, Try.ntmps77
  go_wp2
  go_loopw [0, 3] (fun kk out wr => ∃ (c : Int) (o : ByteArray), kk = .int .i64 c ∧ out = .string o ∧ 0 ≤ c ∧ c ≤ k ∧ MkMid k c o ∧ Below w.heap.size w wr) (fun kk _ _ => (intOf kk).toNat)
  case atStart => exact ⟨k, ⟨#[]⟩, rfl, rfl, by omega, by omega, MkMid.start k h0, Below.refl _ _⟩
  case round =>
    obtain ⟨c, o, rfl, rfl, hc0, hck, hm, hB⟩ := hrel
    have HM := Lib.hid hm; have HB := Lib.hid hB
    have ho : o.size ≤ 21 := hm.size (by omega) (by omega)
    clear hm hB
    by_cases hc : 0 < c
    · have HN := Lib.hid (HM.out.step hc)
      have hs1 : (dig1 (c % 10)).size = 1 := rfl
      have hm0 : 0 ≤ c % 10 := by omega
      have hm1 : c % 10 < 10 := by omega
      go_wp2
      go_roundw
      case rel => exact ⟨c / 10, dig1 (c % 10) ++ o, rfl, rfl, by omega, by omega, HN.out, HB.out.alloc HB.out.size _⟩
      case measure => simp [intOf]; omega
    · have hz : c = 0 := by omega
      have HF := Lib.hid (show (⟨#[109]⟩ : ByteArray) ++ o = mk k by have := HM.out; rw [hz] at this; exact this.fin)
      have hc' : c ≤ 0 := by omega
      clear hz hc
      go_wp2
      go_ret
      exact ⟨ret_str HF.out, HB.out⟩

/-- the first n persons that g tells lie in the cells f -/
def QRow (f : Nat → Value) (g : Nat → Pers) (n : Nat) : Prop :=
  ∀ i, i < n → f (i * 5) = .int .i64 (g i).num ∧ f (i * 5 + 1) = .string (g i).fst ∧ f (i * 5 + 2) = .string (g i).lst ∧ f (i * 5 + 3) = .int .i64 (g i).born ∧ f (i * 5 + 4) = .int .i64 (g i).zone
theorem QRow.step {f : Nat → Value} {g : Nat → Pers} {k : Nat} (h : QRow f g k) :
    QRow (fun j => if j = k * 5 + 4 then .int .i64 (g k).zone else if j = k * 5 + 3 then .int .i64 (g k).born else if j = k * 5 + 2 then .string (g k).lst else if j = k * 5 + 1 then .string (g k).fst else if j = k * 5 then .int .i64 (g k).num else f j) g (k + 1) := by
  intro i hi
  by_cases e : i = k
  · subst e
    simp
  · have hi' : i < k := by omega
    obtain ⟨h0, h1, h2, h3, h4⟩ := h i hi'
    refine ⟨?_, ?_, ?_, ?_, ?_⟩ <;> simp only <;> (repeat rw [if_neg (by omega)]) <;> assumption
/-- a slice of persons in a row of the call's own (from block B on): its first len persons are given by g -/
def OwnQ (B : Nat) (w : World) (a : Option Addr) (len : Nat) (g : Nat → Pers) : Prop :=
  len = 0 ∨ ∃ b f N, a = some ⟨b, 0, none⟩ ∧ B ≤ b ∧ len * 5 ≤ N ∧ w.rowIs b 51 N f ∧ QRow f g len
theorem OwnQ.below {B : Nat} {w w' : World} {a : Option Addr} {len : Nat} {g : Nat → Pers} (h : OwnQ B w a len g) (hb : Below w.heap.size w w') : OwnQ B w' a len g := by
  rcases h with h | ⟨b, f, N, rfl, hB, hN, hr, hf⟩
  · exact .inl h
  · exact .inr ⟨b, f, N, rfl, hB, hN, hr.of_block (hb.block b hr.lt), hf⟩
theorem OwnQ.at {B : Nat} {w : World} {a : Option Addr} {len : Nat} {g : Nat → Pers} (h : OwnQ B w a len g) {n : Nat} (hn : n < len) : ∃ b, a = some ⟨b, 0, none⟩ ∧ b < w.heap.size ∧
    w.cell? ⟨b, n * 5, none⟩ = some (.int .i64 (g n).num) ∧ w.cell? ⟨b, n * 5 + 1, none⟩ = some (.string (g n).fst) ∧ w.cell? ⟨b, n * 5 + 2, none⟩ = some (.string (g n).lst) ∧ w.cell? ⟨b, n * 5 + 3, none⟩ = some (.int .i64 (g n).born) ∧ w.cell? ⟨b, n * 5 + 4, none⟩ = some (.int .i64 (g n).zone) := by
  rcases h with h | ⟨b, f, N, rfl, hB, hN, hr, hf⟩
  · omega
  · obtain ⟨h0, h1, h2, h3, h4⟩ := hf n hn
    exact ⟨b, rfl, hr.lt, by rw [hr.cell (by omega), h0], by rw [hr.cell (by omega), h1], by rw [hr.cell (by omega), h2], by rw [hr.cell (by omega), h3], by rw [hr.cell (by omega), h4]⟩
def noPers : Pers := ⟨0, ByteArray.empty, ByteArray.empty, 0, 0⟩
/-- persons by their places -/
def persAt (ps : List Pers) (i : Nat) : Pers := (ps[i]?).getD noPers
theorem persAt_eq {ps : List Pers} {i : Nat} {p : Pers} (h : ps[i]? = some p) : persAt ps i = p := by simp [persAt, h]
theorem ownQ_reads {B : Nat} {w : World} {a : Option Addr} {ps : List Pers} (h : OwnQ B w a ps.length (persAt ps)) : PersAt w a ps := by
  rcases h with h | ⟨b, f, N, rfl, hb, hN, hr, hf⟩
  · exact .inl (List.length_eq_zero_iff.1 h)
  · refine .inr ⟨b, 0, rfl, fun i p hp => ?_⟩
    have hi := (List.getElem?_eq_some_iff.1 hp).1
    obtain ⟨h0, h1, h2, h3, h4⟩ := hf i hi
    rw [persAt_eq hp] at h0 h1 h2 h3 h4
    rw [Nat.zero_add]
    exact ⟨by rw [hr.cell (by omega), h0], by rw [hr.cell (by omega), h1], by rw [hr.cell (by omega), h2], by rw [hr.cell (by omega), h3], by rw [hr.cell (by omega), h4]⟩

/-- a copy that may be written -/
def IsCopyQ (w : World) (len : Nat) (ps : List Pers) (e : Ending) (w' : World) : Prop :=
  ∃ b, e = .returned (.slice (some ⟨b, 0, none⟩) len len) ∧ b < w'.heap.size ∧ OwnQ w.heap.size w' (some ⟨b, 0, none⟩) len (persAt ps) ∧ PersAt w' (some ⟨b, 0, none⟩) ps ∧ Below w.heap.size w w'
theorem copiedQ {w wr : World} {len : Nat} {f : Nat → Value} {ps : List Pers} (hr : wr.rowIs w.heap.size 51 (len * 5) f) (hl : ps.length = len) (hf : PRow f ps len)
    (hB : Below w.heap.size w wr) : IsCopyQ w len ps (.returned (.slice (some ⟨w.heap.size, 0, none⟩) len len)) wr := by
  have hO : OwnQ w.heap.size wr (some ⟨w.heap.size, 0, none⟩) len (persAt ps) := by
    refine .inr ⟨_, f, _, rfl, Nat.le_refl _, Nat.le_refl _, hr, fun i hi => ?_⟩
    have hp : ps[i]? = some (ps[i]'(by omega)) := List.getElem?_eq_getElem (by omega)
    rw [persAt_eq hp]
    exact hf i _ hi hp
  refine ⟨_, rfl, hr.lt, hO, ?_, hB⟩
  subst hl
  exact ownQ_reads hO

set_option maxRecDepth 100000 in
set_option maxHeartbeats 2000000 in
theorem toPersonQ_any (a : Option Addr) (len cap : Nat) (ps : List Pers) (w : World) (hl : ps.length = len) (hm : len ≤ 1048576) (h : PersAt w a ps) :
    Calls Try.prog 40 #[.slice a len cap] w (IsCopyQ w len ps) := by
  have HL := Lib.hid hl; clear hl
  have HI := Lib.hid h; clear h
  have hmk := run_make_pers len hm
  go_enter Try.func40, Try.ntmps40
  go_wp2
  go_loopw [4] (fun i wr => ∃ k : Nat, k ≤ len ∧ i = .int .i64 k ∧ Below w.heap.size w wr ∧ ∃ f, wr.rowIs w.heap.size 51 (len * 5) f ∧ PRow f ps k) (fun i _ => len - (intOf i).toNat)
  case atStart => exact ⟨0, Nat.zero_le _, rfl, (Below.refl _ _).alloc (Nat.le_refl _) _, _, made_row _ _ _ _, fun i x hi => by omega⟩
  case round =>
    obtain ⟨k, hk, rfl, hB, f, hr, hf⟩ := hrel
    have HB := Lib.hid hB; have HR := Lib.hid hr; have HF := Lib.hid hf; clear hB hr hf hmk
    by_cases hlt : k < len
    · obtain ⟨b, off, p, ha, hc, hp⟩ := (HI.out.below HB.out).at HL.out hlt
      obtain ⟨c0, c1, c2, c3, c4⟩ := hc
      have HP := Lib.hid hp; clear hp
      subst ha
      have HT := Lib.hid (toPerson_any p.num p.fst p.lst p.born p.zone wr)
      go_wp2_with fail
      refine HT.out.mono ?_; rintro e w2 ⟨rfl, hB⟩
      have hR2 : w2.rowIs w.heap.size 51 (len * 5) f := by
        obtain ⟨cs, h1, h2⟩ := HR.out
        exact ⟨cs, by rw [hB.block _ (Array.getElem?_eq_some_iff.1 h1).1]; exact h1, h2⟩
      have HR2 := Lib.hid hR2; have HB2 := Lib.hid (HB.out.trans (hB.mono HB.out.size))
      have q0 := hR2.cell (show k * 5 < len * 5 by omega); have q1 := hR2.cell (show k * 5 + 1 < len * 5 by omega); have q2 := hR2.cell (show k * 5 + 2 < len * 5 by omega); have q3 := hR2.cell (show k * 5 + 3 < len * 5 by omega); have q4 := hR2.cell (show k * 5 + 4 < len * 5 by omega)
      have r0 := hR2.frozen (k * 5); have r1 := hR2.frozen (k * 5 + 1); have r2 := hR2.frozen (k * 5 + 2); have r3 := hR2.frozen (k * 5 + 3); have r4 := hR2.frozen (k * 5 + 4)
      clear hB c0 c1 c2 c3 c4 hR2
      go_wp2_with fail
      go_roundw
      case rel => exact ⟨k + 1, by omega, by go_num, ((((HB2.out.setCell (Nat.le_refl _) _).setCell (Nat.le_refl _) _).setCell (Nat.le_refl _) _).setCell (Nat.le_refl _) _).setCell (Nat.le_refl _) _, _, ((((HR2.out.set _ _).set _ _).set _ _).set _ _).set _ _, HF.out.step HP.out⟩
      case measure => simp [intOf]; omega
    · go_wp2
      go_ret
      exact copiedQ HR.out HL.out (fun i x hi hx => HF.out i x (by omega) hx) HB.out

/-- the marked persons -/
def mkP (k : Int) (i : Nat) : Pers := ⟨k + 5 * i, mk (k + 5 * i + 1), mk (k + 5 * i + 1 + 1), k + 5 * i + 1 + 1 + 1, k + 5 * i + 1 + 1 + 1 + 1⟩
/-- no block but that of the row has turned -/
def TurnsOnly (a : Option Addr) (w w' : World) : Prop := ∃ row, w.grownBy w' row ∧ ∀ k, row = some k → ∀ x, a = some x → k = x.block
theorem turns_refl (a : Option Addr) (w : World) : TurnsOnly a w w := ⟨none, ⟨rfl, rfl, rfl, Nat.le_refl _, fun _ _ _ => rfl⟩, fun k h => by cases h⟩
theorem grown_step {w1 w2 w3 : World} {r : Option Nat} (h : w1.grownBy w2 r) (h' : w2.grownBy w3 r) : w1.grownBy w3 r :=
  ⟨h'.os.trans h.os, h'.tape.trans h.tape, h'.output.trans h.output, Nat.le_trans h.size h'.size, fun k hk hne => (h'.block k (Nat.lt_of_lt_of_le hk h.size) hne).trans (h.block k hk hne)⟩
theorem grown_of_below {w w' : World} {r : Option Nat} (h : Below w.heap.size w w') : w.grownBy w' r := ⟨h.os, h.tape, h.output, h.size, fun k hk _ => h.block k hk⟩
theorem grown_store {w : World} {b : Nat} (k : Nat) (v : Value) : w.grownBy (w.setCell ⟨b, k, none⟩ v) (some b) :=
  ⟨rfl, rfl, rfl, by simp, fun j _ hne => Below.heap_setCell w ⟨b, k, none⟩ v j (fun e => hne (by rw [e]))⟩
def MarkedP (B : Nat) (a : Option Addr) (len : Nat) (k : Int) (w : World) (e : Ending) (w' : World) : Prop :=
  e = .returned (.int .i64 (k + 5 * len)) ∧ OwnQ B w' a len (mkP k) ∧ Below B w w' ∧ TurnsOnly a w w'

set_option maxRecDepth 100000 in
set_option maxHeartbeats 2000000 in
theorem markPersonS_any (B : Nat) (a : Option Addr) (len cap : Nat) (g : Nat → Pers) (k : Int) (w : World) (hB : B ≤ w.heap.size) (hl : len ≤ 10000000) (h0 : 0 < k) (h1 : k ≤ 1000000000) (h : OwnQ B w a len g) :
    Calls Try.prog 43 #[.slice a len cap, .int .i64 k] w (MarkedP B a len k w) := by
  rcases h with rfl | ⟨b, f, N, rfl, hb, hN, hr, hf⟩
  · go_enter Try.func43, Try.ntmps43
    go_wp2
    go_loopw [1, 5] (fun kk i wr => i = .int .i64 0 ∧ kk = .int .i64 k ∧ wr = w) (fun _ _ _ => 0)
    case atStart => exact ⟨rfl, rfl, rfl⟩
    case round =>
      obtain ⟨rfl, rfl, rfl⟩ := hrel
      go_wp2
      go_ret
      exact ⟨ret_i64 (by simp), .inl rfl, Below.refl _ _, turns_refl _ _⟩
  · have HR := Lib.hid hr; clear hr hf
    go_enter Try.func43, Try.ntmps43
    go_wp2
    go_loopw [1, 5] (fun kk i wr => ∃ n : Nat, n ≤ len ∧ i = .int .i64 n ∧ kk = .int .i64 (k + 5 * n) ∧ w.grownBy wr (some b) ∧ Below B w wr ∧ ∃ f, wr.rowIs b 51 N f ∧ QRow f (mkP k) n) (fun _ i _ => len - (intOf i).toNat)
    case atStart => exact ⟨0, Nat.zero_le _, rfl, by simp, ⟨rfl, rfl, rfl, Nat.le_refl _, fun _ _ _ => rfl⟩, Below.refl _ _, _, HR.out, fun i hi => by omega⟩
    case round =>
      obtain ⟨n, hn, rfl, rfl, hgr, hW, f, hr, hf⟩ := hrel
      have hsz := hgr.size
      have HG := Lib.hid hgr; clear hgr
      have HW := Lib.hid hW; have HR := Lib.hid hr; have HF := Lib.hid hf; clear hW hr hf
      by_cases hlt : n < len
      · have hN5 : n * 5 + 4 < N := by omega
        have c0 := HR.out.cell (show n * 5 < N by omega)
        have f0 := HR.out.frozen (n * 5)
        have HC1 := Lib.hid (fun W => markText_any (k + 5 * n + 1) W (by omega) (by omega))
        have HC2 := Lib.hid (fun W => markText_any (k + 5 * n + 1 + 1) W (by omega) (by omega))
        have HR0 := Lib.hid (HR.out.set (n * 5) (.int .i64 (k + 5 * n)))
        have HW0 := Lib.hid (HW.out.setCell (show B ≤ (⟨b, n * 5, none⟩ : Addr).block from hb) (.int .i64 (k + 5 * n)))
        have hsz0 : w.heap.size ≤ (wr.setCell ⟨b, n * 5, none⟩ (.int .i64 (k + 5 * n))).heap.size := by simpa using hsz
        have HG0 := Lib.hid (grown_step HG.out (grown_store (w := wr) (b := b) (n * 5) (.int .i64 (k + 5 * n))))
        go_wp2_with fail
        clear c0 f0
        generalize wr.setCell ⟨b, n * 5, none⟩ (.int .i64 (k + 5 * n)) = wq at HR0 HW0 HG0 hsz0 ⊢
        refine (HC1.out _).mono ?_; rintro e w1 ⟨rfl, hB1⟩
        have HR1 := Lib.hid (HR0.out.of_block (hB1.block b HR0.out.lt))
        have hsz1 : w.heap.size ≤ w1.heap.size := Nat.le_trans hsz0 hB1.size
        have HW1 := Lib.hid (HW0.out.trans (hB1.mono (Nat.le_trans hB hsz0))); have HG1 := Lib.hid (grown_step HG0.out (grown_of_below hB1)); clear hB1
        have c1 := HR1.out.cell (show n * 5 + 1 < N by omega)
        have f1 := HR1.out.frozen (n * 5 + 1)
        have HR2 := Lib.hid (HR1.out.set (n * 5 + 1) (.string (mk (k + 5 * n + 1))))
        have HW2 := Lib.hid (HW1.out.setCell (show B ≤ (⟨b, n * 5 + 1, none⟩ : Addr).block from hb) (.string (mk (k + 5 * n + 1))))
        have hsz2 : w.heap.size ≤ (w1.setCell ⟨b, n * 5 + 1, none⟩ (.string (mk (k + 5 * n + 1)))).heap.size := by simpa using hsz1
        have HG2 := Lib.hid (grown_step HG1.out (grown_store (w := w1) (b := b) (n * 5 + 1) (.string (mk (k + 5 * n + 1)))))
        go_wp2_with fail
        clear c1 f1
        generalize w1.setCell ⟨b, n * 5 + 1, none⟩ (.string (mk (k + 5 * n + 1))) = wq2 at HR2 HW2 HG2 hsz2 ⊢
        refine (HC2.out _).mono ?_; rintro e w3 ⟨rfl, hB3⟩
        have HR3 := Lib.hid (HR2.out.of_block (hB3.block b HR2.out.lt))
        have hsz3 : w.heap.size ≤ w3.heap.size := Nat.le_trans hsz2 hB3.size
        have HW3 := Lib.hid (HW2.out.trans (hB3.mono (Nat.le_trans hB hsz2))); have HG3 := Lib.hid (grown_step HG2.out (grown_of_below hB3)); clear hB3
        have c2 := HR3.out.cell (show n * 5 + 2 < N by omega)
        have c3 := HR3.out.cell (show n * 5 + 3 < N by omega)
        have c4 := HR3.out.cell (show n * 5 + 4 < N by omega)
        have f2 := HR3.out.frozen (n * 5 + 2)
        have f3 := HR3.out.frozen (n * 5 + 3)
        have f4 := HR3.out.frozen (n * 5 + 4)
        go_wp2_with fail
        go_roundw
        case rel => exact ⟨n + 1, by omega, by go_num, by congr 1; omega, grown_step (grown_step (grown_step HG3.out (grown_store _ _)) (grown_store _ _)) (grown_store _ _), ((HW3.out.setCell hb _).setCell hb _).setCell hb _, _, ((HR3.out.set _ _).set _ _).set _ _, HF.out.step⟩
        case measure => simp [intOf]; omega
      · have HN := Lib.hid (show n = len by omega)
        go_wp2
        go_ret
        exact ⟨ret_i64 (by rw [HN.out]), .inr ⟨b, f, N, rfl, hb, hN, HR.out, fun i hi => HF.out i (by rw [HN.out]; exact hi)⟩, HW.out, some b, HG.out, fun k hk x hx => by cases hk; cases hx; rfl⟩

def SaysI (n : Int) (w : World) (e : Ending) (w' : World) : Prop := e = .returned (.int .i64 n) ∧ Below w.heap.size w w'

set_option maxRecDepth 100000 in
set_option maxHeartbeats 4000000 in
theorem heldPersonS_any (B : Nat) (a : Option Addr) (len cap : Nat) (k : Int) (w : World) (hl : len ≤ 10000000) (h0 : 0 < k) (h1 : k ≤ 1000000000) (h : OwnQ B w a len (mkP k)) :
    Calls Try.prog 46 #[.slice a len cap, .int .i64 k] w (SaysI (k + 5 * len) w) := by
  have HO := Lib.hid h; clear h
  go_enter Try.func46, Try.ntmps46
  go_wp2
  go_loopw [1, 5] (fun kk i wr => ∃ n : Nat, n ≤ len ∧ i = .int .i64 n ∧ kk = .int .i64 (k + 5 * n) ∧ Below w.heap.size w wr) (fun _ i _ => len - (intOf i).toNat)
  case atStart => exact ⟨0, Nat.zero_le _, rfl, by simp, Below.refl _ _⟩
  case round =>
    obtain ⟨n, hn, rfl, rfl, hW⟩ := hrel
    have HW := Lib.hid hW; clear hW
    by_cases hlt : n < len
    · obtain ⟨b, ha, hbw, c0, c1, c2, c3, c4⟩ := (HO.out.below HW.out).at hlt
      simp only [mkP] at c0 c1 c2 c3 c4
      have hs1 := mk_size (k := k + 5 * n + 1) (by omega) (by omega)
      have hs2 := mk_size (k := k + 5 * n + 1 + 1) (by omega) (by omega)
      subst ha
      have HC := Lib.hid (And.intro c1 (And.intro c2 (And.intro c3 c4)))
      clear c1 c2 c3 c4
      go_wp2_with fail
      obtain ⟨c1, c2, c3, c4⟩ := HC.out
      have k1 := cell_regrown c1
      have hcall1 := regr_call (w := wr) (fun W _ => show Calls Try.prog 77 #[.int .i64 (k + 5 * n + 1)] W _ from markText_any (k + 5 * n + 1) W (by omega) (by omega))
      clear c0 c1 c2 c3 c4
      refine wp_region_quiet_below (by kernel_rfl) (by kernel_rfl) ?_
      iterate 8 (go_big_quiet_step (exact hcall1 _ _))
      refine wpQuiet_nil ?_
      intro _ hw'
      obtain ⟨⟨dq, osq⟩, hw''⟩ := hw'
      subst hw''
      have hB5 := below_regrown wr dq osq
      have HB5 := Lib.hid (HW.out.trans (hB5.mono HW.out.size))
      have HC5 := Lib.hid (And.intro (cell_later hB5 HC.out.2.1) (And.intro (cell_later hB5 HC.out.2.2.1) (cell_later hB5 HC.out.2.2.2)))
      clear hcall1 k1 hB5 HC
      generalize grow (redrawn wr dq) osq = w5 at HB5 HC5 ⊢
      go_wp2_with fail
      obtain ⟨c2, c3, c4⟩ := HC5.out
      have k2 := cell_regrown c2
      have hcall2 := regr_call (w := w5) (fun W _ => show Calls Try.prog 77 #[.int .i64 (k + 5 * n + 1 + 1)] W _ from markText_any (k + 5 * n + 1 + 1) W (by omega) (by omega))
      clear c2 c3 c4
      refine wp_region_quiet_below (by kernel_rfl) (by kernel_rfl) ?_
      iterate 8 (go_big_quiet_step (exact hcall2 _ _))
      refine wpQuiet_nil ?_
      intro _ hw'
      obtain ⟨⟨dq, osq⟩, hw''⟩ := hw'
      subst hw''
      have hB6 := below_regrown w5 dq osq
      have HB6 := Lib.hid (HB5.out.trans (hB6.mono HB5.out.size))
      have c3 := cell_later hB6 HC5.out.2.1
      have c4 := cell_later hB6 HC5.out.2.2
      clear hcall2 k2 hB6 HC5
      generalize grow (redrawn w5 dq) osq = w6 at HB6 c3 c4 ⊢
      go_wp2_with fail
      go_roundw
      case rel => exact ⟨n + 1, by omega, by go_num, by congr 1; omega, HB6.out⟩
      case measure => simp [intOf]; omega
    · have HN := Lib.hid (show n = len by omega)
      go_wp2
      go_ret
      exact ⟨ret_i64 (by rw [HN.out]), HW.out⟩

end Go.Proofs.Ytdeiillfdjebdaa
