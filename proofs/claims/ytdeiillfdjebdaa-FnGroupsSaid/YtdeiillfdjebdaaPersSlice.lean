/- Contracts: laws.szPersonS, laws.toPersonS, laws.eqPersonS. -/
import Derived.Test.YtdeiillfdjebdaaChecked
import Derived.Test.YtdeiillfdjebdaaBase
import Derived.Test.YtdeiillfdjebdaaPure40
import Derived.Test.YtdeiillfdjebdaaPersLaw
import Derived.WalkKit
import Derived.WalkSpells
import Derived.WalkLawsBesides
import Derived.Lib.Hide
import Derived.IntWalk
import Derived.Deep.OwnRows
import Derived.Lib.QuietBelow
import Derived.Deep.QuietTactic
import Derived.BigQuiet
import Derived.Outline
namespace Go.Proofs.Ytdeiillfdjebdaa
open Go.RowKit Go.Sort Pure1 Pure40

theorem leftP_le {f l : ByteArray} {m : Int} (hm : 0 ≤ m) : leftP f l m = -1 ∨ (0 ≤ leftP f l m ∧ leftP f l m ≤ m) := by
  unfold leftP; split
  · exact .inl rfl
  · split
    · exact .inl rfl
    · exact .inr ⟨by omega, by omega⟩

/-- what is left behind a list of persons: where it is not negative, the list is no longer than what there was -/
def SaysLeft (len : Nat) (w : World) (e : Ending) (w' : World) : Prop := ∃ L : Int, e = .returned (.int .i64 L) ∧ L ≤ 1048576 ∧ (0 ≤ L → len ≤ 1048576) ∧ Below w.heap.size w w'

set_option maxRecDepth 100000 in
set_option maxHeartbeats 1000000 in
theorem szPersonS_any (a : Option Addr) (len cap : Nat) (ps : List Pers) (m0 : Int) (w : World) (h0 : 0 ≤ m0) (h1 : m0 ≤ 1048576) (hl : ps.length = len) (hm : len ≤ maxLen) (hI : PersAt w a ps) (hF : Fits ps) :
    Calls Try.prog 39 #[.slice a len cap, .int .i64 m0] w (SaysLeft len w) := by
  unfold maxLen at hm
  have HL := Lib.hid hl; have HI := Lib.hid hI; have HF := Lib.hid hF
  clear hl hI hF
  by_cases hbig : m0 - len < 0
  · go_enter Try.func39, Try.ntmps39
    go_wp2
    go_ret
    exact ⟨-1, rfl, by omega, fun h => by omega, Below.refl _ _⟩
  · go_enter Try.func39, Try.ntmps39
    go_wp2
    go_loopw [1, 5] (fun m i wr => ∃ (k : Nat) (m' : Int), k ≤ len ∧ i = .int .i64 k ∧ m = .int .i64 m' ∧ 0 ≤ m' ∧ m' ≤ 1048576 ∧ Below w.heap.size w wr) (fun _ i _ => len - (intOf i).toNat)
    case atStart => exact ⟨0, m0 - len, Nat.zero_le _, rfl, rfl, by omega, by omega, Below.refl _ _⟩
    case round =>
      obtain ⟨k, m', hk, rfl, rfl, hm0, hm1, hB⟩ := hrel
      have HB := Lib.hid hB; clear hB
      by_cases hlt : k < len
      · obtain ⟨b, off, p, rfl, hc, hp⟩ := (HI.out.below HB.out).at HL.out hlt
        obtain ⟨c0, c1, c2, c3, c4⟩ := hc
        obtain ⟨hf, hl⟩ := HF.out.at hp
        have hL := leftP_le (f := p.fst) (l := p.lst) hm0
        have HS := Lib.hid (szPerson_any p.num p.fst p.lst p.born p.zone m' wr hf hl hm0 hm1)
        generalize leftP p.fst p.lst m' = L at hL HS
        go_wp2_with fail
        refine HS.out.mono ?_; rintro e w2 ⟨rfl, hB⟩
        have HB2 := Lib.hid (HB.out.trans (hB.mono HB.out.size)); clear hB c0 c1 c2 c3 c4
        rcases hL with rfl | ⟨hL0, hL1⟩
        · go_wp2_with fail
          go_ret
          exact ⟨-1, rfl, by omega, fun h => by omega, HB2.out⟩
        · go_wp2_with fail
          go_roundw
          case rel => exact ⟨k + 1, L, by omega, by go_num, rfl, hL0, by omega, HB2.out⟩
          case measure => simp [intOf]; omega
      · go_wp2_with fail
        go_ret
        exact ⟨m', rfl, hm1, fun _ => by omega, HB.out⟩

theorem Try.info_pers : (Try.prog.info? 51).map (fun i => (i.zero, i.size, i.bytes)) = some (some (.agg #[.int .i64 0, .string ⟨#[]⟩, .string ⟨#[]⟩, .int .i64 0, .int .i64 0]), 5, 56) := by kernel_rfl

/-- the first k persons lie in the cells f -/
def PRow (f : Nat → Value) (ps : List Pers) (k : Nat) : Prop :=
  ∀ i p, i < k → ps[i]? = some p → f (i * 5) = .int .i64 p.num ∧ f (i * 5 + 1) = .string p.fst ∧ f (i * 5 + 2) = .string p.lst ∧ f (i * 5 + 3) = .int .i64 p.born ∧ f (i * 5 + 4) = .int .i64 p.zone

theorem PRow.step {f : Nat → Value} {ps : List Pers} {k : Nat} {p : Pers} (h : PRow f ps k) (hp : ps[k]? = some p) :
    PRow (fun j => if j = k * 5 + 4 then .int .i64 p.zone else if j = k * 5 + 3 then .int .i64 p.born else if j = k * 5 + 2 then .string p.lst else if j = k * 5 + 1 then .string p.fst else if j = k * 5 then .int .i64 p.num else f j) ps (k + 1) := by
  intro i q hi hq
  by_cases e : i = k
  · subst e
    rw [hp] at hq; cases hq
    simp
  · have hi' : i < k := by omega
    have h5 := h i q hi' hq
    have n0 : ∀ a b, a < 5 → b < 5 → ¬ (i * 5 + a = k * 5 + b) := fun a b ha hb he => by omega
    simp only [if_neg (n0 0 0 (by omega) (by omega)), if_neg (n0 0 1 (by omega) (by omega)), if_neg (n0 0 2 (by omega) (by omega)), if_neg (n0 0 3 (by omega) (by omega)), if_neg (n0 0 4 (by omega) (by omega)),
      if_neg (n0 1 0 (by omega) (by omega)), if_neg (n0 1 1 (by omega) (by omega)), if_neg (n0 1 2 (by omega) (by omega)), if_neg (n0 1 3 (by omega) (by omega)), if_neg (n0 1 4 (by omega) (by omega)),
      show ∀ b, b < 5 → ¬ (i * 5 = k * 5 + b) from fun b hb he => by omega] 
    refine ⟨?_, ?_, ?_, ?_, ?_⟩ <;> (repeat rw [if_neg (by omega)]) <;> first | exact h5.1 | exact h5.2.1 | exact h5.2.2.1 | exact h5.2.2.2.1 | exact h5.2.2.2.2

/-- a new slice that reads the persons ps; nothing that was there has turned -/
def IsCopyP (w : World) (len : Nat) (ps : List Pers) (e : Ending) (w' : World) : Prop :=
  ∃ b, e = .returned (.slice (some ⟨b, 0, none⟩) len len) ∧ w.heap.size ≤ b ∧ PersAt w' (some ⟨b, 0, none⟩) ps ∧ Below w.heap.size w w'

theorem copiedP {w wr : World} {T len : Nat} {f : Nat → Value} {ps : List Pers} (hr : wr.rowIs w.heap.size T (len * 5) f) (hl : ps.length = len) (hf : PRow f ps len)
    (hB : Below w.heap.size w wr) : IsCopyP w len ps (.returned (.slice (some ⟨w.heap.size, 0, none⟩) len len)) wr :=
  ⟨_, rfl, Nat.le_refl _, .inr ⟨_, _, rfl, fun i x hx => by
    have hi : i < len := by rw [← hl]; exact (List.getElem?_eq_some_iff.1 hx).1
    obtain ⟨f0, f1, f2, f3, f4⟩ := hf i x hi hx
    rw [Nat.zero_add]
    exact ⟨by rw [hr.cell (by omega), f0], by rw [hr.cell (by omega), f1], by rw [hr.cell (by omega), f2], by rw [hr.cell (by omega), f3], by rw [hr.cell (by omega), f4]⟩⟩, hB⟩

theorem run_make_pers (len : Nat) (hm : len ≤ 1048576) (W : World) : (Instr.makeSlice 24 (.int .i64 (len : Int)) (.int .i64 (len : Int))).run Try.prog W = .ok (.slice (some ⟨W.heap.size, 0, none⟩) len len) (W.alloc (.cells (madeCells #[.int .i64 0, .string ⟨#[]⟩, .string ⟨#[]⟩, .int .i64 0, .int .i64 0] (len * 5)) 51)) := by
  obtain ⟨i, hi, hzz⟩ := Option.map_eq_some_iff.1 Try.info_pers
  simp only [Prod.mk.injEq] at hzz
  obtain ⟨hz, hs, hb⟩ := hzz
  have hr := run_make (P := Try.prog) W 24 51 i _ Try.underlying24 hi hz .i64 .i64 len len (by omega) (Int.le_refl _) (by rw [hb]; omega) (by omega)
  simp only [Int.toNat_natCast, hs] at hr
  exact hr

theorem made_row (w : World) (z : Array Value) (n : Nat) (T : TypeId) : (w.alloc (.cells (madeCells z n) T)).rowIs w.heap.size T n (fun j => ((madeCells z n)[j]?).getD undef) := by
  have := World.rowIs_alloc w (madeCells z n) T (fun j => ((madeCells z n)[j]?).getD undef) (fun i hi => by rw [Array.getElem?_eq_getElem hi]; rfl)
  rwa [size_madeCells] at this

set_option maxRecDepth 100000 in
set_option maxHeartbeats 2000000 in
theorem toPersonS_any (a : Option Addr) (len cap : Nat) (ps : List Pers) (w : World) (hl : ps.length = len) (hm : len ≤ 1048576) (h : PersAt w a ps) :
    Calls Try.prog 40 #[.slice a len cap] w (IsCopyP w len ps) := by
  have HL := Lib.hid hl; clear hl
  have HI := Lib.hid h; clear h
  have hmk := run_make_pers len hm
  go_enter Try.func40, Try.ntmps40
  go_wp2
  go_loopw [4] (fun i wr => ∃ k : Nat, k ≤ len ∧ i = .int .i64 k ∧ Below w.heap.size w wr ∧ ∃ f, wr.rowIs w.heap.size 51 (len * 5) f ∧ PRow f ps k) (fun i _ => len - (intOf i).toNat)
  case atStart => exact ⟨0, Nat.zero_le _, rfl, (Below.refl _ _).alloc (Nat.le_refl _) _, _, made_row _ _ _ _, fun i x hi => by omega⟩
  case round =>
    obtain ⟨k, hk, rfl, hB, f, hr, hf⟩ := hrel
    have HB := Lib.hid hB; have HR := Lib.hid hr; have HF := Lib.hid hf; clear hB hr hf hmk
    by_cases hlt : k < len
    · obtain ⟨b, off, p, ha, hc, hp⟩ := (HI.out.below HB.out).at HL.out hlt
      obtain ⟨c0, c1, c2, c3, c4⟩ := hc
      have HP := Lib.hid hp; clear hp
      subst ha
      have HT := Lib.hid (toPerson_any p.num p.fst p.lst p.born p.zone wr)
      go_wp2_with fail
      refine HT.out.mono ?_; rintro e w2 ⟨rfl, hB⟩
      have hR2 : w2.rowIs w.heap.size 51 (len * 5) f := by
        obtain ⟨cs, h1, h2⟩ := HR.out
        exact ⟨cs, by rw [hB.block _ (Array.getElem?_eq_some_iff.1 h1).1]; exact h1, h2⟩
      have HR2 := Lib.hid hR2; have HB2 := Lib.hid (HB.out.trans (hB.mono HB.out.size))
      have q0 := hR2.cell (show k * 5 < len * 5 by omega); have q1 := hR2.cell (show k * 5 + 1 < len * 5 by omega); have q2 := hR2.cell (show k * 5 + 2 < len * 5 by omega); have q3 := hR2.cell (show k * 5 + 3 < len * 5 by omega); have q4 := hR2.cell (show k * 5 + 4 < len * 5 by omega)
      have r0 := hR2.frozen (k * 5); have r1 := hR2.frozen (k * 5 + 1); have r2 := hR2.frozen (k * 5 + 2); have r3 := hR2.frozen (k * 5 + 3); have r4 := hR2.frozen (k * 5 + 4)
      clear hB c0 c1 c2 c3 c4 hR2
      go_wp2_with fail
      go_roundw
      case rel => exact ⟨k + 1, by omega, by go_num, ((((HB2.out.setCell (Nat.le_refl _) _).setCell (Nat.le_refl _) _).setCell (Nat.le_refl _) _).setCell (Nat.le_refl _) _).setCell (Nat.le_refl _) _, _, ((((HR2.out.set _ _).set _ _).set _ _).set _ _).set _ _, HF.out.step HP.out⟩
      case measure => simp [intOf]; omega
    · go_wp2
      go_ret
      exact copiedP HR.out HL.out (fun i x hi hx => HF.out i x (by omega) hx) HB.out

def sameP (p q : Pers) : Bool := decide (p.num = q.num) && (decide (p.fst = q.fst) && (decide (p.lst = q.lst) && (decide (p.born = q.born) && decide (p.zone = q.zone))))
theorem sameP_self (p : Pers) : sameP p p = true := by simp [sameP]
theorem regr_call {P : Program} {f : FuncId} {args : Array Value} {w : World} {v : Value} (h : ∀ W, Below w.heap.size w W → Calls P f args W fun e w' => e = .returned v ∧ Below W.heap.size W w') (d : Nat) (os : Array Obj) :
    Calls P f args (grow (redrawn w d) os) fun e w'' => e = .returned v ∧ ∃ p : Regrown, w'' = grow (redrawn w p.d) p.os := Calls.regrown_of (h _ (below_regrown w d os))

set_option maxRecDepth 100000 in
set_option maxHeartbeats 2000000 in
/-- two slices that read the same persons are told to be the same -/
theorem eqPersonS_same (a a' : Option Addr) (len cap cap' : Nat) (ps : List Pers) (w : World) (hl : ps.length = len) (hm : len ≤ 1048576) (h : PersAt w a ps) (h' : PersAt w a' ps) :
    Calls Try.prog 42 #[.slice a len cap, .slice a' len cap'] w (fun e w' => e = .returned (.bool true) ∧ Below w.heap.size w w') := by
  have HL := Lib.hid hl; have HI := Lib.hid h; have HI' := Lib.hid h'; clear hl h h'
  go_enter Try.func42, Try.ntmps42
  go_wp2
  go_loopw [5] (fun i wr => ∃ k : Nat, k ≤ len ∧ i = .int .i64 k ∧ Below w.heap.size w wr) (fun i _ => len - (intOf i).toNat)
  case atStart => exact ⟨0, Nat.zero_le _, rfl, Below.refl _ _⟩
  case round =>
    obtain ⟨k, hk, rfl, hB⟩ := hrel
    have HB := Lib.hid hB; clear hB
    by_cases hlt : k < len
    · obtain ⟨b, off, p, rfl, hc, hp⟩ := (HI.out.below HB.out).at HL.out hlt
      obtain ⟨b', off', p', rfl, hc', hp'⟩ := (HI'.out.below HB.out).at HL.out hlt
      obtain rfl : p = p' := Option.some.inj (hp.symm.trans hp')
      go_wp2_with fail
      obtain ⟨d0, d1, d2, d3, d4⟩ := hc
      obtain ⟨g0, g1, g2, g3, g4⟩ := hc'
      have k0 := cell_regrown d0; have k1 := cell_regrown d1; have k2 := cell_regrown d2; have k3 := cell_regrown d3; have k4 := cell_regrown d4
      have l0 := cell_regrown g0; have l1 := cell_regrown g1; have l2 := cell_regrown g2; have l3 := cell_regrown g3; have l4 := cell_regrown g4
      clear d0 d1 d2 d3 d4 g0 g1 g2 g3 g4
      have hcall := regr_call (w := wr) (fun W _ => show Calls Try.prog 76 #[.agg #[.int .i64 p.num, .string p.fst, .string p.lst, .int .i64 p.born, .int .i64 p.zone], .agg #[.int .i64 p.num, .string p.fst, .string p.lst, .int .i64 p.born, .int .i64 p.zone]] W _ from eqPerson_any p.num p.fst p.lst p.born p.zone p.num p.fst p.lst p.born p.zone W)
      simp only [decide_true, Bool.and_self] at hcall
      cases k with
      | zero =>
        simp only [Nat.zero_mul, Nat.add_zero] at k0 k1 k2 k3 k4 l0 l1 l2 l3 l4
        refine wp_region_quiet_below (by kernel_rfl) (by kernel_rfl) ?_
        iterate 10 (go_big_quiet_step (exact hcall _ _))
        refine wpQuiet_nil ?_
        intro _ hw'
        obtain ⟨⟨dq, osq⟩, hw''⟩ := hw'
        subst hw''
        have HB5 := Lib.hid (HB.out.trans ((below_regrown wr dq osq).mono HB.out.size))
        clear hcall k0 k1 k2 k3 k4 l0 l1 l2 l3 l4
        generalize grow (redrawn wr dq) osq = w5 at HB5 ⊢
        go_wp2_with fail
        go_roundw
        case rel => exact ⟨1, by omega, by go_num, HB5.out⟩
        case measure => simp [intOf]; omega
      | succ j =>
        refine wp_region_quiet_below (by kernel_rfl) (by kernel_rfl) ?_
        iterate 10 (go_big_quiet_step (exact hcall _ _))
        refine wpQuiet_nil ?_
        intro _ hw'
        obtain ⟨⟨dq, osq⟩, hw''⟩ := hw'
        subst hw''
        have HB5 := Lib.hid (HB.out.trans ((below_regrown wr dq osq).mono HB.out.size))
        clear hcall k0 k1 k2 k3 k4 l0 l1 l2 l3 l4
        generalize grow (redrawn wr dq) osq = w5 at HB5 ⊢
        go_wp2_with fail
        go_roundw
        case rel => exact ⟨j + 1 + 1, by omega, by go_num, HB5.out⟩
        case measure => simp [intOf]; omega
    · go_wp2
      go_ret
      exact ⟨rfl, HB.out⟩

end Go.Proofs.Ytdeiillfdjebdaa
