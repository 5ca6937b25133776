/- The laws' own helpers on Term: slices copied, compared, marked, held. (written by flat.py) -/
import Derived.Test.YtblbmmajobefiaaChecked
import Derived.Test.YtblbmmajobefiaaBase
import Derived.Test.YtblbmmajobefiaaInfo
import Derived.Test.YtblbmmajobefiaaTermA
import Derived.Test.YtblbmmajobefiaaTermB
import Derived.WalkKit
import Derived.WalkSpells
import Derived.WalkLawsBesides
import Derived.Lib.Hide
import Derived.Lib.QuietBelow
import Derived.IntWalk
import Derived.Deep.OwnRows
import Derived.Deep.QuietTactic
import Derived.BigQuiet
import Derived.Outline
namespace Go.Proofs.Ytblbmmajobefiaa
open Go.RowKit Go.Sort Pure1 Pure2
set_option linter.unusedSimpArgs false


theorem Term.regr {P : Program} {f : FuncId} {args : Array Value} {w : World} {v : Value} (h : ∀ W, Below w.heap.size w W → Calls P f args W fun e w' => e = .returned v ∧ Below W.heap.size W w') (d : Nat) (os : Array Obj) :
    Calls P f args (grow (redrawn w d) os) fun e w'' => e = .returned v ∧ ∃ p : Regrown, w'' = grow (redrawn w p.d) p.os := Calls.regrown_of (h _ (below_regrown w d os))
theorem Term.mtrans {w1 w2 w3 : World} {r : Option Nat} (h : w1.grownBy w2 r) (h' : w2.grownBy w3 r) : w1.grownBy w3 r :=
  ⟨h'.os.trans h.os, h'.tape.trans h.tape, h'.output.trans h.output, Nat.le_trans h.size h'.size, fun k hk hne => (h'.block k (Nat.lt_of_lt_of_le hk h.size) hne).trans (h.block k hk hne)⟩
theorem Term.mcell (w : World) (b k : Nat) (v : Value) : w.grownBy (w.setCell ⟨b, k, none⟩ v) (some b) :=
  ⟨rfl, rfl, rfl, by simp, fun j _ hne => Below.heap_setCell w ⟨b, k, none⟩ v j (fun e => hne (by rw [e]))⟩
theorem Term.Row.flat {f : Nat → Value} {ts : List Term} {len : Nat} (h : Term.Row f ts len) (hl : ts.length = len) : ∀ j, j < len * 3 → f j = .int .i64 (Term.flat ts j) := by
  intro j hj
  obtain ⟨q, r, hr, rfl⟩ : ∃ q r, r < 3 ∧ j = q * 3 + r := ⟨j / 3, j % 3, Nat.mod_lt _ (by omega), by omega⟩
  have hq : q < len := by omega
  have hc : ts[q]? = some (ts[q]'(by omega)) := List.getElem?_eq_getElem (by omega)
  obtain ⟨h0, h1, h2⟩ := h q _ hq hc
  obtain ⟨g0, g1, g2⟩ := Term.flat_at hc
  rcases (by omega : r = 0 ∨ r = 1 ∨ r = 2) with rfl | rfl | rfl
  · rw [Nat.add_zero]; exact h0.trans (by rw [g0])
  · exact h1.trans (by rw [g1])
  · exact h2.trans (by rw [g2])

/-- a new slice that reads ts, in a row of its own; nothing that was there has turned -/
def Term.Copied (w : World) (len : Nat) (ts : List Term) (e : Ending) (w' : World) : Prop :=
  ∃ b, e = .returned (.slice (some ⟨b, 0, none⟩) len len) ∧ w.heap.size ≤ b ∧ b < w'.heap.size ∧ (∃ f, w'.rowIs b 32 (len * 3) f) ∧ Term.Own w.heap.size w' (some ⟨b, 0, none⟩) len (Term.flat ts) ∧ Term.ListAt w' (some ⟨b, 0, none⟩) ts ∧ Below w.heap.size w w'
theorem Term.copied {w wr : World} {len : Nat} {f : Nat → Value} {ts : List Term} (hr : wr.rowIs w.heap.size 32 (len * 3) f) (hl : ts.length = len) (hf : Term.Row f ts len)
    (hB : Below w.heap.size w wr) : Term.Copied w len ts (.returned (.slice (some ⟨w.heap.size, 0, none⟩) len len)) wr := by
  subst hl
  have ho : Term.Own w.heap.size wr (some ⟨w.heap.size, 0, none⟩) ts.length (Term.flat ts) := .inr ⟨_, f, ts.length, rfl, Nat.le_refl _, Nat.le_refl _, hr, hf.flat rfl⟩
  exact ⟨_, rfl, Nat.le_refl _, hr.lt, ⟨f, hr⟩, ho, ho.reads, hB⟩

set_option maxRecDepth 100000 in
set_option maxHeartbeats 4000000 in
theorem toTermS_any (a : Option Addr) (len cap : Nat) (ts : List Term) (w : World) (hl : ts.length = len) (hm : len ≤ 1048576) (h : Term.ListAt w a ts) :
    Calls Try.prog 39 #[.slice a len cap] w (Term.Copied w len ts) := by
  have HL := Lib.hid hl; clear hl
  have HI := Lib.hid h; clear h
  have hmk := run_makeTerm len hm
  go_enter Try.func39, Try.ntmps39
  go_wp2
  go_loopw [4] (fun i wr => ∃ k : Nat, k ≤ len ∧ i = .int .i64 k ∧ Below w.heap.size w wr ∧ ∃ f, wr.rowIs w.heap.size 32 (len * 3) f ∧ Term.Row f ts k) (fun i _ => len - (intOf i).toNat)
  case atStart => exact ⟨0, Nat.zero_le _, rfl, (Below.refl _ _).alloc (Nat.le_refl _) _, _, Term.made _ _ _ _, fun i x hi => by omega⟩
  case round =>
    obtain ⟨n, hk, rfl, hB, f, hr, hf⟩ := hrel
    have HB := Lib.hid hB; have HR := Lib.hid hr; have HF := Lib.hid hf; clear hB hr hf hmk
    by_cases hlt : n < len
    · obtain ⟨b, off, c, ha, hc, hp⟩ := (HI.out.below HB.out).at HL.out hlt
      obtain ⟨c0, c1, c2⟩ := hc
      have HP := Lib.hid hp; clear hp
      subst ha
      have HT := Lib.hid (toTerm_any c wr)
      go_wp2_with fail
      refine HT.out.mono ?_; rintro e w2 ⟨rfl, hB⟩
      have hR2 : w2.rowIs w.heap.size 32 (len * 3) f := HR.out.of_block (hB.block _ HR.out.lt)
      have HR2 := Lib.hid hR2; have HB2 := Lib.hid (HB.out.trans (hB.mono HB.out.size))
      have q0 := hR2.cell (show n * 3 < len * 3 by omega); have r0 := hR2.frozen (n * 3)
      have q1 := hR2.cell (show n * 3 + 1 < len * 3 by omega); have r1 := hR2.frozen (n * 3 + 1)
      have q2 := hR2.cell (show n * 3 + 2 < len * 3 by omega); have r2 := hR2.frozen (n * 3 + 2)
      clear hB c0 c1 c2 hR2
      go_wp2_with fail
      go_roundw
      case rel => exact ⟨n + 1, by omega, by go_num, (((HB2.out.setCell (Nat.le_refl _) _).setCell (Nat.le_refl _) _).setCell (Nat.le_refl _) _), _, Term.row_put HR2.out n c, HF.out.step HP.out⟩
      case measure => simp [intOf]; omega
    · go_wp2
      go_ret
      exact Term.copied HR.out HL.out (fun i x hi hx => HF.out i x (by omega) hx) HB.out

set_option maxRecDepth 100000 in
set_option maxHeartbeats 4000000 in
/-- two slices that read the same are told to be the same -/
theorem eqTermS_same (a a' : Option Addr) (len cap cap' : Nat) (ts : List Term) (w : World) (hl : ts.length = len) (hm : len ≤ 1048576) (h : Term.ListAt w a ts) (h' : Term.ListAt w a' ts) :
    Calls Try.prog 40 #[.slice a len cap, .slice a' len cap'] w (fun e w' => e = .returned (.bool true) ∧ Below w.heap.size w w') := by
  have HL := Lib.hid hl; have HI := Lib.hid h; have HI' := Lib.hid h'; clear hl h h'
  go_enter Try.func40, Try.ntmps40
  go_wp2
  go_loopw [5] (fun i wr => ∃ k : Nat, k ≤ len ∧ i = .int .i64 k ∧ Below w.heap.size w wr) (fun i _ => len - (intOf i).toNat)
  case atStart => exact ⟨0, Nat.zero_le _, rfl, Below.refl _ _⟩
  case round =>
    obtain ⟨k, hk, rfl, hB⟩ := hrel
    have HB := Lib.hid hB; clear hB
    by_cases hlt : k < len
    · obtain ⟨b, off, c, rfl, hc, hp⟩ := (HI.out.below HB.out).at HL.out hlt
      obtain ⟨b', off', c', rfl, hc', hp'⟩ := (HI'.out.below HB.out).at HL.out hlt
      obtain rfl : c = c' := Option.some.inj (hp.symm.trans hp')
      go_wp2_with fail
      obtain ⟨d0, d1, d2⟩ := hc
      obtain ⟨g0, g1, g2⟩ := hc'
      have k0 := cell_regrown d0; have l0 := cell_regrown g0
      have k1 := cell_regrown d1; have l1 := cell_regrown g1
      have k2 := cell_regrown d2; have l2 := cell_regrown g2
      clear d0 d1 d2 g0 g1 g2
      have hcall := Term.regr (w := wr) (fun W _ => show Calls Try.prog 69 #[.agg #[.int .i64 c.num, .int .i64 c.frm, .int .i64 c.to], .agg #[.int .i64 c.num, .int .i64 c.frm, .int .i64 c.to]] W _ from eqTerm_self c W)
      cases k with
      | zero =>
        simp only [Nat.zero_mul, Nat.add_zero] at k0 k1 k2 l0 l1 l2
        refine wp_region_quiet_below (by kernel_rfl) (by kernel_rfl) ?_
        iterate 10 (go_big_quiet_step (exact hcall _ _))
        refine wpQuiet_nil ?_
        intro _ hw'
        obtain ⟨⟨dq, osq⟩, hw''⟩ := hw'
        subst hw''
        have HB5 := Lib.hid (HB.out.trans ((below_regrown wr dq osq).mono HB.out.size))
        clear hcall k0 k1 k2 l0 l1 l2
        generalize grow (redrawn wr dq) osq = w5 at HB5 ⊢
        go_wp2_with fail
        go_roundw
        case rel => exact ⟨1, by omega, by go_num, HB5.out⟩
        case measure => simp [intOf]; omega
      | succ q =>
        refine wp_region_quiet_below (by kernel_rfl) (by kernel_rfl) ?_
        iterate 10 (go_big_quiet_step (exact hcall _ _))
        refine wpQuiet_nil ?_
        intro _ hw'
        obtain ⟨⟨dq, osq⟩, hw''⟩ := hw'
        subst hw''
        have HB5 := Lib.hid (HB.out.trans ((below_regrown wr dq osq).mono HB.out.size))
        clear hcall k0 k1 k2 l0 l1 l2
        generalize grow (redrawn wr dq) osq = w5 at HB5 ⊢
        go_wp2_with fail
        go_roundw
        case rel => exact ⟨q + 1 + 1, by omega, by go_num, HB5.out⟩
        case measure => simp [intOf]; omega
    · go_wp2
      go_ret
      exact ⟨rfl, HB.out⟩

def Term.mput (f : Nat → Value) (q : Int) (n : Nat) : Nat → Value := fun j => if j = n * 3 + 2 then .int .i64 (q + 3 * (n : Int) + 1 + 1) else if j = n * 3 + 1 then .int .i64 (q + 3 * (n : Int) + 1) else if j = n * 3 then .int .i64 (q + 3 * (n : Int)) else f j
theorem Term.mput_step {f : Nat → Value} {q : Int} {n : Nat} (h : ∀ i : Nat, i < n * 3 → f i = .int .i64 (q + i)) : ∀ i : Nat, i < (n + 1) * 3 → Term.mput f q n i = .int .i64 (q + i) := by
  intro i hi
  unfold Term.mput
  repeat' split
  all_goals first | (congr 1; omega) | exact h i (by omega)
theorem Term.mrow {w : World} {b : Nat} {T : TypeId} {N : Nat} {f : Nat → Value} (h : w.rowIs b T N f) (q : Int) (n : Nat) : ((((w.setCell ⟨b, n * 3, none⟩ (.int .i64 (q + 3 * (n : Int)))).setCell ⟨b, n * 3 + 1, none⟩ (.int .i64 (q + 3 * (n : Int) + 1))).setCell ⟨b, n * 3 + 2, none⟩ (.int .i64 (q + 3 * (n : Int) + 1 + 1)))).rowIs b T N (Term.mput f q n) := (((h.set (n * 3) (.int .i64 (q + 3 * (n : Int)))).set (n * 3 + 1) (.int .i64 (q + 3 * (n : Int) + 1))).set (n * 3 + 2) (.int .i64 (q + 3 * (n : Int) + 1 + 1)))
theorem Term.mbelow {w0 w : World} {B b : Nat} (h : Below B w0 w) (hb : B ≤ b) (q : Int) (n : Nat) : Below B w0 (((w.setCell ⟨b, n * 3, none⟩ (.int .i64 (q + 3 * (n : Int)))).setCell ⟨b, n * 3 + 1, none⟩ (.int .i64 (q + 3 * (n : Int) + 1))).setCell ⟨b, n * 3 + 2, none⟩ (.int .i64 (q + 3 * (n : Int) + 1 + 1))) := (((h.setCell (p := ⟨b, n * 3, none⟩) hb _).setCell (p := ⟨b, n * 3 + 1, none⟩) hb _).setCell (p := ⟨b, n * 3 + 2, none⟩) hb _)
theorem Term.mgrown {w0 w : World} {b : Nat} (h : w0.grownBy w (some b)) (q : Int) (n : Nat) : w0.grownBy (((w.setCell ⟨b, n * 3, none⟩ (.int .i64 (q + 3 * (n : Int)))).setCell ⟨b, n * 3 + 1, none⟩ (.int .i64 (q + 3 * (n : Int) + 1))).setCell ⟨b, n * 3 + 2, none⟩ (.int .i64 (q + 3 * (n : Int) + 1 + 1))) (some b) := (Term.mtrans (Term.mtrans (Term.mtrans h (Term.mcell _ _ _ _)) (Term.mcell _ _ _ _)) (Term.mcell _ _ _ _))

/-- marked: the cells are the numbers from q on; only the slice's own block has turned -/
def Term.Marked (B : Nat) (a : Option Addr) (len : Nat) (q : Int) (w : World) (e : Ending) (w' : World) : Prop :=
  e = .returned (.int .i64 (q + 3 * len)) ∧ Term.Own B w' a len (fun i => q + i) ∧ Below B w w' ∧ (w' = w ∨ ∃ b, a = some ⟨b, 0, none⟩ ∧ w.grownBy w' (some b))

set_option maxRecDepth 100000 in
set_option maxHeartbeats 4000000 in
theorem markTermS_any (B : Nat) (a : Option Addr) (len cap : Nat) (g : Nat → Int) (q : Int) (w : World) (hl : len ≤ 10000000) (h0 : 0 < q) (h1 : q ≤ 1000000000) (h : Term.Own B w a len g) :
    Calls Try.prog 42 #[.slice a len cap, .int .i64 q] w (Term.Marked B a len q w) := by
  rcases h with rfl | ⟨b, f, N, rfl, hb, hN, hr, hf⟩
  · go_enter Try.func42, Try.ntmps42
    go_wp2
    go_loopw [1, 5] (fun kk i wr => i = .int .i64 0 ∧ kk = .int .i64 q ∧ wr = w) (fun _ _ _ => 0)
    case atStart => exact ⟨rfl, rfl, rfl⟩
    case round =>
      obtain ⟨rfl, rfl, rfl⟩ := hrel
      go_wp2
      go_ret
      exact ⟨ret_i64 (by simp), .inl rfl, Below.refl _ _, .inl rfl⟩
  · have HR := Lib.hid hr; clear hr hf
    go_enter Try.func42, Try.ntmps42
    go_wp2
    go_loopw [1, 5] (fun kk i wr => ∃ n : Nat, n ≤ len ∧ i = .int .i64 n ∧ kk = .int .i64 (q + 3 * n) ∧ w.grownBy wr (some b) ∧ Below B w wr ∧ ∃ f, wr.rowIs b 32 (N * 3) f ∧ ∀ i : Nat, i < n * 3 → f i = .int .i64 (q + i)) (fun _ i _ => len - (intOf i).toNat)
    case atStart => exact ⟨0, Nat.zero_le _, rfl, by simp, ⟨rfl, rfl, rfl, Nat.le_refl _, fun _ _ _ => rfl⟩, Below.refl _ _, _, HR.out, fun i hi => by omega⟩
    case round =>
      obtain ⟨n, hn, rfl, rfl, hg, hW, f, hr, hf⟩ := hrel
      have HG := Lib.hid hg; have HW := Lib.hid hW; have HR := Lib.hid hr; have HF := Lib.hid hf; clear hg hW hr hf
      by_cases hlt : n < len
      · have hN3 : n * 3 + 3 ≤ N * 3 := by omega
        have c0 := HR.out.cell (show n * 3 < N * 3 by omega); have f0 := HR.out.frozen (n * 3)
        have c1 := HR.out.cell (show n * 3 + 1 < N * 3 by omega); have f1 := HR.out.frozen (n * 3 + 1)
        have c2 := HR.out.cell (show n * 3 + 2 < N * 3 by omega); have f2 := HR.out.frozen (n * 3 + 2)
        go_wp2_with fail
        go_roundw
        case rel => exact ⟨n + 1, by omega, by go_num, by congr 1; omega, Term.mgrown HG.out q n, Term.mbelow HW.out hb q n, _, Term.mrow HR.out q n, Term.mput_step HF.out⟩
        case measure => simp [intOf]; omega
      · have HN := Lib.hid (show n = len by omega)
        go_wp2
        go_ret
        exact ⟨ret_i64 (by rw [HN.out]), .inr ⟨b, f, N, rfl, hb, hN, HR.out, fun i hi => HF.out i (by rw [HN.out]; exact hi)⟩, HW.out, .inr ⟨b, rfl, HG.out⟩⟩

set_option maxRecDepth 100000 in
set_option maxHeartbeats 2000000 in
theorem heldTermS_any (B : Nat) (a : Option Addr) (len cap : Nat) (q : Int) (w : World) (hl : len ≤ 10000000) (h0 : 0 < q) (h1 : q ≤ 1000000000) (h : Term.Own B w a len (fun i => q + i)) :
    Calls Try.prog 43 #[.slice a len cap, .int .i64 q] w fun e w' => e = .returned (.int .i64 (q + 3 * len)) ∧ w = w' := by
  have HO := Lib.hid h; clear h
  go_enter Try.func43, Try.ntmps43
  go_wp2
  go_loop [1, 5] (fun kk i => ∃ n : Nat, n ≤ len ∧ i = .int .i64 n ∧ kk = .int .i64 (q + 3 * n)) (fun _ i => len - (intOf i).toNat)
  case atStart => exact ⟨0, Nat.zero_le _, rfl, by simp⟩
  case round =>
    obtain ⟨n, hn, rfl, rfl⟩ := hrel
    by_cases hlt : n < len
    · obtain ⟨b, ha, h0, h1, h2⟩ := HO.out.at hlt
      subst ha
      have e0 : w.cell? ⟨b, n * 3, none⟩ = some (.int .i64 (q + 3 * (n : Int))) := by rw [h0]; congr 2; omega
      have e1 : w.cell? ⟨b, n * 3 + 1, none⟩ = some (.int .i64 (q + 3 * (n : Int) + 1)) := by rw [h1]; congr 2; omega
      have e2 : w.cell? ⟨b, n * 3 + 2, none⟩ = some (.int .i64 (q + 3 * (n : Int) + 1 + 1)) := by rw [h2]; congr 2; omega
      clear h0 h1 h2
      go_wp2_with fail
      go_round
      case rel => exact ⟨n + 1, by omega, by go_num, by congr 1; omega⟩
      case measure => simp [intOf]; omega
    · have HN := Lib.hid (show n = len by omega)
      go_wp2
      go_ret
      exact ⟨ret_i64 (by rw [HN.out]), rfl⟩
end Go.Proofs.Ytblbmmajobefiaa
