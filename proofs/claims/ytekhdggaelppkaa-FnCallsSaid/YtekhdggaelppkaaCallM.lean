/- The laws' own helpers on Call: slices copied, compared, marked, held. (written by flat.py) -/
import Derived.Test.YtekhdggaelppkaaChecked
import Derived.Test.YtekhdggaelppkaaBase0
import Derived.Test.YtekhdggaelppkaaInfo
import Derived.Test.YtekhdggaelppkaaCallB
import Derived.WalkKit
import Derived.WalkSpells
import Derived.WalkLawsBesides
import Derived.Lib.Hide
import Derived.Lib.QuietBelow
import Derived.IntWalk
import Derived.Deep.OwnRows
import Derived.Deep.QuietTactic
import Derived.BigQuiet
import Derived.Outline
namespace Go.Proofs.Ytekhdggaelppkaa
open Go.RowKit Go.Sort Pure1 Pure2
set_option linter.unusedSimpArgs false


theorem Call.regr {P : Program} {f : FuncId} {args : Array Value} {w : World} {v : Value} (h : ∀ W, Below w.heap.size w W → Calls P f args W fun e w' => e = .returned v ∧ Below W.heap.size W w') (d : Nat) (os : Array Obj) :
    Calls P f args (grow (redrawn w d) os) fun e w'' => e = .returned v ∧ ∃ p : Regrown, w'' = grow (redrawn w p.d) p.os := Calls.regrown_of (h _ (below_regrown w d os))
theorem Call.mtrans {w1 w2 w3 : World} {r : Option Nat} (h : w1.grownBy w2 r) (h' : w2.grownBy w3 r) : w1.grownBy w3 r :=
  ⟨h'.os.trans h.os, h'.tape.trans h.tape, h'.output.trans h.output, Nat.le_trans h.size h'.size, fun k hk hne => (h'.block k (Nat.lt_of_lt_of_le hk h.size) hne).trans (h.block k hk hne)⟩
theorem Call.mcell (w : World) (b k : Nat) (v : Value) : w.grownBy (w.setCell ⟨b, k, none⟩ v) (some b) :=
  ⟨rfl, rfl, rfl, by simp, fun j _ hne => Below.heap_setCell w ⟨b, k, none⟩ v j (fun e => hne (by rw [e]))⟩
theorem Call.Row.flat {f : Nat → Value} {ts : List Call} {len : Nat} (h : Call.Row f ts len) (hl : ts.length = len) : ∀ j, j < len * 4 → f j = .int .i64 (Call.flat ts j) := by
  intro j hj
  obtain ⟨q, r, hr, rfl⟩ : ∃ q r, r < 4 ∧ j = q * 4 + r := ⟨j / 4, j % 4, Nat.mod_lt _ (by omega), by omega⟩
  have hq : q < len := by omega
  have hc : ts[q]? = some (ts[q]'(by omega)) := List.getElem?_eq_getElem (by omega)
  obtain ⟨h0, h1, h2, h3⟩ := h q _ hq hc
  obtain ⟨g0, g1, g2, g3⟩ := Call.flat_at hc
  rcases (by omega : r = 0 ∨ r = 1 ∨ r = 2 ∨ r = 3) with rfl | rfl | rfl | rfl
  · rw [Nat.add_zero]; exact h0.trans (by rw [g0])
  · exact h1.trans (by rw [g1])
  · exact h2.trans (by rw [g2])
  · exact h3.trans (by rw [g3])

/-- a new slice that reads ts, in a row of its own; nothing that was there has turned -/
def Call.Copied (w : World) (len : Nat) (ts : List Call) (e : Ending) (w' : World) : Prop :=
  ∃ b, e = .returned (.slice (some ⟨b, 0, none⟩) len len) ∧ w.heap.size ≤ b ∧ b < w'.heap.size ∧ (∃ f, w'.rowIs b 41 (len * 4) f) ∧ Call.Own w.heap.size w' (some ⟨b, 0, none⟩) len (Call.flat ts) ∧ Call.ListAt w' (some ⟨b, 0, none⟩) ts ∧ Below w.heap.size w w'
theorem Call.copied {w wr : World} {len : Nat} {f : Nat → Value} {ts : List Call} (hr : wr.rowIs w.heap.size 41 (len * 4) f) (hl : ts.length = len) (hf : Call.Row f ts len)
    (hB : Below w.heap.size w wr) : Call.Copied w len ts (.returned (.slice (some ⟨w.heap.size, 0, none⟩) len len)) wr := by
  subst hl
  have ho : Call.Own w.heap.size wr (some ⟨w.heap.size, 0, none⟩) ts.length (Call.flat ts) := .inr ⟨_, f, ts.length, rfl, Nat.le_refl _, Nat.le_refl _, hr, hf.flat rfl⟩
  exact ⟨_, rfl, Nat.le_refl _, hr.lt, ⟨f, hr⟩, ho, ho.reads, hB⟩

set_option maxRecDepth 100000 in
set_option maxHeartbeats 4000000 in
theorem toCallS_any (a : Option Addr) (len cap : Nat) (ts : List Call) (w : World) (hl : ts.length = len) (hm : len ≤ 1048576) (h : Call.ListAt w a ts) :
    Calls Try.prog 41 #[.slice a len cap] w (Call.Copied w len ts) := by
  have HL := Lib.hid hl; clear hl
  have HI := Lib.hid h; clear h
  have hmk := run_makeCall len hm
  go_enter Try.func41, Try.ntmps41
  go_wp2
  go_loopw [4] (fun i wr => ∃ k : Nat, k ≤ len ∧ i = .int .i64 k ∧ Below w.heap.size w wr ∧ ∃ f, wr.rowIs w.heap.size 41 (len * 4) f ∧ Call.Row f ts k) (fun i _ => len - (intOf i).toNat)
  case atStart => exact ⟨0, Nat.zero_le _, rfl, (Below.refl _ _).alloc (Nat.le_refl _) _, _, Call.made _ _ _ _, fun i x hi => by omega⟩
  case round =>
    obtain ⟨n, hk, rfl, hB, f, hr, hf⟩ := hrel
    have HB := Lib.hid hB; have HR := Lib.hid hr; have HF := Lib.hid hf; clear hB hr hf hmk
    by_cases hlt : n < len
    · obtain ⟨b, off, c, ha, hc, hp⟩ := (HI.out.below HB.out).at HL.out hlt
      obtain ⟨c0, c1, c2, c3⟩ := hc
      have HP := Lib.hid hp; clear hp
      subst ha
      have HT := Lib.hid (toCall_any c wr)
      go_wp2_with fail
      refine HT.out.mono ?_; rintro e w2 ⟨rfl, hB⟩
      have hR2 : w2.rowIs w.heap.size 41 (len * 4) f := HR.out.of_block (hB.block _ HR.out.lt)
      have HR2 := Lib.hid hR2; have HB2 := Lib.hid (HB.out.trans (hB.mono HB.out.size))
      have q0 := hR2.cell (show n * 4 < len * 4 by omega); have r0 := hR2.frozen (n * 4)
      have q1 := hR2.cell (show n * 4 + 1 < len * 4 by omega); have r1 := hR2.frozen (n * 4 + 1)
      have q2 := hR2.cell (show n * 4 + 2 < len * 4 by omega); have r2 := hR2.frozen (n * 4 + 2)
      have q3 := hR2.cell (show n * 4 + 3 < len * 4 by omega); have r3 := hR2.frozen (n * 4 + 3)
      clear hB c0 c1 c2 c3 hR2
      go_wp2_with fail
      go_roundw
      case rel => exact ⟨n + 1, by omega, by go_num, ((((HB2.out.setCell (Nat.le_refl _) _).setCell (Nat.le_refl _) _).setCell (Nat.le_refl _) _).setCell (Nat.le_refl _) _), _, Call.row_put HR2.out n c, HF.out.step HP.out⟩
      case measure => simp [intOf]; omega
    · go_wp2
      go_ret
      exact Call.copied HR.out HL.out (fun i x hi hx => HF.out i x (by omega) hx) HB.out

set_option maxRecDepth 100000 in
set_option maxHeartbeats 4000000 in
/-- two slices that read the same are told to be the same -/
theorem eqCallS_same (a a' : Option Addr) (len cap cap' : Nat) (ts : List Call) (w : World) (hl : ts.length = len) (hm : len ≤ 1048576) (h : Call.ListAt w a ts) (h' : Call.ListAt w a' ts) :
    Calls Try.prog 42 #[.slice a len cap, .slice a' len cap'] w (fun e w' => e = .returned (.bool true) ∧ Below w.heap.size w w') := by
  have HL := Lib.hid hl; have HI := Lib.hid h; have HI' := Lib.hid h'; clear hl h h'
  go_enter Try.func42, Try.ntmps42
  go_wp2
  go_loopw [5] (fun i wr => ∃ k : Nat, k ≤ len ∧ i = .int .i64 k ∧ Below w.heap.size w wr) (fun i _ => len - (intOf i).toNat)
  case atStart => exact ⟨0, Nat.zero_le _, rfl, Below.refl _ _⟩
  case round =>
    obtain ⟨k, hk, rfl, hB⟩ := hrel
    have HB := Lib.hid hB; clear hB
    by_cases hlt : k < len
    · obtain ⟨b, off, c, rfl, hc, hp⟩ := (HI.out.below HB.out).at HL.out hlt
      obtain ⟨b', off', c', rfl, hc', hp'⟩ := (HI'.out.below HB.out).at HL.out hlt
      obtain rfl : c = c' := Option.some.inj (hp.symm.trans hp')
      go_wp2_with fail
      obtain ⟨d0, d1, d2, d3⟩ := hc
      obtain ⟨g0, g1, g2, g3⟩ := hc'
      have k0 := cell_regrown d0; have l0 := cell_regrown g0
      have k1 := cell_regrown d1; have l1 := cell_regrown g1
      have k2 := cell_regrown d2; have l2 := cell_regrown g2
      have k3 := cell_regrown d3; have l3 := cell_regrown g3
      clear d0 d1 d2 d3 g0 g1 g2 g3
      have hcall := Call.regr (w := wr) (fun W _ => show Calls Try.prog 86 #[.agg #[.int .i64 c.num, .int .i64 c.fst, .int .i64 c.day, .int .i64 c.moves], .agg #[.int .i64 c.num, .int .i64 c.fst, .int .i64 c.day, .int .i64 c.moves]] W _ from eqCall_self c W)
      cases k with
      | zero =>
        simp only [Nat.zero_mul, Nat.add_zero] at k0 k1 k2 k3 l0 l1 l2 l3
        refine wp_region_quiet_below (by kernel_rfl) (by kernel_rfl) ?_
        iterate 10 (go_big_quiet_step (exact hcall _ _))
        refine wpQuiet_nil ?_
        intro _ hw'
        obtain ⟨⟨dq, osq⟩, hw''⟩ := hw'
        subst hw''
        have HB5 := Lib.hid (HB.out.trans ((below_regrown wr dq osq).mono HB.out.size))
        clear hcall k0 k1 k2 k3 l0 l1 l2 l3
        generalize grow (redrawn wr dq) osq = w5 at HB5 ⊢
        go_wp2_with fail
        go_roundw
        case rel => exact ⟨1, by omega, by go_num, HB5.out⟩
        case measure => simp [intOf]; omega
      | succ q =>
        refine wp_region_quiet_below (by kernel_rfl) (by kernel_rfl) ?_
        iterate 10 (go_big_quiet_step (exact hcall _ _))
        refine wpQuiet_nil ?_
        intro _ hw'
        obtain ⟨⟨dq, osq⟩, hw''⟩ := hw'
        subst hw''
        have HB5 := Lib.hid (HB.out.trans ((below_regrown wr dq osq).mono HB.out.size))
        clear hcall k0 k1 k2 k3 l0 l1 l2 l3
        generalize grow (redrawn wr dq) osq = w5 at HB5 ⊢
        go_wp2_with fail
        go_roundw
        case rel => exact ⟨q + 1 + 1, by omega, by go_num, HB5.out⟩
        case measure => simp [intOf]; omega
    · go_wp2
      go_ret
      exact ⟨rfl, HB.out⟩

def Call.mput (f : Nat → Value) (q : Int) (n : Nat) : Nat → Value := fun j => if j = n * 4 + 3 then .int .i64 (q + 4 * (n : Int) + 1 + 1 + 1) else if j = n * 4 + 2 then .int .i64 (q + 4 * (n : Int) + 1 + 1) else if j = n * 4 + 1 then .int .i64 (q + 4 * (n : Int) + 1) else if j = n * 4 then .int .i64 (q + 4 * (n : Int)) else f j
theorem Call.mput_step {f : Nat → Value} {q : Int} {n : Nat} (h : ∀ i : Nat, i < n * 4 → f i = .int .i64 (q + i)) : ∀ i : Nat, i < (n + 1) * 4 → Call.mput f q n i = .int .i64 (q + i) := by
  intro i hi
  unfold Call.mput
  repeat' split
  all_goals first | (congr 1; omega) | exact h i (by omega)
theorem Call.mrow {w : World} {b : Nat} {T : TypeId} {N : Nat} {f : Nat → Value} (h : w.rowIs b T N f) (q : Int) (n : Nat) : (((((w.setCell ⟨b, n * 4, none⟩ (.int .i64 (q + 4 * (n : Int)))).setCell ⟨b, n * 4 + 1, none⟩ (.int .i64 (q + 4 * (n : Int) + 1))).setCell ⟨b, n * 4 + 2, none⟩ (.int .i64 (q + 4 * (n : Int) + 1 + 1))).setCell ⟨b, n * 4 + 3, none⟩ (.int .i64 (q + 4 * (n : Int) + 1 + 1 + 1)))).rowIs b T N (Call.mput f q n) := ((((h.set (n * 4) (.int .i64 (q + 4 * (n : Int)))).set (n * 4 + 1) (.int .i64 (q + 4 * (n : Int) + 1))).set (n * 4 + 2) (.int .i64 (q + 4 * (n : Int) + 1 + 1))).set (n * 4 + 3) (.int .i64 (q + 4 * (n : Int) + 1 + 1 + 1)))
theorem Call.mbelow {w0 w : World} {B b : Nat} (h : Below B w0 w) (hb : B ≤ b) (q : Int) (n : Nat) : Below B w0 ((((w.setCell ⟨b, n * 4, none⟩ (.int .i64 (q + 4 * (n : Int)))).setCell ⟨b, n * 4 + 1, none⟩ (.int .i64 (q + 4 * (n : Int) + 1))).setCell ⟨b, n * 4 + 2, none⟩ (.int .i64 (q + 4 * (n : Int) + 1 + 1))).setCell ⟨b, n * 4 + 3, none⟩ (.int .i64 (q + 4 * (n : Int) + 1 + 1 + 1))) := ((((h.setCell (p := ⟨b, n * 4, none⟩) hb _).setCell (p := ⟨b, n * 4 + 1, none⟩) hb _).setCell (p := ⟨b, n * 4 + 2, none⟩) hb _).setCell (p := ⟨b, n * 4 + 3, none⟩) hb _)
theorem Call.mgrown {w0 w : World} {b : Nat} (h : w0.grownBy w (some b)) (q : Int) (n : Nat) : w0.grownBy ((((w.setCell ⟨b, n * 4, none⟩ (.int .i64 (q + 4 * (n : Int)))).setCell ⟨b, n * 4 + 1, none⟩ (.int .i64 (q + 4 * (n : Int) + 1))).setCell ⟨b, n * 4 + 2, none⟩ (.int .i64 (q + 4 * (n : Int) + 1 + 1))).setCell ⟨b, n * 4 + 3, none⟩ (.int .i64 (q + 4 * (n : Int) + 1 + 1 + 1))) (some b) := (Call.mtrans (Call.mtrans (Call.mtrans (Call.mtrans h (Call.mcell _ _ _ _)) (Call.mcell _ _ _ _)) (Call.mcell _ _ _ _)) (Call.mcell _ _ _ _))

/-- marked: the cells are the numbers from q on; only the slice's own block has turned -/
def Call.Marked (B : Nat) (a : Option Addr) (len : Nat) (q : Int) (w : World) (e : Ending) (w' : World) : Prop :=
  e = .returned (.int .i64 (q + 4 * len)) ∧ Call.Own B w' a len (fun i => q + i) ∧ Below B w w' ∧ (w' = w ∨ ∃ b, a = some ⟨b, 0, none⟩ ∧ w.grownBy w' (some b))

set_option maxRecDepth 100000 in
set_option maxHeartbeats 4000000 in
theorem markCallS_any (B : Nat) (a : Option Addr) (len cap : Nat) (g : Nat → Int) (q : Int) (w : World) (hl : len ≤ 10000000) (h0 : 0 < q) (h1 : q ≤ 1000000000) (h : Call.Own B w a len g) :
    Calls Try.prog 46 #[.slice a len cap, .int .i64 q] w (Call.Marked B a len q w) := by
  rcases h with rfl | ⟨b, f, N, rfl, hb, hN, hr, hf⟩
  · go_enter Try.func46, Try.ntmps46
    go_wp2
    go_loopw [1, 5] (fun kk i wr => i = .int .i64 0 ∧ kk = .int .i64 q ∧ wr = w) (fun _ _ _ => 0)
    case atStart => exact ⟨rfl, rfl, rfl⟩
    case round =>
      obtain ⟨rfl, rfl, rfl⟩ := hrel
      go_wp2
      go_ret
      exact ⟨ret_i64 (by simp), .inl rfl, Below.refl _ _, .inl rfl⟩
  · have HR := Lib.hid hr; clear hr hf
    go_enter Try.func46, Try.ntmps46
    go_wp2
    go_loopw [1, 5] (fun kk i wr => ∃ n : Nat, n ≤ len ∧ i = .int .i64 n ∧ kk = .int .i64 (q + 4 * n) ∧ w.grownBy wr (some b) ∧ Below B w wr ∧ ∃ f, wr.rowIs b 41 (N * 4) f ∧ ∀ i : Nat, i < n * 4 → f i = .int .i64 (q + i)) (fun _ i _ => len - (intOf i).toNat)
    case atStart => exact ⟨0, Nat.zero_le _, rfl, by simp, ⟨rfl, rfl, rfl, Nat.le_refl _, fun _ _ _ => rfl⟩, Below.refl _ _, _, HR.out, fun i hi => by omega⟩
    case round =>
      obtain ⟨n, hn, rfl, rfl, hg, hW, f, hr, hf⟩ := hrel
      have HG := Lib.hid hg; have HW := Lib.hid hW; have HR := Lib.hid hr; have HF := Lib.hid hf; clear hg hW hr hf
      by_cases hlt : n < len
      · have hN3 : n * 4 + 4 ≤ N * 4 := by omega
        have c0 := HR.out.cell (show n * 4 < N * 4 by omega); have f0 := HR.out.frozen (n * 4)
        have c1 := HR.out.cell (show n * 4 + 1 < N * 4 by omega); have f1 := HR.out.frozen (n * 4 + 1)
        have c2 := HR.out.cell (show n * 4 + 2 < N * 4 by omega); have f2 := HR.out.frozen (n * 4 + 2)
        have c3 := HR.out.cell (show n * 4 + 3 < N * 4 by omega); have f3 := HR.out.frozen (n * 4 + 3)
        go_wp2_with fail
        go_roundw
        case rel => exact ⟨n + 1, by omega, by go_num, by congr 1; omega, Call.mgrown HG.out q n, Call.mbelow HW.out hb q n, _, Call.mrow HR.out q n, Call.mput_step HF.out⟩
        case measure => simp [intOf]; omega
      · have HN := Lib.hid (show n = len by omega)
        go_wp2
        go_ret
        exact ⟨ret_i64 (by rw [HN.out]), .inr ⟨b, f, N, rfl, hb, hN, HR.out, fun i hi => HF.out i (by rw [HN.out]; exact hi)⟩, HW.out, .inr ⟨b, rfl, HG.out⟩⟩

set_option maxRecDepth 100000 in
set_option maxHeartbeats 2000000 in
theorem heldCallS_any (B : Nat) (a : Option Addr) (len cap : Nat) (q : Int) (w : World) (hl : len ≤ 10000000) (h0 : 0 < q) (h1 : q ≤ 1000000000) (h : Call.Own B w a len (fun i => q + i)) :
    Calls Try.prog 47 #[.slice a len cap, .int .i64 q] w fun e w' => e = .returned (.int .i64 (q + 4 * len)) ∧ w = w' := by
  have HO := Lib.hid h; clear h
  go_enter Try.func47, Try.ntmps47
  go_wp2
  go_loop [1, 5] (fun kk i => ∃ n : Nat, n ≤ len ∧ i = .int .i64 n ∧ kk = .int .i64 (q + 4 * n)) (fun _ i => len - (intOf i).toNat)
  case atStart => exact ⟨0, Nat.zero_le _, rfl, by simp⟩
  case round =>
    obtain ⟨n, hn, rfl, rfl⟩ := hrel
    by_cases hlt : n < len
    · obtain ⟨b, ha, h0, h1, h2, h3⟩ := HO.out.at hlt
      subst ha
      have e0 : w.cell? ⟨b, n * 4, none⟩ = some (.int .i64 (q + 4 * (n : Int))) := by rw [h0]; congr 2; omega
      have e1 : w.cell? ⟨b, n * 4 + 1, none⟩ = some (.int .i64 (q + 4 * (n : Int) + 1)) := by rw [h1]; congr 2; omega
      have e2 : w.cell? ⟨b, n * 4 + 2, none⟩ = some (.int .i64 (q + 4 * (n : Int) + 1 + 1)) := by rw [h2]; congr 2; omega
      have e3 : w.cell? ⟨b, n * 4 + 3, none⟩ = some (.int .i64 (q + 4 * (n : Int) + 1 + 1 + 1)) := by rw [h3]; congr 2; omega
      clear h0 h1 h2 h3
      go_wp2_with fail
      go_round
      case rel => exact ⟨n + 1, by omega, by go_num, by congr 1; omega⟩
      case measure => simp [intOf]; omega
    · have HN := Lib.hid (show n = len by omega)
      go_wp2
      go_ret
      exact ⟨ret_i64 (by rw [HN.out]), rfl⟩
end Go.Proofs.Ytekhdggaelppkaa
