/- The laws' own helpers on Call: sz, to, eq, mark, held, for one and for a slice. (written by flat.py) -/
import Derived.Test.YtekhdggaelppkaaChecked
import Derived.Test.YtekhdggaelppkaaBase0
import Derived.Test.YtekhdggaelppkaaInfo
import Derived.WalkKit
import Derived.WalkSpells
import Derived.WalkLawsBesides
import Derived.Lib.Hide
import Derived.Lib.QuietBelow
import Derived.IntWalk
import Derived.Deep.OwnRows
import Derived.Deep.QuietTactic
import Derived.BigQuiet
import Derived.Outline
namespace Go.Proofs.Ytekhdggaelppkaa
open Go.RowKit Go.Sort Pure1 Pure2
set_option linter.unusedSimpArgs false

theorem szCallS_any (a : Option Addr) (len cap : Nat) (m : Int) (w : World) (hm : len ≤ maxLen) (h0 : 0 ≤ m) (h1 : m ≤ 1048576) :
    Calls Try.prog 40 #[.slice a len cap, .int .i64 m] w fun e w' => e = .returned (.int .i64 (if m - len < 0 then -1 else m - len)) ∧ w' = w := by
  unfold maxLen at hm
  by_cases hn : m - len < 0
  · have HN := Lib.hid (show (if m - (len : Int) < 0 then (-1 : Int) else m - len) = -1 from if_pos hn)
    go_enter Try.func40, Try.ntmps40
    go_wp2
    go_ret
    exact ⟨rfl, rfl⟩
  · have HN := Lib.hid (show (if m - (len : Int) < 0 then (-1 : Int) else m - len) = m - len from if_neg hn)
    go_enter Try.func40, Try.ntmps40
    go_wp2
    go_ret
    exact ⟨rfl, rfl⟩

theorem Call.bx (w : World) (o : Obj) : Below w.heap.size w (w.alloc o) := (Below.refl _ _).alloc (Nat.le_refl _) o
theorem Call.results1 {fn : Func} {p : Tmp} {ty : TypeId} (h : fn.results = #[.cell p ty]) (tmps : Array Value) (P : Program) (w : World) :
    (results fn tmps).run P w = ((asAddr (tmps.getD p undef)).run P w).andThen fun a w₁ => (loadVar ty a).run P w₁ := by
  simp only [results, h]
  simp [Sem.run_bind, Result.andThen]

set_option maxRecDepth 100000 in
set_option maxHeartbeats 1000000 in
theorem toCall_any (c : Call) (w : World) :
    Calls Try.prog 85 #[.agg #[.int .i64 c.num, .int .i64 c.fst, .int .i64 c.day, .int .i64 c.moves]] w fun e w' => e = .returned (.agg #[.int .i64 c.num, .int .i64 c.fst, .int .i64 c.day, .int .i64 c.moves]) ∧ Below w.heap.size w w' := by
  have HW := Lib.hid (Call.bx (w.alloc (.cells #[.int .i64 c.num, .int .i64 c.fst, .int .i64 c.day, .int .i64 c.moves] 89)) (.cells #[.int .i64 0, .int .i64 0, .int .i64 0, .int .i64 0] 41))
  have HW1 := Lib.hid (Call.bx w (.cells #[.int .i64 c.num, .int .i64 c.fst, .int .i64 c.day, .int .i64 c.moves] 89))
  have HA := Lib.hid ((Call.boxed w c 89).below HW.out)
  go_enter Try.func85, Try.ntmps85
  obtain ⟨a0, a1, a2, a3⟩ := HA.out
  go_wp2_with fail
  (try simp only [Exit.inBlock, Exit.then])
  refine bodyPost_ret (v := .agg #[.int .i64 c.num, .int .i64 c.fst, .int .i64 c.day, .int .i64 c.moves]) ?_ rfl ⟨rfl, ?_⟩
  · rw [Call.results1 rfl]
    go_simp
  · exact ((Call.bx w _).alloc (by simp) _).alloc (by simp; omega) _

set_option maxHeartbeats 1000000 in
theorem eqCall_self (c : Call) (w : World) :
    Calls Try.prog 86 #[.agg #[.int .i64 c.num, .int .i64 c.fst, .int .i64 c.day, .int .i64 c.moves], .agg #[.int .i64 c.num, .int .i64 c.fst, .int .i64 c.day, .int .i64 c.moves]] w fun e w' => e = .returned (.bool true) ∧ Below w.heap.size w w' := by
  have HW := Lib.hid (Call.bx w (.cells #[.int .i64 c.num, .int .i64 c.fst, .int .i64 c.day, .int .i64 c.moves] 41))
  have HW2 := Lib.hid (Call.bx (w.alloc (.cells #[.int .i64 c.num, .int .i64 c.fst, .int .i64 c.day, .int .i64 c.moves] 41)) (.cells #[.int .i64 c.num, .int .i64 c.fst, .int .i64 c.day, .int .i64 c.moves] 41))
  have HA := Lib.hid ((Call.boxed w c 41).below HW2.out)
  have HC := Lib.hid (Call.boxed (w.alloc (.cells #[.int .i64 c.num, .int .i64 c.fst, .int .i64 c.day, .int .i64 c.moves] 41)) c 41)
  have HX := Lib.hid (HW.out.trans (HW2.out.mono HW.out.size))
  go_enter Try.func86, Try.ntmps86
  obtain ⟨a0, a1, a2, a3⟩ := HA.out
  obtain ⟨b0, b1, b2, b3⟩ := HC.out
  go_wp2_with fail
  go_ret
  exact ⟨rfl, HX.out⟩

theorem Try.infoCall : (Try.prog.info? 41).map (fun i => (i.zero, i.size, i.bytes)) = some (some (.agg #[.int .i64 0, .int .i64 0, .int .i64 0, .int .i64 0]), 4, 32) := by kernel_rfl
theorem run_makeCall (len : Nat) (hm : len ≤ 1048576) (W : World) : (Instr.makeSlice 25 (.int .i64 (len : Int)) (.int .i64 (len : Int))).run Try.prog W = .ok (.slice (some ⟨W.heap.size, 0, none⟩) len len) (W.alloc (.cells (madeCells #[.int .i64 0, .int .i64 0, .int .i64 0, .int .i64 0] (len * 4)) 41)) := by
  obtain ⟨i, hi, hzz⟩ := Option.map_eq_some_iff.1 Try.infoCall
  simp only [Prod.mk.injEq] at hzz
  obtain ⟨hz, hs, hb⟩ := hzz
  have hr := run_make (P := Try.prog) W 25 41 i _ Try.underlying25 hi hz .i64 .i64 len len (by omega) (Int.le_refl _) (by rw [hb]; omega) (by omega)
  simp only [Int.toNat_natCast, hs] at hr
  exact hr
theorem Call.made (w : World) (z : Array Value) (n : Nat) (T : TypeId) : (w.alloc (.cells (madeCells z n) T)).rowIs w.heap.size T n (fun j => ((madeCells z n)[j]?).getD undef) := by
  have := World.rowIs_alloc w (madeCells z n) T (fun j => ((madeCells z n)[j]?).getD undef) (fun i hi => by rw [Array.getElem?_eq_getElem hi]; rfl)
  rwa [size_madeCells] at this
/-- the first n of them lie in the cells f -/
def Call.Row (f : Nat → Value) (ts : List Call) (n : Nat) : Prop := ∀ i c, i < n → ts[i]? = some c → f (i * 4) = .int .i64 c.num ∧ f (i * 4 + 1) = .int .i64 c.fst ∧ f (i * 4 + 2) = .int .i64 c.day ∧ f (i * 4 + 3) = .int .i64 c.moves
def Call.put (f : Nat → Value) (n : Nat) (c : Call) : Nat → Value := fun j => if j = n * 4 + 3 then .int .i64 c.moves else if j = n * 4 + 2 then .int .i64 c.day else if j = n * 4 + 1 then .int .i64 c.fst else if j = n * 4 then .int .i64 c.num else f j
theorem Call.Row.step {f : Nat → Value} {ts : List Call} {n : Nat} {c : Call} (h : Call.Row f ts n) (hc : ts[n]? = some c) : Call.Row (Call.put f n c) ts (n + 1) := by
  intro i q hi hq
  unfold Call.put
  by_cases e : i = n
  · subst e
    rw [hc] at hq; cases hq
    simp
  · have hi' : i < n := by omega
    obtain ⟨h0, h1, h2, h3⟩ := h i q hi' hq
    refine ⟨?_, ?_, ?_, ?_⟩ <;> (repeat rw [if_neg (by omega)]) <;> assumption
theorem Call.row_put {w : World} {b : Nat} {T : TypeId} {N : Nat} {f : Nat → Value} (h : w.rowIs b T N f) (n : Nat) (c : Call) : (((((w.setCell ⟨b, n * 4, none⟩ (.int .i64 c.num)).setCell ⟨b, n * 4 + 1, none⟩ (.int .i64 c.fst)).setCell ⟨b, n * 4 + 2, none⟩ (.int .i64 c.day)).setCell ⟨b, n * 4 + 3, none⟩ (.int .i64 c.moves))).rowIs b T N (Call.put f n c) := ((((h.set (n * 4) (.int .i64 c.num)).set (n * 4 + 1) (.int .i64 c.fst)).set (n * 4 + 2) (.int .i64 c.day)).set (n * 4 + 3) (.int .i64 c.moves))
/-- a slice in a row of the call's own (from block B on): the cells of its first len are the numbers g -/
def Call.Own (B : Nat) (w : World) (a : Option Addr) (len : Nat) (g : Nat → Int) : Prop :=
  len = 0 ∨ ∃ b f N, a = some ⟨b, 0, none⟩ ∧ B ≤ b ∧ len ≤ N ∧ w.rowIs b 41 (N * 4) f ∧ ∀ i, i < len * 4 → f i = .int .i64 (g i)
theorem Call.Own.below {B : Nat} {w w' : World} {a : Option Addr} {len : Nat} {g : Nat → Int} (h : Call.Own B w a len g) (hb : Below w.heap.size w w') : Call.Own B w' a len g := by
  rcases h with h | ⟨b, f, N, rfl, hB, hN, hr, hf⟩
  · exact .inl h
  · exact .inr ⟨b, f, N, rfl, hB, hN, hr.of_block (hb.block b hr.lt), hf⟩
theorem Call.Own.grown {B q : Nat} {w w' : World} {a : Option Addr} {len : Nat} {g : Nat → Int} (h : Call.Own B w a len g) (hg : w.grownBy w' (some q)) (hq : q < B) : Call.Own B w' a len g := by
  rcases h with h | ⟨b, f, N, rfl, hB, hN, hr, hf⟩
  · exact .inl h
  · exact .inr ⟨b, f, N, rfl, hB, hN, hr.of_block (hg.block b hr.lt (fun e => by have := Option.some.inj e; omega)), hf⟩
theorem Call.Own.mono {B C : Nat} {w : World} {a : Option Addr} {len : Nat} {g : Nat → Int} (h : Call.Own C w a len g) (hBC : B ≤ C) : Call.Own B w a len g := by
  rcases h with h | ⟨b, f, N, rfl, hB, rest⟩
  · exact .inl h
  · exact .inr ⟨b, f, N, rfl, Nat.le_trans hBC hB, rest⟩
theorem Call.Own.at {B : Nat} {w : World} {a : Option Addr} {len : Nat} {g : Nat → Int} (h : Call.Own B w a len g) {n : Nat} (hn : n < len) :
    ∃ b, a = some ⟨b, 0, none⟩ ∧ w.cell? ⟨b, n * 4, none⟩ = some (.int .i64 (g (n * 4))) ∧ w.cell? ⟨b, n * 4 + 1, none⟩ = some (.int .i64 (g (n * 4 + 1))) ∧ w.cell? ⟨b, n * 4 + 2, none⟩ = some (.int .i64 (g (n * 4 + 2))) ∧ w.cell? ⟨b, n * 4 + 3, none⟩ = some (.int .i64 (g (n * 4 + 3))) := by
  rcases h with h | ⟨b, f, N, rfl, hB, hN, hr, hf⟩
  · omega
  · exact ⟨b, rfl, (by rw [hr.cell (by omega), hf _ (by omega)]), (by rw [hr.cell (by omega), hf _ (by omega)]), (by rw [hr.cell (by omega), hf _ (by omega)]), (by rw [hr.cell (by omega), hf _ (by omega)])⟩
/-- the numbers of a list, one behind the other -/
def Call.flat (ts : List Call) (j : Nat) : Int := match ts[j / 4]? with | some c => ([c.num, c.fst, c.day, c.moves].getD (j % 4) 0) | none => 0
theorem Call.flat_at {ts : List Call} {i : Nat} {c : Call} (h : ts[i]? = some c) : Call.flat ts (i * 4) = c.num ∧ Call.flat ts (i * 4 + 1) = c.fst ∧ Call.flat ts (i * 4 + 2) = c.day ∧ Call.flat ts (i * 4 + 3) = c.moves := by
  refine ⟨?_, ?_, ?_, ?_⟩ <;> (unfold Call.flat; simp only [show ∀ m, m < 4 → (i * 4 + m) / 4 = i from fun m hm => by omega, show ∀ m, m < 4 → (i * 4 + m) % 4 = m from fun m hm => by omega, show (i * 4) / 4 = i by omega, show (i * 4) % 4 = 0 by omega, show (0 : Nat) < 4 by omega, show (1 : Nat) < 4 by omega, show (2 : Nat) < 4 by omega, show (3 : Nat) < 4 by omega, h]; rfl)
theorem Call.Own.reads {B : Nat} {w : World} {a : Option Addr} {ts : List Call} (h : Call.Own B w a ts.length (Call.flat ts)) : Call.ListAt w a ts := by
  by_cases h0 : ts.length = 0
  · exact .inl (List.length_eq_zero_iff.1 h0)
  · obtain ⟨b, rfl, _⟩ := h.at (n := 0) (by omega)
    refine .inr ⟨b, 0, rfl, fun i c hc => ?_⟩
    obtain ⟨b', e, hcells⟩ := h.at (List.getElem?_eq_some_iff.1 hc).1
    cases e
    obtain ⟨h0, h1, h2, h3⟩ := hcells
    obtain ⟨g0, g1, g2, g3⟩ := Call.flat_at hc
    rw [Nat.zero_add]
    exact ⟨h0.trans (by rw [g0]), h1.trans (by rw [g1]), h2.trans (by rw [g2]), h3.trans (by rw [g3])⟩
end Go.Proofs.Ytekhdggaelppkaa
