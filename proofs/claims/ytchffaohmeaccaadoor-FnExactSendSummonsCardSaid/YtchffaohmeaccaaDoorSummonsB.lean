/- The laws' own helpers on Summons: sz, to, eq, mark, held, for one and for a slice. (written by flat.py) -/
import Derived.Test.YtchffaohmeaccaaDoorChecked
import Derived.Test.YtchffaohmeaccaaDoorBase0
import Derived.Test.YtchffaohmeaccaaDoorInfo
import Derived.WalkKit
import Derived.WalkSpells
import Derived.WalkLawsBesides
import Derived.Lib.Hide
import Derived.Lib.QuietBelow
import Derived.IntWalk
import Derived.Deep.OwnRows
import Derived.Deep.QuietTactic
import Derived.BigQuiet
import Derived.Outline
namespace Go.Proofs.YtchffaohmeaccaaDoor
open Go.RowKit Go.Sort Pure1 Pure2
set_option linter.unusedSimpArgs false

theorem szSummonsS_any (a : Option Addr) (len cap : Nat) (m : Int) (w : World) (hm : len ≤ maxLen) (h0 : 0 ≤ m) (h1 : m ≤ 1048576) :
    Calls Tryd.prog 24 #[.slice a len cap, .int .i64 m] w fun e w' => e = .returned (.int .i64 (if m - len < 0 then -1 else m - len)) ∧ w' = w := by
  unfold maxLen at hm
  by_cases hn : m - len < 0
  · have HN := Lib.hid (show (if m - (len : Int) < 0 then (-1 : Int) else m - len) = -1 from if_pos hn)
    go_enter Tryd.func24, Tryd.ntmps24
    go_wp2
    go_ret
    exact ⟨rfl, rfl⟩
  · have HN := Lib.hid (show (if m - (len : Int) < 0 then (-1 : Int) else m - len) = m - len from if_neg hn)
    go_enter Tryd.func24, Tryd.ntmps24
    go_wp2
    go_ret
    exact ⟨rfl, rfl⟩

theorem Summons.bx (w : World) (o : Obj) : Below w.heap.size w (w.alloc o) := (Below.refl _ _).alloc (Nat.le_refl _) o
theorem Summons.results1 {fn : Func} {p : Tmp} {ty : TypeId} (h : fn.results = #[.cell p ty]) (tmps : Array Value) (P : Program) (w : World) :
    (results fn tmps).run P w = ((asAddr (tmps.getD p undef)).run P w).andThen fun a w₁ => (loadVar ty a).run P w₁ := by
  simp only [results, h]
  simp [Sem.run_bind, Result.andThen]

set_option maxRecDepth 100000 in
set_option maxHeartbeats 1000000 in
theorem toSummons_any (c : Summons) (w : World) :
    Calls Tryd.prog 60 #[.agg #[.int .i64 c.num, .int .i64 c.sent, .int .i64 c.due, .int .i64 c.ans, .int .i64 c.done]] w fun e w' => e = .returned (.agg #[.int .i64 c.num, .int .i64 c.sent, .int .i64 c.due, .int .i64 c.ans, .int .i64 c.done]) ∧ Below w.heap.size w w' := by
  have HW := Lib.hid (Summons.bx (w.alloc (.cells #[.int .i64 c.num, .int .i64 c.sent, .int .i64 c.due, .int .i64 c.ans, .int .i64 c.done] 72)) (.cells #[.int .i64 0, .int .i64 0, .int .i64 0, .int .i64 0, .int .i64 0] 53))
  have HW1 := Lib.hid (Summons.bx w (.cells #[.int .i64 c.num, .int .i64 c.sent, .int .i64 c.due, .int .i64 c.ans, .int .i64 c.done] 72))
  have HA := Lib.hid ((Summons.boxed w c 72).below HW.out)
  go_enter Tryd.func60, Tryd.ntmps60
  obtain ⟨a0, a1, a2, a3, a4⟩ := HA.out
  go_wp2_with fail
  (try simp only [Exit.inBlock, Exit.then])
  refine bodyPost_ret (v := .agg #[.int .i64 c.num, .int .i64 c.sent, .int .i64 c.due, .int .i64 c.ans, .int .i64 c.done]) ?_ rfl ⟨rfl, ?_⟩
  · rw [Summons.results1 rfl]
    go_simp
  · exact ((Summons.bx w _).alloc (by simp) _).alloc (by simp; omega) _

set_option maxHeartbeats 1000000 in
theorem eqSummons_self (c : Summons) (w : World) :
    Calls Tryd.prog 62 #[.agg #[.int .i64 c.num, .int .i64 c.sent, .int .i64 c.due, .int .i64 c.ans, .int .i64 c.done], .agg #[.int .i64 c.num, .int .i64 c.sent, .int .i64 c.due, .int .i64 c.ans, .int .i64 c.done]] w fun e w' => e = .returned (.bool true) ∧ Below w.heap.size w w' := by
  have HW := Lib.hid (Summons.bx w (.cells #[.int .i64 c.num, .int .i64 c.sent, .int .i64 c.due, .int .i64 c.ans, .int .i64 c.done] 53))
  have HW2 := Lib.hid (Summons.bx (w.alloc (.cells #[.int .i64 c.num, .int .i64 c.sent, .int .i64 c.due, .int .i64 c.ans, .int .i64 c.done] 53)) (.cells #[.int .i64 c.num, .int .i64 c.sent, .int .i64 c.due, .int .i64 c.ans, .int .i64 c.done] 53))
  have HA := Lib.hid ((Summons.boxed w c 53).below HW2.out)
  have HC := Lib.hid (Summons.boxed (w.alloc (.cells #[.int .i64 c.num, .int .i64 c.sent, .int .i64 c.due, .int .i64 c.ans, .int .i64 c.done] 53)) c 53)
  have HX := Lib.hid (HW.out.trans (HW2.out.mono HW.out.size))
  go_enter Tryd.func62, Tryd.ntmps62
  obtain ⟨a0, a1, a2, a3, a4⟩ := HA.out
  obtain ⟨b0, b1, b2, b3, b4⟩ := HC.out
  go_wp2_with fail
  go_ret
  exact ⟨rfl, HX.out⟩

theorem Tryd.infoSummons : (Tryd.prog.info? 53).map (fun i => (i.zero, i.size, i.bytes)) = some (some (.agg #[.int .i64 0, .int .i64 0, .int .i64 0, .int .i64 0, .int .i64 0]), 5, 40) := by kernel_rfl
theorem run_makeSummons (len : Nat) (hm : len ≤ 1048576) (W : World) : (Instr.makeSlice 24 (.int .i64 (len : Int)) (.int .i64 (len : Int))).run Tryd.prog W = .ok (.slice (some ⟨W.heap.size, 0, none⟩) len len) (W.alloc (.cells (madeCells #[.int .i64 0, .int .i64 0, .int .i64 0, .int .i64 0, .int .i64 0] (len * 5)) 53)) := by
  obtain ⟨i, hi, hzz⟩ := Option.map_eq_some_iff.1 Tryd.infoSummons
  simp only [Prod.mk.injEq] at hzz
  obtain ⟨hz, hs, hb⟩ := hzz
  have hr := run_make (P := Tryd.prog) W 24 53 i _ Tryd.underlying24 hi hz .i64 .i64 len len (by omega) (Int.le_refl _) (by rw [hb]; omega) (by omega)
  simp only [Int.toNat_natCast, hs] at hr
  exact hr
theorem Summons.made (w : World) (z : Array Value) (n : Nat) (T : TypeId) : (w.alloc (.cells (madeCells z n) T)).rowIs w.heap.size T n (fun j => ((madeCells z n)[j]?).getD undef) := by
  have := World.rowIs_alloc w (madeCells z n) T (fun j => ((madeCells z n)[j]?).getD undef) (fun i hi => by rw [Array.getElem?_eq_getElem hi]; rfl)
  rwa [size_madeCells] at this
/-- the first n of them lie in the cells f -/
def Summons.Row (f : Nat → Value) (ts : List Summons) (n : Nat) : Prop := ∀ i c, i < n → ts[i]? = some c → f (i * 5) = .int .i64 c.num ∧ f (i * 5 + 1) = .int .i64 c.sent ∧ f (i * 5 + 2) = .int .i64 c.due ∧ f (i * 5 + 3) = .int .i64 c.ans ∧ f (i * 5 + 4) = .int .i64 c.done
def Summons.put (f : Nat → Value) (n : Nat) (c : Summons) : Nat → Value := fun j => if j = n * 5 + 4 then .int .i64 c.done else if j = n * 5 + 3 then .int .i64 c.ans else if j = n * 5 + 2 then .int .i64 c.due else if j = n * 5 + 1 then .int .i64 c.sent else if j = n * 5 then .int .i64 c.num else f j
theorem Summons.Row.step {f : Nat → Value} {ts : List Summons} {n : Nat} {c : Summons} (h : Summons.Row f ts n) (hc : ts[n]? = some c) : Summons.Row (Summons.put f n c) ts (n + 1) := by
  intro i q hi hq
  unfold Summons.put
  by_cases e : i = n
  · subst e
    rw [hc] at hq; cases hq
    simp
  · have hi' : i < n := by omega
    obtain ⟨h0, h1, h2, h3, h4⟩ := h i q hi' hq
    refine ⟨?_, ?_, ?_, ?_, ?_⟩ <;> (repeat rw [if_neg (by omega)]) <;> assumption
theorem Summons.row_put {w : World} {b : Nat} {T : TypeId} {N : Nat} {f : Nat → Value} (h : w.rowIs b T N f) (n : Nat) (c : Summons) : ((((((w.setCell ⟨b, n * 5, none⟩ (.int .i64 c.num)).setCell ⟨b, n * 5 + 1, none⟩ (.int .i64 c.sent)).setCell ⟨b, n * 5 + 2, none⟩ (.int .i64 c.due)).setCell ⟨b, n * 5 + 3, none⟩ (.int .i64 c.ans)).setCell ⟨b, n * 5 + 4, none⟩ (.int .i64 c.done))).rowIs b T N (Summons.put f n c) := (((((h.set (n * 5) (.int .i64 c.num)).set (n * 5 + 1) (.int .i64 c.sent)).set (n * 5 + 2) (.int .i64 c.due)).set (n * 5 + 3) (.int .i64 c.ans)).set (n * 5 + 4) (.int .i64 c.done))
/-- a slice in a row of the call's own (from block B on): the cells of its first len are the numbers g -/
def Summons.Own (B : Nat) (w : World) (a : Option Addr) (len : Nat) (g : Nat → Int) : Prop :=
  len = 0 ∨ ∃ b f N, a = some ⟨b, 0, none⟩ ∧ B ≤ b ∧ len ≤ N ∧ w.rowIs b 53 (N * 5) f ∧ ∀ i, i < len * 5 → f i = .int .i64 (g i)
theorem Summons.Own.below {B : Nat} {w w' : World} {a : Option Addr} {len : Nat} {g : Nat → Int} (h : Summons.Own B w a len g) (hb : Below w.heap.size w w') : Summons.Own B w' a len g := by
  rcases h with h | ⟨b, f, N, rfl, hB, hN, hr, hf⟩
  · exact .inl h
  · exact .inr ⟨b, f, N, rfl, hB, hN, hr.of_block (hb.block b hr.lt), hf⟩
theorem Summons.Own.grown {B q : Nat} {w w' : World} {a : Option Addr} {len : Nat} {g : Nat → Int} (h : Summons.Own B w a len g) (hg : w.grownBy w' (some q)) (hq : q < B) : Summons.Own B w' a len g := by
  rcases h with h | ⟨b, f, N, rfl, hB, hN, hr, hf⟩
  · exact .inl h
  · exact .inr ⟨b, f, N, rfl, hB, hN, hr.of_block (hg.block b hr.lt (fun e => by have := Option.some.inj e; omega)), hf⟩
theorem Summons.Own.mono {B C : Nat} {w : World} {a : Option Addr} {len : Nat} {g : Nat → Int} (h : Summons.Own C w a len g) (hBC : B ≤ C) : Summons.Own B w a len g := by
  rcases h with h | ⟨b, f, N, rfl, hB, rest⟩
  · exact .inl h
  · exact .inr ⟨b, f, N, rfl, Nat.le_trans hBC hB, rest⟩
theorem Summons.Own.at {B : Nat} {w : World} {a : Option Addr} {len : Nat} {g : Nat → Int} (h : Summons.Own B w a len g) {n : Nat} (hn : n < len) :
    ∃ b, a = some ⟨b, 0, none⟩ ∧ w.cell? ⟨b, n * 5, none⟩ = some (.int .i64 (g (n * 5))) ∧ w.cell? ⟨b, n * 5 + 1, none⟩ = some (.int .i64 (g (n * 5 + 1))) ∧ w.cell? ⟨b, n * 5 + 2, none⟩ = some (.int .i64 (g (n * 5 + 2))) ∧ w.cell? ⟨b, n * 5 + 3, none⟩ = some (.int .i64 (g (n * 5 + 3))) ∧ w.cell? ⟨b, n * 5 + 4, none⟩ = some (.int .i64 (g (n * 5 + 4))) := by
  rcases h with h | ⟨b, f, N, rfl, hB, hN, hr, hf⟩
  · omega
  · exact ⟨b, rfl, (by rw [hr.cell (by omega), hf _ (by omega)]), (by rw [hr.cell (by omega), hf _ (by omega)]), (by rw [hr.cell (by omega), hf _ (by omega)]), (by rw [hr.cell (by omega), hf _ (by omega)]), (by rw [hr.cell (by omega), hf _ (by omega)])⟩
/-- the numbers of a list, one behind the other -/
def Summons.flat (ts : List Summons) (j : Nat) : Int := match ts[j / 5]? with | some c => ([c.num, c.sent, c.due, c.ans, c.done].getD (j % 5) 0) | none => 0
theorem Summons.flat_at {ts : List Summons} {i : Nat} {c : Summons} (h : ts[i]? = some c) : Summons.flat ts (i * 5) = c.num ∧ Summons.flat ts (i * 5 + 1) = c.sent ∧ Summons.flat ts (i * 5 + 2) = c.due ∧ Summons.flat ts (i * 5 + 3) = c.ans ∧ Summons.flat ts (i * 5 + 4) = c.done := by
  refine ⟨?_, ?_, ?_, ?_, ?_⟩ <;> (unfold Summons.flat; simp only [show ∀ m, m < 5 → (i * 5 + m) / 5 = i from fun m hm => by omega, show ∀ m, m < 5 → (i * 5 + m) % 5 = m from fun m hm => by omega, show (i * 5) / 5 = i by omega, show (i * 5) % 5 = 0 by omega, show (0 : Nat) < 5 by omega, show (1 : Nat) < 5 by omega, show (2 : Nat) < 5 by omega, show (3 : Nat) < 5 by omega, show (4 : Nat) < 5 by omega, h]; rfl)
theorem Summons.Own.reads {B : Nat} {w : World} {a : Option Addr} {ts : List Summons} (h : Summons.Own B w a ts.length (Summons.flat ts)) : Summons.ListAt w a ts := by
  by_cases h0 : ts.length = 0
  · exact .inl (List.length_eq_zero_iff.1 h0)
  · obtain ⟨b, rfl, _⟩ := h.at (n := 0) (by omega)
    refine .inr ⟨b, 0, rfl, fun i c hc => ?_⟩
    obtain ⟨b', e, hcells⟩ := h.at (List.getElem?_eq_some_iff.1 hc).1
    cases e
    obtain ⟨h0, h1, h2, h3, h4⟩ := hcells
    obtain ⟨g0, g1, g2, g3, g4⟩ := Summons.flat_at hc
    rw [Nat.zero_add]
    exact ⟨h0.trans (by rw [g0]), h1.trans (by rw [g1]), h2.trans (by rw [g2]), h3.trans (by rw [g3]), h4.trans (by rw [g4])⟩
end Go.Proofs.YtchffaohmeaccaaDoor
