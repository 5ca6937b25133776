/- The laws' own helpers on Term: sz, to, eq, mark, held, for one and for a slice. (written by flat.py) -/
import Derived.Test.YtblbmmajobefiaaChecked
import Derived.Test.YtblbmmajobefiaaBase
import Derived.Test.YtblbmmajobefiaaInfo
import Derived.Test.YtblbmmajobefiaaTermA
import Derived.WalkKit
import Derived.WalkSpells
import Derived.WalkLawsBesides
import Derived.Lib.Hide
import Derived.Lib.QuietBelow
import Derived.IntWalk
import Derived.Deep.OwnRows
import Derived.Deep.QuietTactic
import Derived.BigQuiet
import Derived.Outline
namespace Go.Proofs.Ytblbmmajobefiaa
open Go.RowKit Go.Sort Pure1 Pure2
set_option linter.unusedSimpArgs false

theorem szTermS_any (a : Option Addr) (len cap : Nat) (m : Int) (w : World) (hm : len ≤ maxLen) (h0 : 0 ≤ m) (h1 : m ≤ 1048576) :
    Calls Try.prog 38 #[.slice a len cap, .int .i64 m] w fun e w' => e = .returned (.int .i64 (if m - len < 0 then -1 else m - len)) ∧ w' = w := by
  unfold maxLen at hm
  by_cases hn : m - len < 0
  · have HN := Lib.hid (show (if m - (len : Int) < 0 then (-1 : Int) else m - len) = -1 from if_pos hn)
    go_enter Try.func38, Try.ntmps38
    go_wp2
    go_ret
    exact ⟨rfl, rfl⟩
  · have HN := Lib.hid (show (if m - (len : Int) < 0 then (-1 : Int) else m - len) = m - len from if_neg hn)
    go_enter Try.func38, Try.ntmps38
    go_wp2
    go_ret
    exact ⟨rfl, rfl⟩

theorem Term.bx (w : World) (o : Obj) : Below w.heap.size w (w.alloc o) := (Below.refl _ _).alloc (Nat.le_refl _) o
theorem Term.results1 {fn : Func} {p : Tmp} {ty : TypeId} (h : fn.results = #[.cell p ty]) (tmps : Array Value) (P : Program) (w : World) :
    (results fn tmps).run P w = ((asAddr (tmps.getD p undef)).run P w).andThen fun a w₁ => (loadVar ty a).run P w₁ := by
  simp only [results, h]
  simp [Sem.run_bind, Result.andThen]

set_option maxRecDepth 100000 in
set_option maxHeartbeats 1000000 in
theorem toTerm_any (c : Term) (w : World) :
    Calls Try.prog 41 #[.agg #[.int .i64 c.num, .int .i64 c.frm, .int .i64 c.to]] w fun e w' => e = .returned (.agg #[.int .i64 c.num, .int .i64 c.frm, .int .i64 c.to]) ∧ Below w.heap.size w w' := by
  have HW := Lib.hid (Term.bx (w.alloc (.cells #[.int .i64 c.num, .int .i64 c.frm, .int .i64 c.to] 53)) (.cells #[.int .i64 0, .int .i64 0, .int .i64 0] 32))
  have HW1 := Lib.hid (Term.bx w (.cells #[.int .i64 c.num, .int .i64 c.frm, .int .i64 c.to] 53))
  have HA := Lib.hid ((Term.boxed w c 53).below HW.out)
  go_enter Try.func41, Try.ntmps41
  obtain ⟨a0, a1, a2⟩ := HA.out
  go_wp2_with fail
  (try simp only [Exit.inBlock, Exit.then])
  refine bodyPost_ret (v := .agg #[.int .i64 c.num, .int .i64 c.frm, .int .i64 c.to]) ?_ rfl ⟨rfl, ?_⟩
  · rw [Term.results1 rfl]
    go_simp
  · exact ((Term.bx w _).alloc (by simp) _).alloc (by simp; omega) _

set_option maxHeartbeats 1000000 in
theorem eqTerm_self (c : Term) (w : World) :
    Calls Try.prog 69 #[.agg #[.int .i64 c.num, .int .i64 c.frm, .int .i64 c.to], .agg #[.int .i64 c.num, .int .i64 c.frm, .int .i64 c.to]] w fun e w' => e = .returned (.bool true) ∧ Below w.heap.size w w' := by
  have HW := Lib.hid (Term.bx w (.cells #[.int .i64 c.num, .int .i64 c.frm, .int .i64 c.to] 32))
  have HW2 := Lib.hid (Term.bx (w.alloc (.cells #[.int .i64 c.num, .int .i64 c.frm, .int .i64 c.to] 32)) (.cells #[.int .i64 c.num, .int .i64 c.frm, .int .i64 c.to] 32))
  have HA := Lib.hid ((Term.boxed w c 32).below HW2.out)
  have HC := Lib.hid (Term.boxed (w.alloc (.cells #[.int .i64 c.num, .int .i64 c.frm, .int .i64 c.to] 32)) c 32)
  have HX := Lib.hid (HW.out.trans (HW2.out.mono HW.out.size))
  go_enter Try.func69, Try.ntmps69
  obtain ⟨a0, a1, a2⟩ := HA.out
  obtain ⟨b0, b1, b2⟩ := HC.out
  go_wp2_with fail
  go_ret
  exact ⟨rfl, HX.out⟩

theorem Try.infoTerm : (Try.prog.info? 32).map (fun i => (i.zero, i.size, i.bytes)) = some (some (.agg #[.int .i64 0, .int .i64 0, .int .i64 0]), 3, 24) := by kernel_rfl
theorem run_makeTerm (len : Nat) (hm : len ≤ 1048576) (W : World) : (Instr.makeSlice 24 (.int .i64 (len : Int)) (.int .i64 (len : Int))).run Try.prog W = .ok (.slice (some ⟨W.heap.size, 0, none⟩) len len) (W.alloc (.cells (madeCells #[.int .i64 0, .int .i64 0, .int .i64 0] (len * 3)) 32)) := by
  obtain ⟨i, hi, hzz⟩ := Option.map_eq_some_iff.1 Try.infoTerm
  simp only [Prod.mk.injEq] at hzz
  obtain ⟨hz, hs, hb⟩ := hzz
  have hr := run_make (P := Try.prog) W 24 32 i _ Try.underlying24 hi hz .i64 .i64 len len (by omega) (Int.le_refl _) (by rw [hb]; omega) (by omega)
  simp only [Int.toNat_natCast, hs] at hr
  exact hr
theorem Term.made (w : World) (z : Array Value) (n : Nat) (T : TypeId) : (w.alloc (.cells (madeCells z n) T)).rowIs w.heap.size T n (fun j => ((madeCells z n)[j]?).getD undef) := by
  have := World.rowIs_alloc w (madeCells z n) T (fun j => ((madeCells z n)[j]?).getD undef) (fun i hi => by rw [Array.getElem?_eq_getElem hi]; rfl)
  rwa [size_madeCells] at this
/-- the first n of them lie in the cells f -/
def Term.Row (f : Nat → Value) (ts : List Term) (n : Nat) : Prop := ∀ i c, i < n → ts[i]? = some c → f (i * 3) = .int .i64 c.num ∧ f (i * 3 + 1) = .int .i64 c.frm ∧ f (i * 3 + 2) = .int .i64 c.to
def Term.put (f : Nat → Value) (n : Nat) (c : Term) : Nat → Value := fun j => if j = n * 3 + 2 then .int .i64 c.to else if j = n * 3 + 1 then .int .i64 c.frm else if j = n * 3 then .int .i64 c.num else f j
theorem Term.Row.step {f : Nat → Value} {ts : List Term} {n : Nat} {c : Term} (h : Term.Row f ts n) (hc : ts[n]? = some c) : Term.Row (Term.put f n c) ts (n + 1) := by
  intro i q hi hq
  unfold Term.put
  by_cases e : i = n
  · subst e
    rw [hc] at hq; cases hq
    simp
  · have hi' : i < n := by omega
    obtain ⟨h0, h1, h2⟩ := h i q hi' hq
    refine ⟨?_, ?_, ?_⟩ <;> (repeat rw [if_neg (by omega)]) <;> assumption
theorem Term.row_put {w : World} {b : Nat} {T : TypeId} {N : Nat} {f : Nat → Value} (h : w.rowIs b T N f) (n : Nat) (c : Term) : ((((w.setCell ⟨b, n * 3, none⟩ (.int .i64 c.num)).setCell ⟨b, n * 3 + 1, none⟩ (.int .i64 c.frm)).setCell ⟨b, n * 3 + 2, none⟩ (.int .i64 c.to))).rowIs b T N (Term.put f n c) := (((h.set (n * 3) (.int .i64 c.num)).set (n * 3 + 1) (.int .i64 c.frm)).set (n * 3 + 2) (.int .i64 c.to))
/-- a slice in a row of the call's own (from block B on): the cells of its first len are the numbers g -/
def Term.Own (B : Nat) (w : World) (a : Option Addr) (len : Nat) (g : Nat → Int) : Prop :=
  len = 0 ∨ ∃ b f N, a = some ⟨b, 0, none⟩ ∧ B ≤ b ∧ len ≤ N ∧ w.rowIs b 32 (N * 3) f ∧ ∀ i, i < len * 3 → f i = .int .i64 (g i)
theorem Term.Own.below {B : Nat} {w w' : World} {a : Option Addr} {len : Nat} {g : Nat → Int} (h : Term.Own B w a len g) (hb : Below w.heap.size w w') : Term.Own B w' a len g := by
  rcases h with h | ⟨b, f, N, rfl, hB, hN, hr, hf⟩
  · exact .inl h
  · exact .inr ⟨b, f, N, rfl, hB, hN, hr.of_block (hb.block b hr.lt), hf⟩
theorem Term.Own.grown {B q : Nat} {w w' : World} {a : Option Addr} {len : Nat} {g : Nat → Int} (h : Term.Own B w a len g) (hg : w.grownBy w' (some q)) (hq : q < B) : Term.Own B w' a len g := by
  rcases h with h | ⟨b, f, N, rfl, hB, hN, hr, hf⟩
  · exact .inl h
  · exact .inr ⟨b, f, N, rfl, hB, hN, hr.of_block (hg.block b hr.lt (fun e => by have := Option.some.inj e; omega)), hf⟩
theorem Term.Own.mono {B C : Nat} {w : World} {a : Option Addr} {len : Nat} {g : Nat → Int} (h : Term.Own C w a len g) (hBC : B ≤ C) : Term.Own B w a len g := by
  rcases h with h | ⟨b, f, N, rfl, hB, rest⟩
  · exact .inl h
  · exact .inr ⟨b, f, N, rfl, Nat.le_trans hBC hB, rest⟩
theorem Term.Own.at {B : Nat} {w : World} {a : Option Addr} {len : Nat} {g : Nat → Int} (h : Term.Own B w a len g) {n : Nat} (hn : n < len) :
    ∃ b, a = some ⟨b, 0, none⟩ ∧ w.cell? ⟨b, n * 3, none⟩ = some (.int .i64 (g (n * 3))) ∧ w.cell? ⟨b, n * 3 + 1, none⟩ = some (.int .i64 (g (n * 3 + 1))) ∧ w.cell? ⟨b, n * 3 + 2, none⟩ = some (.int .i64 (g (n * 3 + 2))) := by
  rcases h with h | ⟨b, f, N, rfl, hB, hN, hr, hf⟩
  · omega
  · exact ⟨b, rfl, (by rw [hr.cell (by omega), hf _ (by omega)]), (by rw [hr.cell (by omega), hf _ (by omega)]), (by rw [hr.cell (by omega), hf _ (by omega)])⟩
/-- the numbers of a list, one behind the other -/
def Term.flat (ts : List Term) (j : Nat) : Int := match ts[j / 3]? with | some c => ([c.num, c.frm, c.to].getD (j % 3) 0) | none => 0
theorem Term.flat_at {ts : List Term} {i : Nat} {c : Term} (h : ts[i]? = some c) : Term.flat ts (i * 3) = c.num ∧ Term.flat ts (i * 3 + 1) = c.frm ∧ Term.flat ts (i * 3 + 2) = c.to := by
  refine ⟨?_, ?_, ?_⟩ <;> (unfold Term.flat; simp only [show ∀ m, m < 3 → (i * 3 + m) / 3 = i from fun m hm => by omega, show ∀ m, m < 3 → (i * 3 + m) % 3 = m from fun m hm => by omega, show (i * 3) / 3 = i by omega, show (i * 3) % 3 = 0 by omega, show (0 : Nat) < 3 by omega, show (1 : Nat) < 3 by omega, show (2 : Nat) < 3 by omega, h]; rfl)
theorem Term.Own.reads {B : Nat} {w : World} {a : Option Addr} {ts : List Term} (h : Term.Own B w a ts.length (Term.flat ts)) : Term.ListAt w a ts := by
  by_cases h0 : ts.length = 0
  · exact .inl (List.length_eq_zero_iff.1 h0)
  · obtain ⟨b, rfl, _⟩ := h.at (n := 0) (by omega)
    refine .inr ⟨b, 0, rfl, fun i c hc => ?_⟩
    obtain ⟨b', e, hcells⟩ := h.at (List.getElem?_eq_some_iff.1 hc).1
    cases e
    obtain ⟨h0, h1, h2⟩ := hcells
    obtain ⟨g0, g1, g2⟩ := Term.flat_at hc
    rw [Nat.zero_add]
    exact ⟨h0.trans (by rw [g0]), h1.trans (by rw [g1]), h2.trans (by rw [g2])⟩
end Go.Proofs.Ytblbmmajobefiaa
