/- A map keyed by persons that the program makes: what its keys read as, and what it holds. -/
import Derived.Test.YtlaeceglcmnhbaaChecked
import Derived.Test.YtlaeceglcmnhbaaBase
import Derived.Test.YtlaeceglcmnhbaaPure41
import Derived.WalkKit
import Derived.WalkSpells
import Derived.WalkLawsBesides
import Derived.Lib.Hide
import Derived.IntWalk
import Derived.Maps.OwnOps
import Derived.Maps.Views
import Derived.DeepKeys4
namespace Go.Proofs.Ytlaeceglcmnhbaa
open Go.RowKit Go.Maps Go.WideMaps Pure1 Pure40 Pure41

theorem Try.laidOut4 : laidOutB Try.prog = true := by kernel_rfl
theorem Try.persWide : (match Try.prog.underlying 25 with | some (.array _ _) | some (.struct _) => true | _ => false) = true := by kernel_rfl
theorem Try.persKeyed : Keyed Try.prog 25 := Keyed.of_law (deep_law_laid Try.laidOut4 (m := 3) (by omega) (of_decide_eq_true (by kernel_rfl)) (by kernel_rfl) Try.persWide)
theorem Try.zeroI (w : World) : (zeroValue 2).run Try.prog w = .ok (.int .i64 0) w := by kernel_rfl

/-- a person that can be told as a key -/
def Good (p : Pers) : Prop := (Lit.int .i64 p.num).wf = true ∧ p.fst.size ≤ maxLen ∧ p.lst.size ≤ maxLen ∧ (Lit.int .i64 p.born).wf = true ∧ (Lit.int .i64 p.zone).wf = true

theorem keyed_pers {p : Pers} (h : Good p) : ∃ l, keyOf Try.prog 25 p.val = some l := by
  obtain ⟨h0, h1, h2, h3, h4⟩ := h
  have hk : Try.prog.keyType 25 = true := by kernel_rfl
  have hC : Try.prog.cellsOf 25 = 5 := by kernel_rfl
  have hC2 : Try.prog.cellsOf 2 = 1 := by kernel_rfl
  have hC9 : Try.prog.cellsOf 9 = 1 := by kernel_rfl
  have hf : p.val.formed Try.prog 25 = true := by simp [Pers.val, Value.formed, Try.underlying25, hC]
  obtain ⟨m, hm⟩ : ∃ m, Try.prog.types.size = m + 1 := by
    have : 0 < Try.prog.types.size := of_decide_eq_true (by kernel_rfl)
    exact ⟨Try.prog.types.size - 1, by omega⟩
  have hc : p.val.cells.toList = p.cells := rfl
  unfold keyOf
  rw [Try.underlying25]
  simp only [hk, hf, Bool.and_self, if_true, hc, hm]
  simp [Program.keyLits, Try.underlying25, Try.underlying2, Try.underlying9, hC, hC2, hC9, Pers.cells, h0, h1, h2, h3, h4]

/-- what a person reads as, as a key -/
noncomputable def keyL (p : Pers) : Lit := (keyOf Try.prog 25 p.val).getD (.bool false)
theorem keyL_eq {p : Pers} (h : Good p) : keyOf Try.prog 25 p.val = some (keyL p) := by
  obtain ⟨l, hl⟩ := keyed_pers h
  rw [keyL, hl]; rfl
theorem keyL_inj {p q : Pers} (h : Good p) (h' : Good q) (e : keyL p = keyL q) : p = q := by
  have h1 := keyL_eq h
  have h2 := keyL_eq h'
  rw [e] at h1
  have := Try.persKeyed.inj h1 h2
  simp only [Pers.val, Value.agg.injEq, Array.mk.injEq, List.cons.injEq, Value.int.injEq, Value.string.injEq, true_and, and_true] at this
  obtain ⟨e0, e1, e2, e3, e4⟩ := this
  obtain ⟨a, b, c, d, e⟩ := p
  obtain ⟨a', b', c', d', e'⟩ := q
  simp only at e0 e1 e2 e3 e4
  subst e0 e1 e2 e3 e4
  rfl
theorem good_of {p : Pers} (h : isPers p = true) : Good p := by
  obtain ⟨h0, h1, h2, h3, h4⟩ := isPers_parts h
  exact ⟨WalkArith.wf_i64 (by omega), by unfold maxLen; omega, by unfold maxLen; omega, WalkArith.wf_i64 (by omega), WalkArith.wf_i64 (by omega)⟩

/-- block B holds the likeness to p of the first k persons -/
def MapLike (w : World) (B : Nat) (p : Pers) (ps : List Pers) (k : Nat) : Prop :=
  ∃ D : DataW Unit, w.ownsMap Try.prog 25 (plainElem Try.prog 2) B k D ∧ IsMap D ∧ ∀ i q, i < k → ps[i]? = some q → ∀ z, D.atKey (keyL q) z = .lit (.int .i64 (likeP q p))

theorem likeP_in (a b : Pers) : 0 ≤ likeP a b ∧ likeP a b ≤ 1000 := by
  have h1 := wordP_in a.lst b.lst (s := 40) (n := 25) ⟨by omega, by omega⟩ ⟨by omega, by omega⟩
  have h2 := wordP_in a.fst b.fst (s := 30) (n := 20) ⟨by omega, by omega⟩ ⟨by omega, by omega⟩
  have h3 : 0 ≤ bornP a.born b.born ∧ bornP a.born b.born ≤ 20 := by
    unfold bornP; split
    · omega
    · split <;> omega
  unfold likeP
  split <;> omega

theorem MapLike.made (w : World) (p : Pers) (ps : List Pers) : MapLike (w.alloc (.map #[] 0)) w.heap.size p ps 0 :=
  ⟨_, World.ownsMap_made _ _ _ _, isMap_empty, fun i q hi => by omega⟩
theorem MapLike.lt {w : World} {B : Nat} {p : Pers} {ps : List Pers} {k : Nat} (h : MapLike w B p ps k) : B < w.heap.size := by
  obtain ⟨D, ho, _⟩ := h; exact ho.lt
/-- other memory may change -/
theorem MapLike.below {w w' : World} {B : Nat} {p : Pers} {ps : List Pers} {k : Nat} (h : MapLike w B p ps k) (hb : Below w.heap.size w w') : MapLike w' B p ps k := by
  have hlt := h.lt
  obtain ⟨D, ho, hm, ha⟩ := h
  exact ⟨D, ho.kept (row := none) ⟨hb.os, hb.tape, hb.output, hb.size, fun i hi _ => hb.block i hi⟩ (by simp), hm, ha⟩
/-- one more person is told -/
theorem MapLike.store {w : World} {B : Nat} {p q : Pers} {ps : List Pers} {k : Nat} (h : MapLike w B p ps k) (hk : k < maxLen) (hg : ∀ (i : Nat) (r : Pers), ps[i]? = some r → Good r) (hq : ps[k]? = some q) :
    ∃ w', (Instr.mapUpdate 61 (.map (some B)) (.agg #[.int .i64 q.num, .string q.fst, .string q.lst, .int .i64 q.born, .int .i64 q.zone]) (.int .i64 (likeP q p))).run Try.prog w = .ok () w' ∧ MapLike w' B p ps (k + 1) ∧ w.grownBy w' (some B) := by
  obtain ⟨D, ho, hm, ha⟩ := h
  have hl := likeP_in q p
  obtain ⟨w', hrun, ho', hgr⟩ := ho.update Try.persKeyed Try.underlying61 hk (keyL_eq (hg k q hq)) (plainElem_int Try.underlying2 (WalkArith.wf_i64 (n := likeP q p) (by omega)))
  refine ⟨w', hrun, ⟨_, ho', hm.put _ _, fun i r hi hr z => ?_⟩, hgr⟩
  by_cases e : keyL r = keyL q
  · have e2 := keyL_inj (hg i r hr) (hg k q hq) e
    subst e2
    exact atKey_put_same hm (Try.persKeyed.key (keyL_eq (hg k r hq))) _ _
  · rw [atKey_put_other e]
    by_cases ek : i = k
    · subst ek; rw [hq] at hr; cases hr; exact absurd rfl e
    · exact ha i r (by omega) hr z
/-- what the map holds at one of the persons -/
theorem MapLike.look {w : World} {B : Nat} {p q : Pers} {ps : List Pers} {k i : Nat} (h : MapLike w B p ps k) (hi : i < k) (hg : Good q) (hq : ps[i]? = some q) :
    (Instr.lookup 61 (.map (some B)) (.agg #[.int .i64 q.num, .string q.fst, .string q.lst, .int .i64 q.born, .int .i64 q.zone]) false).run Try.prog w = .ok (.int .i64 (likeP q p)) w := by
  obtain ⟨D, ho, hm, ha⟩ := h
  obtain ⟨c, hrun, hat, _⟩ := ho.lookup_int Try.persKeyed Try.underlying61 Try.underlying2 (Try.zeroI w) (keyL_eq hg)
  rw [ha i q hi hq] at hat
  have : likeP q p = c := by
    simpa using hat
  rw [this]; exact hrun

theorem run_makeMapN (n : Nat) (w : World) : (Instr.makeMap 61 (some (.int .i64 (n : Int)))).run Try.prog w = .ok (.map (some w.heap.size)) (w.alloc (.map #[] 0)) := by
  simp [Instr.makeMap, asIntOf]
  go_simp

end Go.Proofs.Ytlaeceglcmnhbaa
