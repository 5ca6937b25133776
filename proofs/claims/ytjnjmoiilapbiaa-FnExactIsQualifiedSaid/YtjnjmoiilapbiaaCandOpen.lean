/- How candidates and rules that came in, and a slice of candidates, are opened to their fields. -/
import Derived.Test.YtjnjmoiilapbiaaChecked
import Derived.Test.YtjnjmoiilapbiaaBase
import Derived.Test.YtjnjmoiilapbiaaPure61
import Derived.Test.YtjnjmoiilapbiaaPersOpen
import Derived.WalkKit
import Derived.ProofKit
import Derived.OpenShut
import Derived.ChangeOld
import Derived.Deep.Slices
namespace Go.Proofs.Ytjnjmoiilapbiaa
open Go.RowKit Go.ChangeShapes Go.WideShapes Go.Deep Pure2 Pure40 Pure61

/-- a type whose values are candidates: a person, three bools, a number -/
def CandType (P : Program) (T : TypeId) : Prop :=
  ∃ f0 f1 f2 f3 f4 : Field, P.underlying T = some (.struct #[f0, f1, f2, f3, f4]) ∧ P.cellsOf T = 9 ∧ f0.offset = 0 ∧ f1.offset = 5 ∧ f2.offset = 6 ∧ f3.offset = 7 ∧ f4.offset = 8 ∧
    P.cellsOf f0.type = 5 ∧ P.cellsOf f1.type = 1 ∧ P.cellsOf f2.type = 1 ∧ P.cellsOf f3.type = 1 ∧ P.cellsOf f4.type = 1 ∧
    PersType P f0.type ∧ P.underlying f1.type = some .bool ∧ P.underlying f2.type = some .bool ∧ P.underlying f3.type = some .bool ∧ P.underlying f4.type = some (.int .i64)
/-- a type whose values are rules: three numbers, two lists of numbers -/
def RulType (P : Program) (T : TypeId) : Prop :=
  ∃ (f0 f1 f2 f3 f4 : Field) (e3 e4 : TypeId), P.underlying T = some (.struct #[f0, f1, f2, f3, f4]) ∧ P.cellsOf T = 5 ∧ f0.offset = 0 ∧ f1.offset = 1 ∧ f2.offset = 2 ∧ f3.offset = 3 ∧ f4.offset = 4 ∧
    P.cellsOf f0.type = 1 ∧ P.cellsOf f1.type = 1 ∧ P.cellsOf f2.type = 1 ∧ P.cellsOf f3.type = 1 ∧ P.cellsOf f4.type = 1 ∧
    P.underlying f0.type = some (.int .i64) ∧ P.underlying f1.type = some (.int .i64) ∧ P.underlying f2.type = some (.int .i64) ∧ P.underlying f3.type = some (.slice e3) ∧ P.underlying f4.type = some (.slice e4) ∧
    P.underlying e3 = some (.int .i64) ∧ P.cellsOf e3 = 1 ∧ P.underlying e4 = some (.int .i64) ∧ P.cellsOf e4 = 1

section
variable {H : Type} {enc : TypeId × Value → H} {P : Program} {w : World} {base : Nat} {spare : Nat → Bool} {held : Bool} {T : TypeId}

/-- nine cells that read as such a struct are a candidate -/
theorem cand_of_trod (hT : CandType P T) {fuel : Nat} {cs : List Value} {x : DataW H × List MemPlace} (h : DataW.trod enc P w base spare held fuel T cs = some x) :
    ∃ c : Cand, cs = c.cells ∧ c.p.fits := by
  obtain ⟨f0, f1, f2, f3, f4, hs, hC, o0, o1, o2, o3, o4, c0, c1, c2, c3, c4, u0, u1, u2, u3, u4⟩ := hT
  obtain ⟨xs, n, _, _, hlen0, hlen, hg⟩ := DataW.trod_struct hs h
  rw [hC] at hlen0
  match cs, hlen0 with
  | [d0, d1, d2, d3, d4, d5, d6, d7, d8], _ =>
    match xs, hlen with
    | [y0, y1, y2, y3, y4], _ =>
      have h0 : DataW.trod enc P w base spare held n f0.type [d0, d1, d2, d3, d4] = some y0 := by simpa [o0, c0] using hg 0 f0 rfl
      have h1 : DataW.trod enc P w base spare held n f1.type [d5] = some y1 := by simpa [o1, c1] using hg 1 f1 rfl
      have h2 : DataW.trod enc P w base spare held n f2.type [d6] = some y2 := by simpa [o2, c2] using hg 2 f2 rfl
      have h3 : DataW.trod enc P w base spare held n f3.type [d7] = some y3 := by simpa [o3, c3] using hg 3 f3 rfl
      have h4 : DataW.trod enc P w base spare held n f4.type [d8] = some y4 := by simpa [o4, c4] using hg 4 f4 rfl
      obtain ⟨p, hp, hf⟩ := pers_of_trod u0 h0
      obtain ⟨b1, e1, _⟩ := DataW.trod_bool u1 h1
      obtain ⟨b2, e2, _⟩ := DataW.trod_bool u2 h2
      obtain ⟨b3, e3, _⟩ := DataW.trod_bool u3 h3
      obtain ⟨n4, e4, _⟩ := DataW.trod_int u4 h4
      cases hp; cases e1; cases e2; cases e3; cases e4
      exact ⟨⟨p, b1, b2, b3, n4⟩, rfl, hf⟩

/-- an argument that is a candidate -/
theorem open_cand (hT : CandType P T) {r : Reach} {b0 : Nat} {v : Value} {d : DataW H} {ps : List MemPlace} (hv : Value.okWide P w r b0 T v) (h : DataW.Trod enc P w base spare held T v d ps) :
    ∃ c : Cand, v = .agg #[.int .i64 c.p.num, .string c.p.fst, .string c.p.lst, .int .i64 c.p.born, .int .i64 c.p.zone, .bool c.cit, .bool c.con, .bool c.flu, .int .i64 c.job] ∧ c.p.fits := by
  obtain ⟨f0, f1, f2, f3, f4, hs, _⟩ := id hT
  obtain ⟨cs, rfl, _⟩ := okWide_struct hs hv
  obtain ⟨fuel, hf⟩ := h
  obtain ⟨p, hp, hw⟩ := cand_of_trod hT hf
  refine ⟨p, ?_, hw⟩
  obtain ⟨l⟩ := cs
  simp only [Value.cells] at hp
  subst hp
  rfl

/-- an argument that is a slice of candidates: the candidates of its length -/
theorem open_cands {S : TypeId} (hT : CandType P T) (hS : P.underlying S = some (.slice T)) {fuel : Nat} {a : Option Addr} {len cap : Nat} {x : DataW H × List MemPlace}
    (h : DataW.trod enc P w base spare held fuel S [.slice a len cap] = some x) : ∃ ps : List Cand, ps.length = len ∧ len ≤ maxLen ∧ CandsAt w a ps ∧ FitsC ps := by
  obtain ⟨_, _, _, _, _, _, hC, _⟩ := id hT
  rcases open_slice hS h with ⟨hcs, _⟩ | ⟨x, l, c, m, n, D, Pl, hcs, _, hl, hm, hmm, _, hi⟩
  · simp at hcs
    obtain ⟨rfl, rfl, rfl⟩ := hcs
    exact ⟨[], rfl, by unfold maxLen; omega, .inl rfl, fun p hp => by cases hp⟩
  · simp at hcs
    obtain ⟨rfl, rfl, rfl⟩ := hcs
    have hlm : len ≤ m := by rw [hmm]; split <;> omega
    haveI : Inhabited Cand := ⟨⟨⟨0, ByteArray.empty, ByteArray.empty, 0, 0⟩, false, false, false, 0⟩⟩
    obtain ⟨F, hF⟩ := choose_lt (n := len) (p := fun i (p : Cand) => w.cells? base (x.add (i * 9)) 9 = some p.cells ∧ p.p.fits) (fun i hi' => by
      obtain ⟨cs', hc, ht⟩ := hi i (by omega)
      obtain ⟨p, rfl, hw⟩ := cand_of_trod hT ht
      rw [hC] at hc
      exact ⟨p, hc, hw⟩)
    refine ⟨(List.range len).map F, by simp, by omega, ?_, fun p hp => ?_⟩
    · by_cases h0 : len = 0
      · exact .inl (by rw [h0]; rfl)
      · obtain ⟨b, off, spot⟩ := x
        have hspot : spot = none := by
          have := (World.cells?_some (hF 0 (by omega)).1).2.2 0 (by omega)
          simpa [Addr.add] using World.cell?_spot (this.trans (by rfl : _ = some (Value.int .i64 (F 0).p.num)))
        subst hspot
        refine .inr ⟨b, off, rfl, fun i p hp => ?_⟩
        obtain ⟨hi', hp'⟩ := List.getElem?_eq_some_iff.1 hp
        rw [List.length_map, List.length_range] at hi'
        simp at hp'
        subst hp'
        have hc := (World.cells?_some (hF i hi').1).2.2
        have key : ∀ j, j < 9 → w.cell? ⟨b, off + i * 9 + j, none⟩ = (F i).cells[j]? := fun j hj => by
          have := hc j hj
          rw [add_add] at this
          by_cases hz : i * 9 + j = 0
          · rw [hz] at this
            rw [show off + i * 9 + j = off by omega]
            simpa [Addr.add] using this
          · unfold Addr.add at this
            rw [if_neg hz] at this
            rw [Nat.add_assoc]; exact this
        exact ⟨key 0 (by omega), key 1 (by omega), key 2 (by omega), key 3 (by omega), key 4 (by omega), key 5 (by omega), key 6 (by omega), key 7 (by omega), key 8 (by omega)⟩
    · obtain ⟨i, hi', rfl⟩ := List.mem_map.1 hp
      exact (hF i (List.mem_range.1 hi')).2

/-- a field that is a slice of numbers -/
theorem ints_of_trod {S e : TypeId} (hS : P.underlying S = some (.slice e)) (he : P.underlying e = some (.int .i64)) (hc : P.cellsOf e = 1) {fuel : Nat} {d : Value} {x : DataW H × List MemPlace}
    (h : DataW.trod enc P w base spare held fuel S [d] = some x) : ∃ (a : Option Addr) (len cap : Nat) (zs : List Int), d = .slice a len cap ∧ zs.length = len ∧ len ≤ maxLen ∧ IntsAt w a zs := by
  rcases open_ints hS he hc h with ⟨hcs, _⟩ | ⟨x, l, c, zs, hcs, _, hl, hm, hz, _, hcell, hwz⟩
  · simp at hcs
    exact ⟨none, 0, 0, [], hcs, rfl, by unfold maxLen; omega, .inl rfl⟩
  · simp at hcs
    obtain ⟨h1, h2, h3⟩ := ints_of_row (w := w) (a := some x) (len := l) (cap := zs.length) (zs := zs) (.inr ⟨x, rfl, by rw [hz]; split <;> omega, by rw [hz]; split <;> omega, rfl, hcell, hwz⟩)
    exact ⟨some x, l, c, zs.take l, hcs, h1, h2, h3⟩

/-- an argument that is rules -/
theorem open_rul (hT : RulType P T) {r : Reach} {b0 : Nat} {v : Value} {d : DataW H} {ps : List MemPlace} (hv : Value.okWide P w r b0 T v) (h : DataW.Trod enc P w base spare held T v d ps) :
    ∃ (y l m : Int) (za : Option Addr) (zl zc : Nat) (ja : Option Addr) (jl jc : Nat) (zz jj : List Int), v = .agg #[.int .i64 y, .int .i64 l, .int .i64 m, .slice za zl zc, .slice ja jl jc] ∧
      (Lit.int .i64 y).wf = true ∧ (Lit.int .i64 l).wf = true ∧ (Lit.int .i64 m).wf = true ∧ RulesIn w za zl ja jl zz jj := by
  obtain ⟨f0, f1, f2, f3, f4, e3, e4, hs, hC, o0, o1, o2, o3, o4, c0, c1, c2, c3, c4, u0, u1, u2, u3, u4, t3, k3, t4, k4⟩ := hT
  obtain ⟨cs, rfl, _⟩ := okWide_struct hs hv
  obtain ⟨fuel, hf⟩ := h
  obtain ⟨xs, n, _, _, hlen0, hlen, hg⟩ := DataW.trod_struct hs hf
  rw [hC] at hlen0
  obtain ⟨q⟩ := cs
  simp only [Value.cells] at hlen0 hg
  match q, hlen0 with
  | [d0, d1, d2, d3, d4], _ =>
    match xs, hlen with
    | [y0, y1, y2, y3, y4], _ =>
      have h0 : DataW.trod enc P w base spare held n f0.type [d0] = some y0 := by simpa [o0, c0] using hg 0 f0 rfl
      have h1 : DataW.trod enc P w base spare held n f1.type [d1] = some y1 := by simpa [o1, c1] using hg 1 f1 rfl
      have h2 : DataW.trod enc P w base spare held n f2.type [d2] = some y2 := by simpa [o2, c2] using hg 2 f2 rfl
      have h3 : DataW.trod enc P w base spare held n f3.type [d3] = some y3 := by simpa [o3, c3] using hg 3 f3 rfl
      have h4 : DataW.trod enc P w base spare held n f4.type [d4] = some y4 := by simpa [o4, c4] using hg 4 f4 rfl
      obtain ⟨n0, e0, _, w0⟩ := DataW.trod_int u0 h0
      obtain ⟨n1, e1, _, w1⟩ := DataW.trod_int u1 h1
      obtain ⟨n2, e2, _, w2⟩ := DataW.trod_int u2 h2
      obtain ⟨za, zl, zc, zz, rfl, hz1, hz2, hz3⟩ := ints_of_trod u3 t3 k3 h3
      obtain ⟨ja, jl, jc, jj, rfl, hj1, hj2, hj3⟩ := ints_of_trod u4 t4 k4 h4
      cases e0; cases e1; cases e2
      exact ⟨n0, n1, n2, za, zl, zc, ja, jl, jc, zz, jj, rfl, w0, w1, w2, hz1, hz2, hz3, hj1, hj2, hj3⟩
end

theorem Try.candLaws : CandType Try.prog 50 :=
  ⟨_, _, _, _, _, Try.underlying50, by kernel_rfl, rfl, rfl, rfl, rfl, rfl, by kernel_rfl, by kernel_rfl, by kernel_rfl, by kernel_rfl, by kernel_rfl, Try.persLaws, by kernel_rfl, by kernel_rfl, by kernel_rfl, by kernel_rfl⟩
theorem Try.rulLaws : RulType Try.prog 54 :=
  ⟨_, _, _, _, _, 2, 2, Try.underlying54, by kernel_rfl, rfl, rfl, rfl, rfl, rfl, by kernel_rfl, by kernel_rfl, by kernel_rfl, by kernel_rfl, by kernel_rfl, by kernel_rfl, by kernel_rfl, by kernel_rfl, by kernel_rfl, by kernel_rfl, by kernel_rfl, by kernel_rfl, by kernel_rfl, by kernel_rfl⟩
end Go.Proofs.Ytjnjmoiilapbiaa
