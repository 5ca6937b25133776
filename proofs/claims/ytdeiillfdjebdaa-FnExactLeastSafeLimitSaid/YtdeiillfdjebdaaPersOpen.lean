/- How a person that came in, and a slice of persons, is opened to its fields. -/
import Derived.Test.YtdeiillfdjebdaaChecked
import Derived.Test.YtdeiillfdjebdaaPure40
import Derived.WalkKit
import Derived.ProofKit
import Derived.OpenShut
import Derived.ChangeOld
import Derived.Deep.Slices
namespace Go.Proofs.Ytdeiillfdjebdaa
open Go.RowKit Go.ChangeShapes Go.WideShapes Go.Deep Pure40

/-- a type whose values are persons: five fields of one cell each -/
def PersType (P : Program) (T : TypeId) : Prop :=
  ∃ f0 f1 f2 f3 f4 : Field, P.underlying T = some (.struct #[f0, f1, f2, f3, f4]) ∧ P.cellsOf T = 5 ∧ f0.offset = 0 ∧ f1.offset = 1 ∧ f2.offset = 2 ∧ f3.offset = 3 ∧ f4.offset = 4 ∧
    P.cellsOf f0.type = 1 ∧ P.cellsOf f1.type = 1 ∧ P.cellsOf f2.type = 1 ∧ P.cellsOf f3.type = 1 ∧ P.cellsOf f4.type = 1 ∧
    P.underlying f0.type = some (.int .i64) ∧ P.underlying f1.type = some .string ∧ P.underlying f2.type = some .string ∧ P.underlying f3.type = some (.int .i64) ∧ P.underlying f4.type = some (.int .i64)

section
variable {H : Type} {enc : TypeId × Value → H} {P : Program} {w : World} {base : Nat} {spare : Nat → Bool} {held : Bool} {T : TypeId}

/-- five cells that read as such a struct are a person -/
theorem pers_of_trod (hT : PersType P T) {fuel : Nat} {cs : List Value} {x : DataW H × List MemPlace} (h : DataW.trod enc P w base spare held fuel T cs = some x) :
    ∃ p : Pers, cs = p.cells ∧ p.fits := by
  obtain ⟨f0, f1, f2, f3, f4, hs, hC, o0, o1, o2, o3, o4, c0, c1, c2, c3, c4, u0, u1, u2, u3, u4⟩ := hT
  obtain ⟨xs, n, _, _, hlen0, hlen, hg⟩ := DataW.trod_struct hs h
  rw [hC] at hlen0
  match cs, hlen0 with
  | [d0, d1, d2, d3, d4], _ =>
    match xs, hlen with
    | [y0, y1, y2, y3, y4], _ =>
      have h0 : DataW.trod enc P w base spare held n f0.type [d0] = some y0 := by simpa [o0, c0] using hg 0 f0 rfl
      have h1 : DataW.trod enc P w base spare held n f1.type [d1] = some y1 := by simpa [o1, c1] using hg 1 f1 rfl
      have h2 : DataW.trod enc P w base spare held n f2.type [d2] = some y2 := by simpa [o2, c2] using hg 2 f2 rfl
      have h3 : DataW.trod enc P w base spare held n f3.type [d3] = some y3 := by simpa [o3, c3] using hg 3 f3 rfl
      have h4 : DataW.trod enc P w base spare held n f4.type [d4] = some y4 := by simpa [o4, c4] using hg 4 f4 rfl
      obtain ⟨n0, e0, _⟩ := DataW.trod_int u0 h0
      obtain ⟨s1, e1, _, w1⟩ := DataW.trod_string u1 h1
      obtain ⟨s2, e2, _, w2⟩ := DataW.trod_string u2 h2
      obtain ⟨n3, e3, _⟩ := DataW.trod_int u3 h3
      obtain ⟨n4, e4, _⟩ := DataW.trod_int u4 h4
      cases e0; cases e1; cases e2; cases e3; cases e4
      exact ⟨⟨n0, s1, s2, n3, n4⟩, rfl, w1, w2⟩

/-- an argument that is a person -/
theorem open_pers (hT : PersType P T) {r : Reach} {b0 : Nat} {v : Value} {d : DataW H} {ps : List MemPlace} (hv : Value.okWide P w r b0 T v) (h : DataW.Trod enc P w base spare held T v d ps) :
    ∃ p : Pers, v = .agg #[.int .i64 p.num, .string p.fst, .string p.lst, .int .i64 p.born, .int .i64 p.zone] ∧ p.fits := by
  obtain ⟨f0, f1, f2, f3, f4, hs, _⟩ := id hT
  obtain ⟨cs, rfl, _⟩ := okWide_struct hs hv
  obtain ⟨fuel, hf⟩ := h
  obtain ⟨p, hp, hw⟩ := pers_of_trod hT hf
  refine ⟨p, ?_, hw⟩
  obtain ⟨l⟩ := cs
  simp only [Value.cells] at hp
  subst hp
  rfl

/-- an argument that is a slice of persons: the persons of its length -/
theorem open_persons {S : TypeId} (hT : PersType P T) (hS : P.underlying S = some (.slice T)) {fuel : Nat} {a : Option Addr} {len cap : Nat} {x : DataW H × List MemPlace}
    (h : DataW.trod enc P w base spare held fuel S [.slice a len cap] = some x) : ∃ ps : List Pers, ps.length = len ∧ len ≤ maxLen ∧ PersAt w a ps ∧ Fits ps := by
  obtain ⟨_, _, _, _, _, _, hC, _⟩ := id hT
  rcases open_slice hS h with ⟨hcs, _⟩ | ⟨x, l, c, m, n, D, Pl, hcs, _, hl, hm, hmm, _, hi⟩
  · simp at hcs
    obtain ⟨rfl, rfl, rfl⟩ := hcs
    exact ⟨[], rfl, by unfold maxLen; omega, .inl rfl, fun p hp => by cases hp⟩
  · simp at hcs
    obtain ⟨rfl, rfl, rfl⟩ := hcs
    have hlm : len ≤ m := by rw [hmm]; split <;> omega
    haveI : Inhabited Pers := ⟨⟨0, ByteArray.empty, ByteArray.empty, 0, 0⟩⟩
    obtain ⟨F, hF⟩ := choose_lt (n := len) (p := fun i (p : Pers) => w.cells? base (x.add (i * 5)) 5 = some p.cells ∧ p.fits) (fun i hi' => by
      obtain ⟨cs', hc, ht⟩ := hi i (by omega)
      obtain ⟨p, rfl, hw⟩ := pers_of_trod hT ht
      rw [hC] at hc
      exact ⟨p, hc, hw⟩)
    refine ⟨(List.range len).map F, by simp, by omega, ?_, fun p hp => ?_⟩
    · by_cases h0 : len = 0
      · exact .inl (by rw [h0]; rfl)
      · obtain ⟨b, off, spot⟩ := x
        have hspot : spot = none := by
          have := (World.cells?_some (hF 0 (by omega)).1).2.2 0 (by omega)
          simpa [Addr.add] using World.cell?_spot (this.trans (by rfl : _ = some (Value.int .i64 (F 0).num)))
        subst hspot
        refine .inr ⟨b, off, rfl, fun i p hp => ?_⟩
        obtain ⟨hi', hp'⟩ := List.getElem?_eq_some_iff.1 hp
        rw [List.length_map, List.length_range] at hi'
        simp at hp'
        subst hp'
        have hc := (World.cells?_some (hF i hi').1).2.2
        have key : ∀ j, j < 5 → w.cell? ⟨b, off + i * 5 + j, none⟩ = (F i).cells[j]? := fun j hj => by
          have := hc j hj
          rw [add_add] at this
          by_cases hz : i * 5 + j = 0
          · rw [hz] at this
            rw [show off + i * 5 + j = off by omega]
            simpa [Addr.add] using this
          · unfold Addr.add at this
            rw [if_neg hz] at this
            rw [Nat.add_assoc]; exact this
        exact ⟨key 0 (by omega), key 1 (by omega), key 2 (by omega), key 3 (by omega), key 4 (by omega)⟩
    · obtain ⟨i, hi', rfl⟩ := List.mem_map.1 hp
      exact (hF i (List.mem_range.1 hi')).2
end

theorem Try.persLaws : PersType Try.prog 90 :=
  ⟨_, _, _, _, _, Try.underlying90, by kernel_rfl, rfl, rfl, rfl, rfl, rfl, by kernel_rfl, by kernel_rfl, by kernel_rfl, by kernel_rfl, by kernel_rfl, by kernel_rfl, by kernel_rfl, by kernel_rfl, by kernel_rfl, by kernel_rfl⟩
end Go.Proofs.Ytdeiillfdjebdaa
