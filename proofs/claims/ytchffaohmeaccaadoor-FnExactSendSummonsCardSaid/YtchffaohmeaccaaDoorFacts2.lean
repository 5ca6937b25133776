/- A region that draws its order, told by facts, as in Facts; here a fact may be dropped once its only consumer has been carried out, and how the world may turn depends on the operation. No program is named here. -/
import Derived.Test.YtchffaohmeaccaaDoorFacts
namespace Go.Proofs.YtchffaohmeaccaaDoor
open Go.RowKit

section
variable {P : Program} {ops : Array Oper} {Q : Exit → Act → World → Prop}

/-- i waits for c, by at most so many steps -/
def reach (ops : Array Oper) : Nat → Nat → Nat → Bool
  | 0, _, _ => false
  | f + 1, c, i => match ops[i]? with
    | some o => o.after.any fun e => Region.binds .any e && (e.on == c || reach ops f c e.on)
    | none => false
def Closed (ops : Array Oper) (L : Array Bool) : Prop := ∀ j o, ops[j]? = some o → L.getD j false = true → ∀ e ∈ o.after, Region.binds .any e = true → L.getD e.on false = true
theorem reach_done {L : Array Bool} (hc : Closed ops L) : ∀ f c i, reach ops f c i = true → L.getD i false = true → L.getD c false = true := by
  intro f
  induction f with
  | zero => intro c i h; simp [reach] at h
  | succ f ih =>
    intro c i h hL
    simp only [reach] at h
    cases ho : ops[i]? with
    | none => rw [ho] at h; cases h
    | some o =>
      rw [ho] at h
      obtain ⟨e, he, hb⟩ := Array.any_eq_true'.1 h
      simp only [Bool.and_eq_true, Bool.or_eq_true, beq_iff_eq] at hb
      have hL2 := hc i o ho hL e he hb.1
      rcases hb.2 with rfl | hr
      · exact hL2
      · exact ih c e.on hr hL2
/-- what need not be kept when i is carried out -/
def keepOk (ops : Array Oper) (gone : Nat → Option Nat) (keep : Nat → Nat → Bool) : Bool :=
  (List.range ops.size).all fun i => (List.range ops.size).all fun j => keep i j || j == i || reach ops 4 i j || (match gone j with | some c => c == i || reach ops 4 c i | none => false)
/-- is a value handed on? -/
def isData (e : Edge) : Bool := match e.ground with | .data => true | _ => false
def goneOk (ops : Array Oper) (gone : Nat → Option Nat) : Bool :=
  (List.range ops.size).all fun i => match ops[i]? with | some o => o.after.all (fun e => !Region.binds .any e || !isData e || gone e.on == none || gone e.on == some i) | none => true

theorem getD_set {L : Array Bool} {i j : Nat} (hi : i < L.size) : (L.setIfInBounds i true).getD j false = if j = i then true else L.getD j false := by
  by_cases e : j = i
  · subst e; simp [hi]
  · rw [if_neg e]
    simp only [Array.getD_eq_getD_getElem?, Array.getElem?_setIfInBounds]
    rw [if_neg (fun h => e h.symm)]

/-- A REGION TOLD BY FACTS that may be dropped. -/
theorem wp_region_facts2 {id sz : Nat} {a0 : Act} {w0 : World} (old : List Nat) (hm : P.follows .mixedOrders = true) (hlex : lexOk ops = true) (hdst : dstOk ops sz old = true)
    (gone : Nat → Option Nat) (keep : Nat → Nat → Bool) (hgo : goneOk ops gone = true) (hke : keepOk ops gone keep = true)
    (G : World → Prop) (R : Nat → World → World → Prop) (fact : Nat → Value → World → Prop)
    (hsz : a0.tmps.size = sz) (hG : G { w0 with drawn := w0.drawn + 1 })
    (mono : ∀ i j v w w', i < ops.size → j < ops.size → keep i j = true → fact j v w → R i w w' → fact j v w')
    (step : ∀ i o, ops[i]? = some o → ∀ (ev : Operand → Value) w, (∀ v, ev (.const v) = v) → (∀ f, ev (.func f) = .func (.func f) #[] #[]) → (∀ t ∈ old, ev (.tmp t) = a0.eval (.tmp t)) → G w → (∀ e ∈ o.after, Region.binds .any e = true → isData e = true → ∀ oj, ops[e.on]? = some oj → fact e.on (slotE oj ev) w) →
      stepTo P ((execOp ev o).run P w) (fun v w' => G w' ∧ R i w w' ∧ (o.dst = none → v = undef) ∧ fact i v w'))
    (done : ∀ a w, (∀ t ∈ old, a.eval (.tmp t) = a0.eval (.tmp t)) → a.tmps.size = sz → a.defers = a0.defers → G w → (∀ j o, ops[j]? = some o → gone j = none → fact j (slotv o a) w) → Q .normal a w) :
    (Code.region id ops true).wp P Q a0 w0 := by
  refine wp_region_any hm (wpAny_inv rfl (fun i o ho => (lexOk_on hlex ho).1) (fun L a w => (∀ t ∈ old, a.eval (.tmp t) = a0.eval (.tmp t)) ∧ a.tmps.size = sz ∧ a.defers = a0.defers ∧ G w ∧ Closed ops L ∧ ∀ j o, ops[j]? = some o → L.getD j false = true → (∀ c, gone j = some c → L.getD c false = false) → fact j (slotv o a) w) ?_ ?_ _ _ _ _ ?_ (by simp) ?_)
  · intro L a w i o ⟨hb, hs, hdf, hGw, hcl, hf⟩ hLs ho hLi hdep K hK
    have hi : i < ops.size := (Array.getElem?_eq_some_iff.1 ho).1
    have hiL : i < L.size := by omega
    have hLi' : L.getD i false = false := by
      simp only [Array.getD_eq_getD_getElem?, Array.getElem?_eq_getElem hiL, Option.getD_some] at hLi ⊢; exact hLi
    have hcl' : Closed ops (L.setIfInBounds i true) := by
      intro j q hq hLj e he hbn
      rw [getD_set hiL] at hLj ⊢
      by_cases e1 : e.on = i
      · rw [if_pos e1]
      · rw [if_neg e1]
        by_cases e2 : j = i
        · subst e2
          obtain rfl : q = o := Option.some.inj (hq.symm.trans ho)
          exact hdep e he hbn
        · rw [if_neg e2] at hLj; exact hcl j q hq hLj e he hbn
    unfold wpOp
    rw [ho]
    simp only [Region.wanted, (lexOk_on hlex ho).2]
    refine .inl (wp_of_step (stepTo_mono ?_ (step i o ho a.eval w (fun _ => rfl) (fun _ => rfl) hb hGw (fun e he hbn hdt oj hoj => hf e.on oj hoj (hdep e he hbn) (fun c hc => ?_)))))
    · rintro v w' ⟨hG', hR, hv, hfi⟩
      refine hK _ _ ⟨?_, ?_, ?_, hG', hcl', ?_⟩
      · intro t ht
        cases hd : o.dst with
        | none => rw [put_none]; exact hb t ht
        | some d => rw [eval_put_other ((dstOk_on hdst ho hd).2.1 t ht)]; exact hb t ht
      · rw [size_put]; exact hs
      · cases hd : o.dst <;> exact hdf
      · intro j q hq hLj hgj
        by_cases e : j = i
        · subst e
          obtain rfl : q = o := Option.some.inj (hq.symm.trans ho)
          cases hd : q.dst with
          | none => simp only [slotv, hd]; have := hv hd; subst this; exact hfi
          | some d => simp only [slotv, hd]; rw [eval_put_same (by rw [hs]; exact (dstOk_on hdst ho hd).1)]; exact hfi
        · have hj : j < ops.size := (Array.getElem?_eq_some_iff.1 hq).1
          have hLj' : L.getD j false = true := by
            rw [getD_set hiL, if_neg e] at hLj; exact hLj
          have hgj' : ∀ c, gone j = some c → L.getD c false = false := fun c hc => by
            have := hgj c hc
            rw [getD_set hiL] at this
            by_cases e3 : c = i
            · rw [if_pos e3] at this; cases this
            · rw [if_neg e3] at this; exact this
          have hkp : keep i j = true := by
            have h0 := List.all_eq_true.1 (List.all_eq_true.1 hke i (List.mem_range.2 hi)) j (List.mem_range.2 hj)
            simp only [Bool.or_eq_true, beq_iff_eq] at h0
            rcases h0 with ((h0 | h0) | h0) | h0
            · exact h0
            · exact absurd h0 e
            · have := reach_done hcl _ _ _ h0 hLj'; rw [hLi'] at this; cases this
            · exfalso
              cases hg : gone j with
              | none => rw [hg] at h0; cases h0
              | some c =>
                rw [hg] at h0
                simp only [Bool.or_eq_true, beq_iff_eq] at h0
                have h1 := hgj c hg
                rcases h0 with rfl | h0
                · rw [getD_set hiL, if_pos rfl] at h1; cases h1
                · have h2 := reach_done hcl' _ _ _ h0 (by rw [getD_set hiL, if_pos rfl]); rw [h1] at h2; cases h2
          have h1 := mono i j _ w w' hi hj hkp (hf j q hq hLj' hgj') hR
          have hsl : slotv q (a.put o.dst v) = slotv q a := by
            cases hd : o.dst with
            | none => rw [put_none]
            | some d =>
              cases hq2 : q.dst with
              | none => simp [slotv, hq2]
              | some d' => simp only [slotv, hq2]; exact eval_put_other (fun e2 => (dstOk_on hdst ho hd).2.2 j q hq e (by rw [hq2, e2]))
          rw [hsl]; exact h1
    · have h0 := List.all_eq_true.1 hgo i (List.mem_range.2 hi)
      rw [ho] at h0
      have h1 := Array.all_eq_true_iff_forall_mem.1 h0 e he
      rw [hbn, hc, hdt] at h1
      have h2 : c = i := by simpa using h1
      rw [h2]; exact hLi'
  · intro L a w ⟨hb, hs, hdf, hGw, _, hf⟩ hall
    exact done a w hb hs hdf hGw (fun j o ho hg => hf j o ho (hall j (Array.getElem?_eq_some_iff.1 ho).1) (fun c hc => by rw [hg] at hc; cases hc))
  · have h0 : ∀ j, (Array.replicate ops.size false).getD j false = false := fun j => by
      simp only [Array.getD_eq_getD_getElem?, Array.getElem?_replicate]; split <;> rfl
    refine ⟨fun _ _ => rfl, hsz, rfl, hG, fun j o _ h => ?_, fun j o _ h => ?_⟩
    · rw [h0] at h; cases h
    · rw [h0] at h; cases h
  · unfold left
    exact Nat.le_trans List.countP_le_length (by simp)
end

end Go.Proofs.YtchffaohmeaccaaDoor
