/- A region that draws its order, inside a fence, told by facts, as in Facts2; here a fact may also speak of slots that its operation waits for. No program is named here. -/
import Derived.Test.YtmpopfcnjgcncaaFacts2
import Derived.OrdersIn
import Derived.OwnWalkIn
namespace Go.Proofs.Ytmpopfcnjgcncaa
open Go.RowKit

section
variable {F : Fence} {n : Nat} {P : Program} {ops : Array Oper} {Q : Exit → Act → World → Prop}

theorem wpAnyIn_inv {N : Nat} (hn : ops.size = N) (hlex : ∀ (i : Nat) (o : Oper), ops[i]? = some o → ∀ e ∈ o.after, Region.binds .any e = true → e.on < i)
    (Inv : Array Bool → Act → World → Prop)
    (step : ∀ L a w i o, Inv L a w → L.size = N → ops[i]? = some o → L.getD i true = false → (∀ e ∈ o.after, Region.binds .any e = true → L.getD e.on false = true) →
      ∀ K : Act → World → Prop, (∀ a' w', Inv (L.setIfInBounds i true) a' w' → K a' w') → wpOpIn F n P ops Q i K a w)
    (done : ∀ L a w, Inv L a w → (∀ i, i < N → L.getD i false = true) → Q .normal a w) :
    ∀ fuel L a w, Inv L a w → L.size = N → left N L ≤ fuel → wpAnyIn F n P .any ops Q fuel L a w := by
  intro fuel
  induction fuel with
  | zero =>
    intro L a w hI hs hl
    have hall := left_zero (n := N) (L := L) (by omega)
    refine ⟨?_, done L a w hI hall⟩
    rw [List.eq_nil_iff_forall_not_mem]
    intro i hi
    obtain ⟨h1, h2, _⟩ := mem_ready'.1 hi
    have := hall i (by omega)
    simp only [Array.getD_eq_getD_getElem?, Array.getElem?_eq_getElem (show i < L.size by omega), Option.getD_some] at h2 this
    rw [h2] at this; cases this
  | succ fuel ih =>
    intro L a w hI hs hl
    refine ⟨fun hr => done L a w hI (ready_nil hn hlex hs hr), fun i hi => ?_⟩
    obtain ⟨h1, h2, o, ho, h3⟩ := mem_ready'.1 hi
    refine step L a w i o hI hs ho h2 h3 _ (fun a' w' hI' => ih _ _ _ hI' (by simpa using hs) ?_)
    have := left_set (n := N) hs (by omega) h2
    omega

/-- what an operation's run comes to inside a fence -/
def stepIn (F : Fence) (n : Nat) (P : Program) (r : Result Next) (K : Value → World → Prop) : Prop :=
  match r with
  | .ok (.value v) w' => K v w'
  | .ok .skip w' => K undef w'
  | .ok (.enter f args) w' => (F.depth.isSome = true → 1 ≤ n) ∧ CallsIn F (n - 1) P f args w' (fun e w'' => ∃ v, e = .returned v ∧ K v w'')
  | _ => False
theorem wpIn_of_step {o : Oper} {a : Act} {w : World} {K : Act → World → Prop} (hF : ∀ f, F.fn f) (hnd : ∀ c, o.op ≠ .defer c) (h : stepIn F n P ((execOp a.eval o).run P w) (fun v w' => K (a.put o.dst v) w')) : o.wpIn F n P a w K Q := by
  refine ⟨fun f _ => hF f, ?_⟩
  rw [Oper.semAt_plain F _ _ hnd]
  generalize (execOp a.eval o).run P w = r at h ⊢
  cases r with
  | ok m w' =>
    cases m <;> simp only [stepIn] at h <;> try exact h.elim
    · exact h
    · exact h
    · exact ⟨h.1, h.2.mono fun e w'' ⟨v, he, hK⟩ => by subst he; exact hK⟩
  | halt x w' => exact h.elim
theorem stepIn_mono {r : Result Next} {K K' : Value → World → Prop} (h : ∀ v w, K v w → K' v w) (hs : stepIn F n P r K) : stepIn F n P r K' := by
  cases r with
  | ok m w' =>
    cases m <;> simp only [stepIn] at hs ⊢ <;> first | exact h _ _ hs | exact ⟨hs.1, hs.2.mono fun e w'' ⟨v, he, hK⟩ => ⟨v, he, h _ _ hK⟩⟩ | exact hs
  | halt x w' => exact hs
theorem stepIn_gen {r : Result Next} {K : Value → World → Prop} (h : ∀ K', (∀ v w, K v w → K' v w) → stepIn F n P r K') : stepIn F n P r K := h K (fun _ _ h => h)
/-- no operation is deferred -/
def plainOk (ops : Array Oper) : Bool := ops.all fun o => match o.op with | .defer _ => false | _ => true
theorem plainOk_on (h : plainOk ops = true) {i : Nat} {o : Oper} (ho : ops[i]? = some o) : ∀ c, o.op ≠ .defer c := by
  intro c hc
  have h1 := Array.all_eq_true_iff_forall_mem.1 h o (Array.mem_of_getElem? ho)
  rw [hc] at h1; cases h1
/-- a fact speaks of slots that its operation waits for -/
def depsOk (ops : Array Oper) (deps : Nat → List Nat) : Bool := (List.range ops.size).all fun i => match ops[i]? with
  | some o => (deps i).all fun t => o.after.any fun e => Region.binds .any e && (match ops[e.on]? with | some q => q.dst == some t | none => false)
  | none => true
theorem depsOk_on {deps : Nat → List Nat} (h : depsOk ops deps = true) {i t : Nat} {o : Oper} (ho : ops[i]? = some o) (ht : t ∈ deps i) : ∃ e ∈ o.after, Region.binds .any e = true ∧ ∃ q, ops[e.on]? = some q ∧ q.dst = some t := by
  have h0 := List.all_eq_true.1 h i (List.mem_range.2 (Array.getElem?_eq_some_iff.1 ho).1)
  rw [ho] at h0
  obtain ⟨e, he, hb⟩ := Array.any_eq_true'.1 (List.all_eq_true.1 h0 t ht)
  rw [Bool.and_eq_true] at hb
  refine ⟨e, he, hb.1, ?_⟩
  cases hq : ops[e.on]? with
  | none => rw [hq] at hb; cases hb.2
  | some q => rw [hq] at hb; exact ⟨q, rfl, by simpa using hb.2⟩

/-- each operation stands ahead of one of them, or behind it -/
def pivotOk (ops : Array Oper) (piv : Nat) (aft : Nat → Bool) : Bool := decide (piv < ops.size) && !aft piv && (List.range ops.size).all fun i => i == piv || (if aft i then reach ops 4 piv i else reach ops 4 i piv)
theorem pivotOk_lt {piv : Nat} {aft : Nat → Bool} (h : pivotOk ops piv aft = true) : piv < ops.size ∧ aft piv = false := by
  unfold pivotOk at h; rw [Bool.and_eq_true, Bool.and_eq_true, decide_eq_true_iff, Bool.not_eq_true'] at h; exact h.1
theorem pivotOk_on {piv i : Nat} {aft : Nat → Bool} (h : pivotOk ops piv aft = true) (hi : i < ops.size) (hne : i ≠ piv) : (aft i = true → reach ops 4 piv i = true) ∧ (aft i = false → reach ops 4 i piv = true) := by
  unfold pivotOk at h; rw [Bool.and_eq_true] at h
  have h1 := List.all_eq_true.1 h.2 i (List.mem_range.2 hi)
  rw [Bool.or_eq_true] at h1
  rcases h1 with h1 | h1
  · exact absurd (by simpa using h1) hne
  · refine ⟨fun ha => ?_, fun ha => ?_⟩
    · rw [ha] at h1; simpa using h1
    · rw [ha] at h1; simpa using h1

/-- A REGION IN A FENCE, TOLD BY FACTS that may be dropped and may speak of slots. -/
theorem wpIn_region_facts3 {id sz : Nat} {a0 : Act} {w0 : World} (hF : ∀ f, F.fn f) (old : List Nat) (hm : P.follows .mixedOrders = true) (hlex : lexOk ops = true) (hpl : plainOk ops = true) (hdst : dstOk ops sz old = true)
    (gone : Nat → Option Nat) (keep : Nat → Nat → Bool) (hgo : goneOk ops gone = true) (hke : keepOk ops gone keep = true) (deps : Nat → List Nat) (hdp : depsOk ops deps = true) (piv : Nat) (aft : Nat → Bool) (hpv : pivotOk ops piv aft = true)
    (G0 G1 : World → Prop) (R : Nat → World → World → Prop) (fact : Nat → Value → (Operand → Value) → World → Prop)
    (hsz : a0.tmps.size = sz) (hG : G0 { w0 with drawn := w0.drawn + 1 })
    (stab : ∀ j v ev ev' w, (∀ t ∈ deps j, ev (.tmp t) = ev' (.tmp t)) → fact j v ev w → fact j v ev' w)
    (mono : ∀ i j v ev w w', i < ops.size → j < ops.size → keep i j = true → fact j v ev w → R i w w' → fact j v ev w')
    (step : ∀ i o, ops[i]? = some o → ∀ (ev : Operand → Value) w, (∀ v, ev (.const v) = v) → (∀ f, ev (.func f) = .func (.func f) #[] #[]) → (∀ t ∈ old, ev (.tmp t) = a0.eval (.tmp t)) → (if aft i = true then G1 w else G0 w) → (∀ e ∈ o.after, Region.binds .any e = true → isData e = true ∨ gone e.on = none → ∀ oj, ops[e.on]? = some oj → fact e.on (slotE oj ev) ev w) →
      stepIn F n P ((execOp ev o).run P w) (fun v w' => (if i = piv ∨ aft i = true then G1 w' else G0 w') ∧ R i w w' ∧ (o.dst = none → v = undef) ∧ fact i v ev w'))
    (done : ∀ a w, (∀ t ∈ old, a.eval (.tmp t) = a0.eval (.tmp t)) → a.tmps.size = sz → a.defers = a0.defers → G1 w → (∀ j o, ops[j]? = some o → gone j = none → fact j (slotv o a) a.eval w) → Q .normal a w) :
    (Code.region id ops true).wpIn F n P Q a0 w0 := by
  refine wpIn_region_any hm (wpAnyIn_inv rfl (fun i o ho => (lexOk_on hlex ho).1) (fun L a w => (∀ t ∈ old, a.eval (.tmp t) = a0.eval (.tmp t)) ∧ a.tmps.size = sz ∧ a.defers = a0.defers ∧ (if L.getD piv false = true then G1 w else G0 w) ∧ Closed ops L ∧ ∀ j o, ops[j]? = some o → L.getD j false = true → (∀ c, gone j = some c → L.getD c false = false) → fact j (slotv o a) a.eval w) ?_ ?_ _ _ _ _ ?_ (by simp) ?_)
  · intro L a w i o ⟨hb, hs, hdf, hGw, hcl, hf⟩ hLs ho hLi hdep K hK
    have hi : i < ops.size := (Array.getElem?_eq_some_iff.1 ho).1
    have hiL : i < L.size := by omega
    have hLi' : L.getD i false = false := by
      simp only [Array.getD_eq_getD_getElem?, Array.getElem?_eq_getElem hiL, Option.getD_some] at hLi ⊢; exact hLi
    have hpa : L.getD piv false = aft i := by
      by_cases e : i = piv
      · rw [← e, hLi', e, (pivotOk_lt hpv).2]
      · obtain ⟨h1, h2⟩ := pivotOk_on hpv hi e
        cases ha : aft i with
        | true =>
          have h3 := h1 ha
          cases hll : L.getD piv false with
          | true => rfl
          | false =>
            exfalso
            -- i waits for the pivot: what i waits for has been carried out
            have h4 : ∀ f c k, reach ops f c k = true → (∀ q, ops[k]? = some q → ∀ e ∈ q.after, Region.binds .any e = true → L.getD e.on false = true) → L.getD c false = true := by
              intro f c k hr hk
              cases f with
              | zero => simp [reach] at hr
              | succ f =>
                simp only [reach] at hr
                cases hq : ops[k]? with
                | none => rw [hq] at hr; cases hr
                | some q =>
                  rw [hq] at hr
                  obtain ⟨e, he, hb⟩ := Array.any_eq_true'.1 hr
                  simp only [Bool.and_eq_true, Bool.or_eq_true, beq_iff_eq] at hb
                  have hL2 := hk q hq e he hb.1
                  rcases hb.2 with rfl | hr2
                  · exact hL2
                  · exact reach_done hcl _ _ _ hr2 hL2
            have h5 := h4 _ _ _ h3 (fun q hq e he hbn => by
              obtain rfl : q = o := Option.some.inj (hq.symm.trans ho)
              exact hdep e he hbn)
            rw [hll] at h5; cases h5
        | false =>
          cases hll : L.getD piv false with
          | false => rfl
          | true => have := reach_done hcl _ _ _ (h2 ha) hll; rw [hLi'] at this; cases this
    rw [hpa] at hGw
    have hcl' : Closed ops (L.setIfInBounds i true) := by
      intro j q hq hLj e he hbn
      rw [getD_set hiL] at hLj ⊢
      by_cases e1 : e.on = i
      · rw [if_pos e1]
      · rw [if_neg e1]
        by_cases e2 : j = i
        · subst e2
          obtain rfl : q = o := Option.some.inj (hq.symm.trans ho)
          exact hdep e he hbn
        · rw [if_neg e2] at hLj; exact hcl j q hq hLj e he hbn
    unfold wpOpIn
    rw [ho]
    simp only [Region.wanted, (lexOk_on hlex ho).2]
    rw [if_pos trivial]
    have hput : ∀ (d' : Option Nat), d' = o.dst → ∀ v (j : Nat) (q : Oper), ops[j]? = some q → (j = i ∨ L.getD j false = true) → ∀ t ∈ deps j, (a.put d' v).eval (.tmp t) = a.eval (.tmp t) := by
      intro d' hd' v j q hq hjd t ht
      subst hd'
      obtain ⟨e, he, hbn, q2, hq2, hdq⟩ := depsOk_on hdp hq ht
      have hdone : L.getD e.on false = true := by
        rcases hjd with rfl | hjd
        · obtain rfl : q = o := Option.some.inj (hq.symm.trans ho)
          exact hdep e he hbn
        · exact hcl j q hq hjd e he hbn
      have hne : e.on ≠ i := fun e1 => by rw [e1, hLi'] at hdone; cases hdone
      cases hd : o.dst with
      | none => rw [put_none]
      | some d => exact eval_put_other (fun e2 => (dstOk_on hdst ho hd).2.2 e.on q2 hq2 hne (by rw [hdq, e2]))
    refine wpIn_of_step hF (plainOk_on hpl ho) (stepIn_mono ?_ (step i o ho a.eval w (fun _ => rfl) (fun _ => rfl) hb hGw (fun e he hbn hdt oj hoj => hf e.on oj hoj (hdep e he hbn) (fun c hc => ?_))))
    · rintro v w' ⟨hG', hR, hv, hfi⟩
      refine hK _ _ ⟨?_, ?_, ?_, ?_, hcl', ?_⟩
      · intro t ht
        cases hd : o.dst with
        | none => rw [put_none]; exact hb t ht
        | some d => rw [eval_put_other ((dstOk_on hdst ho hd).2.1 t ht)]; exact hb t ht
      · rw [size_put]; exact hs
      · cases hd : o.dst <;> exact hdf
      · rw [getD_set hiL]
        by_cases e : piv = i
        · rw [if_pos e, if_pos rfl]; rw [if_pos (.inl e.symm)] at hG'; exact hG'
        · rw [if_neg e, hpa]
          cases ha : aft i with
          | true => rw [if_pos (.inr ha)] at hG'; rw [if_pos rfl]; exact hG'
          | false => rw [if_neg (fun h => h.elim (fun h => e h.symm) (fun h => by rw [ha] at h; cases h))] at hG'; rw [if_neg (by simp)]; exact hG'
      · intro j q hq hLj hgj
        by_cases e : j = i
        · subst e
          obtain rfl : q = o := Option.some.inj (hq.symm.trans ho)
          cases hd : q.dst with
          | none => simp only [slotv, hd]; have := hv hd; subst this; exact hfi
          | some d =>
            have h5 := stab j v a.eval (a.put (some d) v).eval w' (fun t ht => (hput (some d) hd.symm v j q hq (.inl rfl) t ht).symm) hfi
            simp only [slotv, hd]; rw [eval_put_same (by rw [hs]; exact (dstOk_on hdst ho hd).1)]; exact h5
        · have hj : j < ops.size := (Array.getElem?_eq_some_iff.1 hq).1
          have hLj' : L.getD j false = true := by
            rw [getD_set hiL, if_neg e] at hLj; exact hLj
          have hgj' : ∀ c, gone j = some c → L.getD c false = false := fun c hc => by
            have := hgj c hc
            rw [getD_set hiL] at this
            by_cases e3 : c = i
            · rw [if_pos e3] at this; cases this
            · rw [if_neg e3] at this; exact this
          have hkp : keep i j = true := by
            have h0 := List.all_eq_true.1 (List.all_eq_true.1 hke i (List.mem_range.2 hi)) j (List.mem_range.2 hj)
            simp only [Bool.or_eq_true, beq_iff_eq] at h0
            rcases h0 with ((h0 | h0) | h0) | h0
            · exact h0
            · exact absurd h0 e
            · have := reach_done hcl _ _ _ h0 hLj'; rw [hLi'] at this; cases this
            · exfalso
              cases hg : gone j with
              | none => rw [hg] at h0; cases h0
              | some c =>
                rw [hg] at h0
                simp only [Bool.or_eq_true, beq_iff_eq] at h0
                have h1 := hgj c hg
                rcases h0 with rfl | h0
                · rw [getD_set hiL, if_pos rfl] at h1; cases h1
                · have h2 := reach_done hcl' _ _ _ h0 (by rw [getD_set hiL, if_pos rfl]); rw [h1] at h2; cases h2
          have h1 := stab j _ _ (a.put o.dst v).eval _ (fun t ht => (hput o.dst rfl v j q hq (.inr hLj') t ht).symm) (mono i j _ _ w w' hi hj hkp (hf j q hq hLj' hgj') hR)
          have hsl : slotv q (a.put o.dst v) = slotv q a := by
            cases hd : o.dst with
            | none => rw [put_none]
            | some d =>
              cases hq2 : q.dst with
              | none => simp [slotv, hq2]
              | some d' => simp only [slotv, hq2]; exact eval_put_other (fun e2 => (dstOk_on hdst ho hd).2.2 j q hq e (by rw [hq2, e2]))
          rw [hsl]; exact h1
    · rcases hdt with hdt | hdt
      case inr => rw [hdt] at hc; cases hc
      have h0 := List.all_eq_true.1 hgo i (List.mem_range.2 hi)
      rw [ho] at h0
      have h1 := Array.all_eq_true_iff_forall_mem.1 h0 e he
      rw [hbn, hc, hdt] at h1
      have h2 : c = i := by simpa using h1
      rw [h2]; exact hLi'
  · intro L a w ⟨hb, hs, hdf, hGw, _, hf⟩ hall
    rw [hall piv (pivotOk_lt hpv).1, if_pos rfl] at hGw
    exact done a w hb hs hdf hGw (fun j o ho hg => hf j o ho (hall j (Array.getElem?_eq_some_iff.1 ho).1) (fun c hc => by rw [hg] at hc; cases hc))
  · have h0 : ∀ j, (Array.replicate ops.size false).getD j false = false := fun j => by
      simp only [Array.getD_eq_getD_getElem?, Array.getElem?_replicate]; split <;> rfl
    refine ⟨fun _ _ => rfl, hsz, rfl, by rw [h0, if_neg (by simp)]; exact hG, fun j o _ h => ?_, fun j o _ h => ?_⟩
    · rw [h0] at h; cases h
    · rw [h0] at h; cases h
  · unfold left
    exact Nat.le_trans List.countP_le_length (by simp)
end

end Go.Proofs.Ytmpopfcnjgcncaa
