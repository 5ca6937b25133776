/- A region that draws its order, whose operations each yield one value whatever came ahead, and which turns the world at two of its operations (m: memory is laid; n: it is stored into). No program is named here. -/
import Derived.Orders
import Derived.WalkKit
import Derived.Test.YtjnjmoiilapbiaaFacts
namespace Go.Proofs.Ytjnjmoiilapbiaa
open Go.RowKit

section
variable {P : Program} {ops : Array Oper} {Q : Exit → Act → World → Prop}

/-- A REGION OF FIXED VALUES. V i: what operation i leaves; W b c: the world, b: m has been carried out, c: n has been. -/
theorem wp_region_fixed {id sz : Nat} {a0 : Act} {w0 : World} (old : List Nat) (hm : P.follows .mixedOrders = true) (hlex : lexOk ops = true) (hdst : dstOk ops sz old = true)
    (m n : Nat) (hm' : m < ops.size) (hn' : n < ops.size) (hmn : (match ops[n]? with | some o => o.after.any fun e => Region.binds .any e && e.on == m | none => false) = true) (W : Bool → Bool → World) (V : Nat → Value)
    (hsz : a0.tmps.size = sz) (hW : W false false = { w0 with drawn := w0.drawn + 1 })
    (step : ∀ i o, ops[i]? = some o → ∀ (ev : Operand → Value) b c, (∀ v, ev (.const v) = v) → (∀ f, ev (.func f) = .func (.func f) #[] #[]) → (∀ t ∈ old, ev (.tmp t) = a0.eval (.tmp t)) → (i = m → b = false) → (i = n → c = false) → (c = true → b = true) →
      (∀ e ∈ o.after, Region.binds .any e = true → (e.on = m → b = true) ∧ (e.on = n → c = true) ∧ ∀ oj, ops[e.on]? = some oj → slotE oj ev = V e.on) →
      stepTo P ((execOp ev o).run P (W b c)) (fun v w' => (o.dst = none → v = undef) ∧ v = V i ∧ w' = W (if i = m then true else b) (if i = n then true else c)))
    (done : ∀ a, (∀ t ∈ old, a.eval (.tmp t) = a0.eval (.tmp t)) → a.tmps.size = sz → a.defers = a0.defers → (∀ j o, ops[j]? = some o → slotv o a = V j) → Q .normal a (W true true)) :
    (Code.region id ops true).wp P Q a0 w0 := by
  refine wp_region_any hm (wpAny_inv rfl (fun i o ho => (lexOk_on hlex ho).1) (fun L a w => (∀ t ∈ old, a.eval (.tmp t) = a0.eval (.tmp t)) ∧ a.tmps.size = sz ∧ a.defers = a0.defers ∧ w = W (L.getD m false) (L.getD n false) ∧ (L.getD n false = true → L.getD m false = true) ∧ ∀ j o, ops[j]? = some o → L.getD j false = true → slotv o a = V j) ?_ ?_ _ _ _ _ ?_ (by simp) ?_)
  · intro L a w i o ⟨hb, hs, hdf, hGw, hcb, hf⟩ hLs ho hLi hdep K hK
    have hi : i < ops.size := (Array.getElem?_eq_some_iff.1 ho).1
    have hLi' : L.getD i false = false := by
      simp only [Array.getD_eq_getD_getElem?, Array.getElem?_eq_getElem (show i < L.size by omega), Option.getD_some] at hLi ⊢; exact hLi
    have hget : ∀ j, j < ops.size → (L.setIfInBounds i true).getD j false = if i = j then true else L.getD j false := by
      intro j hj
      simp only [Array.getD_eq_getD_getElem?, Array.getElem?_setIfInBounds]
      by_cases e : i = j
      · subst e; simp [show i < L.size by omega]
      · simp [e]
    unfold wpOp
    rw [ho]
    simp only [Region.wanted, (lexOk_on hlex ho).2]
    subst hGw
    refine .inl (wp_of_step (stepTo_mono ?_ (step i o ho a.eval (L.getD m false) (L.getD n false) (fun _ => rfl) (fun _ => rfl) hb (fun e => by subst e; exact hLi') (fun e => by subst e; exact hLi') hcb
      (fun e he hbn => ⟨fun h => by rw [← h]; exact hdep e he hbn, fun h => by rw [← h]; exact hdep e he hbn, fun oj hoj => hf e.on oj hoj (hdep e he hbn)⟩))))
    rintro v w' ⟨hv, hfi, rfl⟩
    refine hK _ _ ⟨?_, ?_, ?_, ?_, ?_, ?_⟩
    · intro t ht
      cases hd : o.dst with
      | none => rw [put_none]; exact hb t ht
      | some d => rw [eval_put_other ((dstOk_on hdst ho hd).2.1 t ht)]; exact hb t ht
    · rw [size_put]; exact hs
    · cases hd : o.dst <;> exact hdf
    · rw [hget m hm', hget n hn']
    · rw [hget m hm', hget n hn']
      intro h
      by_cases e : i = n
      · subst e
        rw [ho] at hmn
        obtain ⟨e, he, hb2⟩ := Array.any_eq_true'.1 hmn
        simp only [Bool.and_eq_true, beq_iff_eq] at hb2
        have := hdep e he hb2.1
        rw [hb2.2] at this
        split
        · rfl
        · exact this
      · rw [if_neg e] at h
        split
        · rfl
        · exact hcb h
    · intro j q hq hLj
      by_cases e : j = i
      · subst e
        obtain rfl : q = o := Option.some.inj (hq.symm.trans ho)
        cases hd : q.dst with
        | none => simp only [slotv, hd]; have := hv hd; subst this; exact hfi
        | some d => simp only [slotv, hd]; rw [eval_put_same (by rw [hs]; exact (dstOk_on hdst ho hd).1)]; exact hfi
      · have hLj' : L.getD j false = true := by
          simp only [Array.getD_eq_getD_getElem?, Array.getElem?_setIfInBounds] at hLj
          rw [if_neg (fun h => e h.symm)] at hLj
          simpa using hLj
        have h1 := hf j q hq hLj'
        have hsl : slotv q (a.put o.dst v) = slotv q a := by
          cases hd : o.dst with
          | none => rw [put_none]
          | some d =>
            cases hq2 : q.dst with
            | none => simp [slotv, hq2]
            | some d' => simp only [slotv, hq2]; exact eval_put_other (fun e2 => (dstOk_on hdst ho hd).2.2 j q hq e (by rw [hq2, e2]))
        rw [hsl]; exact h1
  · intro L a w ⟨hb, hs, hdf, hGw, _, hf⟩ hall
    have h1 := hall m hm'
    have h2 := hall n hn'
    rw [h1, h2] at hGw
    subst hGw
    exact done a hb hs hdf (fun j o ho => hf j o ho (hall j (Array.getElem?_eq_some_iff.1 ho).1))
  · have hno : ∀ j, (Array.replicate ops.size false).getD j false = false := fun j => by simp only [Array.getD_eq_getD_getElem?, Array.getElem?_replicate]; split <;> rfl
    refine ⟨fun _ _ => rfl, hsz, rfl, by rw [hno, hno, hW], fun h => (by rw [hno] at h; cases h), fun j o _ h => ?_⟩
    rw [hno] at h; cases h
  · unfold left
    exact Nat.le_trans List.countP_le_length (by simp)
end

end Go.Proofs.Ytjnjmoiilapbiaa
