/- A region that draws its order, told by facts: of each operation that has been carried out, one fact on what it yielded; each operation may be carried out wherever the facts of those that it waits for hold. No program is named here. -/
import Derived.Orders
import Derived.WalkKit
namespace Go.Proofs.Ytekhdggaelppkaa
open Go.RowKit

theorem mem_ready' {md : Region.Mode} {ops : Array Oper} {L : Array Bool} {i : Nat} : i ∈ Region.ready md ops L ↔ i < ops.size ∧ L.getD i true = false ∧ ∃ o, ops[i]? = some o ∧ ∀ e ∈ o.after, Region.binds md e = true → L.getD e.on false = true := by
  simp only [Region.ready, List.mem_filter, List.mem_range, Bool.and_eq_true, Bool.not_eq_true']
  constructor
  · rintro ⟨h1, h2, h3⟩
    refine ⟨h1, h2, ops[i], Array.getElem?_eq_getElem h1, fun e he hb => ?_⟩
    rw [Array.getElem?_eq_getElem h1] at h3
    simp only [Option.map_some, Option.getD_some] at h3
    have := Array.all_eq_true_iff_forall_mem.1 h3 e he
    rw [hb] at this
    simpa using this
  · rintro ⟨h1, h2, o, ho, h3⟩
    refine ⟨h1, h2, ?_⟩
    rw [ho]
    simp only [Option.map_some, Option.getD_some]
    refine Array.all_eq_true_iff_forall_mem.2 (fun e he => ?_)
    cases hb : Region.binds md e
    · rfl
    · simpa using h3 e he hb

/-- how many have not been carried out -/
def left (n : Nat) (L : Array Bool) : Nat := (List.range n).countP (fun i => !L.getD i false)
theorem left_set {n : Nat} {L : Array Bool} {i : Nat} (hs : L.size = n) (hi : i < n) (h : L.getD i true = false) : left n (L.setIfInBounds i true) < left n L := by
  have hi' : i < L.size := by omega
  have hg : ∀ j, (L.setIfInBounds i true).getD j false = if j = i then true else L.getD j false := by
    intro j
    by_cases e : j = i
    · subst e; simp [hi']
    · rw [if_neg e]
      simp only [Array.getD_eq_getD_getElem?, Array.getElem?_setIfInBounds]
      rw [if_neg (fun h => e h.symm)]
  have hLi : L.getD i false = false := by
    simp only [Array.getD_eq_getD_getElem?, Array.getElem?_eq_getElem hi', Option.getD_some] at h ⊢; exact h
  unfold left
  have hmem : i ∈ List.range n := List.mem_range.2 hi
  have key : ∀ l : List Nat, (l.countP fun j => !(L.setIfInBounds i true).getD j false) ≤ (l.countP fun j => !L.getD j false) ∧ (i ∈ l → (l.countP fun j => !(L.setIfInBounds i true).getD j false) < (l.countP fun j => !L.getD j false)) := by
    intro l
    induction l with
    | nil => simp
    | cons x r ih =>
      simp only [List.countP_cons, hg x]
      by_cases e : x = i
      · subst e
        rw [if_pos rfl, hLi]
        simp only [Bool.not_true, Bool.not_false, if_true]
        exact ⟨by have := ih.1; simp only [Bool.false_eq_true, if_false]; omega, fun _ => by have := ih.1; simp only [Bool.false_eq_true, if_false]; omega⟩
      · rw [if_neg e]
        refine ⟨by have := ih.1; omega, fun hm => ?_⟩
        rcases List.mem_cons.1 hm with rfl | hm
        · exact absurd rfl e
        · have := ih.2 hm; omega
  exact (key _).2 hmem
theorem left_zero {n : Nat} {L : Array Bool} (h : left n L = 0) : ∀ i, i < n → L.getD i false = true := by
  intro i hi
  unfold left at h
  rw [List.countP_eq_zero] at h
  have := h i (List.mem_range.2 hi)
  simpa using this

section
variable {P : Program} {ops : Array Oper} {Q : Exit → Act → World → Prop}

theorem ready_nil {md : Region.Mode} {n : Nat} (hn : ops.size = n) (hlex : ∀ (i : Nat) (o : Oper), ops[i]? = some o → ∀ e ∈ o.after, Region.binds md e = true → e.on < i) {L : Array Bool} (hs : L.size = n) (h : Region.ready md ops L = []) :
    ∀ i, i < n → L.getD i false = true := by
  intro i
  induction i using Nat.strongRecOn with
  | _ i ih =>
    intro hi
    cases hL : L.getD i false
    · exfalso
      have : i ∈ Region.ready md ops L := mem_ready'.2 ⟨by omega, by
        simp only [Array.getD_eq_getD_getElem?, Array.getElem?_eq_getElem (show i < L.size by omega), Option.getD_some] at hL ⊢; exact hL,
        ops[i]'(by omega), Array.getElem?_eq_getElem (by omega), fun e he hb => ih e.on (hlex i _ (Array.getElem?_eq_getElem (by omega)) e he hb) (by have := hlex i _ (Array.getElem?_eq_getElem (by omega)) e he hb; omega)⟩
      rw [h] at this; cases this
    · rfl

theorem wpAny_inv {n : Nat} (hn : ops.size = n) (hlex : ∀ (i : Nat) (o : Oper), ops[i]? = some o → ∀ e ∈ o.after, Region.binds .any e = true → e.on < i)
    (Inv : Array Bool → Act → World → Prop)
    (step : ∀ L a w i o, Inv L a w → L.size = n → ops[i]? = some o → L.getD i true = false → (∀ e ∈ o.after, Region.binds .any e = true → L.getD e.on false = true) →
      ∀ K : Act → World → Prop, (∀ a' w', Inv (L.setIfInBounds i true) a' w' → K a' w') → wpOp P ops Q i K a w)
    (done : ∀ L a w, Inv L a w → (∀ i, i < n → L.getD i false = true) → Q .normal a w) :
    ∀ fuel L a w, Inv L a w → L.size = n → left n L ≤ fuel → wpAny P .any ops Q fuel L a w := by
  intro fuel
  induction fuel with
  | zero =>
    intro L a w hI hs hl
    have hall := left_zero (n := n) (L := L) (by omega)
    refine ⟨?_, done L a w hI hall⟩
    rw [List.eq_nil_iff_forall_not_mem]
    intro i hi
    obtain ⟨h1, h2, _⟩ := mem_ready'.1 hi
    have := hall i (by omega)
    simp only [Array.getD_eq_getD_getElem?, Array.getElem?_eq_getElem (show i < L.size by omega), Option.getD_some] at h2 this
    rw [h2] at this; cases this
  | succ fuel ih =>
    intro L a w hI hs hl
    refine ⟨fun hr => done L a w hI (ready_nil hn hlex hs hr), fun i hi => ?_⟩
    obtain ⟨h1, h2, o, ho, h3⟩ := mem_ready'.1 hi
    refine step L a w i o hI hs ho h2 h3 _ (fun a' w' hI' => ih _ _ _ hI' (by simpa using hs) ?_)
    have := left_set (n := n) hs (by omega) h2
    omega

/-- what an operation that has been carried out left in its slot -/
def slotv (o : Oper) (a : Act) : Value := match o.dst with | some d => a.eval (.tmp d) | none => undef
theorem eval_put_same {a : Act} {d : Nat} {v : Value} (h : d < a.tmps.size) : (a.put (some d) v).eval (.tmp d) = v := by
  simp [Act.put, Act.eval, h]
theorem eval_put_other {a : Act} {d t : Nat} {v : Value} (h : t ≠ d) : (a.put (some d) v).eval (.tmp t) = a.eval (.tmp t) := by
  simp only [Act.put, Act.eval, Array.getD_eq_getD_getElem?, Array.getElem?_setIfInBounds]
  rw [if_neg (fun e => h e.symm)]
theorem put_none {a : Act} {v : Value} : a.put none v = a := rfl
theorem size_put {a : Act} {d : Option Nat} {v : Value} : (a.put d v).tmps.size = a.tmps.size := by
  cases d <;> simp [Act.put]

/-- each operation that waits for none but earlier ones; no slot is written twice; each slot lies in the frame -/
def lexOk (ops : Array Oper) : Bool := (List.range ops.size).all fun i => match ops[i]? with | some o => o.after.all (fun e => !Region.binds .any e || decide (e.on < i)) && o.guard.isNone | none => true
def dstOk (ops : Array Oper) (sz : Nat) (old : List Nat) : Bool := (List.range ops.size).all fun i => match ops[i]? with
  | some o => (match o.dst with
    | some d => decide (d < sz) && !old.contains d && (List.range ops.size).all (fun j => j == i || (match ops[j]? with | some q => q.dst != some d | none => true))
    | none => true)
  | none => true
theorem lexOk_on (h : lexOk ops = true) {i : Nat} {o : Oper} (ho : ops[i]? = some o) : (∀ e ∈ o.after, Region.binds .any e = true → e.on < i) ∧ o.guard = none := by
  have hi : i < ops.size := (Array.getElem?_eq_some_iff.1 ho).1
  have := List.all_eq_true.1 h i (List.mem_range.2 hi)
  simp only [ho, Bool.and_eq_true, Option.isNone_iff_eq_none] at this
  refine ⟨fun e he hb => ?_, this.2⟩
  have h2 := Array.all_eq_true_iff_forall_mem.1 this.1 e he
  rw [hb] at h2
  simpa using h2
theorem dstOk_on {sz : Nat} {old : List Nat} (h : dstOk ops sz old = true) {i d : Nat} {o : Oper} (ho : ops[i]? = some o) (hd : o.dst = some d) :
    d < sz ∧ (∀ t ∈ old, t ≠ d) ∧ ∀ j q, ops[j]? = some q → j ≠ i → q.dst ≠ some d := by
  have hi : i < ops.size := (Array.getElem?_eq_some_iff.1 ho).1
  have := List.all_eq_true.1 h i (List.mem_range.2 hi)
  simp only [ho, hd, Bool.and_eq_true, decide_eq_true_eq, List.all_eq_true, List.mem_range, Bool.not_eq_true'] at this
  refine ⟨this.1.1, fun t ht e => ?_, fun j q hq hne hqd => ?_⟩
  · subst e
    have h2 := this.1.2
    rw [List.contains_eq_mem] at h2
    simp [ht] at h2
  · have h3 := this.2 j (Array.getElem?_eq_some_iff.1 hq).1
    rw [hq] at h3
    simp [hne, hqd] at h3

/-- what an operation's run comes to, told of the value that it leaves and of the world -/
def stepTo (P : Program) (r : Result Next) (K : Value → World → Prop) : Prop :=
  match r with
  | .ok (.value v) w' => K v w'
  | .ok .skip w' => K undef w'
  | .ok (.enter f args) w' => Calls P f args w' (fun e w'' => ∃ v, e = .returned v ∧ K v w'')
  | _ => False
theorem wp_of_step {o : Oper} {a : Act} {w : World} {K : Act → World → Prop} (h : stepTo P ((execOp a.eval o).run P w) (fun v w' => K (a.put o.dst v) w')) : o.wp P a w K Q := by
  unfold Oper.wp
  generalize (execOp a.eval o).run P w = r at h ⊢
  cases r with
  | ok n w' =>
    cases n <;> simp only [stepTo] at h <;> try exact h.elim
    · exact h
    · exact h
    · exact h.mono fun e w'' ⟨v, he, hK⟩ => by subst he; exact hK
  | halt x w' => exact h.elim
theorem stepTo_mono {r : Result Next} {K K' : Value → World → Prop} (h : ∀ v w, K v w → K' v w) (hs : stepTo P r K) : stepTo P r K' := by
  cases r with
  | ok n w' =>
    cases n <;> simp only [stepTo] at hs ⊢ <;> first | exact h _ _ hs | exact hs.mono fun e w'' ⟨v, he, hK⟩ => ⟨v, he, h _ _ hK⟩ | exact hs
  | halt x w' => exact hs
theorem stepTo_gen {r : Result Next} {K : Value → World → Prop} (h : ∀ K', (∀ v w, K v w → K' v w) → stepTo P r K') : stepTo P r K := h K (fun _ _ h => h)
/-- what an operation that has been carried out left, where slots are told by ev -/
def slotE (o : Oper) (ev : Operand → Value) : Value := match o.dst with | some d => ev (.tmp d) | none => undef

/-- A REGION TOLD BY FACTS. base: slots that were there; G: what always holds of the world; R: how the world may turn; fact i: what operation i leaves. -/
theorem wp_region_facts {id sz : Nat} {a0 : Act} {w0 : World} (old : List Nat) (hm : P.follows .mixedOrders = true) (hlex : lexOk ops = true) (hdst : dstOk ops sz old = true)
    (G : World → Prop) (R : World → World → Prop) (fact : Nat → Value → World → Prop)
    (hsz : a0.tmps.size = sz) (hG : G { w0 with drawn := w0.drawn + 1 })
    (mono : ∀ j v w w', fact j v w → R w w' → fact j v w')
    (step : ∀ i o, ops[i]? = some o → ∀ (ev : Operand → Value) w, (∀ v, ev (.const v) = v) → (∀ f, ev (.func f) = .func (.func f) #[] #[]) → (∀ t ∈ old, ev (.tmp t) = a0.eval (.tmp t)) → G w → (∀ e ∈ o.after, Region.binds .any e = true → ∀ oj, ops[e.on]? = some oj → fact e.on (slotE oj ev) w) →
      stepTo P ((execOp ev o).run P w) (fun v w' => G w' ∧ R w w' ∧ (o.dst = none → v = undef) ∧ fact i v w'))
    (done : ∀ a w, (∀ t ∈ old, a.eval (.tmp t) = a0.eval (.tmp t)) → a.tmps.size = sz → a.defers = a0.defers → G w → (∀ j o, ops[j]? = some o → fact j (slotv o a) w) → Q .normal a w) :
    (Code.region id ops true).wp P Q a0 w0 := by
  refine wp_region_any hm (wpAny_inv rfl (fun i o ho => (lexOk_on hlex ho).1) (fun L a w => (∀ t ∈ old, a.eval (.tmp t) = a0.eval (.tmp t)) ∧ a.tmps.size = sz ∧ a.defers = a0.defers ∧ G w ∧ ∀ j o, ops[j]? = some o → L.getD j false = true → fact j (slotv o a) w) ?_ ?_ _ _ _ _ ?_ (by simp) ?_)
  · intro L a w i o ⟨hb, hs, hdf, hGw, hf⟩ hLs ho hLi hdep K hK
    have hi : i < ops.size := (Array.getElem?_eq_some_iff.1 ho).1
    unfold wpOp
    rw [ho]
    simp only [Region.wanted, (lexOk_on hlex ho).2]
    refine .inl (wp_of_step (stepTo_mono ?_ (step i o ho a.eval w (fun _ => rfl) (fun _ => rfl) hb hGw (fun e he hbn oj hoj => hf e.on oj hoj (hdep e he hbn)))))
    rintro v w' ⟨hG', hR, hv, hfi⟩
    refine hK _ _ ⟨?_, ?_, ?_, hG', ?_⟩
    · intro t ht
      cases hd : o.dst with
      | none => rw [put_none]; exact hb t ht
      | some d => rw [eval_put_other ((dstOk_on hdst ho hd).2.1 t ht)]; exact hb t ht
    · rw [size_put]; exact hs
    · cases hd : o.dst <;> exact hdf
    · intro j q hq hLj
      by_cases e : j = i
      · subst e
        obtain rfl : q = o := Option.some.inj (hq.symm.trans ho)
        cases hd : q.dst with
        | none => simp only [slotv, hd]; have := hv hd; subst this; exact hfi
        | some d => simp only [slotv, hd]; rw [eval_put_same (by rw [hs]; exact (dstOk_on hdst ho hd).1)]; exact hfi
      · have hLj' : L.getD j false = true := by
          simp only [Array.getD_eq_getD_getElem?, Array.getElem?_setIfInBounds] at hLj
          rw [if_neg (fun h => e h.symm)] at hLj
          simpa using hLj
        have h1 := mono j _ w w' (hf j q hq hLj') hR
        have hsl : slotv q (a.put o.dst v) = slotv q a := by
          cases hd : o.dst with
          | none => rw [put_none]
          | some d =>
            cases hq2 : q.dst with
            | none => simp [slotv, hq2]
            | some d' => simp only [slotv, hq2]; exact eval_put_other (fun e2 => (dstOk_on hdst ho hd).2.2 j q hq e (by rw [hq2, e2]))
        rw [hsl]; exact h1
  · intro L a w ⟨hb, hs, hdf, hGw, hf⟩ hall
    exact done a w hb hs hdf hGw (fun j o ho => hf j o ho (hall j (Array.getElem?_eq_some_iff.1 ho).1))
  · refine ⟨fun _ _ => rfl, hsz, rfl, hG, fun j o _ h => ?_⟩
    rw [show (Array.replicate ops.size false).getD j false = false from by simp only [Array.getD_eq_getD_getElem?, Array.getElem?_replicate]; split <;> rfl] at h
    cases h
  · unfold left
    exact Nat.le_trans List.countP_le_length (by simp)
end

end Go.Proofs.Ytekhdggaelppkaa
