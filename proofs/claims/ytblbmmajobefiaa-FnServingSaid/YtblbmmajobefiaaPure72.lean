/- Plain facts on chapter 7, the program's way: a stable sort by insertion, neighbours, a person's terms. -/
import Derived.Test.YtblbmmajobefiaaPure70
import Derived.Test.YtblbmmajobefiaaPure71
import Derived.Sort.Defs
import Derived.Lib.SlicesCompact
namespace Go.Proofs.Ytblbmmajobefiaa
open Pure2 Pure20 Pure40

instance : Inhabited Term := ⟨⟨0, 0, 0⟩⟩
/-- x goes left, past all whose key is greater; q lies behind -/
def insR (key : Term → Int) : List Term → Term → List Term → List Term
  | [], x, q => x :: q
  | y :: rp, x, q => if key x < key y then insR key rp x (y :: q) else rp.reverse ++ y :: x :: q
def sortFrom (key : Term → Int) (acc : List Term) : List Term → List Term
  | [] => acc
  | x :: r => sortFrom key (insR key acc.reverse x []) r
def sortK (key : Term → Int) (ts : List Term) : List Term := sortFrom key [] ts
theorem insR_app (key : Term → Int) : ∀ (rp : List Term) (x : Term) (q r : List Term), insR key rp x (q ++ r) = insR key rp x q ++ r
  | [], x, q, r => rfl
  | y :: rp, x, q, r => by
    unfold insR
    split
    · exact insR_app key rp x (y :: q) r
    · simp
theorem insR_perm (key : Term → Int) : ∀ (rp : List Term) (x : Term) (q : List Term), (insR key rp x q).Perm (rp.reverse ++ x :: q)
  | [], x, q => by simp [insR]
  | y :: rp, x, q => by
    unfold insR
    split
    · refine (insR_perm key rp x (y :: q)).trans ?_
      rw [List.reverse_cons, List.append_assoc]
      exact (List.Perm.append_left _ (List.Perm.swap y x q))
    · rw [List.reverse_cons, List.append_assoc]; exact List.Perm.refl _
theorem insR_length (key : Term → Int) (rp : List Term) (x : Term) (q : List Term) : (insR key rp x q).length = rp.length + 1 + q.length := by
  rw [(insR_perm key rp x q).length_eq]; simp; omega
theorem sortFrom_perm (key : Term → Int) : ∀ (r acc : List Term), (sortFrom key acc r).Perm (acc ++ r)
  | [], acc => by rw [sortFrom, List.append_nil]
  | x :: r, acc => by
    rw [sortFrom]
    refine (sortFrom_perm key r _).trans ?_
    refine ((insR_perm key acc.reverse x []).append_right r).trans ?_
    rw [List.reverse_reverse, List.append_assoc]
    exact List.Perm.refl _
theorem sortK_perm (key : Term → Int) (ts : List Term) : (sortK key ts).Perm ts := sortFrom_perm key ts []
theorem sortK_length (key : Term → Int) (ts : List Term) : (sortK key ts).length = ts.length := (sortK_perm key ts).length_eq
/-- in order of the key, those of one key in the old order -/
def Ord (key : Term → Int) (S : Term → Term → Prop) (a b : Term) : Prop := key a < key b ∨ (key a = key b ∧ S a b)
theorem insR_pair (key : Term → Int) (S : Term → Term → Prop) : ∀ (rp : List Term) (x : Term) (q : List Term), (rp.reverse ++ q).Pairwise (Ord key S) → (∀ b ∈ q, key x < key b) → (∀ a ∈ rp, S a x) → (insR key rp x q).Pairwise (Ord key S)
  | [], x, q, h, h1, _ => by
    rw [insR, List.pairwise_cons]
    exact ⟨fun b hb => .inl (h1 b hb), by simpa using h⟩
  | y :: rp, x, q, h, h1, h2 => by
    unfold insR
    split
    · rename_i hlt
      refine insR_pair key S rp x (y :: q) (by simpa [List.append_assoc] using h) ?_ (fun a ha => h2 a (List.mem_cons_of_mem _ ha))
      intro b hb
      rcases List.mem_cons.1 hb with rfl | hb
      · exact hlt
      · exact h1 b hb
    · rename_i hlt
      rw [List.reverse_cons, List.append_assoc, List.pairwise_append] at h
      obtain ⟨p1, p2, p3⟩ := h
      rw [show ([y] ++ q : List Term) = y :: q from rfl, List.pairwise_cons] at p2
      rw [List.pairwise_append, List.pairwise_cons, List.pairwise_cons]
      have hy : Ord key S y x := by
        rcases Int.lt_or_eq_of_le (Int.not_lt.1 hlt) with h3 | h3
        · exact .inl h3
        · exact .inr ⟨h3, h2 y (by simp)⟩
      refine ⟨p1, ⟨?_, fun b hb => .inl (h1 b hb), p2.2⟩, ?_⟩
      · intro b hb
        rcases List.mem_cons.1 hb with rfl | hb
        · exact hy
        · exact p2.1 b hb
      · intro a ha b hb
        rcases List.mem_cons.1 hb with rfl | hb
        · exact p3 a ha _ (by simp)
        · rcases List.mem_cons.1 hb with rfl | hb
          · have h4 := p3 a ha y (by simp)
            have h5 : key a ≤ key y := by rcases h4 with h4 | h4 <;> omega
            have h6 : key a ≤ key b := by omega
            rcases Int.lt_or_eq_of_le h6 with h7 | h7
            · exact .inl h7
            · exact .inr ⟨h7, h2 a (by rw [List.mem_cons]; exact .inr (by simpa using ha))⟩
          · exact p3 a ha b (by simp [hb])
theorem sortFrom_pair (key : Term → Int) (S : Term → Term → Prop) : ∀ (r acc : List Term), acc.Pairwise (Ord key S) → r.Pairwise S → (∀ a ∈ acc, ∀ b ∈ r, S a b) → (sortFrom key acc r).Pairwise (Ord key S)
  | [], acc, h, _, _ => h
  | x :: r, acc, h, h1, h2 => by
    rw [sortFrom]
    rw [List.pairwise_cons] at h1
    refine sortFrom_pair key S r _ (insR_pair key S acc.reverse x [] (by simpa using h) (by simp) (fun a ha => h2 a (by simpa using ha) x (by simp))) h1.2 ?_
    intro a ha b hb
    have := (insR_perm key acc.reverse x []).mem_iff.1 ha
    rw [List.reverse_reverse, List.mem_append] at this
    rcases this with h3 | h3
    · exact h2 a h3 b (List.mem_cons_of_mem _ hb)
    · simp at h3; subst h3; exact h1.1 b hb
theorem sortK_pair (key : Term → Int) (S : Term → Term → Prop) {ts : List Term} (h : ts.Pairwise S) : (sortK key ts).Pairwise (Ord key S) := sortFrom_pair key S ts [] List.Pairwise.nil h (by simp)

def byDayL (ts : List Term) : List Term := sortK (·.frm) ts
def byPersL (ts : List Term) : List Term := sortK (·.num) (byDayL ts)
theorem byDayL_perm (ts : List Term) : (byDayL ts).Perm ts := sortK_perm _ _
theorem byPersL_perm (ts : List Term) : (byPersL ts).Perm ts := (sortK_perm _ _).trans (byDayL_perm ts)
theorem byDayL_length (ts : List Term) : (byDayL ts).length = ts.length := (byDayL_perm ts).length_eq
theorem byPersL_length (ts : List Term) : (byPersL ts).length = ts.length := (byPersL_perm ts).length_eq
theorem byDayL_pair (ts : List Term) : (byDayL ts).Pairwise (fun a b => a.frm ≤ b.frm) :=
  (sortK_pair (·.frm) (fun _ _ => True) (List.pairwise_iff_forall_sublist.2 fun _ => trivial)).imp fun {a b} h => Or.elim h (fun h => Int.le_of_lt h) (fun h => Int.le_of_eq h.1)
theorem byPersL_pair (ts : List Term) : (byPersL ts).Pairwise (fun a b => a.num < b.num ∨ (a.num = b.num ∧ a.frm ≤ b.frm)) := sortK_pair (·.num) (fun a b => a.frm ≤ b.frm) (byDayL_pair ts)

/-- no two neighbours are of one person and have a day in common -/
def Apart (os : List Term) : Prop := ∀ (i : Nat) a b, os[i]? = some a → os[i + 1]? = some b → ¬ (b.num = a.num ∧ b.frm ≤ a.to)
noncomputable def apartB (ts : List Term) : Bool := @decide (Apart (byPersL ts)) (Classical.propDecidable _)
theorem apartB_yes {ts : List Term} (h : Apart (byPersL ts)) : apartB ts = true := by unfold apartB; exact (@decide_eq_true_iff _ (Classical.propDecidable _)).2 h
theorem apartB_no {ts : List Term} {i : Nat} {a b : Term} (ha : (byPersL ts)[i]? = some a) (hb : (byPersL ts)[i + 1]? = some b) (h1 : b.num = a.num) (h2 : b.frm ≤ a.to) : apartB ts = false := by
  rw [← Bool.not_eq_true]
  intro h
  unfold apartB at h
  exact (@decide_eq_true_iff _ (Classical.propDecidable _)).1 h i a b ha hb ⟨h1, h2⟩
def ApartTo (os : List Term) (n : Nat) : Prop := ∀ (i : Nat) a b, i + 1 < n → os[i]? = some a → os[i + 1]? = some b → ¬ (b.num = a.num ∧ b.frm ≤ a.to)
theorem apartTo_one (os : List Term) : ApartTo os 1 := fun i a b hi => by omega
theorem apartTo_step {os : List Term} {n : Nat} {a b : Term} (h : ApartTo os (n + 1)) (ha : os[n]? = some a) (hb : os[n + 1]? = some b) (hn : ¬ (b.num = a.num ∧ b.frm ≤ a.to)) : ApartTo os (n + 1 + 1) := by
  intro i x y hi hx hy
  by_cases e : i = n
  · subst e; rw [ha] at hx; cases hx; rw [hb] at hy; cases hy; exact hn
  · exact h i x y (by omega) hx hy
theorem apartTo_end {os : List Term} {n : Nat} (h : ApartTo os n) (hn : os.length ≤ n) : Apart os := fun i a b ha hb => h i a b (by have := lt_of_get hb; omega) ha hb
theorem clash_iff {a b : Term} : clash a b = true ↔ b.num = a.num ∧ b.frm ≤ a.to ∧ a.frm ≤ b.to := by unfold clash; simp
theorem clash_no {a b : Term} : clash a b = false ↔ ¬ (b.num = a.num ∧ b.frm ≤ a.to ∧ a.frm ≤ b.to) := by rw [← clash_iff, Bool.not_eq_true]
def NoClash (a b : Term) : Prop := ¬ (b.num = a.num ∧ b.frm ≤ a.to ∧ a.frm ≤ b.to)
theorem noClash_symm {a b : Term} (h : NoClash a b) : NoClash b a := fun hh => h ⟨hh.1.symm, hh.2.2, hh.2.1⟩
theorem apart_iff {ts : List Term} (hok : ∀ t ∈ ts, okT t = true) : Apart (byPersL ts) ↔ ts.Pairwise NoClash := by
  rw [← (byPersL_perm ts).pairwise_iff (fun {a b} h => noClash_symm h)]
  have hok' : ∀ t ∈ byPersL ts, okT t = true := fun t ht => hok t ((byPersL_perm ts).mem_iff.1 ht)
  have hp := List.pairwise_iff_getElem.1 (byPersL_pair ts)
  generalize byPersL ts = os at hok' hp ⊢
  rw [List.pairwise_iff_getElem]
  constructor
  · intro h i j hi hj hij ⟨e1, e2, e3⟩
    have hc : os[i + 1]? = some (os[i + 1]'(by omega)) := List.getElem?_eq_getElem (by omega)
    have h1 := hp i (i + 1) hi (by omega) (by omega)
    have h2 : os[i + 1] = os[j] ∨ (os[i + 1].num < os[j].num ∨ (os[i + 1].num = os[j].num ∧ os[i + 1].frm ≤ os[j].frm)) := by
      by_cases e : i + 1 = j
      · subst e; exact .inl rfl
      · exact .inr (hp (i + 1) j (by omega) hj (by omega))
    refine h i _ _ (List.getElem?_eq_getElem hi) hc ?_
    rcases h2 with h2 | h2
    · rw [h2]; exact ⟨e1, e2⟩
    · omega
  · intro h i a b ha hb ⟨e1, e2⟩
    obtain ⟨hi, rfl⟩ := List.getElem?_eq_some_iff.1 ha
    obtain ⟨hj, rfl⟩ := List.getElem?_eq_some_iff.1 hb
    have h1 := hp i (i + 1) hi hj (by omega)
    have h2 := okT_parts (hok' _ (List.getElem_mem hj))
    exact h i (i + 1) hi hj (by omega) ⟨e1, e2, by omega⟩
theorem areT_way (ts : List Term) : AreT ts ↔ ts.length ≤ 20 ∧ (∀ t ∈ ts, okT t = true) ∧ ts.Pairwise NoClash := by
  unfold AreT AreTo
  rw [List.pairwise_iff_getElem]
  constructor
  · rintro ⟨h, hl⟩
    refine ⟨hl, fun t ht => ?_, fun i j hi hj hij => ?_⟩
    · obtain ⟨i, hi, rfl⟩ := List.getElem_of_mem ht
      exact (h i _ hi (List.getElem?_eq_getElem hi)).1
    · exact noClash_symm (clash_no.1 ((h j _ hj (List.getElem?_eq_getElem hj)).2 i _ hij (List.getElem?_eq_getElem hi)))
  · rintro ⟨hl, h1, h2⟩
    refine ⟨fun i a hi ha => ⟨h1 a (List.mem_of_getElem? ha), fun k b hk hb => ?_⟩, hl⟩
    obtain ⟨hi', rfl⟩ := List.getElem?_eq_some_iff.1 ha
    obtain ⟨hk', rfl⟩ := List.getElem?_eq_some_iff.1 hb
    exact clash_no.2 (noClash_symm (h2 k i hk' hi' hk))
theorem areT_apart {ts : List Term} (hl : ts.length ≤ 20) (hok : ∀ t ∈ ts, okT t = true) : areT ts = apartB ts := by
  have h : AreT ts ↔ Apart (byPersL ts) := by rw [areT_way, apart_iff hok]; exact ⟨fun h => h.2.2, fun h => ⟨hl, hok, h⟩⟩
  unfold areT apartB
  by_cases hh : AreT ts
  · rw [(@decide_eq_true_iff _ (Classical.propDecidable _)).2 hh, (@decide_eq_true_iff _ (Classical.propDecidable _)).2 (h.1 hh)]
  · rw [(@decide_eq_false_iff_not _ (Classical.propDecidable _)).2 hh, (@decide_eq_false_iff_not _ (Classical.propDecidable _)).2 (fun h' => hh (h.2 h'))]

/-- a person's terms; those of the first k -/
def termsL (ts : List Term) (n : Int) : List Term := ts.filter fun c => decide (c.num = n)
def servesL (ts : List Term) (d : Int) : List Term := ts.filter (serves d)
theorem take_filter_yes {α : Type} {p : α → Bool} {ts : List α} {k : Nat} {c : α} (hc : ts[k]? = some c) (h : p c = true) : (ts.take (k + 1)).filter p = (ts.take k).filter p ++ [c] := by
  have hk := lt_of_get hc
  rw [List.take_succ_eq_append_getElem hk, List.filter_append, Option.some.inj ((List.getElem?_eq_getElem hk).symm.trans hc)]
  simp [h]
theorem take_filter_no {α : Type} {p : α → Bool} {ts : List α} {k : Nat} {c : α} (hc : ts[k]? = some c) (h : p c = false) : (ts.take (k + 1)).filter p = (ts.take k).filter p := by
  have hk := lt_of_get hc
  rw [List.take_succ_eq_append_getElem hk, List.filter_append, Option.some.inj ((List.getElem?_eq_getElem hk).symm.trans hc)]
  simp [h]
theorem termsL_mem {ts : List Term} {n : Int} {c : Term} : c ∈ termsL ts n ↔ c ∈ ts ∧ c.num = n := by simp [termsL]
theorem servesL_mem {ts : List Term} {d : Int} {c : Term} : c ∈ servesL ts d ↔ c ∈ ts ∧ serves d c = true := by simp [servesL]
theorem filter_len (p : Term → Bool) (ts : List Term) : (ts.filter p).length ≤ ts.length := List.length_filter_le _ _
/-- days of the first k -/
def spanTo (os : List Term) (k : Nat) : Int := lsum ((os.take k).map fun c => c.to - c.frm + 1)
theorem spanTo_step {os : List Term} {k : Nat} {c : Term} (hc : os[k]? = some c) : spanTo os (k + 1) = spanTo os k + (c.to - c.frm + 1) := by
  have hk := lt_of_get hc
  unfold spanTo
  rw [List.take_succ_eq_append_getElem hk, List.map_append, lsum_append, Option.some.inj ((List.getElem?_eq_getElem hk).symm.trans hc)]
  simp [lsum]
theorem lsum_filter (n : Int) : ∀ ts : List Term, lsum (ts.map (days1 n)) = lsum ((ts.filter fun c => decide (c.num = n)).map fun c => c.to - c.frm + 1)
  | [] => rfl
  | c :: ts => by
    have ih := lsum_filter n ts
    have cons : ∀ (x : Int) (l : List Int), lsum (x :: l) = x + lsum l := fun x l => by
      simp [lsum]
    rw [List.map_cons, cons, ih]
    by_cases h : c.num = n
    · rw [List.filter_cons_of_pos (by simp [h]), List.map_cons, cons, days1, if_pos h]
    · rw [List.filter_cons_of_neg (by simp [h]), days1, if_neg h, Int.zero_add]
theorem spanTo_all (ts : List Term) (n : Int) : spanTo (termsL ts n) (termsL ts n).length = daysL ts n := by
  unfold spanTo daysL daysTo termsL
  rw [List.take_length, List.take_length, lsum_filter]
theorem spanTo_bd {os : List Term} (h : ∀ c ∈ os, 0 ≤ c.frm ∧ c.frm ≤ c.to ∧ c.to ≤ 20000) : ∀ k, k ≤ os.length → 0 ≤ spanTo os k ∧ spanTo os k ≤ 20001 * k := by
  intro k
  induction k with
  | zero => intro _; have : spanTo os 0 = 0 := rfl; rw [this]; omega
  | succ k ih =>
    intro hk
    have hc : os[k]? = some (os[k]'(by omega)) := List.getElem?_eq_getElem (by omega)
    have := ih (by omega)
    have hb := h _ (List.getElem_mem (show k < os.length by omega))
    rw [spanTo_step hc]
    omega
theorem areT_mem {ts : List Term} (h : areT ts = true) {c : Term} (hc : c ∈ ts) : (1 ≤ c.num ∧ c.num ≤ 1000000) ∧ (0 ≤ c.frm ∧ c.frm ≤ 20000) ∧ (c.frm ≤ c.to ∧ c.to ≤ 20000) := by
  obtain ⟨i, hi, rfl⟩ := List.getElem_of_mem hc
  exact areT_at h (List.getElem?_eq_getElem hi)
/-- rested, by a person's own terms -/
theorem rested_no {ts : List Term} {n d : Int} {k : Nat} {c : Term} (hc : (termsL ts n)[k]? = some c) (h1 : c.frm < d) (h2 : d - c.to < 730) : restedL ts n d = false := by
  have hm := termsL_mem.1 (List.mem_of_getElem? hc)
  obtain ⟨i, hi, he⟩ := List.getElem_of_mem hm.1
  refine restedL_no (i := i) (c := c) (by rw [List.getElem?_eq_getElem hi, he]) ?_
  unfold keeps
  rw [decide_eq_true hm.2, decide_eq_true h1, decide_eq_true (show d < c.to + 730 by omega)]; rfl
theorem rested_yes {ts : List Term} {n d : Int} {k : Nat} (h : ∀ (i : Nat) c, i < k → (termsL ts n)[i]? = some c → ¬ (c.frm < d ∧ d - c.to < 730)) (hk : (termsL ts n).length ≤ k) : restedL ts n d = true := by
  refine restedL_end (k := ts.length) (fun i c _ hc => ?_) (Nat.le_refl _)
  rw [← Bool.not_eq_true]
  intro hh
  unfold keeps at hh
  simp only [Bool.and_eq_true, decide_eq_true_eq] at hh
  obtain ⟨j, hj, he⟩ := List.getElem_of_mem (termsL_mem.2 ⟨List.mem_of_getElem? hc, hh.1⟩)
  exact h j c (by omega) (by rw [List.getElem?_eq_getElem hj, he]) ⟨hh.2.1, by omega⟩
/-- the first rested day, on the way: k of the person's terms, by days, have been looked at -/
def RestTo (ts : List Term) (n d : Int) (k : Nat) (f : Int) : Prop :=
  d ≤ f ∧ (∀ x, d ≤ x → x < f → restedL ts n x = false) ∧ ∀ (i : Nat) c, i < k → (byDayL (termsL ts n))[i]? = some c → c.frm < f → c.to + 730 ≤ f
theorem restTo_zero (ts : List Term) (n d : Int) : RestTo ts n d 0 d := ⟨Int.le_refl _, fun x h1 h2 => by omega, fun i c hi => by omega⟩
theorem restTo_leave {ts : List Term} {n d f : Int} {k : Nat} {c : Term} (h : RestTo ts n d k f) (hc : (byDayL (termsL ts n))[k]? = some c) (hn : ¬ c.frm < f) : RestTo ts n d (k + 1) f := by
  refine ⟨h.1, h.2.1, fun i x hi hx hlt => ?_⟩
  by_cases e : i = k
  · subst e; rw [hc] at hx; cases hx; exact absurd hlt hn
  · exact h.2.2 i x (by omega) hx hlt
theorem restTo_take {ts : List Term} {n d f : Int} {k : Nat} {c : Term} (h : RestTo ts n d k f) (hc : (byDayL (termsL ts n))[k]? = some c) (hn : c.frm < f) : RestTo ts n d (k + 1) (max f (c.to + 730)) := by
  have hp := List.pairwise_iff_getElem.1 (byDayL_pair (termsL ts n))
  have hm := termsL_mem.1 ((byDayL_perm _).mem_iff.1 (List.mem_of_getElem? hc))
  have hk := lt_of_get hc
  have hck : (byDayL (termsL ts n))[k] = c := Option.some.inj ((List.getElem?_eq_getElem hk).symm.trans hc)
  have hle : f ≤ max f (c.to + 730) := Int.le_max_left _ _
  have hle2 : c.to + 730 ≤ max f (c.to + 730) := Int.le_max_right _ _
  refine ⟨by have := h.1; omega, fun x h1 h2 => ?_, fun i x hi hx hlt => ?_⟩
  · by_cases hx : x < f
    · exact h.2.1 x h1 hx
    · obtain ⟨i, hi, he⟩ := List.getElem_of_mem (termsL_mem.2 hm)
      refine rested_no (k := i) (c := c) (by rw [List.getElem?_eq_getElem hi, he]) (by omega) ?_
      have : x < c.to + 730 := by
        rcases Int.le_total f (c.to + 730) with h3 | h3
        · rw [Int.max_eq_right h3] at h2; exact h2
        · rw [Int.max_eq_left h3] at h2; omega
      omega
  · by_cases e : i = k
    · subst e; rw [hc] at hx; cases hx; exact hle2
    · obtain ⟨hi', rfl⟩ := List.getElem?_eq_some_iff.1 hx
      have h3 := hp i k hi' hk (by omega)
      rw [hck] at h3
      have := h.2.2 i _ (by omega) hx (by omega)
      omega
theorem restTo_end {ts : List Term} {n d f : Int} {k : Nat} (h : RestTo ts n d k f) (hk : (byDayL (termsL ts n)).length ≤ k) : fromL ts n d = if 20000 < f then (0, 3) else (f, 0) := by
  split
  · rename_i hf; exact fromL_end hf h.2.1
  · rename_i hf
    refine fromL_found h.1 (by omega) h.2.1 ?_
    refine rested_yes (k := (termsL ts n).length) (fun i c _ hc hh => ?_) (Nat.le_refl _)
    obtain ⟨j, hj, he⟩ := List.getElem_of_mem ((byDayL_perm (termsL ts n)).mem_iff.2 (List.mem_of_getElem? hc))
    have := h.2.2 j c (by omega) (by rw [List.getElem?_eq_getElem hj, he]) hh.1
    omega
theorem restTo_bd {ts : List Term} {n d f : Int} {k : Nat} (hA : areT ts = true) (hd : 0 ≤ d ∧ d ≤ 20000) (hf : d ≤ f ∧ f ≤ 20730) {c : Term} (hc : (byDayL (termsL ts n))[k]? = some c) : max f (c.to + 730) ≤ 20730 := by
  have hm := termsL_mem.1 ((byDayL_perm _).mem_iff.1 (List.mem_of_getElem? hc))
  have := areT_mem hA hm.1
  omega

/-- a sorted list, each once -/
theorem compactTo_inv (xs : List Int) (h : xs.Pairwise (· ≤ ·)) : ∀ m, m ≤ xs.length → Incs (Go.Lib.compactUpTo xs.toArray m) ∧ ∀ z, z ∈ Go.Lib.compactUpTo xs.toArray m ↔ ∃ i, i < m ∧ xs[i]? = some z := by
  intro m
  induction m with
  | zero => intro _; exact ⟨List.Pairwise.nil, fun z => by simp [Go.Lib.compactUpTo]⟩
  | succ m ih =>
    intro hm
    obtain ⟨h1, h2⟩ := ih (by omega)
    have hx : xs[m]? = some (xs[m]'(by omega)) := List.getElem?_eq_getElem (by omega)
    have g0 : xs.toArray[m]! = xs[m]'(by omega) := by simp [show m < xs.length by omega]
    rw [Go.Lib.compactUpTo_succ]
    have hkey : ∀ z, (∃ i, i < m + 1 ∧ xs[i]? = some z) ↔ (∃ i, i < m ∧ xs[i]? = some z) ∨ z = xs[m]'(by omega) := fun z => by
      constructor
      · rintro ⟨i, hi, e⟩
        by_cases e2 : i = m
        · subst e2; rw [hx] at e; exact .inr (Option.some.inj e).symm
        · exact .inl ⟨i, by omega, e⟩
      · rintro (⟨i, hi, e⟩ | rfl)
        · exact ⟨i, by omega, e⟩
        · exact ⟨m, by omega, hx⟩
    cases hk : Go.Lib.keeps xs.toArray m with
    | true =>
      rw [if_pos rfl, g0]
      refine ⟨?_, fun z => ?_⟩
      · unfold Incs
        rw [List.pairwise_append]
        refine ⟨h1, List.pairwise_singleton _ _, fun a ha b hb => ?_⟩
        simp at hb; subst hb
        obtain ⟨i, hi, e⟩ := (h2 a).1 ha
        have hp := List.pairwise_iff_getElem.1 h
        have hne : xs[m]'(by omega) ≠ xs[m - 1]'(by omega) := by
          unfold Go.Lib.keeps at hk
          rw [decide_eq_true_iff, g0] at hk
          have g1 : xs.toArray[m - 1]! = xs[m - 1]'(by omega) := by simp [show m - 1 < xs.length by omega]
          rw [g1] at hk
          rcases hk with hk | hk
          · omega
          · exact hk
        have hl1 := hp (m - 1) m (by omega) (by omega) (by omega)
        have hai : a = xs[i]'(by omega) := by rw [List.getElem?_eq_getElem (by omega)] at e; exact (Option.some.inj e).symm
        have hl2 : a ≤ xs[m - 1]'(by omega) := by
          rw [hai]
          by_cases e2 : i = m - 1
          · subst e2; exact Int.le_refl _
          · exact hp i (m - 1) (by omega) (by omega) (by omega)
        omega
      · rw [List.mem_append, h2, hkey]; simp
    | false =>
      have hne : m ≠ 0 ∧ xs[m]'(by omega) = xs[m - 1]'(by omega) := by
        unfold Go.Lib.keeps at hk
        rw [decide_eq_false_iff_not, g0] at hk
        have hm0 : m ≠ 0 := fun e => hk (.inl e)
        have g1 : xs.toArray[m - 1]! = xs[m - 1]'(by omega) := by simp [show m - 1 < xs.length by omega]
        rw [g1] at hk
        exact ⟨hm0, Decidable.byContradiction fun e => hk (.inr e)⟩
      rw [if_neg (by simp), List.append_nil]
      refine ⟨h1, fun z => ?_⟩
      rw [h2, hkey]
      constructor
      · exact .inl
      · rintro (h | rfl)
        · exact h
        · exact ⟨m - 1, by omega, by rw [List.getElem?_eq_getElem (by omega), ← hne.2]⟩
theorem compactL_mem {xs : List Int} (h : xs.Pairwise (· ≤ ·)) (z : Int) : z ∈ Go.Lib.compact xs ↔ z ∈ xs := by
  rw [show Go.Lib.compact xs = Go.Lib.compactUpTo xs.toArray xs.length from rfl, (compactTo_inv xs h xs.length (Nat.le_refl _)).2 z, List.mem_iff_getElem?]
  constructor
  · rintro ⟨i, _, e⟩; exact ⟨i, e⟩
  · rintro ⟨i, e⟩; exact ⟨i, (List.getElem?_eq_some_iff.1 e).1, e⟩
theorem compactL_incs {xs : List Int} (h : xs.Pairwise (· ≤ ·)) : Incs (Go.Lib.compact xs) := (compactTo_inv xs h xs.length (Nat.le_refl _)).1
/-- the numbers of some terms, strictly increasing -/
def numsOf (os : List Term) : List Int := Go.Lib.compact ((byPersL os).map (·.num))
theorem nums_sorted (os : List Term) : ((byPersL os).map (·.num)).Pairwise (· ≤ ·) := by
  rw [List.pairwise_map]
  exact (byPersL_pair os).imp fun {a b} h => by omega
theorem numsOf_incs (os : List Term) : Incs (numsOf os) := compactL_incs (nums_sorted os)
theorem numsOf_mem {os : List Term} {x : Int} : x ∈ numsOf os ↔ ∃ c ∈ os, c.num = x := by
  unfold numsOf
  rw [compactL_mem (nums_sorted os), List.mem_map]
  constructor
  · rintro ⟨c, h1, h2⟩; exact ⟨c, (byPersL_perm os).mem_iff.1 h1, h2⟩
  · rintro ⟨c, h1, h2⟩; exact ⟨c, (byPersL_perm os).mem_iff.2 h1, h2⟩
theorem numsOf_serv (ts : List Term) (d : Int) : numsOf (servesL ts d) = servL ts d := by
  refine incs_ext (numsOf_incs _) (numsTo_incs _ _ _) fun x => ?_
  rw [numsOf_mem, servL_mem]
  constructor
  · rintro ⟨c, h1, h2⟩
    have h3 := servesL_mem.1 h1
    obtain ⟨i, hi, he⟩ := List.getElem_of_mem h3.1
    exact ⟨i, c, by rw [List.getElem?_eq_getElem hi, he], h3.2, h2⟩
  · rintro ⟨i, c, h1, h2, h3⟩; exact ⟨c, servesL_mem.2 ⟨List.mem_of_getElem? h1, h2⟩, h3⟩
theorem filter_incs (p : Int → Bool) {xs : List Int} (h : Incs xs) : Incs (xs.filter p) := List.Pairwise.filter p h
theorem numsOf_over (ts : List Term) : (numsOf ts).filter (fun n => decide (60 < daysL ts n)) = overL ts := by
  refine incs_ext (filter_incs _ (numsOf_incs _)) (numsTo_incs _ _ _) fun x => ?_
  unfold overL
  rw [List.mem_filter, numsOf_mem, numsTo_mem]
  constructor
  · rintro ⟨⟨c, h1, rfl⟩, h2⟩
    obtain ⟨i, hi, he⟩ := List.getElem_of_mem h1
    exact ⟨i, c, hi, by rw [List.getElem?_eq_getElem hi, he], h2, rfl⟩
  · rintro ⟨i, c, _, h1, h2, rfl⟩; exact ⟨⟨c, List.mem_of_getElem? h1, rfl⟩, h2⟩
/-- those who serve on a day are as many as their terms -/
theorem nodup_incs : ∀ {xs ys : List Int}, xs.Nodup → Incs ys → (∀ x, x ∈ xs ↔ x ∈ ys) → xs.length = ys.length := by
  intro xs ys h1 h2 h
  have h3 : ys.Nodup := List.Pairwise.imp (fun {a b} hab => Int.ne_of_lt hab) h2
  exact ((List.perm_ext_iff_of_nodup h1 h3).2 h).length_eq
theorem servesL_len {ts : List Term} (hA : areT ts = true) (d : Int) : (servesL ts d).length = (servL ts d).length := by
  have hp := ((areT_way ts).1 ((areT_iff ts).1 hA)).2.2
  have hn : ((servesL ts d).map (·.num)).Nodup := by
    unfold List.Nodup
    rw [List.pairwise_map]
    have h4 : (servesL ts d).Pairwise NoClash := List.Pairwise.filter _ hp
    refine (List.Pairwise.and_mem.1 h4).imp fun {a b} h => ?_
    intro e
    have ha := serves_iff.1 (servesL_mem.1 h.1).2
    have hb := serves_iff.1 (servesL_mem.1 h.2.1).2
    exact h.2.2 ⟨e.symm, by omega, by omega⟩
  have := nodup_incs hn (numsTo_incs (serves d) ts ts.length) fun x => by
    rw [show numsTo (serves d) ts ts.length = servL ts d from rfl, servL_mem, List.mem_map]
    constructor
    · rintro ⟨c, h1, h2⟩
      have h3 := servesL_mem.1 h1
      obtain ⟨i, hi, he⟩ := List.getElem_of_mem h3.1
      exact ⟨i, c, by rw [List.getElem?_eq_getElem hi, he], h3.2, h2⟩
    · rintro ⟨i, c, h1, h2, h3⟩; exact ⟨c, servesL_mem.2 ⟨List.mem_of_getElem? h1, h2⟩, h3⟩
  rw [List.length_map] at this
  exact this
/-- the best of the first k days on which a term begins, in order -/
def BestTo (ts : List Term) (k : Nat) (d m : Int) : Prop :=
  (k = 0 ∧ d = 0 ∧ m = 0) ∨ ((∃ (i : Nat) (c : Term), i < k ∧ (byDayL ts)[i]? = some c ∧ d = c.frm ∧ ((servL ts d).length : Int) = m) ∧ 1 ≤ m ∧ ∀ (i : Nat) c, i < k → (byDayL ts)[i]? = some c → ((servL ts c.frm).length : Int) < m ∨ (((servL ts c.frm).length : Int) = m ∧ d ≤ c.frm))
theorem bestTo_zero (ts : List Term) : BestTo ts 0 0 0 := .inl ⟨rfl, rfl, rfl⟩
theorem byDay_get {ts : List Term} {k : Nat} {c : Term} (hc : (byDayL ts)[k]? = some c) : ∃ i : Nat, ts[i]? = some c := by
  obtain ⟨i, hi, he⟩ := List.getElem_of_mem ((byDayL_perm ts).mem_iff.1 (List.mem_of_getElem? hc))
  exact ⟨i, by rw [List.getElem?_eq_getElem hi, he]⟩
theorem bestTo_take {ts : List Term} (h : areT ts = true) {k : Nat} {c : Term} {d m : Int} (hb : BestTo ts k d m) (hc : (byDayL ts)[k]? = some c) (hn : m < (servL ts c.frm).length) : BestTo ts (k + 1) c.frm (servL ts c.frm).length := by
  obtain ⟨j, hj⟩ := byDay_get hc
  have hp := serv_pos h hj
  refine .inr ⟨⟨k, c, by omega, hc, rfl, rfl⟩, by omega, fun i q hi hq => ?_⟩
  by_cases e : i = k
  · subst e; rw [hc] at hq; cases hq; exact .inr ⟨rfl, Int.le_refl _⟩
  · rcases hb with ⟨h0, _, _⟩ | ⟨_, _, h3⟩
    · omega
    · have := h3 i q (by omega) hq; omega
theorem bestTo_leave {ts : List Term} (h : areT ts = true) {k : Nat} {c : Term} {d m : Int} (hb : BestTo ts k d m) (hc : (byDayL ts)[k]? = some c) (hn : ¬ m < (servL ts c.frm).length) : BestTo ts (k + 1) d m := by
  obtain ⟨j, hj⟩ := byDay_get hc
  have hp := serv_pos h hj
  have hpw := List.pairwise_iff_getElem.1 (byDayL_pair ts)
  rcases hb with ⟨_, _, h0⟩ | ⟨⟨i, q, hi, h1, h2⟩, h4, h3⟩
  · omega
  · refine .inr ⟨⟨i, q, by omega, h1, h2⟩, h4, fun j x hj hx => ?_⟩
    by_cases e : j = k
    · subst e; rw [hc] at hx; cases hx
      obtain ⟨hi', rfl⟩ := List.getElem?_eq_some_iff.1 h1
      obtain ⟨hj', rfl⟩ := List.getElem?_eq_some_iff.1 hc
      have h5 := hpw i j hi' hj' hi
      rw [← h2.1] at h5
      omega
    · exact h3 j x (by omega) hx
theorem bestTo_end {ts : List Term} (h : areT ts = true) {d m : Int} {k : Nat} (hb : BestTo ts k d m) (hk : (byDayL ts).length ≤ k) (h0 : 0 < ts.length) : Busiest ts d m := by
  have hl := byDayL_length ts
  rcases hb with ⟨e, _, _⟩ | ⟨⟨i, c, _, hc, rfl, hm⟩, h1, h3⟩
  · omega
  · obtain ⟨i', hi'⟩ := byDay_get hc
    have all : ∀ (j : Nat) q, ts[j]? = some q → ((servL ts q.frm).length : Int) < m ∨ (((servL ts q.frm).length : Int) = m ∧ c.frm ≤ q.frm) := fun j q hq => by
      obtain ⟨x, hx, he⟩ := List.getElem_of_mem ((byDayL_perm ts).mem_iff.2 (List.mem_of_getElem? hq))
      exact h3 x q (by omega) (by rw [List.getElem?_eq_getElem hx, he])
    refine ⟨hm, (areT_at h hi').2.1, fun x _ _ => ?_, fun x _ hx => ?_⟩
    · rcases start_most ts x with e | ⟨j, q, hq, _, hle⟩
      · rw [e]; simp only [List.length_nil]; omega
      · have := all j q hq; omega
    · rcases start_most ts x with e | ⟨j, q, hq, hqx, hle⟩
      · rw [e]; simp only [List.length_nil]; omega
      · have := all j q hq; omega
theorem bestTo_bd {ts : List Term} {k : Nat} {d m : Int} (hb : BestTo ts k d m) : 0 ≤ m := by rcases hb with ⟨_, _, h⟩ | ⟨_, h, _⟩ <;> omega
end Go.Proofs.Ytblbmmajobefiaa
