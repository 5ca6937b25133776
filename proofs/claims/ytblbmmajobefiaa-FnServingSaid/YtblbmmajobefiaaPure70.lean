/- Plain facts on chapter 7: terms, who is rested, how many days, who serves. -/
import Derived.Test.YtblbmmajobefiaaPure2
import Derived.Test.YtblbmmajobefiaaPure20
import Derived.Test.YtblbmmajobefiaaPure40
import Derived.Test.YtblbmmajobefiaaTermA
namespace Go.Proofs.Ytblbmmajobefiaa
open Pure2 Pure20 Pure40

def okT (t : Term) : Bool := inR t.num 1 1000000 && (isDay t.frm && inR t.to t.frm 20000)
/-- two terms of one person with a day in common -/
def clash (a b : Term) : Bool := decide (b.num = a.num) && (decide (b.frm ≤ a.to) && decide (a.frm ≤ b.to))
/-- the first n are terms -/
def AreTo (ts : List Term) (n : Nat) : Prop := ∀ (i : Nat) a, i < n → ts[i]? = some a → okT a = true ∧ ∀ (k : Nat) b, k < i → ts[k]? = some b → clash a b = false
def AreT (ts : List Term) : Prop := AreTo ts ts.length ∧ ts.length ≤ 20
noncomputable def areT (ts : List Term) : Bool := @decide (AreT ts) (Classical.propDecidable _)
theorem areT_iff (ts : List Term) : areT ts = true ↔ AreT ts := by unfold areT; exact @decide_eq_true_iff _ (Classical.propDecidable _)
theorem areT_no (ts : List Term) : areT ts = false ↔ ¬ AreT ts := by rw [← Bool.not_eq_true, areT_iff]
theorem lt_of_get {α : Type} {l : List α} {i : Nat} {a : α} (h : l[i]? = some a) : i < l.length := (List.getElem?_eq_some_iff.1 h).1
theorem areT_bad {ts : List Term} {i : Nat} {a : Term} (ha : ts[i]? = some a) (h : okT a = false) : areT ts = false :=
  (areT_no ts).2 fun hh => by have := (hh.1 i a (lt_of_get ha) ha).1; rw [h] at this; cases this
theorem areT_clash {ts : List Term} {i k : Nat} {a b : Term} (ha : ts[i]? = some a) (hk : k < i) (hb : ts[k]? = some b) (h : clash a b = true) : areT ts = false :=
  (areT_no ts).2 fun hh => by have := (hh.1 i a (lt_of_get ha) ha).2 k b hk hb; rw [h] at this; cases this
theorem areT_long {ts : List Term} (h : 20 < ts.length) : areT ts = false := (areT_no ts).2 fun hh => by have := hh.2; omega
theorem areT_end {ts : List Term} {n : Nat} (h : AreTo ts n) (hn : ts.length ≤ n) : areT ts = decide (ts.length ≤ 20) := by
  by_cases hl : ts.length ≤ 20
  · rw [decide_eq_true hl]; exact (areT_iff ts).2 ⟨fun i a hi ha => h i a (by omega) ha, hl⟩
  · rw [decide_eq_false hl]; exact areT_long (by omega)
theorem areTo_zero (ts : List Term) : AreTo ts 0 := fun i a hi => by omega
theorem areTo_step {ts : List Term} {n : Nat} {a : Term} (h : AreTo ts n) (ha : ts[n]? = some a) (h1 : okT a = true) (h2 : ∀ (k : Nat) b, k < n → ts[k]? = some b → clash a b = false) : AreTo ts (n + 1) := by
  intro i q hi hq
  by_cases e : i = n
  · subst e; rw [ha] at hq; cases hq; exact ⟨h1, h2⟩
  · exact h i q (by omega) hq
theorem okT_parts {t : Term} (h : okT t = true) : (1 ≤ t.num ∧ t.num ≤ 1000000) ∧ (0 ≤ t.frm ∧ t.frm ≤ 20000) ∧ (t.frm ≤ t.to ∧ t.to ≤ 20000) := by
  unfold okT inR isDay at h
  simp only [Bool.and_eq_true, decide_eq_true_eq] at h
  omega
theorem areT_at {ts : List Term} (h : areT ts = true) {i : Nat} {a : Term} (ha : ts[i]? = some a) : (1 ≤ a.num ∧ a.num ≤ 1000000) ∧ (0 ≤ a.frm ∧ a.frm ≤ 20000) ∧ (a.frm ≤ a.to ∧ a.to ≤ 20000) :=
  okT_parts (((areT_iff ts).1 h).1 i a (lt_of_get ha) ha).1
theorem areT_len {ts : List Term} (h : areT ts = true) : ts.length ≤ 20 := ((areT_iff ts).1 h).2

/-- a further term -/
noncomputable def addR7 (ts : List Term) (t : Term) : List Term × Int := if areT ts = true then (if areT (ts ++ [t]) = true then (ts ++ [t], 0) else ([], 5)) else ([], 1)
theorem addR7_small (ts : List Term) (t : Term) : (addR7 ts t).1.length ≤ 20 := by
  unfold addR7
  split
  · split
    · rename_i h; exact areT_len h
    · exact Nat.zero_le _
  · exact Nat.zero_le _
/-- the code of terms, a number and a day -/
noncomputable def codeT (ts : List Term) (n d : Int) : Int := if areT ts = true then (if inR n 1 1000000 = true ∧ isDay d = true then 0 else 2) else 1
theorem codeT_cases (ts : List Term) (n d : Int) : (codeT ts n d = 0 ∧ areT ts = true ∧ (1 ≤ n ∧ n ≤ 1000000) ∧ (0 ≤ d ∧ d ≤ 20000)) ∨ codeT ts n d = 1 ∨ codeT ts n d = 2 := by
  unfold codeT
  split
  · split
    · rename_i h1 h2
      refine .inl ⟨rfl, h1, inR_iff.1 h2.1, ?_⟩
      have := h2.2; unfold isDay at this; simp only [Bool.and_eq_true, decide_eq_true_eq] at this; exact this
    · exact .inr (.inr rfl)
  · exact .inr (.inl rfl)
/-- days served, in the first k terms -/
def days1 (n : Int) (c : Term) : Int := if c.num = n then c.to - c.frm + 1 else 0
def daysTo (ts : List Term) (n : Int) (k : Nat) : Int := lsum ((ts.take k).map (days1 n))
theorem daysTo_zero (ts : List Term) (n : Int) : daysTo ts n 0 = 0 := rfl
theorem daysTo_step {ts : List Term} {k : Nat} {c : Term} (hc : ts[k]? = some c) (n : Int) : daysTo ts n (k + 1) = daysTo ts n k + days1 n c := by
  unfold daysTo
  have hk := lt_of_get hc
  rw [List.take_succ_eq_append_getElem hk, List.map_append, lsum_append]
  have : ts[k] = c := Option.some.inj ((List.getElem?_eq_getElem hk).symm.trans hc)
  rw [this]; simp [lsum]
def daysL (ts : List Term) (n : Int) : Int := daysTo ts n ts.length
theorem daysTo_bd {ts : List Term} (h : areT ts = true) (n : Int) : ∀ k, k ≤ ts.length → 0 ≤ daysTo ts n k ∧ daysTo ts n k ≤ 20001 * k := by
  intro k
  induction k with
  | zero => intro _; rw [daysTo_zero]; omega
  | succ k ih =>
    intro hk
    have hc : ts[k]? = some (ts[k]'(by omega)) := List.getElem?_eq_getElem (by omega)
    have := ih (by omega)
    have hb := areT_at h hc
    rw [daysTo_step hc]
    unfold days1
    split <;> omega
noncomputable def daysR (ts : List Term) (n : Int) : Int × Int := if codeT ts n 0 = 0 then (daysL ts n, 0) else (0, codeT ts n 0)
/-- a term that keeps a person from being rested on a day -/
def keeps (n d : Int) (c : Term) : Bool := decide (c.num = n) && (decide (c.frm < d) && decide (d < c.to + 730))
def restedL (ts : List Term) (n d : Int) : Bool := ts.all fun c => !keeps n d c
theorem restedL_no {ts : List Term} {n d : Int} {i : Nat} {c : Term} (hc : ts[i]? = some c) (h : keeps n d c = true) : restedL ts n d = false := by
  unfold restedL
  rw [← Bool.not_eq_true, List.all_eq_true]
  intro hh
  have := hh c (List.mem_of_getElem? hc)
  rw [h] at this; cases this
theorem restedL_end {ts : List Term} {n d : Int} {k : Nat} (h : ∀ (i : Nat) c, i < k → ts[i]? = some c → keeps n d c = false) (hk : ts.length ≤ k) : restedL ts n d = true := by
  unfold restedL
  rw [List.all_eq_true]
  intro c hc
  obtain ⟨i, hi, rfl⟩ := List.getElem_of_mem hc
  rw [h i _ (by omega) (List.getElem?_eq_getElem hi)]; rfl
theorem keeps_next {ts : List Term} {n d : Int} {k : Nat} {c : Term} (h : ∀ (i : Nat) x, i < k → ts[i]? = some x → keeps n d x = false) (hc : ts[k]? = some c) (h' : keeps n d c = false) : ∀ (i : Nat) x, i < k + 1 → ts[i]? = some x → keeps n d x = false := by
  intro i x hi hx
  by_cases e : i = k
  · subst e; rw [hc] at hx; cases hx; exact h'
  · exact h i x (by omega) hx
noncomputable def restedR (ts : List Term) (n d : Int) : Bool × Int := if codeT ts n d = 0 then (restedL ts n d, 0) else (false, codeT ts n d)
/-- the first day from d on, on which they are rested -/
def FirstRest (ts : List Term) (n d f : Int) : Prop := d ≤ f ∧ f ≤ 20000 ∧ restedL ts n f = true ∧ ∀ x, d ≤ x → x < f → restedL ts n x = false
theorem firstRest_inj {ts : List Term} {n d f f' : Int} (h : FirstRest ts n d f) (h' : FirstRest ts n d f') : f = f' := by
  rcases Int.lt_trichotomy f f' with hl | he | hl
  · have := h'.2.2.2 f h.1 hl; rw [h.2.2.1] at this; cases this
  · exact he
  · have := h.2.2.2 f' h'.1 hl; rw [h'.2.2.1] at this; cases this
noncomputable def fromL (ts : List Term) (n d : Int) : Int × Int := @ite _ (∃ f, FirstRest ts n d f) (Classical.propDecidable _) (Classical.epsilon (FirstRest ts n d), 0) (0, 3)
theorem fromL_some {ts : List Term} {n d f : Int} (h : FirstRest ts n d f) : fromL ts n d = (f, 0) := by
  have he : ∃ f, FirstRest ts n d f := ⟨f, h⟩
  rw [fromL, if_pos he, firstRest_inj (Classical.epsilon_spec he) h]
theorem fromL_none {ts : List Term} {n d : Int} (h : ¬ ∃ f, FirstRest ts n d f) : fromL ts n d = (0, 3) := by rw [fromL, if_neg h]
theorem fromL_cases (ts : List Term) (n d : Int) : (∃ f, FirstRest ts n d f ∧ fromL ts n d = (f, 0)) ∨ fromL ts n d = (0, 3) := by
  by_cases h : ∃ f, FirstRest ts n d f
  · obtain ⟨f, h⟩ := h; exact .inl ⟨f, h, fromL_some h⟩
  · exact .inr (fromL_none h)
theorem fromL_found {ts : List Term} {n d f : Int} (h0 : d ≤ f) (h1 : f ≤ 20000) (hno : ∀ x, d ≤ x → x < f → restedL ts n x = false) (h : restedL ts n f = true) : fromL ts n d = (f, 0) := fromL_some ⟨h0, h1, h, hno⟩
theorem fromL_end {ts : List Term} {n d f : Int} (h1 : 20000 < f) (hno : ∀ x, d ≤ x → x < f → restedL ts n x = false) : fromL ts n d = (0, 3) :=
  fromL_none fun ⟨y, hy⟩ => by have := hno y hy.1 (by have := hy.2.1; omega); rw [hy.2.2.1] at this; cases this
theorem noRest_next {ts : List Term} {n d f : Int} (hno : ∀ x, d ≤ x → x < f → restedL ts n x = false) (h : restedL ts n f = false) : ∀ x, d ≤ x → x < f + 1 → restedL ts n x = false := by
  intro x h0 h1
  by_cases e : x = f
  · subst e; exact h
  · exact hno x h0 (by omega)
noncomputable def restFromR (ts : List Term) (n d : Int) : Int × Int := if codeT ts n d = 0 then fromL ts n d else (0, codeT ts n d)

/-- a number put in at its place, once -/
def insI : List Int → Int → List Int
  | [], n => [n]
  | z :: zs, n => if z < n then z :: insI zs n else if z = n then z :: zs else n :: z :: zs
theorem insI_at {zs : List Int} {n : Int} {at_ : Nat} (h : ∀ (i : Nat) x, i < at_ → zs[i]? = some x → x < n) (hat : at_ ≤ zs.length) (hs : ∀ x, zs[at_]? = some x → ¬ x < n) :
    insI zs n = if zs[at_]? = some n then zs else zs.take at_ ++ [n] ++ zs.drop at_ := by
  induction zs generalizing at_ with
  | nil => simp at hat; subst hat; rfl
  | cons z zs ih =>
    cases at_ with
    | zero =>
      have hz := hs z rfl
      simp only [insI, if_neg hz, List.getElem?_cons_zero, Option.some.injEq, List.take_zero, List.drop_zero]
      rfl
    | succ k =>
      have hz := h 0 z (by omega) rfl
      have := ih (at_ := k) (fun i x hi hx => h (i + 1) x (by omega) (by simpa using hx)) (by simpa using hat) (fun x hx => hs x (by simpa using hx))
      simp only [insI, if_pos hz, List.getElem?_cons_succ, List.take_succ_cons, List.drop_succ_cons]
      rw [this]
      split <;> rfl
theorem insI_len (zs : List Int) (n : Int) : (insI zs n).length ≤ zs.length + 1 := by
  induction zs with
  | nil => simp [insI]
  | cons z zs ih =>
    unfold insI
    split
    · simp; omega
    · split <;> simp
theorem insI_mem (zs : List Int) (n x : Int) : x ∈ insI zs n ↔ x = n ∨ x ∈ zs := by
  induction zs with
  | nil => simp [insI]
  | cons z zs ih =>
    unfold insI
    split
    · simp only [List.mem_cons, ih]; constructor <;> (intro h; rcases h with h | h | h <;> simp [h])
    · split
      · rename_i h; subst h; simp
      · simp
/-- strictly increasing -/
def Incs (zs : List Int) : Prop := zs.Pairwise (· < ·)
theorem insI_incs {zs : List Int} (h : Incs zs) (n : Int) : Incs (insI zs n) := by
  unfold Incs at h ⊢
  induction zs with
  | nil => simp [insI]
  | cons z zs ih =>
    rw [List.pairwise_cons] at h
    unfold insI
    split
    · rename_i hz
      rw [List.pairwise_cons]
      refine ⟨fun x hx => ?_, ih h.2⟩
      rcases (insI_mem zs n x).1 hx with rfl | hx
      · exact hz
      · exact h.1 x hx
    · split
      · rw [List.pairwise_cons]; exact h
      · rename_i h1 h2
        rw [List.pairwise_cons, List.pairwise_cons]
        refine ⟨fun x hx => ?_, h⟩
        rcases List.mem_cons.1 hx with rfl | hx
        · omega
        · have := h.1 x hx; omega
/-- two strictly increasing lists of the same numbers are one -/
theorem incs_ext : ∀ {xs ys : List Int}, Incs xs → Incs ys → (∀ x, x ∈ xs ↔ x ∈ ys) → xs = ys := by
  intro xs
  induction xs with
  | nil =>
    intro ys _ _ h
    cases ys with
    | nil => rfl
    | cons y ys => have := (h y).2 (by simp); simp at this
  | cons x xs ih =>
    intro ys hx hy h
    cases ys with
    | nil => have := (h x).1 (by simp); simp at this
    | cons y ys =>
      unfold Incs at hx hy
      rw [List.pairwise_cons] at hx hy
      have e : x = y := by
        have h1 : x ∈ y :: ys := (h x).1 (by simp)
        have h2 : y ∈ x :: xs := (h y).2 (by simp)
        rcases List.mem_cons.1 h1 with h1 | h1
        · exact h1
        · rcases List.mem_cons.1 h2 with h2 | h2
          · exact h2.symm
          · have := hy.1 x h1; have := hx.1 y h2; omega
      subst e
      rw [ih hx.2 hy.2 fun z => ?_]
      constructor
      · intro hz
        have := (h z).1 (List.mem_cons_of_mem _ hz)
        rcases List.mem_cons.1 this with e | h3
        · subst e; have := hx.1 z hz; omega
        · exact h3
      · intro hz
        have := (h z).2 (List.mem_cons_of_mem _ hz)
        rcases List.mem_cons.1 this with e | h3
        · subst e; have := hy.1 z hz; omega
        · exact h3
/-- numbers of the terms among the first k that p takes -/
def numsTo (p : Term → Bool) (ts : List Term) : Nat → List Int
  | 0 => []
  | k + 1 => match ts[k]? with
    | some c => if p c then insI (numsTo p ts k) c.num else numsTo p ts k
    | none => numsTo p ts k
theorem numsTo_yes {p : Term → Bool} {ts : List Term} {k : Nat} {c : Term} (hc : ts[k]? = some c) (h : p c = true) : numsTo p ts (k + 1) = insI (numsTo p ts k) c.num := by
  simp only [numsTo, hc, h, if_true]
theorem numsTo_no {p : Term → Bool} {ts : List Term} {k : Nat} {c : Term} (hc : ts[k]? = some c) (h : p c = false) : numsTo p ts (k + 1) = numsTo p ts k := by
  simp only [numsTo, hc, h]; rfl
theorem numsTo_incs (p : Term → Bool) (ts : List Term) : ∀ k, Incs (numsTo p ts k)
  | 0 => List.Pairwise.nil
  | k + 1 => by
    cases hc : ts[k]? with
    | none => simp only [numsTo, hc]; exact numsTo_incs p ts k
    | some c =>
      cases hp : p c with
      | false => rw [numsTo_no hc hp]; exact numsTo_incs p ts k
      | true => rw [numsTo_yes hc hp]; exact insI_incs (numsTo_incs p ts k) _
theorem numsTo_mem (p : Term → Bool) (ts : List Term) (x : Int) : ∀ k, x ∈ numsTo p ts k ↔ ∃ (i : Nat) (c : Term), i < k ∧ ts[i]? = some c ∧ p c = true ∧ c.num = x
  | 0 => by simp [numsTo]
  | k + 1 => by
    have ih := numsTo_mem p ts x k
    have key : (∃ (i : Nat) (c : Term), i < k + 1 ∧ ts[i]? = some c ∧ p c = true ∧ c.num = x) ↔ (∃ (i : Nat) (c : Term), i < k ∧ ts[i]? = some c ∧ p c = true ∧ c.num = x) ∨ ∃ c, ts[k]? = some c ∧ p c = true ∧ c.num = x := by
      constructor
      · rintro ⟨i, c, hi, hc, hp, hx⟩
        by_cases e : i = k
        · subst e; exact .inr ⟨c, hc, hp, hx⟩
        · exact .inl ⟨i, c, by omega, hc, hp, hx⟩
      · rintro (⟨i, c, hi, hc, hp, hx⟩ | ⟨c, hc, hp, hx⟩)
        · exact ⟨i, c, by omega, hc, hp, hx⟩
        · exact ⟨k, c, by omega, hc, hp, hx⟩
    rw [key, ← ih]
    cases hc : ts[k]? with
    | none => simp [numsTo, hc]
    | some c =>
      cases hp : p c with
      | false => rw [numsTo_no hc hp]; simp [hp]
      | true =>
        rw [numsTo_yes hc hp, insI_mem]
        simp only [Option.some.injEq]
        constructor
        · rintro (rfl | h)
          · exact .inr ⟨c, rfl, hp, rfl⟩
          · exact .inl h
        · rintro (h | ⟨c', rfl, _, hx⟩)
          · exact .inr h
          · exact .inl hx.symm
theorem numsTo_len (p : Term → Bool) (ts : List Term) : ∀ k, (numsTo p ts k).length ≤ k
  | 0 => Nat.le_refl _
  | k + 1 => by
    have ih := numsTo_len p ts k
    cases hc : ts[k]? with
    | none => simp only [numsTo, hc]; omega
    | some c =>
      cases hp : p c with
      | false => rw [numsTo_no hc hp]; omega
      | true => rw [numsTo_yes hc hp]; have := insI_len (numsTo p ts k) c.num; omega
def serves (d : Int) (c : Term) : Bool := inR d c.frm c.to
def servL (ts : List Term) (d : Int) : List Int := numsTo (serves d) ts ts.length
noncomputable def servR (ts : List Term) (d : Int) : List Int × Int := if codeT ts 1 d = 0 then (servL ts d, 0) else ([], codeT ts 1 d)
def overs (ts : List Term) (c : Term) : Bool := decide (60 < daysL ts c.num)
def overL (ts : List Term) : List Int := numsTo (overs ts) ts ts.length
noncomputable def overR (ts : List Term) : List Int × Int := if codeT ts 1 0 = 0 then (overL ts, 0) else ([], codeT ts 1 0)
/-- the busiest day: the greatest number, and the first day on which it is reached -/
def Busiest (ts : List Term) (d m : Int) : Prop := ((servL ts d).length : Int) = m ∧ (0 ≤ d ∧ d ≤ 20000) ∧ (∀ x : Int, 0 ≤ x → x ≤ 20000 → ((servL ts x).length : Int) ≤ m) ∧ ∀ x : Int, 0 ≤ x → x < d → ((servL ts x).length : Int) < m
theorem busiest_inj {ts : List Term} {d m d' m' : Int} (h : Busiest ts d m) (h' : Busiest ts d' m') : d = d' ∧ m = m' := by
  have h1 := h.2.2.1 d' h'.2.1.1 h'.2.1.2; have h2 := h'.2.2.1 d h.2.1.1 h.2.1.2
  rw [h'.1] at h1; rw [h.1] at h2
  have hm : m = m' := by omega
  refine ⟨?_, hm⟩
  rcases Int.lt_trichotomy d d' with hl | he | hl
  · have := h'.2.2.2 d h.2.1.1 hl; have := h.1; omega
  · exact he
  · have := h.2.2.2 d' h'.2.1.1 hl; have := h'.1; omega
end Go.Proofs.Ytblbmmajobefiaa
