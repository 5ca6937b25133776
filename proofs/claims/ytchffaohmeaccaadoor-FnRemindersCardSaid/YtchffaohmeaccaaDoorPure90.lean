/- Plain facts on chapter 9: summonses, answers, reminders. -/
import Derived.Test.YtchffaohmeaccaaDoorPure2
import Derived.Test.YtchffaohmeaccaaDoorPure20
import Derived.Test.YtchffaohmeaccaaDoorPure40
import Derived.Test.YtchffaohmeaccaaDoorSummonsA
namespace Go.Proofs.YtchffaohmeaccaaDoor
open Pure2 Pure20 Pure40

def okAns (s : Summons) : Bool := if s.ans = 0 then decide (s.done = 0) else inR s.ans 1 3 && inR s.done s.sent 20000
def okM (s : Summons) : Bool := inR s.num 1 1000000 && (isDay s.sent && (inR s.due s.sent 20000 && okAns s))
/-- .. as the model asks it -/
theorem okM_spec (s : Summons) : okM s = (inR s.num 1 1000000 && (isDay s.sent && (inR s.due s.sent 20000 && (inR s.ans 0 3 && (if s.ans = 0 then decide (s.done = 0) else inR s.done s.sent 20000))))) := by
  have h : okAns s = (inR s.ans 0 3 && (if s.ans = 0 then decide (s.done = 0) else inR s.done s.sent 20000)) := by
    unfold okAns
    by_cases h0 : s.ans = 0
    · rw [if_pos h0, if_pos h0, h0]; rfl
    · rw [if_neg h0, if_neg h0]
      congr 1
      unfold inR
      by_cases h1 : 1 ≤ s.ans
      · rw [decide_eq_true h1, decide_eq_true (show 0 ≤ s.ans by omega)]
      · rw [decide_eq_false h1, decide_eq_false (show ¬ 0 ≤ s.ans by omega)]
  unfold okM; rw [h]
theorem okM_parts {s : Summons} (h : okM s = true) : (1 ≤ s.num ∧ s.num ≤ 1000000) ∧ (0 ≤ s.sent ∧ s.sent ≤ 20000) ∧ (s.sent ≤ s.due ∧ s.due ≤ 20000) ∧ ((s.ans = 0 ∧ s.done = 0) ∨ ((1 ≤ s.ans ∧ s.ans ≤ 3) ∧ s.sent ≤ s.done ∧ s.done ≤ 20000)) := by
  unfold okM at h
  simp only [Bool.and_eq_true, inR_iff, isDay_iff] at h
  refine ⟨h.1, h.2.1, h.2.2.1, ?_⟩
  have h2 := h.2.2.2
  unfold okAns at h2
  split at h2
  · rename_i h0
    exact .inl ⟨h0, by simpa using h2⟩
  · simp only [Bool.and_eq_true, inR_iff] at h2
    exact .inr h2
theorem okM_of {s : Summons} (h1 : 1 ≤ s.num ∧ s.num ≤ 1000000) (h2 : 0 ≤ s.sent ∧ s.sent ≤ 20000) (h3 : s.sent ≤ s.due ∧ s.due ≤ 20000) (h4 : (s.ans = 0 ∧ s.done = 0) ∨ ((1 ≤ s.ans ∧ s.ans ≤ 3) ∧ s.sent ≤ s.done ∧ s.done ≤ 20000)) : okM s = true := by
  unfold okM
  simp only [Bool.and_eq_true, inR_iff, isDay_iff]
  refine ⟨h1, h2, h3, ?_⟩
  unfold okAns
  rcases h4 with ⟨h5, h6⟩ | ⟨h5, h6⟩
  · rw [if_pos h5]; simpa using h6
  · rw [if_neg (by omega)]; simp only [Bool.and_eq_true, inR_iff]; exact ⟨h5, h6⟩

/-- the first n are summonses -/
def AreMo (ts : List Summons) (n : Nat) : Prop := ∀ (i : Nat) a, i < n → ts[i]? = some a → okM a = true ∧ ∀ b, 0 < i → ts[i - 1]? = some b → b.num < a.num
def AreM (ts : List Summons) : Prop := AreMo ts ts.length ∧ ts.length ≤ 20
noncomputable def areM (ts : List Summons) : Bool := @decide (AreM ts) (Classical.propDecidable _)
theorem areM_iff (ts : List Summons) : areM ts = true ↔ AreM ts := by unfold areM; exact @decide_eq_true_iff _ (Classical.propDecidable _)
theorem areM_no (ts : List Summons) : areM ts = false ↔ ¬ AreM ts := by rw [← Bool.not_eq_true, areM_iff]
theorem lt_of_getM {α : Type} {l : List α} {i : Nat} {a : α} (h : l[i]? = some a) : i < l.length := (List.getElem?_eq_some_iff.1 h).1
theorem areM_bad {ts : List Summons} {i : Nat} {a : Summons} (ha : ts[i]? = some a) (h : okM a = false) : areM ts = false :=
  (areM_no ts).2 fun hh => by have := (hh.1 i a (lt_of_getM ha) ha).1; rw [h] at this; cases this
theorem areM_turn {ts : List Summons} {i : Nat} {a b : Summons} (ha : ts[i + 1]? = some a) (hb : ts[i]? = some b) (h : ¬ b.num < a.num) : areM ts = false :=
  (areM_no ts).2 fun hh => h ((hh.1 (i + 1) a (lt_of_getM ha) ha).2 b (by omega) (by simpa using hb))
theorem areM_long {ts : List Summons} (h : 20 < ts.length) : areM ts = false := (areM_no ts).2 fun hh => by have := hh.2; omega
theorem areM_end {ts : List Summons} {n : Nat} (h : AreMo ts n) (hn : ts.length ≤ n) : areM ts = decide (ts.length ≤ 20) := by
  by_cases hl : ts.length ≤ 20
  · rw [decide_eq_true hl]; exact (areM_iff ts).2 ⟨fun i a hi ha => h i a (by omega) ha, hl⟩
  · rw [decide_eq_false hl]; exact areM_long (by omega)
theorem areMo_zero (ts : List Summons) : AreMo ts 0 := fun i a hi => by omega
theorem areMo_step {ts : List Summons} {n : Nat} {a : Summons} (h : AreMo ts n) (ha : ts[n]? = some a) (h1 : okM a = true) (h2 : ∀ b, 0 < n → ts[n - 1]? = some b → b.num < a.num) : AreMo ts (n + 1) := by
  intro i q hi hq
  by_cases e : i = n
  · subst e; rw [ha] at hq; cases hq; exact ⟨h1, h2⟩
  · exact h i q (by omega) hq
theorem areM_at {ts : List Summons} (h : areM ts = true) {i : Nat} {a : Summons} (ha : ts[i]? = some a) : okM a = true := (((areM_iff ts).1 h).1 i a (lt_of_getM ha) ha).1
theorem areM_len {ts : List Summons} (h : areM ts = true) : ts.length ≤ 20 := ((areM_iff ts).1 h).2
theorem areM_next {ts : List Summons} (h : areM ts = true) {i : Nat} {a b : Summons} (ha : ts[i]? = some a) (hb : ts[i + 1]? = some b) : a.num < b.num :=
  (((areM_iff ts).1 h).1 (i + 1) b (lt_of_getM hb) hb).2 a (by omega) (by simpa using ha)
theorem areM_lt {ts : List Summons} (h : areM ts = true) : ∀ (j i : Nat) {a b : Summons}, i < j → ts[i]? = some a → ts[j]? = some b → a.num < b.num := by
  intro j
  induction j with
  | zero => intro i a b hi; omega
  | succ j ih =>
    intro i a b hi ha hb
    have hj : ts[j]? = some (ts[j]'(by have := lt_of_getM hb; omega)) := List.getElem?_eq_getElem _
    have h1 := areM_next h hj hb
    by_cases e : i = j
    · subst e; rw [ha] at hj; cases hj; exact h1
    · have := ih i (by omega) ha hj; omega

/-- the place of a number -/
def AtPlace (ts : List Summons) (n : Int) (k : Nat) : Prop := k ≤ ts.length ∧ (∀ (i : Nat) s, i < k → ts[i]? = some s → s.num < n) ∧ (∀ s, ts[k]? = some s → ¬ s.num < n)
theorem atPlace_inj {ts : List Summons} {n : Int} {k k' : Nat} (h : AtPlace ts n k) (h' : AtPlace ts n k') : k = k' := by
  rcases Nat.lt_trichotomy k k' with c | c | c
  · have hk : ts[k]? = some (ts[k]'(by have := h'.1; omega)) := List.getElem?_eq_getElem _
    exact absurd (h'.2.1 k _ c hk) (h.2.2 _ hk)
  · exact c
  · have hk : ts[k']? = some (ts[k']'(by have := h.1; omega)) := List.getElem?_eq_getElem _
    exact absurd (h.2.1 k' _ c hk) (h'.2.2 _ hk)
noncomputable def placeM (ts : List Summons) (n : Int) : Nat := Classical.epsilon (AtPlace ts n)
theorem placeM_eq {ts : List Summons} {n : Int} {k : Nat} (h : AtPlace ts n k) : placeM ts n = k := atPlace_inj (Classical.epsilon_spec (p := AtPlace ts n) ⟨k, h⟩) h
theorem place_there (n : Int) : ∀ ts : List Summons, ∃ k, AtPlace ts n k
  | [] => ⟨0, Nat.le_refl _, fun i s hi => by omega, fun s h => by simp at h⟩
  | t :: ts => by
    by_cases h : t.num < n
    · obtain ⟨k, h1, h2, h3⟩ := place_there n ts
      refine ⟨k + 1, by simp; omega, fun i s hi hs => ?_, fun s hs => h3 s (by simpa using hs)⟩
      cases i with
      | zero => simp at hs; subst hs; exact h
      | succ i => exact h2 i s (by omega) (by simpa using hs)
    · exact ⟨0, Nat.zero_le _, fun i s hi => by omega, fun s hs => by simp at hs; subst hs; exact h⟩
theorem placeM_is (ts : List Summons) (n : Int) : AtPlace ts n (placeM ts n) := Classical.epsilon_spec (place_there n ts)
theorem placeM_le (ts : List Summons) (n : Int) : placeM ts n ≤ ts.length := (placeM_is ts n).1
theorem atPlace_zero (ts : List Summons) (n : Int) : (∀ (i : Nat) s, i < 0 → ts[i]? = some s → s.num < n) := fun i s hi => by omega
theorem below_next {ts : List Summons} {n : Int} {k : Nat} {s : Summons} (h : ∀ (i : Nat) s, i < k → ts[i]? = some s → s.num < n) (hs : ts[k]? = some s) (h' : s.num < n) : ∀ (i : Nat) s, i < k + 1 → ts[i]? = some s → s.num < n := by
  intro i x hi hx
  by_cases e : i = k
  · subst e; rw [hs] at hx; cases hx; exact h'
  · exact h i x (by omega) hx
/-- in summonses whoever has the number stands at its place -/
theorem place_found {ts : List Summons} (h : areM ts = true) {n : Int} {k : Nat} {s : Summons} (hs : ts[k]? = some s) (he : s.num = n) : placeM ts n = k :=
  placeM_eq ⟨Nat.le_of_lt (lt_of_getM hs), fun i x hi hx => by have := areM_lt h k i hi hx hs; omega, fun x hx => by rw [hs] at hx; cases hx; omega⟩
/-- who stands at the place, if it is they -/
noncomputable def whoM (ts : List Summons) (n : Int) : Option Summons := match ts[placeM ts n]? with | some s => if s.num = n then some s else none | none => none
theorem whoM_some {ts : List Summons} {n : Int} {s : Summons} (h : whoM ts n = some s) : ts[placeM ts n]? = some s ∧ s.num = n := by
  unfold whoM at h
  split at h
  · rename_i x hx
    split at h
    · rename_i he
      cases h; exact ⟨hx, he⟩
    · cases h
  · cases h
theorem whoM_yes {ts : List Summons} {n : Int} {s : Summons} (hs : ts[placeM ts n]? = some s) (he : s.num = n) : whoM ts n = some s := by unfold whoM; rw [hs]; exact if_pos he
theorem whoM_none {ts : List Summons} (h : areM ts = true) {n : Int} (hn : whoM ts n = none) {i : Nat} {s : Summons} (hs : ts[i]? = some s) : s.num ≠ n := by
  intro he
  have h1 := place_found h hs he
  rw [← h1] at hs
  rw [whoM_yes hs he] at hn; cases hn
theorem whoM_no {ts : List Summons} {n : Int} (h : ∀ (i : Nat) s, ts[i]? = some s → s.num ≠ n) : whoM ts n = none := by
  cases hw : whoM ts n with
  | none => rfl
  | some s => obtain ⟨h1, h2⟩ := whoM_some hw; exact absurd h2 (h _ _ h1)

/-- the codes -/
noncomputable def codeM (ts : List Summons) (d : Int) : Int := if areM ts = true then (if isDay d = true then 0 else 2) else 1
theorem codeM_0 {ts : List Summons} {d : Int} (h : areM ts = true) (h1 : isDay d = true) : codeM ts d = 0 := by rw [codeM, if_pos h, if_pos h1]
theorem codeM_1 {ts : List Summons} {d : Int} (h : areM ts = false) : codeM ts d = 1 := by rw [codeM, if_neg (by rw [h]; decide)]
theorem codeM_2 {ts : List Summons} {d : Int} (h : areM ts = true) (h1 : isDay d = false) : codeM ts d = 2 := by rw [codeM, if_pos h, if_neg (by rw [h1]; decide)]
theorem codeM_cases (ts : List Summons) (d : Int) : (codeM ts d = 0 ∧ areM ts = true ∧ (0 ≤ d ∧ d ≤ 20000)) ∨ codeM ts d = 1 ∨ codeM ts d = 2 := by
  cases h : areM ts
  · exact .inr (.inl (codeM_1 h))
  · cases h1 : isDay d
    · exact .inr (.inr (codeM_2 h h1))
    · exact .inl ⟨codeM_0 h h1, rfl, (isDay_iff d).1 h1⟩
theorem codeM_zero {ts : List Summons} {d : Int} (h : codeM ts d = 0) : areM ts = true ∧ (0 ≤ d ∧ d ≤ 20000) := by
  rcases codeM_cases ts d with ⟨_, h1, h2⟩ | h1 | h1
  · exact ⟨h1, h2⟩
  · rw [h] at h1; cases h1
  · rw [h] at h1; cases h1

/-- a further summons -/
noncomputable def insM (ts : List Summons) (x : Summons) : List Summons := ts.take (placeM ts x.num) ++ [x] ++ ts.drop (placeM ts x.num)
theorem insM_len (ts : List Summons) (x : Summons) : (insM ts x).length = ts.length + 1 := by
  have := placeM_le ts x.num
  simp [insM]; omega
theorem ins_at {α : Type} (ts : List α) (x : α) {p : Nat} (hp : p ≤ ts.length) (i : Nat) : (ts.take p ++ [x] ++ ts.drop p)[i]? = if i < p then ts[i]? else if i = p then some x else ts[i - 1]? := by
  have h0 : (ts.take p).length = p := by rw [List.length_take]; omega
  by_cases h1 : i < p
  · rw [if_pos h1, List.append_assoc, List.getElem?_append_left (by rw [h0]; exact h1), List.getElem?_take, if_pos h1]
  · rw [if_neg h1]
    by_cases h2 : i = p
    · rw [if_pos h2, List.getElem?_append_left (by rw [List.length_append, h0]; simp; omega), List.getElem?_append_right (by rw [h0]; omega), h0, h2, Nat.sub_self]; rfl
    · rw [if_neg h2, List.getElem?_append_right (by rw [List.length_append, h0]; simp; omega), List.length_append, h0, List.getElem?_drop]
      congr 1; simp; omega
theorem insM_at (ts : List Summons) (x : Summons) (i : Nat) : (insM ts x)[i]? = if i < placeM ts x.num then ts[i]? else if i = placeM ts x.num then some x else ts[i - 1]? := ins_at ts x (placeM_le ts x.num) i
/-- it is of summonses again exactly if nobody had the number and there was room -/
theorem insM_are {ts : List Summons} {x : Summons} (h : areM ts = true) (hx : okM x = true) (hw : whoM ts x.num = none) (hl : ts.length < 20) : areM (insM ts x) = true := by
  refine (areM_iff _).2 ⟨?_, by rw [insM_len]; omega⟩
  obtain ⟨p1, p2, p3⟩ := placeM_is ts x.num
  have hne := fun (i : Nat) s (hs : ts[i]? = some s) => whoM_none h hw hs
  intro i a hi ha
  rw [insM_at] at ha
  have hat := insM_at ts x
  generalize placeM ts x.num = p at ha p1 p2 p3 hat
  by_cases h1 : i < p
  · rw [if_pos h1] at ha
    refine ⟨areM_at h ha, fun b h0 hb => ?_⟩
    rw [hat, if_pos (by omega)] at hb
    exact areM_lt h i (i - 1) (by omega) hb ha
  · rw [if_neg h1] at ha
    by_cases h2 : i = p
    · rw [if_pos h2] at ha
      cases ha
      refine ⟨hx, fun b h0 hb => ?_⟩
      rw [hat, if_pos (by omega)] at hb
      exact p2 _ b (by omega) hb
    · rw [if_neg h2] at ha
      refine ⟨areM_at h ha, fun b h0 hb => ?_⟩
      rw [hat, if_neg (by omega)] at hb
      by_cases h3 : i - 1 = p
      · rw [if_pos h3] at hb
        cases hb
        rw [h3] at ha
        have := p3 a ha
        have := hne p a ha
        omega
      · rw [if_neg h3] at hb
        exact areM_lt h (i - 1) (i - 1 - 1) (by omega) hb ha
theorem insM_full {ts : List Summons} {x : Summons} (hl : 20 ≤ ts.length) : areM (insM ts x) = false := areM_long (by rw [insM_len]; omega)
theorem insM_twice {ts : List Summons} {x s : Summons} (hw : whoM ts x.num = some s) : areM (insM ts x) = false := by
  obtain ⟨h1, h2⟩ := whoM_some hw
  have hat := insM_at ts x
  generalize placeM ts x.num = p at h1 hat
  refine areM_turn (i := p) (a := s) (b := x) ?_ ?_ (by omega)
  · rw [hat, if_neg (by omega), if_neg (by omega)]; exact h1
  · rw [hat, if_neg (by omega), if_pos rfl]

/-- open, overdue, reminded -/
def openM (d : Int) (s : Summons) : Bool := decide (s.sent ≤ d) && (decide (s.ans = 0) || decide (d < s.done))
def overM (d : Int) (s : Summons) : Bool := openM d s && decide (s.due < d)
def remD (d : Int) (s : Summons) : Bool := decide (d = s.due + 1) || (decide (d = s.due + 15) || decide (d = s.due + 29))
def remM (d : Int) (s : Summons) : Bool := openM d s && remD d s
theorem remD_iff (d : Int) (s : Summons) : remD d s = true ↔ d = s.due + 1 ∨ d = s.due + 15 ∨ d = s.due + 29 := by simp [remD]
theorem remD_spec {d : Int} {s : Summons} (h : 0 ≤ d - s.due - 1) : remD d s = (decide ((d - s.due - 1) % 14 = 0) && decide ((d - s.due - 1) / 14 < 3)) := by
  rw [Bool.eq_iff_iff, remD_iff]
  simp only [Bool.and_eq_true, decide_eq_true_eq]
  omega
theorem remD_early {d : Int} {s : Summons} (h : ¬ 0 ≤ d - s.due - 1) : remD d s = false := by
  rw [← Bool.not_eq_true, remD_iff]; omega
/-- the numbers of those of whom something holds -/
def numsM (p : Summons → Bool) (ts : List Summons) : List Int := (ts.filter p).map Summons.num
def numsMo (p : Summons → Bool) (ts : List Summons) (k : Nat) : List Int := numsM p (ts.take k)
theorem numsMo_zero (p : Summons → Bool) (ts : List Summons) : numsMo p ts 0 = [] := rfl
theorem numsMo_yes {p : Summons → Bool} {ts : List Summons} {k : Nat} {s : Summons} (hs : ts[k]? = some s) (h : p s = true) : numsMo p ts (k + 1) = numsMo p ts k ++ [s.num] := by
  have hk := lt_of_getM hs
  have : ts[k] = s := Option.some.inj ((List.getElem?_eq_getElem hk).symm.trans hs)
  simp [numsMo, numsM, List.take_succ_eq_append_getElem hk, this, h, List.filter_append]
theorem numsMo_no {p : Summons → Bool} {ts : List Summons} {k : Nat} {s : Summons} (hs : ts[k]? = some s) (h : p s = false) : numsMo p ts (k + 1) = numsMo p ts k := by
  have hk := lt_of_getM hs
  have : ts[k] = s := Option.some.inj ((List.getElem?_eq_getElem hk).symm.trans hs)
  simp [numsMo, numsM, List.take_succ_eq_append_getElem hk, this, h, List.filter_append]
theorem numsMo_end {p : Summons → Bool} {ts : List Summons} {k : Nat} (h : ts.length ≤ k) : numsMo p ts k = numsM p ts := by unfold numsMo; rw [List.take_of_length_le h]
theorem numsMo_len (p : Summons → Bool) (ts : List Summons) (k : Nat) : (numsMo p ts k).length ≤ k := by
  unfold numsMo numsM
  rw [List.length_map]
  refine Nat.le_trans (List.length_filter_le _ _) ?_
  rw [List.length_take]; omega
theorem numsM_len (p : Summons → Bool) (ts : List Summons) : (numsM p ts).length ≤ ts.length := by
  unfold numsM; rw [List.length_map]; exact List.length_filter_le _ _
noncomputable def onR (p : Int → Summons → Bool) (ts : List Summons) (d : Int) : List Int × Int := if codeM ts d = 0 then (numsM (p d) ts, 0) else ([], codeM ts d)
theorem onR_ok {p : Int → Summons → Bool} {ts : List Summons} {d : Int} (h : codeM ts d = 0) : onR p ts d = (numsM (p d) ts, 0) := by unfold onR; rw [if_pos h]
theorem onR_bad {p : Int → Summons → Bool} {ts : List Summons} {d c : Int} (h : codeM ts d = c) (hc : c ≠ 0) : onR p ts d = ([], c) := by unfold onR; rw [if_neg (by omega), h]
theorem onR_small (p : Int → Summons → Bool) (ts : List Summons) (d : Int) : (onR p ts d).1.length ≤ 20 := by
  unfold onR
  split
  · rename_i h
    exact Nat.le_trans (numsM_len _ _) (areM_len (codeM_zero h).1)
  · exact Nat.zero_le _

/-- the answer as it was known on a day -/
def byM (d : Int) (s : Summons) : Int := if d < s.done then 0 else s.ans
theorem openM_by (d : Int) (s : Summons) : openM d s = (decide (s.sent ≤ d) && decide (byM d s = 0)) := by
  unfold openM byM
  congr 1
  by_cases h : d < s.done
  · rw [if_pos h, decide_eq_true h]; simp
  · rw [if_neg h, decide_eq_false h, Bool.or_false]
/-- how many were sent by a day and have the answer j, among the first k -/
def cntM (ts : List Summons) (d : Int) (k : Nat) (j : Int) : Int := ((ts.take k).filter (fun s => decide (s.sent ≤ d) && decide (byM d s = j))).length
theorem cntM_zero (ts : List Summons) (d j : Int) : cntM ts d 0 j = 0 := rfl
theorem cntM_step {ts : List Summons} {k : Nat} {s : Summons} (hs : ts[k]? = some s) (d j : Int) : cntM ts d (k + 1) j = cntM ts d k j + (if s.sent ≤ d ∧ byM d s = j then 1 else 0) := by
  have hk := lt_of_getM hs
  have : ts[k] = s := Option.some.inj ((List.getElem?_eq_getElem hk).symm.trans hs)
  unfold cntM
  rw [List.take_succ_eq_append_getElem hk, List.filter_append, List.length_append, this]
  by_cases h : s.sent ≤ d ∧ byM d s = j
  · rw [if_pos h, List.filter_cons_of_pos (by simp [h.1, h.2])]; simp
  · rw [if_neg h, List.filter_cons_of_neg (by simp; exact fun h1 h2 => h ⟨h1, h2⟩)]; simp
theorem cntM_bd (ts : List Summons) (d : Int) (k : Nat) (j : Int) : 0 ≤ cntM ts d k j ∧ cntM ts d k j ≤ k := by
  unfold cntM
  refine ⟨by omega, ?_⟩
  have := List.length_filter_le (fun s : Summons => decide (s.sent ≤ d) && decide (byM d s = j)) (ts.take k)
  rw [List.length_take] at this
  omega
noncomputable def countL (ts : List Summons) (d : Int) (k : Nat) : List Int := [cntM ts d k 0, cntM ts d k 1, cntM ts d k 2, cntM ts d k 3]
noncomputable def countR9 (ts : List Summons) (d : Int) : List Int × Int := if codeM ts d = 0 then (countL ts d ts.length, 0) else ([], codeM ts d)
theorem countR9_ok {ts : List Summons} {d : Int} (h : codeM ts d = 0) : countR9 ts d = (countL ts d ts.length, 0) := by unfold countR9; rw [if_pos h]
theorem countR9_bad {ts : List Summons} {d c : Int} (h : codeM ts d = c) (hc : c ≠ 0) : countR9 ts d = ([], c) := by unfold countR9; rw [if_neg (by omega), h]
theorem countR9_small (ts : List Summons) (d : Int) : (countR9 ts d).1.length ≤ 20 := by
  unfold countR9
  split
  · exact show 4 ≤ 20 by omega
  · exact Nat.zero_le _

/-- the next reminder -/
def anyRem (ts : List Summons) (n : Int) : Prop := ∃ (i : Nat) (s : Summons), ts[i]? = some s ∧ s.ans = 0 ∧ remD n s = true
def FirstRem (ts : List Summons) (d n : Int) : Prop := d < n ∧ n ≤ 20000 ∧ anyRem ts n ∧ ∀ x, d < x → x < n → ¬ anyRem ts x
theorem firstRem_inj {ts : List Summons} {d n n' : Int} (h : FirstRem ts d n) (h' : FirstRem ts d n') : n = n' := by
  rcases Int.lt_trichotomy n n' with c | c | c
  · exact absurd h.2.2.1 (h'.2.2.2 n h.1 c)
  · exact c
  · exact absurd h'.2.2.1 (h.2.2.2 n' h'.1 c)
noncomputable def remL (ts : List Summons) (d : Int) : Int × Int := @ite _ (∃ n, FirstRem ts d n) (Classical.propDecidable _) (Classical.epsilon (FirstRem ts d), 0) (0, 4)
theorem remL_some {ts : List Summons} {d n : Int} (h : FirstRem ts d n) : remL ts d = (n, 0) := by
  have he : ∃ n, FirstRem ts d n := ⟨n, h⟩
  rw [remL, if_pos he, firstRem_inj (Classical.epsilon_spec he) h]
theorem remL_none {ts : List Summons} {d : Int} (h : ¬ ∃ n, FirstRem ts d n) : remL ts d = (0, 4) := by rw [remL, if_neg h]
theorem remL_cases (ts : List Summons) (d : Int) : (∃ n, FirstRem ts d n ∧ remL ts d = (n, 0)) ∨ remL ts d = (0, 4) := by
  by_cases h : ∃ n, FirstRem ts d n
  · obtain ⟨n, h⟩ := h; exact .inl ⟨n, h, remL_some h⟩
  · exact .inr (remL_none h)
/-- .. the model's way: day after day -/
theorem remL_found {ts : List Summons} {d n : Int} (h0 : d < n) (h1 : n ≤ 20000) (hno : ∀ x, d < x → x < n → ¬ anyRem ts x) (h : anyRem ts n) : remL ts d = (n, 0) := remL_some ⟨h0, h1, h, hno⟩
theorem remL_end {ts : List Summons} {d n : Int} (h1 : 20000 < n) (hno : ∀ x, d < x → x < n → ¬ anyRem ts x) : remL ts d = (0, 4) :=
  remL_none fun ⟨y, hy⟩ => hno y hy.1 (by have := hy.2.1; omega) hy.2.2.1
theorem noRem_next {ts : List Summons} {d n : Int} (hno : ∀ x, d < x → x < n → ¬ anyRem ts x) (h : ¬ anyRem ts n) : ∀ x, d < x → x < n + 1 → ¬ anyRem ts x := by
  intro x h0 h1
  by_cases e : x = n
  · subst e; exact h
  · exact hno x h0 (by omega)
theorem anyRem_no {ts : List Summons} {n : Int} {k : Nat} (h : ∀ (i : Nat) s, i < k → ts[i]? = some s → s.ans = 0 → remD n s = false) (hk : ts.length ≤ k) : ¬ anyRem ts n := by
  rintro ⟨i, s, h1, h2, h3⟩
  rw [h i s (by have := lt_of_getM h1; omega) h1 h2] at h3; cases h3
/-- .. the program's way: the least of all reminders behind the day, or 20001 -/
def MinRem (ts : List Summons) (d : Int) (k j : Nat) (m : Int) : Prop :=
  m ≤ 20001 ∧ (m = 20001 ∨ (d < m ∧ anyRem ts m)) ∧
  (∀ (i : Nat) s n, i < k → ts[i]? = some s → s.ans = 0 → remD n s = true → d < n → m ≤ n) ∧
  (∀ s, ts[k]? = some s → s.ans = 0 → ∀ q : Nat, q < j → d < s.due + 1 + q * 14 → m ≤ s.due + 1 + q * 14)
theorem minRem_zero (ts : List Summons) (d : Int) : MinRem ts d 0 0 20001 := ⟨by omega, .inl rfl, fun i s n hi => by omega, fun s _ _ q hq => by omega⟩
theorem minRem_skip {ts : List Summons} {d m : Int} {k j : Nat} (h : MinRem ts d k j m) {s : Summons} (hs : ts[k]? = some s) (hno : ¬ (s.ans = 0 ∧ d < s.due + 1 + j * 14)) : MinRem ts d k (j + 1) m := by
  obtain ⟨h1, h2, h3, h4⟩ := h
  refine ⟨h1, h2, h3, fun x hx h0 q hq hd => ?_⟩
  rw [hs] at hx; cases hx
  by_cases e : q = j
  · subst e; exact absurd ⟨h0, hd⟩ hno
  · exact h4 s hs h0 q (by omega) hd
theorem minRem_take {ts : List Summons} {d m : Int} {k j : Nat} (h : MinRem ts d k j m) {s : Summons} (hs : ts[k]? = some s) (hj : j < 3) (h0 : s.ans = 0) (hd : d < s.due + 1 + j * 14) : MinRem ts d k (j + 1) (min m (s.due + 1 + j * 14)) := by
  obtain ⟨h1, h2, h3, h4⟩ := h
  refine ⟨by omega, ?_, fun i x n hi hx h5 h6 h7 => by have := h3 i x n hi hx h5 h6 h7; omega, fun x hx h0 q hq hd => ?_⟩
  · by_cases c : m ≤ s.due + 1 + j * 14
    · rw [Int.min_eq_left c]; exact h2
    · rw [Int.min_eq_right (by omega)]
      refine .inr ⟨hd, k, s, hs, h0, ?_⟩
      rw [remD_iff]
      omega
  · rw [hs] at hx; cases hx
    by_cases e : q = j
    · subst e; omega
    · have := h4 s hs h0 q (by omega) hd; omega
theorem minRem_next {ts : List Summons} {d m : Int} {k : Nat} (h : MinRem ts d k 3 m) : MinRem ts d (k + 1) 0 m := by
  obtain ⟨h1, h2, h3, h4⟩ := h
  refine ⟨h1, h2, fun i s n hi hs h0 hr hd => ?_, fun s _ _ q hq => by omega⟩
  by_cases e : i = k
  · subst e
    rcases (remD_iff n s).1 hr with rfl | rfl | rfl
    · have := h4 s hs h0 0 (by omega) (by simpa using hd); simpa using this
    · have := h4 s hs h0 1 (by omega) (by simp; omega); simp at this; omega
    · have := h4 s hs h0 2 (by omega) (by simp; omega); simp at this; omega
  · exact h3 i s n (by omega) hs h0 hr hd
theorem minRem_end {ts : List Summons} {d m : Int} {k : Nat} (h : MinRem ts d k 0 m) (hk : ts.length ≤ k) : remL ts d = if 20000 < m then (0, 4) else (m, 0) := by
  obtain ⟨h1, h2, h3, _⟩ := h
  have hall : ∀ x, d < x → x < m → ¬ anyRem ts x := by
    rintro x hx hm ⟨i, s, hs, h0, hr⟩
    have := h3 i s x (by have := lt_of_getM hs; omega) hs h0 hr hx
    omega
  by_cases c : 20000 < m
  · rw [if_pos c]; exact remL_end c hall
  · rw [if_neg c]
    rcases h2 with e | ⟨h5, h6⟩
    · omega
    · exact remL_found h5 (by omega) hall h6
noncomputable def nextR9 (ts : List Summons) (d : Int) : Int × Int := if codeM ts d = 0 then remL ts d else (0, codeM ts d)
theorem nextR9_ok {ts : List Summons} {d : Int} (h : codeM ts d = 0) : nextR9 ts d = remL ts d := by unfold nextR9; rw [if_pos h]
theorem nextR9_bad {ts : List Summons} {d c : Int} (h : codeM ts d = c) (hc : c ≠ 0) : nextR9 ts d = (0, c) := by unfold nextR9; rw [if_neg (by omega), h]

/-- an answer -/
noncomputable def codeA (ts : List Summons) (a d : Int) : Int := if areM ts = true then (if isDay d = true ∧ inR a 1 3 = true then 0 else 2) else 1
theorem codeA_0 {ts : List Summons} {a d : Int} (h : areM ts = true) (h1 : isDay d = true) (h2 : inR a 1 3 = true) : codeA ts a d = 0 := by rw [codeA, if_pos h, if_pos ⟨h1, h2⟩]
theorem codeA_1 {ts : List Summons} {a d : Int} (h : areM ts = false) : codeA ts a d = 1 := by rw [codeA, if_neg (by rw [h]; decide)]
theorem codeA_2 {ts : List Summons} {a d : Int} (h : areM ts = true) (h1 : ¬ (isDay d = true ∧ inR a 1 3 = true)) : codeA ts a d = 2 := by rw [codeA, if_pos h, if_neg h1]
theorem codeA_cases (ts : List Summons) (a d : Int) : (codeA ts a d = 0 ∧ areM ts = true ∧ (0 ≤ d ∧ d ≤ 20000) ∧ 1 ≤ a ∧ a ≤ 3) ∨ codeA ts a d = 1 ∨ codeA ts a d = 2 := by
  cases h : areM ts
  · exact .inr (.inl (codeA_1 h))
  · by_cases h1 : isDay d = true ∧ inR a 1 3 = true
    · exact .inl ⟨codeA_0 h h1.1 h1.2, rfl, (isDay_iff d).1 h1.1, inR_iff.1 h1.2⟩
    · exact .inr (.inr (codeA_2 h h1))
def answered (s : Summons) (a d : Int) : Summons := ⟨s.num, s.sent, s.due, a, d⟩
noncomputable def ansL (ts : List Summons) (n a d : Int) : List Summons × Int :=
  match whoM ts n with
  | some s => if s.ans = 0 ∧ s.sent ≤ d then (ts.set (placeM ts n) (answered s a d), 0) else ([], 5)
  | none => ([], 4)
noncomputable def ansR9 (ts : List Summons) (n a d : Int) : List Summons × Int := if codeA ts a d = 0 then ansL ts n a d else ([], codeA ts a d)
theorem ansR9_ok {ts : List Summons} {n a d : Int} (h : codeA ts a d = 0) : ansR9 ts n a d = ansL ts n a d := by unfold ansR9; rw [if_pos h]
theorem ansR9_bad {ts : List Summons} {n a d c : Int} (h : codeA ts a d = c) (hc : c ≠ 0) : ansR9 ts n a d = ([], c) := by unfold ansR9; rw [if_neg (by omega), h]
theorem ansL_none {ts : List Summons} {n a d : Int} (h : whoM ts n = none) : ansL ts n a d = ([], 4) := by unfold ansL; rw [h]
theorem ansL_state {ts : List Summons} {n a d : Int} {s : Summons} (h : whoM ts n = some s) (hs : ¬ (s.ans = 0 ∧ s.sent ≤ d)) : ansL ts n a d = ([], 5) := by unfold ansL; rw [h]; exact if_neg hs
theorem ansL_yes {ts : List Summons} {n a d : Int} {s : Summons} (h : whoM ts n = some s) (hs : s.ans = 0 ∧ s.sent ≤ d) : ansL ts n a d = (ts.set (placeM ts n) (answered s a d), 0) := by unfold ansL; rw [h]; exact if_pos hs
theorem ansL_cases (ts : List Summons) (n a d : Int) : (∃ s, whoM ts n = some s ∧ s.ans = 0 ∧ s.sent ≤ d ∧ ansL ts n a d = (ts.set (placeM ts n) (answered s a d), 0)) ∨ ansL ts n a d = ([], 4) ∨ ansL ts n a d = ([], 5) := by
  cases h : whoM ts n with
  | none => exact .inr (.inl (ansL_none h))
  | some s =>
    by_cases hs : s.ans = 0 ∧ s.sent ≤ d
    · exact .inl ⟨s, rfl, hs.1, hs.2, ansL_yes h hs⟩
    · exact .inr (.inr (ansL_state h hs))
theorem ansR9_small (ts : List Summons) (n a d : Int) : (ansR9 ts n a d).1.length ≤ 20 := by
  rcases codeA_cases ts a d with ⟨h, ha, _⟩ | h | h
  · rw [ansR9_ok h]
    rcases ansL_cases ts n a d with ⟨s, _, _, _, e⟩ | e | e
    · rw [e]; simp; exact areM_len ha
    · rw [e]; exact Nat.zero_le _
    · rw [e]; exact Nat.zero_le _
  · rw [ansR9_bad h (by omega)]; exact Nat.zero_le _
  · rw [ansR9_bad h (by omega)]; exact Nat.zero_le _
end Go.Proofs.YtchffaohmeaccaaDoor
