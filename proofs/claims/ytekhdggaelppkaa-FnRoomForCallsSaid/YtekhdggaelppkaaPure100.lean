/- Plain facts on chapter 10: calls, moved calls, rooms, crowded days. (begun by call10.py) -/
import Derived.Test.YtekhdggaelppkaaBase0
namespace Go.Proofs.Ytekhdggaelppkaa
open Pure2 Pure20 Pure21 Pure40

def okC (c : Call) : Bool := inR c.num 1 1000000 && (isDay c.day && (inR c.fst 0 c.day && (inR c.moves 0 2 && (decide (c.day = c.fst) == decide (c.moves = 0)))))
theorem okC_parts {c : Call} (h : okC c = true) : (1 ≤ c.num ∧ c.num ≤ 1000000) ∧ (0 ≤ c.day ∧ c.day ≤ 20000) ∧ (0 ≤ c.fst ∧ c.fst ≤ c.day) ∧ (0 ≤ c.moves ∧ c.moves ≤ 2) ∧ (c.day = c.fst ↔ c.moves = 0) := by
  unfold okC at h
  simp only [Bool.and_eq_true, inR_iff, isDay_iff, beq_iff_eq, decide_eq_decide] at h
  exact ⟨h.1, h.2.1, h.2.2.1, h.2.2.2.1, h.2.2.2.2⟩
theorem okC_of {c : Call} (h1 : 1 ≤ c.num ∧ c.num ≤ 1000000) (h2 : 0 ≤ c.day ∧ c.day ≤ 20000) (h3 : 0 ≤ c.fst ∧ c.fst ≤ c.day) (h4 : 0 ≤ c.moves ∧ c.moves ≤ 2) (h5 : c.day = c.fst ↔ c.moves = 0) : okC c = true := by
  unfold okC
  simp only [Bool.and_eq_true, inR_iff, isDay_iff, beq_iff_eq, decide_eq_decide]
  exact ⟨h1, h2, h3, h4, h5⟩

/-- the first n are summonses -/
def AreCo (ts : List Call) (n : Nat) : Prop := ∀ (i : Nat) a, i < n → ts[i]? = some a → okC a = true ∧ ∀ b, 0 < i → ts[i - 1]? = some b → b.num < a.num
def AreC (ts : List Call) : Prop := AreCo ts ts.length ∧ ts.length ≤ 20
noncomputable def areC (ts : List Call) : Bool := @decide (AreC ts) (Classical.propDecidable _)
theorem areC_iff (ts : List Call) : areC ts = true ↔ AreC ts := by unfold areC; exact @decide_eq_true_iff _ (Classical.propDecidable _)
theorem areC_no (ts : List Call) : areC ts = false ↔ ¬ AreC ts := by rw [← Bool.not_eq_true, areC_iff]
theorem lt_of_getC {α : Type} {l : List α} {i : Nat} {a : α} (h : l[i]? = some a) : i < l.length := (List.getElem?_eq_some_iff.1 h).1
theorem areC_bad {ts : List Call} {i : Nat} {a : Call} (ha : ts[i]? = some a) (h : okC a = false) : areC ts = false :=
  (areC_no ts).2 fun hh => by have := (hh.1 i a (lt_of_getC ha) ha).1; rw [h] at this; cases this
theorem areC_turn {ts : List Call} {i : Nat} {a b : Call} (ha : ts[i + 1]? = some a) (hb : ts[i]? = some b) (h : ¬ b.num < a.num) : areC ts = false :=
  (areC_no ts).2 fun hh => h ((hh.1 (i + 1) a (lt_of_getC ha) ha).2 b (by omega) (by simpa using hb))
theorem areC_long {ts : List Call} (h : 20 < ts.length) : areC ts = false := (areC_no ts).2 fun hh => by have := hh.2; omega
theorem areC_end {ts : List Call} {n : Nat} (h : AreCo ts n) (hn : ts.length ≤ n) : areC ts = decide (ts.length ≤ 20) := by
  by_cases hl : ts.length ≤ 20
  · rw [decide_eq_true hl]; exact (areC_iff ts).2 ⟨fun i a hi ha => h i a (by omega) ha, hl⟩
  · rw [decide_eq_false hl]; exact areC_long (by omega)
theorem areCo_zero (ts : List Call) : AreCo ts 0 := fun i a hi => by omega
theorem areCo_step {ts : List Call} {n : Nat} {a : Call} (h : AreCo ts n) (ha : ts[n]? = some a) (h1 : okC a = true) (h2 : ∀ b, 0 < n → ts[n - 1]? = some b → b.num < a.num) : AreCo ts (n + 1) := by
  intro i q hi hq
  by_cases e : i = n
  · subst e; rw [ha] at hq; cases hq; exact ⟨h1, h2⟩
  · exact h i q (by omega) hq
theorem areC_at {ts : List Call} (h : areC ts = true) {i : Nat} {a : Call} (ha : ts[i]? = some a) : okC a = true := (((areC_iff ts).1 h).1 i a (lt_of_getC ha) ha).1
theorem areC_len {ts : List Call} (h : areC ts = true) : ts.length ≤ 20 := ((areC_iff ts).1 h).2
theorem areC_next {ts : List Call} (h : areC ts = true) {i : Nat} {a b : Call} (ha : ts[i]? = some a) (hb : ts[i + 1]? = some b) : a.num < b.num :=
  (((areC_iff ts).1 h).1 (i + 1) b (lt_of_getC hb) hb).2 a (by omega) (by simpa using ha)
theorem areC_lt {ts : List Call} (h : areC ts = true) : ∀ (j i : Nat) {a b : Call}, i < j → ts[i]? = some a → ts[j]? = some b → a.num < b.num := by
  intro j
  induction j with
  | zero => intro i a b hi; omega
  | succ j ih =>
    intro i a b hi ha hb
    have hj : ts[j]? = some (ts[j]'(by have := lt_of_getC hb; omega)) := List.getElem?_eq_getElem _
    have h1 := areC_next h hj hb
    by_cases e : i = j
    · subst e; rw [ha] at hj; cases hj; exact h1
    · have := ih i (by omega) ha hj; omega

/-- the place of a number -/
def AtPlaceC (ts : List Call) (n : Int) (k : Nat) : Prop := k ≤ ts.length ∧ (∀ (i : Nat) s, i < k → ts[i]? = some s → s.num < n) ∧ (∀ s, ts[k]? = some s → ¬ s.num < n)
theorem atPlaceC_inj {ts : List Call} {n : Int} {k k' : Nat} (h : AtPlaceC ts n k) (h' : AtPlaceC ts n k') : k = k' := by
  rcases Nat.lt_trichotomy k k' with c | c | c
  · have hk : ts[k]? = some (ts[k]'(by have := h'.1; omega)) := List.getElem?_eq_getElem _
    exact absurd (h'.2.1 k _ c hk) (h.2.2 _ hk)
  · exact c
  · have hk : ts[k']? = some (ts[k']'(by have := h.1; omega)) := List.getElem?_eq_getElem _
    exact absurd (h.2.1 k' _ c hk) (h'.2.2 _ hk)
noncomputable def placeC (ts : List Call) (n : Int) : Nat := Classical.epsilon (AtPlaceC ts n)
theorem placeC_eq {ts : List Call} {n : Int} {k : Nat} (h : AtPlaceC ts n k) : placeC ts n = k := atPlaceC_inj (Classical.epsilon_spec (p := AtPlaceC ts n) ⟨k, h⟩) h
theorem placeC_there (n : Int) : ∀ ts : List Call, ∃ k, AtPlaceC ts n k
  | [] => ⟨0, Nat.le_refl _, fun i s hi => by omega, fun s h => by simp at h⟩
  | t :: ts => by
    by_cases h : t.num < n
    · obtain ⟨k, h1, h2, h3⟩ := placeC_there n ts
      refine ⟨k + 1, by simp; omega, fun i s hi hs => ?_, fun s hs => h3 s (by simpa using hs)⟩
      cases i with
      | zero => simp at hs; subst hs; exact h
      | succ i => exact h2 i s (by omega) (by simpa using hs)
    · exact ⟨0, Nat.zero_le _, fun i s hi => by omega, fun s hs => by simp at hs; subst hs; exact h⟩
theorem placeC_is (ts : List Call) (n : Int) : AtPlaceC ts n (placeC ts n) := Classical.epsilon_spec (placeC_there n ts)
theorem placeC_le (ts : List Call) (n : Int) : placeC ts n ≤ ts.length := (placeC_is ts n).1
theorem atPlaceC_zero (ts : List Call) (n : Int) : (∀ (i : Nat) s, i < 0 → ts[i]? = some s → s.num < n) := fun i s hi => by omega
theorem belowC_next {ts : List Call} {n : Int} {k : Nat} {s : Call} (h : ∀ (i : Nat) s, i < k → ts[i]? = some s → s.num < n) (hs : ts[k]? = some s) (h' : s.num < n) : ∀ (i : Nat) s, i < k + 1 → ts[i]? = some s → s.num < n := by
  intro i x hi hx
  by_cases e : i = k
  · subst e; rw [hs] at hx; cases hx; exact h'
  · exact h i x (by omega) hx
/-- in summonses whoever has the number stands at its place -/
theorem placeC_found {ts : List Call} (h : areC ts = true) {n : Int} {k : Nat} {s : Call} (hs : ts[k]? = some s) (he : s.num = n) : placeC ts n = k :=
  placeC_eq ⟨Nat.le_of_lt (lt_of_getC hs), fun i x hi hx => by have := areC_lt h k i hi hx hs; omega, fun x hx => by rw [hs] at hx; cases hx; omega⟩
/-- who stands at the place, if it is they -/
noncomputable def whoC (ts : List Call) (n : Int) : Option Call := match ts[placeC ts n]? with | some s => if s.num = n then some s else none | none => none
theorem whoC_some {ts : List Call} {n : Int} {s : Call} (h : whoC ts n = some s) : ts[placeC ts n]? = some s ∧ s.num = n := by
  unfold whoC at h
  split at h
  · rename_i x hx
    split at h
    · rename_i he
      cases h; exact ⟨hx, he⟩
    · cases h
  · cases h
theorem whoC_yes {ts : List Call} {n : Int} {s : Call} (hs : ts[placeC ts n]? = some s) (he : s.num = n) : whoC ts n = some s := by unfold whoC; rw [hs]; exact if_pos he
theorem whoC_none {ts : List Call} (h : areC ts = true) {n : Int} (hn : whoC ts n = none) {i : Nat} {s : Call} (hs : ts[i]? = some s) : s.num ≠ n := by
  intro he
  have h1 := placeC_found h hs he
  rw [← h1] at hs
  rw [whoC_yes hs he] at hn; cases hn
theorem whoC_no {ts : List Call} {n : Int} (h : ∀ (i : Nat) s, ts[i]? = some s → s.num ≠ n) : whoC ts n = none := by
  cases hw : whoC ts n with
  | none => rfl
  | some s => obtain ⟨h1, h2⟩ := whoC_some hw; exact absurd h2 (h _ _ h1)

/-- a further summons -/
noncomputable def insC (ts : List Call) (x : Call) : List Call := ts.take (placeC ts x.num) ++ [x] ++ ts.drop (placeC ts x.num)
theorem insC_len (ts : List Call) (x : Call) : (insC ts x).length = ts.length + 1 := by
  have := placeC_le ts x.num
  simp [insC]; omega
theorem insC_get {α : Type} (ts : List α) (x : α) {p : Nat} (hp : p ≤ ts.length) (i : Nat) : (ts.take p ++ [x] ++ ts.drop p)[i]? = if i < p then ts[i]? else if i = p then some x else ts[i - 1]? := by
  have h0 : (ts.take p).length = p := by rw [List.length_take]; omega
  by_cases h1 : i < p
  · rw [if_pos h1, List.append_assoc, List.getElem?_append_left (by rw [h0]; exact h1), List.getElem?_take, if_pos h1]
  · rw [if_neg h1]
    by_cases h2 : i = p
    · rw [if_pos h2, List.getElem?_append_left (by rw [List.length_append, h0]; simp; omega), List.getElem?_append_right (by rw [h0]; omega), h0, h2, Nat.sub_self]; rfl
    · rw [if_neg h2, List.getElem?_append_right (by rw [List.length_append, h0]; simp; omega), List.length_append, h0, List.getElem?_drop]
      congr 1; simp; omega
theorem insC_at (ts : List Call) (x : Call) (i : Nat) : (insC ts x)[i]? = if i < placeC ts x.num then ts[i]? else if i = placeC ts x.num then some x else ts[i - 1]? := insC_get ts x (placeC_le ts x.num) i
/-- it is of summonses again exactly if nobody had the number and there was room -/
theorem insC_are {ts : List Call} {x : Call} (h : areC ts = true) (hx : okC x = true) (hw : whoC ts x.num = none) (hl : ts.length < 20) : areC (insC ts x) = true := by
  refine (areC_iff _).2 ⟨?_, by rw [insC_len]; omega⟩
  obtain ⟨p1, p2, p3⟩ := placeC_is ts x.num
  have hne := fun (i : Nat) s (hs : ts[i]? = some s) => whoC_none h hw hs
  intro i a hi ha
  rw [insC_at] at ha
  have hat := insC_at ts x
  generalize placeC ts x.num = p at ha p1 p2 p3 hat
  by_cases h1 : i < p
  · rw [if_pos h1] at ha
    refine ⟨areC_at h ha, fun b h0 hb => ?_⟩
    rw [hat, if_pos (by omega)] at hb
    exact areC_lt h i (i - 1) (by omega) hb ha
  · rw [if_neg h1] at ha
    by_cases h2 : i = p
    · rw [if_pos h2] at ha
      cases ha
      refine ⟨hx, fun b h0 hb => ?_⟩
      rw [hat, if_pos (by omega)] at hb
      exact p2 _ b (by omega) hb
    · rw [if_neg h2] at ha
      refine ⟨areC_at h ha, fun b h0 hb => ?_⟩
      rw [hat, if_neg (by omega)] at hb
      by_cases h3 : i - 1 = p
      · rw [if_pos h3] at hb
        cases hb
        rw [h3] at ha
        have := p3 a ha
        have := hne p a ha
        omega
      · rw [if_neg h3] at hb
        exact areC_lt h (i - 1) (i - 1 - 1) (by omega) hb ha
theorem insC_full {ts : List Call} {x : Call} (hl : 20 ≤ ts.length) : areC (insC ts x) = false := areC_long (by rw [insC_len]; omega)
theorem insC_twice {ts : List Call} {x s : Call} (hw : whoC ts x.num = some s) : areC (insC ts x) = false := by
  obtain ⟨h1, h2⟩ := whoC_some hw
  have hat := insC_at ts x
  generalize placeC ts x.num = p at h1 hat
  refine areC_turn (i := p) (a := s) (b := x) ?_ ?_ (by omega)
  · rw [hat, if_neg (by omega), if_neg (by omega)]; exact h1
  · rw [hat, if_neg (by omega), if_pos rfl]

/-- the numbers of those of whom something holds -/
def numsC (p : Call → Bool) (ts : List Call) : List Int := (ts.filter p).map Call.num
def numsCo (p : Call → Bool) (ts : List Call) (k : Nat) : List Int := numsC p (ts.take k)
theorem numsCo_zero (p : Call → Bool) (ts : List Call) : numsCo p ts 0 = [] := rfl
theorem numsCo_yes {p : Call → Bool} {ts : List Call} {k : Nat} {s : Call} (hs : ts[k]? = some s) (h : p s = true) : numsCo p ts (k + 1) = numsCo p ts k ++ [s.num] := by
  have hk := lt_of_getC hs
  have : ts[k] = s := Option.some.inj ((List.getElem?_eq_getElem hk).symm.trans hs)
  simp [numsCo, numsC, List.take_succ_eq_append_getElem hk, this, h, List.filter_append]
theorem numsCo_no {p : Call → Bool} {ts : List Call} {k : Nat} {s : Call} (hs : ts[k]? = some s) (h : p s = false) : numsCo p ts (k + 1) = numsCo p ts k := by
  have hk := lt_of_getC hs
  have : ts[k] = s := Option.some.inj ((List.getElem?_eq_getElem hk).symm.trans hs)
  simp [numsCo, numsC, List.take_succ_eq_append_getElem hk, this, h, List.filter_append]
theorem numsCo_end {p : Call → Bool} {ts : List Call} {k : Nat} (h : ts.length ≤ k) : numsCo p ts k = numsC p ts := by unfold numsCo; rw [List.take_of_length_le h]
theorem numsCo_len (p : Call → Bool) (ts : List Call) (k : Nat) : (numsCo p ts k).length ≤ k := by
  unfold numsCo numsC
  rw [List.length_map]
  refine Nat.le_trans (List.length_filter_le _ _) ?_
  rw [List.length_take]; omega
theorem numsC_len (p : Call → Bool) (ts : List Call) : (numsC p ts).length ≤ ts.length := by
  unfold numsC; rw [List.length_map]; exact List.length_filter_le _ _
theorem numsC_mem {p : Call → Bool} {ts : List Call} {x : Int} : x ∈ numsC p ts ↔ ∃ (i : Nat) (s : Call), ts[i]? = some s ∧ p s = true ∧ s.num = x := by
  unfold numsC
  rw [List.mem_map]
  constructor
  · rintro ⟨s, h, e⟩
    rw [List.mem_filter] at h
    obtain ⟨i, hi⟩ := List.mem_iff_getElem?.1 h.1
    exact ⟨i, s, hi, h.2, e⟩
  · rintro ⟨i, s, hi, h, e⟩
    exact ⟨s, List.mem_filter.2 ⟨List.mem_of_getElem? hi, h⟩, e⟩
theorem numsC_sub {p q : Call → Bool} (h : ∀ s, p s = true → q s = true) {ts : List Call} {x : Int} (hx : x ∈ numsC p ts) : x ∈ numsC q ts := by
  obtain ⟨i, s, h1, h2, h3⟩ := numsC_mem.1 hx
  exact numsC_mem.2 ⟨i, s, h1, h s h2, h3⟩
theorem setC_are {ts : List Call} {k : Nat} {s x : Call} (h : areC ts = true) (hs : ts[k]? = some s) (hx : okC x = true) (hn : x.num = s.num) : areC (ts.set k x) = true := by
  have hk := lt_of_getC hs
  refine (areC_iff _).2 ⟨?_, by rw [List.length_set]; exact areC_len h⟩
  have hat : ∀ (i : Nat) y, (ts.set k x)[i]? = some y → (i = k ∧ y = x) ∨ (i ≠ k ∧ ts[i]? = some y) := by
    intro i y hy
    by_cases e : i = k
    · subst e; rw [List.getElem?_set_self hk] at hy; cases hy; exact .inl ⟨rfl, rfl⟩
    · rw [List.getElem?_set_ne (by omega)] at hy; exact .inr ⟨e, hy⟩
  intro i a _ ha
  rcases hat i a ha with ⟨rfl, rfl⟩ | ⟨e, ha'⟩
  · refine ⟨hx, fun b h0 hb => ?_⟩
    rcases hat _ b hb with ⟨e, _⟩ | ⟨_, hb'⟩
    · omega
    · rw [hn]; exact areC_lt h i (i - 1) (by omega) hb' hs
  · refine ⟨areC_at h ha', fun b h0 hb => ?_⟩
    rcases hat _ b hb with ⟨e, rfl⟩ | ⟨_, hb'⟩
    · rw [hn]; exact areC_lt h i (i - 1) (by omega) (by rw [e]; exact hs) ha'
    · exact areC_lt h i (i - 1) (by omega) hb' ha'

/-- the index of the first one with a number, or -1 -/
def indexC (ts : List Call) (n : Int) : Int :=
  match ts.findIdx? (fun p => p.num == n) with
  | some i => (i : Int)
  | none => -1
theorem indexC_hit {ts : List Call} {n : Int} {k : Nat} {p : Call} (h : ∀ i q, i < k → ts[i]? = some q → q.num ≠ n) (hp : ts[k]? = some p) (hn : p.num = n) : indexC ts n = (k : Int) := by
  obtain ⟨hk, rfl⟩ := List.getElem?_eq_some_iff.1 hp
  have : ts.findIdx? (fun p => p.num == n) = some k := by
    rw [List.findIdx?_eq_some_iff_getElem]
    refine ⟨hk, by simpa using hn, fun j hj => ?_⟩
    have := h j _ hj (List.getElem?_eq_getElem (by omega))
    simpa using this
  rw [indexC, this]
theorem indexC_none {ts : List Call} {n : Int} (h : ∀ (i : Nat) (q : Call), ts[i]? = some q → q.num ≠ n) : indexC ts n = -1 := by
  have : ts.findIdx? (fun p => p.num == n) = none := by
    rw [List.findIdx?_eq_none_iff]
    intro q hq
    obtain ⟨i, hi⟩ := List.getElem?_of_mem hq
    have := h i q hi
    simpa using this
  rw [indexC, this]
theorem indexC_cases (ts : List Call) (n : Int) : indexC ts n = -1 ∨ ∃ k : Nat, k < ts.length ∧ indexC ts n = (k : Int) := by
  unfold indexC
  cases h : ts.findIdx? (fun p => p.num == n) with
  | none => exact .inl rfl
  | some i => exact .inr ⟨i, by rw [List.findIdx?_eq_some_iff_getElem] at h; exact h.1, rfl⟩
theorem indexC_some {ts : List Call} (h : areC ts = true) {n : Int} {c : Call} (hw : whoC ts n = some c) : indexC ts n = (placeC ts n : Int) := by
  obtain ⟨h1, h2⟩ := whoC_some hw
  exact indexC_hit (fun i q hi hq => by have := areC_lt h _ i hi hq h1; omega) h1 h2
theorem indexC_no {ts : List Call} (h : areC ts = true) {n : Int} (hw : whoC ts n = none) : indexC ts n = -1 := indexC_none fun i q hq => whoC_none h hw hq
/-- it may be moved to a day -/
def mayC (hs : List Int) (c : Call) (d : Int) : Bool := decide (c.moves < 2) && (inR d (c.day + 1) (min (c.fst + 180) 20000) && court hs d)
theorem mayC_iff {hs : List Int} {c : Call} {d : Int} : mayC hs c d = true ↔ c.moves < 2 ∧ (c.day < d ∧ d ≤ c.fst + 180 ∧ d ≤ 20000) ∧ court hs d = true := by
  unfold mayC
  simp only [Bool.and_eq_true, inR_iff, decide_eq_true_eq]
  constructor
  · rintro ⟨h1, ⟨h2, h3⟩, h4⟩; exact ⟨h1, ⟨by omega, by omega, by omega⟩, h4⟩
  · rintro ⟨h1, ⟨h2, h3, h5⟩, h4⟩; exact ⟨h1, ⟨by omega, by omega⟩, h4⟩
/-- .. as the model asks it -/
theorem mayC_spec {hs : List Int} {c : Call} {d : Int} (h : d ≤ 20000) : mayC hs c d = (decide (c.day < d) && (decide (c.moves < 2) && (court hs d && decide (d ≤ c.fst + 180)))) := by
  rw [Bool.eq_iff_iff, mayC_iff]
  simp only [Bool.and_eq_true, decide_eq_true_eq]
  constructor
  · rintro ⟨h1, ⟨h2, h3, _⟩, h4⟩; exact ⟨h2, h1, h4, h3⟩
  · rintro ⟨h2, h1, h4, h3⟩; exact ⟨h1, ⟨h2, h3, h⟩, h4⟩
theorem hol_nil : hol [] = true := (hol_iff _).2 ⟨fun i x h => by simp at h, fun i x y h => by simp at h, Nat.zero_le _⟩

/-- the codes -/
noncomputable def codeC (hs : List Int) (ts : List Call) (b : Bool) : Int := if hol hs = true ∧ areC ts = true then (if b = true then 0 else 2) else 1
theorem codeC_0 {hs : List Int} {ts : List Call} (h1 : hol hs = true) (h2 : areC ts = true) : codeC hs ts true = 0 := by rw [codeC, if_pos ⟨h1, h2⟩, if_pos rfl]
theorem codeC_h {hs : List Int} {ts : List Call} {b : Bool} (h1 : hol hs = false) : codeC hs ts b = 1 := by rw [codeC, if_neg (fun h => by rw [h1] at h; cases h.1)]
theorem codeC_c {hs : List Int} {ts : List Call} {b : Bool} (h1 : areC ts = false) : codeC hs ts b = 1 := by rw [codeC, if_neg (fun h => by rw [h1] at h; cases h.2)]
theorem codeC_2 {hs : List Int} {ts : List Call} (h1 : hol hs = true) (h2 : areC ts = true) : codeC hs ts false = 2 := by rw [codeC, if_pos ⟨h1, h2⟩, if_neg (by decide)]
theorem codeC_cases (hs : List Int) (ts : List Call) (b : Bool) : (codeC hs ts b = 0 ∧ hol hs = true ∧ areC ts = true ∧ b = true) ∨ codeC hs ts b = 1 ∨ codeC hs ts b = 2 := by
  cases h1 : hol hs
  · exact .inr (.inl (codeC_h h1))
  · cases h2 : areC ts
    · exact .inr (.inl (codeC_c h2))
    · cases b
      · exact .inr (.inr (codeC_2 h1 h2))
      · exact .inl ⟨codeC_0 h1 h2, rfl, rfl, rfl⟩
theorem codeC_zero {hs : List Int} {ts : List Call} {b : Bool} (h : codeC hs ts b = 0) : hol hs = true ∧ areC ts = true ∧ b = true := by
  rcases codeC_cases hs ts b with ⟨_, h1⟩ | h1 | h1
  · exact h1
  · rw [h] at h1; cases h1
  · rw [h] at h1; cases h1
noncomputable def findC (hs : List Int) (ts : List Call) (b : Bool) (n : Int) : Int := if codeC hs ts b = 0 then (if (whoC ts n).isSome = true then 0 else 4) else codeC hs ts b
theorem findC_bad {hs : List Int} {ts : List Call} {b : Bool} {n c : Int} (h : codeC hs ts b = c) (hc : c ≠ 0) : findC hs ts b n = c := by rw [findC, if_neg (by omega), h]
theorem findC_none {hs : List Int} {ts : List Call} {b : Bool} {n : Int} (h : codeC hs ts b = 0) (hw : whoC ts n = none) : findC hs ts b n = 4 := by rw [findC, if_pos h, hw]; rfl
theorem findC_some {hs : List Int} {ts : List Call} {b : Bool} {n : Int} {c : Call} (h : codeC hs ts b = 0) (hw : whoC ts n = some c) : findC hs ts b n = 0 := by rw [findC, if_pos h, hw]; rfl
theorem findC_cases (hs : List Int) (ts : List Call) (b : Bool) (n : Int) : (findC hs ts b n = 0 ∧ (hol hs = true ∧ areC ts = true ∧ b = true) ∧ ∃ c, whoC ts n = some c) ∨ findC hs ts b n = 1 ∨ findC hs ts b n = 2 ∨ findC hs ts b n = 4 := by
  rcases codeC_cases hs ts b with ⟨h, h1⟩ | h | h
  · cases hw : whoC ts n with
    | none => exact .inr (.inr (.inr (findC_none h hw)))
    | some c => exact .inl ⟨findC_some h hw, h1, c, rfl⟩
  · exact .inr (.inl (findC_bad h (by omega)))
  · exact .inr (.inr (.inl (findC_bad h (by omega))))

/-- the answers -/
noncomputable def mayR (hs : List Int) (ts : List Call) (n d : Int) : Bool × Int :=
  if findC hs ts (isDay d) n = 0 then (match whoC ts n with | some c => (mayC hs c d, 0) | none => (false, 4)) else (false, findC hs ts (isDay d) n)
theorem mayR_ok {hs : List Int} {ts : List Call} {n d : Int} {c : Call} (h : findC hs ts (isDay d) n = 0) (hw : whoC ts n = some c) : mayR hs ts n d = (mayC hs c d, 0) := by rw [mayR, if_pos h, hw]
theorem mayR_bad {hs : List Int} {ts : List Call} {n d x : Int} (h : findC hs ts (isDay d) n = x) (hx : x ≠ 0) : mayR hs ts n d = (false, x) := by rw [mayR, if_neg (by omega), h]
def moved (c : Call) (d : Int) : Call := ⟨c.num, c.fst, d, c.moves + 1⟩
noncomputable def movR (hs : List Int) (ts : List Call) (n d : Int) : List Call × Int :=
  if findC hs ts (isDay d) n = 0 then (match whoC ts n with | some c => if mayC hs c d = true then (ts.set (placeC ts n) (moved c d), 0) else ([], 5) | none => ([], 4)) else ([], findC hs ts (isDay d) n)
theorem movR_yes {hs : List Int} {ts : List Call} {n d : Int} {c : Call} (h : findC hs ts (isDay d) n = 0) (hw : whoC ts n = some c) (hm : mayC hs c d = true) : movR hs ts n d = (ts.set (placeC ts n) (moved c d), 0) := by rw [movR, if_pos h, hw]; exact if_pos hm
theorem movR_no {hs : List Int} {ts : List Call} {n d : Int} {c : Call} (h : findC hs ts (isDay d) n = 0) (hw : whoC ts n = some c) (hm : mayC hs c d = false) : movR hs ts n d = ([], 5) := by rw [movR, if_pos h, hw]; exact if_neg (by rw [hm]; decide)
theorem movR_bad {hs : List Int} {ts : List Call} {n d x : Int} (h : findC hs ts (isDay d) n = x) (hx : x ≠ 0) : movR hs ts n d = ([], x) := by rw [movR, if_neg (by omega), h]
theorem movR_cases (hs : List Int) (ts : List Call) (n d : Int) : (∃ c, findC hs ts (isDay d) n = 0 ∧ (hol hs = true ∧ areC ts = true ∧ isDay d = true) ∧ whoC ts n = some c ∧ mayC hs c d = true ∧ movR hs ts n d = (ts.set (placeC ts n) (moved c d), 0)) ∨ (∃ x, movR hs ts n d = ([], x) ∧ (x = 1 ∨ x = 2 ∨ x = 4 ∨ x = 5)) := by
  rcases findC_cases hs ts (isDay d) n with ⟨h, h1, c, hw⟩ | h | h | h
  · cases hm : mayC hs c d
    · exact .inr ⟨5, movR_no h hw hm, by omega⟩
    · exact .inl ⟨c, h, h1, hw, hm, movR_yes h hw hm⟩
  · exact .inr ⟨1, movR_bad h (by omega), by omega⟩
  · exact .inr ⟨2, movR_bad h (by omega), by omega⟩
  · exact .inr ⟨4, movR_bad h (by omega), by omega⟩
theorem movR_small (hs : List Int) (ts : List Call) (n d : Int) : (movR hs ts n d).1.length ≤ 20 := by
  rcases movR_cases hs ts n d with ⟨c, _, h1, _, _, e⟩ | ⟨x, e, _⟩
  · rw [e, List.length_set]; exact areC_len h1.2.1
  · rw [e]; exact Nat.zero_le _
noncomputable def addR10 (hs : List Int) (ts : List Call) (n d : Int) : List Call × Int :=
  if codeC hs ts (inR n 1 1000000 && isDay d) = 0 then (if court hs d = true ∧ areC (insC ts ⟨n, d, d, 0⟩) = true then (insC ts ⟨n, d, d, 0⟩, 0) else ([], 5)) else ([], codeC hs ts (inR n 1 1000000 && isDay d))
theorem addR10_yes {hs : List Int} {ts : List Call} {n d : Int} (h : codeC hs ts (inR n 1 1000000 && isDay d) = 0) (h1 : court hs d = true) (h2 : areC (insC ts ⟨n, d, d, 0⟩) = true) : addR10 hs ts n d = (insC ts ⟨n, d, d, 0⟩, 0) := by rw [addR10, if_pos h, if_pos ⟨h1, h2⟩]
theorem addR10_court {hs : List Int} {ts : List Call} {n d : Int} (h : codeC hs ts (inR n 1 1000000 && isDay d) = 0) (h1 : court hs d = false) : addR10 hs ts n d = ([], 5) := by rw [addR10, if_pos h, if_neg (fun hh => by rw [h1] at hh; cases hh.1)]
theorem addR10_are {hs : List Int} {ts : List Call} {n d : Int} (h : codeC hs ts (inR n 1 1000000 && isDay d) = 0) (h1 : areC (insC ts ⟨n, d, d, 0⟩) = false) : addR10 hs ts n d = ([], 5) := by rw [addR10, if_pos h, if_neg (fun hh => by rw [h1] at hh; cases hh.2)]
theorem addR10_bad {hs : List Int} {ts : List Call} {n d x : Int} (h : codeC hs ts (inR n 1 1000000 && isDay d) = x) (hx : x ≠ 0) : addR10 hs ts n d = ([], x) := by rw [addR10, if_neg (by omega), h]
theorem addR10_cases (hs : List Int) (ts : List Call) (n d : Int) : (hol hs = true ∧ areC ts = true ∧ isDay d = true ∧ court hs d = true ∧ areC (insC ts ⟨n, d, d, 0⟩) = true ∧ addR10 hs ts n d = (insC ts ⟨n, d, d, 0⟩, 0)) ∨ (∃ x, addR10 hs ts n d = ([], x) ∧ (x = 1 ∨ x = 2 ∨ x = 5)) := by
  rcases codeC_cases hs ts (inR n 1 1000000 && isDay d) with ⟨h, h1, h2, h3⟩ | h | h
  · cases hc : court hs d
    · exact .inr ⟨5, addR10_court h hc, by omega⟩
    · cases ha : areC (insC ts ⟨n, d, d, 0⟩)
      · exact .inr ⟨5, addR10_are h ha, by omega⟩
      · simp only [Bool.and_eq_true] at h3
        exact .inl ⟨h1, h2, h3.2, rfl, rfl, addR10_yes h hc ha⟩
  · exact .inr ⟨1, addR10_bad h (by omega), by omega⟩
  · exact .inr ⟨2, addR10_bad h (by omega), by omega⟩
theorem addR10_small (hs : List Int) (ts : List Call) (n d : Int) : (addR10 hs ts n d).1.length ≤ 20 := by
  rcases addR10_cases hs ts n d with ⟨_, _, _, _, h, e⟩ | ⟨x, e, _⟩
  · rw [e]; exact areC_len h
  · rw [e]; exact Nat.zero_le _
def dayC (d : Int) (c : Call) : Bool := decide (c.day = d)
noncomputable def onC (ts : List Call) (d : Int) : List Int × Int := if codeC [] ts (isDay d) = 0 then (numsC (dayC d) ts, 0) else ([], codeC [] ts (isDay d))
theorem onC_ok {ts : List Call} {d : Int} (h : codeC [] ts (isDay d) = 0) : onC ts d = (numsC (dayC d) ts, 0) := by rw [onC, if_pos h]
theorem onC_bad {ts : List Call} {d x : Int} (h : codeC [] ts (isDay d) = x) (hx : x ≠ 0) : onC ts d = ([], x) := by rw [onC, if_neg (by omega), h]
theorem onC_small (ts : List Call) (d : Int) : (onC ts d).1.length ≤ 20 := by
  unfold onC
  split
  · rename_i h
    exact Nat.le_trans (numsC_len _ _) (areC_len (codeC_zero h).2.1)
  · exact Nat.zero_le _
/-- how many calls there are for a day -/
def cntC (ts : List Call) (d : Int) : Nat := (numsC (dayC d) ts).length
theorem cntC_le (ts : List Call) (d : Int) : cntC ts d ≤ ts.length := numsC_len _ _
/-- the first day with room -/
def RoomOk (hs : List Int) (ts : List Call) (c : Call) (r d : Int) : Prop := mayC hs c d = true ∧ (cntC ts d : Int) < r
def FirstRoom (hs : List Int) (ts : List Call) (c : Call) (r n : Int) : Prop := RoomOk hs ts c r n ∧ ∀ x, c.day < x → x < n → ¬ RoomOk hs ts c r x
theorem roomOk_bd {hs : List Int} {ts : List Call} {c : Call} {r d : Int} (h : RoomOk hs ts c r d) : c.day < d ∧ d ≤ c.fst + 180 ∧ d ≤ 20000 := (mayC_iff.1 h.1).2.1
theorem firstRoom_inj {hs : List Int} {ts : List Call} {c : Call} {r n n' : Int} (h : FirstRoom hs ts c r n) (h' : FirstRoom hs ts c r n') : n = n' := by
  rcases Int.lt_trichotomy n n' with x | x | x
  · exact absurd h.1 (h'.2 n (roomOk_bd h.1).1 x)
  · exact x
  · exact absurd h'.1 (h.2 n' (roomOk_bd h'.1).1 x)
noncomputable def roomL (hs : List Int) (ts : List Call) (c : Call) (r : Int) : Int × Int := @ite _ (∃ n, FirstRoom hs ts c r n) (Classical.propDecidable _) (Classical.epsilon (FirstRoom hs ts c r), 0) (0, 5)
theorem roomL_some {hs : List Int} {ts : List Call} {c : Call} {r n : Int} (h : FirstRoom hs ts c r n) : roomL hs ts c r = (n, 0) := by
  have he : ∃ n, FirstRoom hs ts c r n := ⟨n, h⟩
  rw [roomL, if_pos he, firstRoom_inj (Classical.epsilon_spec he) h]
theorem roomL_found {hs : List Int} {ts : List Call} {c : Call} {r n : Int} (hno : ∀ x, c.day < x → x < n → ¬ RoomOk hs ts c r x) (h1 : mayC hs c n = true) (h2 : (cntC ts n : Int) < r) : roomL hs ts c r = (n, 0) := roomL_some ⟨⟨h1, h2⟩, hno⟩
theorem roomL_none {hs : List Int} {ts : List Call} {c : Call} {r : Int} (h : ¬ ∃ n, FirstRoom hs ts c r n) : roomL hs ts c r = (0, 5) := by rw [roomL, if_neg h]
theorem roomL_end {hs : List Int} {ts : List Call} {c : Call} {r n : Int} (hn : min (c.fst + 180) 20000 < n) (hno : ∀ x, c.day < x → x < n → ¬ RoomOk hs ts c r x) : roomL hs ts c r = (0, 5) :=
  roomL_none fun ⟨y, hy⟩ => by have hb := roomOk_bd hy.1; exact hno y hb.1 (by omega) hy.1
theorem noRoom_zero (hs : List Int) (ts : List Call) (c : Call) (r : Int) : ∀ x, c.day < x → x < c.day + 1 → ¬ RoomOk hs ts c r x := fun x h1 h2 => by omega
theorem noRoom_may {hs : List Int} {ts : List Call} {c : Call} {r n : Int} (hno : ∀ x, c.day < x → x < n → ¬ RoomOk hs ts c r x) (h : mayC hs c n = false) : ∀ x, c.day < x → x < n + 1 → ¬ RoomOk hs ts c r x := by
  intro x h0 h1
  by_cases e : x = n
  · subst e; intro hh; have h2 := hh.1; rw [h] at h2; cases h2
  · exact hno x h0 (by omega)
theorem noRoom_full {hs : List Int} {ts : List Call} {c : Call} {r n : Int} (hno : ∀ x, c.day < x → x < n → ¬ RoomOk hs ts c r x) (h : ¬ (cntC ts n : Int) < r) : ∀ x, c.day < x → x < n + 1 → ¬ RoomOk hs ts c r x := by
  intro x h0 h1
  by_cases e : x = n
  · subst e; intro hh; exact h hh.2
  · exact hno x h0 (by omega)
theorem roomL_cases (hs : List Int) (ts : List Call) (c : Call) (r : Int) : (∃ n, FirstRoom hs ts c r n ∧ roomL hs ts c r = (n, 0)) ∨ roomL hs ts c r = (0, 5) := by
  by_cases h : ∃ n, FirstRoom hs ts c r n
  · obtain ⟨n, h⟩ := h; exact .inl ⟨n, h, roomL_some h⟩
  · exact .inr (roomL_none h)
noncomputable def rooR (hs : List Int) (ts : List Call) (n r : Int) : Int × Int :=
  if findC hs ts (inR r 0 20) n = 0 then (match whoC ts n with | some c => roomL hs ts c r | none => (0, 4)) else (0, findC hs ts (inR r 0 20) n)
theorem rooR_ok {hs : List Int} {ts : List Call} {n r : Int} {c : Call} (h : findC hs ts (inR r 0 20) n = 0) (hw : whoC ts n = some c) : rooR hs ts n r = roomL hs ts c r := by rw [rooR, if_pos h, hw]
theorem rooR_bad {hs : List Int} {ts : List Call} {n r x : Int} (h : findC hs ts (inR r 0 20) n = x) (hx : x ≠ 0) : rooR hs ts n r = (0, x) := by rw [rooR, if_neg (by omega), h]
/-- the days of those that share theirs with too many -/
def crowd (ts : List Call) (r : Int) (c : Call) : Bool := decide (r < (cntC ts c.day : Int))
def crowTo (ts : List Call) (r : Int) : Nat → List Int
  | 0 => []
  | k + 1 => match ts[k]? with | some c => if crowd ts r c = true then insI (crowTo ts r k) c.day else crowTo ts r k | none => crowTo ts r k
theorem crowTo_yes {ts : List Call} {r : Int} {k : Nat} {c : Call} (hc : ts[k]? = some c) (h : crowd ts r c = true) : crowTo ts r (k + 1) = insI (crowTo ts r k) c.day := by rw [crowTo, hc]; exact if_pos h
theorem crowTo_no {ts : List Call} {r : Int} {k : Nat} {c : Call} (hc : ts[k]? = some c) (h : crowd ts r c = false) : crowTo ts r (k + 1) = crowTo ts r k := by rw [crowTo, hc]; exact if_neg (by rw [h]; decide)
theorem crowTo_len (ts : List Call) (r : Int) : ∀ k, (crowTo ts r k).length ≤ k
  | 0 => Nat.le_refl _
  | k + 1 => by
    have ih := crowTo_len ts r k
    rw [crowTo]
    split
    · split
      · have := insI_len (crowTo ts r k) (by assumption : Call).day; omega
      · omega
    · omega
theorem crowTo_incs (ts : List Call) (r : Int) : ∀ k, Incs (crowTo ts r k)
  | 0 => List.Pairwise.nil
  | k + 1 => by
    have ih := crowTo_incs ts r k
    rw [crowTo]
    split
    · split
      · exact insI_incs ih _
      · exact ih
    · exact ih
theorem crowTo_mem (ts : List Call) (r x : Int) : ∀ k, x ∈ crowTo ts r k ↔ ∃ (i : Nat) (c : Call), i < k ∧ ts[i]? = some c ∧ crowd ts r c = true ∧ c.day = x
  | 0 => by simp [crowTo]
  | k + 1 => by
    have ih := crowTo_mem ts r x k
    cases hc : ts[k]? with
    | none =>
      rw [crowTo, hc]
      rw [ih]
      constructor
      · rintro ⟨i, c, h1, h2⟩; exact ⟨i, c, by omega, h2⟩
      · rintro ⟨i, c, h1, h2, h3⟩
        by_cases e : i = k
        · subst e; rw [hc] at h2; cases h2
        · exact ⟨i, c, by omega, h2, h3⟩
    | some q =>
      cases hq : crowd ts r q
      · rw [crowTo_no hc hq, ih]
        constructor
        · rintro ⟨i, c, h1, h2⟩; exact ⟨i, c, by omega, h2⟩
        · rintro ⟨i, c, h1, h2, h3, h4⟩
          by_cases e : i = k
          · subst e; rw [hc] at h2; cases h2; rw [hq] at h3; cases h3
          · exact ⟨i, c, by omega, h2, h3, h4⟩
      · rw [crowTo_yes hc hq, insI_mem, ih]
        constructor
        · rintro (rfl | ⟨i, c, h1, h2⟩)
          · exact ⟨k, q, by omega, hc, hq, rfl⟩
          · exact ⟨i, c, by omega, h2⟩
        · rintro ⟨i, c, h1, h2, h3, h4⟩
          by_cases e : i = k
          · subst e; rw [hc] at h2; cases h2; exact .inl h4.symm
          · exact .inr ⟨i, c, by omega, h2, h3, h4⟩
/-- .. the program's way: all of them, sorted, each once -/
def crowMo (ts : List Call) (r : Int) (k : Nat) : List Int := ((ts.take k).filter (crowd ts r)).map Call.day
theorem crowMo_zero (ts : List Call) (r : Int) : crowMo ts r 0 = [] := rfl
theorem crowMo_yes {ts : List Call} {r : Int} {k : Nat} {s : Call} (hs : ts[k]? = some s) (h : crowd ts r s = true) : crowMo ts r (k + 1) = crowMo ts r k ++ [s.day] := by
  have hk := lt_of_getC hs
  have : ts[k] = s := Option.some.inj ((List.getElem?_eq_getElem hk).symm.trans hs)
  simp [crowMo, List.take_succ_eq_append_getElem hk, this, h, List.filter_append]
theorem crowMo_no {ts : List Call} {r : Int} {k : Nat} {s : Call} (hs : ts[k]? = some s) (h : crowd ts r s = false) : crowMo ts r (k + 1) = crowMo ts r k := by
  have hk := lt_of_getC hs
  have : ts[k] = s := Option.some.inj ((List.getElem?_eq_getElem hk).symm.trans hs)
  simp [crowMo, List.take_succ_eq_append_getElem hk, this, h, List.filter_append]
theorem crowMo_len (ts : List Call) (r : Int) (k : Nat) : (crowMo ts r k).length ≤ k := by
  unfold crowMo
  rw [List.length_map]
  refine Nat.le_trans (List.length_filter_le _ _) ?_
  rw [List.length_take]; omega
theorem crowMo_mem (ts : List Call) (r x : Int) : x ∈ crowMo ts r ts.length ↔ ∃ (i : Nat) (c : Call), i < ts.length ∧ ts[i]? = some c ∧ crowd ts r c = true ∧ c.day = x := by
  unfold crowMo
  rw [List.take_length, List.mem_map]
  constructor
  · rintro ⟨s, h, e⟩
    rw [List.mem_filter] at h
    obtain ⟨i, hi⟩ := List.mem_iff_getElem?.1 h.1
    exact ⟨i, s, lt_of_getC hi, hi, h.2, e⟩
  · rintro ⟨i, s, _, hi, h, e⟩
    exact ⟨s, List.mem_filter.2 ⟨List.mem_of_getElem? hi, h⟩, e⟩
/-- a sorted list of the same numbers, each once -/
theorem crow_sorted {ts : List Call} {r : Int} {ys : List Int} {k : Nat} (hk : ts.length = k) (hp : ys.Pairwise (· ≤ ·)) (hm : ys.Perm (crowMo ts r k)) : Go.Lib.compact ys = crowTo ts r k := by
  subst hk
  refine incs_ext (compactL_incs hp) (crowTo_incs ts r _) fun x => ?_
  rw [compactL_mem hp, hm.mem_iff, crowMo_mem, crowTo_mem]
noncomputable def crowR (ts : List Call) (r : Int) : List Int × Int := if codeC [] ts (inR r 0 20) = 0 then (crowTo ts r ts.length, 0) else ([], codeC [] ts (inR r 0 20))
theorem crowR_ok {ts : List Call} {r : Int} (h : codeC [] ts (inR r 0 20) = 0) : crowR ts r = (crowTo ts r ts.length, 0) := by rw [crowR, if_pos h]
theorem crowR_bad {ts : List Call} {r x : Int} (h : codeC [] ts (inR r 0 20) = x) (hx : x ≠ 0) : crowR ts r = ([], x) := by rw [crowR, if_neg (by omega), h]
theorem crowR_small (ts : List Call) (r : Int) : (crowR ts r).1.length ≤ 20 := by
  unfold crowR
  split
  · rename_i h
    exact Nat.le_trans (crowTo_len _ _ _) (areC_len (codeC_zero h).2.1)
  · exact Nat.zero_le _
noncomputable def dropR (ts : List Call) (n : Int) : List Call × Int := if findC [] ts true n = 0 then (ts.take (placeC ts n) ++ ts.drop (placeC ts n + 1), 0) else ([], findC [] ts true n)
theorem dropR_ok {ts : List Call} {n : Int} (h : findC [] ts true n = 0) : dropR ts n = (ts.take (placeC ts n) ++ ts.drop (placeC ts n + 1), 0) := by rw [dropR, if_pos h]
theorem dropR_bad {ts : List Call} {n x : Int} (h : findC [] ts true n = x) (hx : x ≠ 0) : dropR ts n = ([], x) := by rw [dropR, if_neg (by omega), h]
theorem dropL_len {ts : List Call} {p : Nat} (h : p < ts.length) : (ts.take p ++ ts.drop (p + 1)).length + 1 = ts.length := by
  rw [List.length_append, List.length_take, List.length_drop]; omega
theorem dropR_cases (ts : List Call) (n : Int) : (areC ts = true ∧ (dropR ts n).2 = 0 ∧ (dropR ts n).1.length + 1 = ts.length) ∨ (∃ x, dropR ts n = ([], x) ∧ x ≠ 0) := by
  rcases findC_cases [] ts true n with ⟨h, h1, c, hw⟩ | h | h | h
  · rw [dropR_ok h]
    exact .inl ⟨h1.2.1, rfl, dropL_len (lt_of_getC (whoC_some hw).1)⟩
  · exact .inr ⟨1, dropR_bad h (by omega), by omega⟩
  · exact .inr ⟨2, dropR_bad h (by omega), by omega⟩
  · exact .inr ⟨4, dropR_bad h (by omega), by omega⟩
theorem dropR_small (ts : List Call) (n : Int) : (dropR ts n).1.length ≤ 20 := by
  rcases dropR_cases ts n with ⟨h, _, h2⟩ | ⟨x, e, _⟩
  · have := areC_len h; omega
  · rw [e]; exact Nat.zero_le _

/-! what the laws need -/
theorem move_may {hs : List Int} {ts : List Call} {n d : Int} (h : (mayR hs ts n d).2 = 0) : (mayR hs ts n d).1 = decide ((movR hs ts n d).2 = 0) := by
  rcases findC_cases hs ts (isDay d) n with ⟨h0, _, c, hw⟩ | h0 | h0 | h0
  · rw [mayR_ok h0 hw]
    cases hm : mayC hs c d
    · rw [movR_no h0 hw hm]; rfl
    · rw [movR_yes h0 hw hm]; rfl
  · rw [mayR_bad h0 (by omega)] at h; cases h
  · rw [mayR_bad h0 (by omega)] at h; cases h
  · rw [mayR_bad h0 (by omega)] at h; cases h
theorem moved_ok {hs : List Int} {c : Call} {d : Int} (h : okC c = true) (hm : mayC hs c d = true) : okC (moved c d) = true := by
  obtain ⟨h1, h2, h3, h4, h5⟩ := okC_parts h
  obtain ⟨m1, m2, _⟩ := mayC_iff.1 hm
  refine okC_of h1 ?_ ?_ ?_ ?_ <;> (unfold moved; simp only) <;> omega
/-- after a move: who was moved is called for the day, a court day, not too far behind the first one -/
theorem move_then {hs : List Int} {ts : List Call} {n d : Int} {ys : List Call} (h : movR hs ts n d = (ys, 0)) :
    courtR hs d = (true, 0) ∧ areC ys = true ∧ (onC ys d).2 = 0 ∧ n ∈ (onC ys d).1 ∧ ∀ (i : Nat) c, ys[i]? = some c → c.num = n → ¬ c.fst + 180 < c.day := by
  rcases movR_cases hs ts n d with ⟨c, _, ⟨h1, h2, h3⟩, hw, hm, e⟩ | ⟨x, e, hx⟩
  · rw [e] at h
    injection h with h _
    subst h
    obtain ⟨hs1, hn⟩ := whoC_some hw
    have hl := lt_of_getC hs1
    have hy := setC_are h2 hs1 (moved_ok (areC_at h2 hs1) hm) rfl
    obtain ⟨m1, m2, m3⟩ := mayC_iff.1 hm
    have hd := (isDay_iff d).1 h3
    have hk : codeC [] (ts.set (placeC ts n) (moved c d)) (isDay d) = 0 := by rw [h3]; exact codeC_0 hol_nil hy
    rw [onC_ok hk]
    refine ⟨?_, hy, rfl, numsC_mem.2 ⟨placeC ts n, moved c d, List.getElem?_set_self hl, by simp [dayC, moved], hn⟩, fun i q hq he => ?_⟩
    · have h0 : code hs [d] = 0 := code_ok ((hol_iff hs).1 h1) (by simp [isDay]; omega)
      unfold courtR
      rw [if_pos h0, m3]
    · by_cases e : i = placeC ts n
      · subst e
        rw [List.getElem?_set_self hl] at hq; cases hq
        unfold moved; simp only; omega
      · rw [List.getElem?_set_ne (by omega)] at hq
        exact absurd (placeC_found h2 hq he).symm e
  · rw [e] at h; injection h with _ h; omega
theorem add_then {hs : List Int} {ts : List Call} {n d : Int} {ys : List Call} (h : addR10 hs ts n d = (ys, 0)) : areC ys = true ∧ ys.length = ts.length + 1 ∧ (onC ys d).2 = 0 ∧ n ∈ (onC ys d).1 := by
  rcases addR10_cases hs ts n d with ⟨_, _, h3, _, hy, e⟩ | ⟨x, e, hx⟩
  · rw [e] at h
    injection h with h _
    subst h
    have hk : codeC [] (insC ts ⟨n, d, d, 0⟩) (isDay d) = 0 := by rw [h3]; exact codeC_0 hol_nil hy
    rw [onC_ok hk]
    refine ⟨hy, insC_len _ _, rfl, numsC_mem.2 ⟨placeC ts n, (⟨n, d, d, 0⟩ : Call), ?_, by simp [dayC], rfl⟩⟩
    rw [insC_at, if_neg (by simp), if_pos rfl]
  · rw [e] at h; injection h with _ h; omega
theorem drop_then {ts : List Call} {n : Int} {ys : List Call} (h : dropR ts n = (ys, 0)) : ys.length + 1 = ts.length := by
  rcases dropR_cases ts n with ⟨_, _, h2⟩ | ⟨x, e, hx⟩
  · rw [h] at h2; exact h2
  · rw [e] at h; injection h with _ h; omega
theorem room_then {hs : List Int} {ts : List Call} {n r f : Int} (h : rooR hs ts n r = (f, 0)) : mayR hs ts n f = (true, 0) ∧ (onC ts f).2 = 0 ∧ ((onC ts f).1.length : Int) < r := by
  rcases findC_cases hs ts (inR r 0 20) n with ⟨h0, ⟨h1, h2, _⟩, c, hw⟩ | h0 | h0 | h0
  · rw [rooR_ok h0 hw] at h
    rcases roomL_cases hs ts c r with ⟨m, hf, e⟩ | e
    · rw [e] at h
      injection h with h _; subst h
      have hb := roomOk_bd hf.1
      have hc := okC_parts (areC_at h2 (whoC_some hw).1)
      have hd : isDay m = true := (isDay_iff m).2 ⟨by omega, by omega⟩
      have hk : codeC hs ts (isDay m) = 0 := by rw [hd]; exact codeC_0 h1 h2
      have hk2 : codeC [] ts (isDay m) = 0 := by rw [hd]; exact codeC_0 hol_nil h2
      rw [mayR_ok (findC_some hk hw) hw, onC_ok hk2, hf.1.1]
      exact ⟨rfl, rfl, hf.1.2⟩
    · rw [e] at h; injection h with _ h; omega
  · rw [rooR_bad h0 (by omega)] at h; injection h with _ h; omega
  · rw [rooR_bad h0 (by omega)] at h; injection h with _ h; omega
  · rw [rooR_bad h0 (by omega)] at h; injection h with _ h; omega
theorem crow_then {ts : List Call} {r : Int} {ds : List Int} (h : crowR ts r = (ds, 0)) : areC ts = true ∧ ∀ (i : Nat) x, ds[i]? = some x → (onC ts x).2 = 0 ∧ r < ((onC ts x).1.length : Int) := by
  rcases codeC_cases [] ts (inR r 0 20) with ⟨h0, _, h2, _⟩ | h0 | h0
  · rw [crowR_ok h0] at h
    injection h with h _; subst h
    refine ⟨h2, fun i x hx => ?_⟩
    obtain ⟨j, c, _, hc, hq, e⟩ := (crowTo_mem ts r x _).1 (List.mem_of_getElem? hx)
    have hc1 := okC_parts (areC_at h2 hc)
    have hd : isDay x = true := (isDay_iff x).2 ⟨by omega, by omega⟩
    have hk : codeC [] ts (isDay x) = 0 := by rw [hd]; exact codeC_0 hol_nil h2
    rw [onC_ok hk]
    refine ⟨rfl, ?_⟩
    rw [← e]
    exact of_decide_eq_true hq
  · rw [crowR_bad h0 (by omega)] at h; injection h with _ h; omega
  · rw [crowR_bad h0 (by omega)] at h; injection h with _ h; omega
end Go.Proofs.Ytekhdggaelppkaa
