/- Plain facts on the answers of chapter 2: the codes, the day that is found, the number that is counted. No program is imported here. -/
import Derived.Test.YtchffaohmeaccaaDoorBase0
import Derived.WalkKit
namespace Go.Proofs.YtchffaohmeaccaaDoor.Pure21
open Go.RowKit Pure2 Pure20

/-- the first error of holidays and days -/
noncomputable def code (zs ds : List Int) : Int := if hol zs = true then (if ds.all isDay = true then 0 else 2) else 1
theorem code_ok {zs ds : List Int} (h : Hol zs) (hd : ds.all isDay = true) : code zs ds = 0 := by rw [code, if_pos ((hol_iff zs).2 h), if_pos hd]
theorem code_day {zs ds : List Int} (h : Hol zs) (hd : ¬ ds.all isDay = true) : code zs ds = 2 := by rw [code, if_pos ((hol_iff zs).2 h), if_neg hd]
theorem code_hol {zs ds : List Int} (h : ¬ Hol zs) : code zs ds = 1 := by rw [code, if_neg (fun e => h ((hol_iff zs).1 e))]
theorem code_cases (zs ds : List Int) : (code zs ds = 0 ∧ Hol zs ∧ ds.all isDay = true) ∨ code zs ds = 1 ∨ code zs ds = 2 := by
  by_cases h : Hol zs
  · by_cases hd : ds.all isDay = true
    · exact .inl ⟨code_ok h hd, h, hd⟩
    · exact .inr (.inr (code_day h hd))
  · exact .inr (.inl (code_hol h))
theorem code_twice (zs : List Int) (d : Int) : code zs [d, d] = code zs [d] := by simp [code]
theorem code_zero {zs ds : List Int} (h : code zs ds = 0) : Hol zs ∧ ds.all isDay = true := by
  rcases code_cases zs ds with ⟨_, h1, h2⟩ | e | e
  · exact ⟨h1, h2⟩
  · rw [h] at e; cases e
  · rw [h] at e; cases e
theorem all_one {d : Int} (h : [d].all isDay = true) : 0 ≤ d ∧ d ≤ 20000 := by simpa [isDay] using h
theorem all_two {a b : Int} (h : [a, b].all isDay = true) : (0 ≤ a ∧ a ≤ 20000) ∧ 0 ≤ b ∧ b ≤ 20000 := by simpa [isDay, and_assoc] using h
theorem one_all {d : Int} (h : 0 ≤ d ∧ d ≤ 20000) : [d].all isDay = true := by simpa [isDay] using h
theorem two_all {a b : Int} (h : (0 ≤ a ∧ a ≤ 20000) ∧ 0 ≤ b ∧ b ≤ 20000) : [a, b].all isDay = true := by simpa [isDay, and_assoc] using h

/-- the first court day that is not before d -/
noncomputable def nextOf (zs : List Int) (d : Int) : Int := Classical.epsilon (fun r => IsNext zs d r)
theorem nextOf_eq {zs : List Int} {d r : Int} (h : IsNext zs d r) : nextOf zs d = r := isNext_inj (Classical.epsilon_spec (p := fun r => IsNext zs d r) ⟨r, h⟩) h
theorem nextOf_is {zs : List Int} (h : Hol zs) (d : Int) : IsNext zs d (nextOf zs d) ∧ nextOf zs d ≤ max d 20001 + 2 := by
  obtain ⟨r, h1, h2⟩ := next_exists (fun x hx => (hol_day h x hx).2) d
  rw [nextOf_eq h1]; exact ⟨h1, h2⟩
/-- the n-th court day behind d -/
noncomputable def addOf (zs : List Int) (d : Int) (n : Nat) : Int := Classical.epsilon (fun r => IsAdd zs d n r)
theorem addOf_eq {zs : List Int} {d r : Int} {n : Nat} (h : IsAdd zs d n r) : addOf zs d n = r := isAdd_inj (Classical.epsilon_spec (p := fun r => IsAdd zs d n r) ⟨r, h⟩) h
theorem add_there {zs : List Int} (h : Hol zs) {d : Int} (hd : d ≤ 20000) (n : Nat) : ∃ r, IsAdd zs d n r ∧ r ≤ 20003 + 3 * (n : Int) := by
  induction n with
  | zero => exact ⟨d, isAdd_zero zs d, by omega⟩
  | succ n ih =>
    obtain ⟨r, h1, h2⟩ := ih
    obtain ⟨h3, h4⟩ := nextOf_is h (r + 1)
    exact ⟨_, isAdd_step h1 h3, by omega⟩
theorem addOf_is {zs : List Int} (h : Hol zs) {d : Int} (hd : d ≤ 20000) (n : Nat) : IsAdd zs d n (addOf zs d n) ∧ addOf zs d n ≤ 20003 + 3 * (n : Int) := by
  obtain ⟨r, h1, h2⟩ := add_there h hd n
  rw [addOf_eq h1]; exact ⟨h1, h2⟩
theorem addOf_zero (zs : List Int) (d : Int) : addOf zs d 0 = d := addOf_eq (isAdd_zero zs d)
theorem addOf_succ {zs : List Int} (h : Hol zs) {d : Int} (hd : d ≤ 20000) (n : Nat) : nextOf zs (addOf zs d n + 1) = addOf zs d (n + 1) :=
  (addOf_eq (isAdd_step (addOf_is h hd n).1 (nextOf_is h _).1)).symm
/-- adding goes on: the other way round, a step ahead of n steps -/
theorem addOf_from {zs : List Int} (h : Hol zs) {d : Int} (n : Nat) : ∀ r, IsAdd zs d n r → IsAdd zs d (n + 1) (nextOf zs (r + 1)) := fun _ hr => isAdd_step hr (nextOf_is h _).1

/-- a day, or the limit's error -/
def lim (r : Int) : Int × Int := if 20000 < r then (0, 3) else (r, 0)
theorem lim_yes {r : Int} (h : 20000 < r) : lim r = (0, 3) := by rw [lim, if_pos h]
theorem lim_no {r : Int} (h : ¬ 20000 < r) : lim r = (r, 0) := by rw [lim, if_neg h]

noncomputable def courtR (zs : List Int) (d : Int) : Bool × Int := if code zs [d] = 0 then (court zs d, 0) else (false, code zs [d])
noncomputable def nextR (zs : List Int) (d : Int) : Int × Int := if code zs [d] = 0 then lim (nextOf zs d) else (0, code zs [d])
noncomputable def addR (zs : List Int) (d n : Int) : Int × Int := if code zs [d] = 0 then (if 0 ≤ n ∧ n ≤ 400 then lim (addOf zs d n.toNat) else (0, 2)) else (0, code zs [d])
noncomputable def cntR (zs : List Int) (a b : Int) : Int × Int := if code zs [a, b] = 0 then (count zs a b, 0) else (0, code zs [a, b])
noncomputable def deadR (zs : List Int) (d k : Int) : Int × Int := if code zs [d] = 0 then (if 0 ≤ k ∧ k ≤ 1000 then lim (nextOf zs (d + k)) else (0, 2)) else (0, code zs [d])
/-- the last court day that is not behind d, or the error that there is none -/
noncomputable def lastOf (zs : List Int) (d : Int) : Int × Int := @ite _ (∃ r, IsLast zs d r) (Classical.propDecidable _) (Classical.epsilon (fun r => IsLast zs d r), 0) (0, 4)
theorem lastOf_yes {zs : List Int} {d r : Int} (h : IsLast zs d r) : lastOf zs d = (r, 0) := by
  have hh : ∃ r, IsLast zs d r := ⟨r, h⟩
  rw [lastOf, if_pos hh, isLast_inj (Classical.epsilon_spec (p := fun r => IsLast zs d r) hh) h]
theorem lastOf_no {zs : List Int} {d : Int} (h : ∀ x, 0 ≤ x → x ≤ d → court zs x = false) : lastOf zs d = (0, 4) := by
  rw [lastOf, if_neg]
  rintro ⟨r, h1, h2, h3, _⟩
  rw [h r h1 h2] at h3; cases h3
theorem last_all (zs : List Int) (d : Int) : (∃ r, IsLast zs d r) ∨ ∀ x, 0 ≤ x → x ≤ d → court zs x = false := by
  by_cases hd : d < 0
  · exact .inr fun x h1 h2 => by omega
  obtain ⟨n, rfl⟩ := Int.eq_ofNat_of_zero_le (by omega : 0 ≤ d)
  clear hd
  induction n with
  | zero =>
    cases hc : court zs 0 with
    | true => exact .inl ⟨0, by omega, by simp, hc, fun x h1 h2 => by simp at h2; omega⟩
    | false => exact .inr fun x h1 h2 => by simp at h2; rw [show x = 0 by omega]; exact hc
  | succ n ih =>
    cases hc : court zs ((n + 1 : Nat) : Int) with
    | true => exact .inl ⟨_, by omega, Int.le_refl _, hc, fun x h1 h2 => by omega⟩
    | false =>
      rcases ih with ⟨r, h1, h2, h3, h4⟩ | h
      · refine .inl ⟨r, h1, by omega, h3, fun x h5 h6 => ?_⟩
        by_cases e : x = ((n + 1 : Nat) : Int)
        · rw [e]; exact hc
        · exact h4 x h5 (by omega)
      · refine .inr fun x h5 h6 => ?_
        by_cases e : x = ((n + 1 : Nat) : Int)
        · rw [e]; exact hc
        · exact h x h5 (by omega)
noncomputable def lastR (zs : List Int) (d : Int) : Int × Int := if code zs [d] = 0 then lastOf zs d else (0, code zs [d])
/-- the longest break in a .. b and its length, or the error that there is none -/
noncomputable def brkOf (zs : List Int) (a b : Int) : Int × Int × Int :=
  @ite _ (∃ p : Int × Int, IsBrk zs a b p.1 p.2) (Classical.propDecidable _) ((Classical.epsilon (fun p : Int × Int => IsBrk zs a b p.1 p.2)).1, (Classical.epsilon (fun p : Int × Int => IsBrk zs a b p.1 p.2)).2, 0) (0, 0, 4)
theorem brkOf_yes {zs : List Int} {a b s n : Int} (h : IsBrk zs a b s n) : brkOf zs a b = (s, n, 0) := by
  have hh : ∃ p : Int × Int, IsBrk zs a b p.1 p.2 := ⟨(s, n), h⟩
  obtain ⟨h1, h2⟩ := isBrk_inj (Classical.epsilon_spec (p := fun p : Int × Int => IsBrk zs a b p.1 p.2) hh) h
  rw [brkOf, if_pos hh, h1, h2]
theorem brkOf_no {zs : List Int} {a b : Int} (h : ∀ x, a ≤ x → x ≤ b → court zs x = true) : brkOf zs a b = (0, 0, 4) := by
  rw [brkOf, if_neg]
  rintro ⟨p, hp⟩
  exact isBrk_no hp h
noncomputable def brkR (zs : List Int) (a b : Int) : Int × Int × Int := if code zs [a, b] = 0 then (if 0 ≤ b - a ∧ b - a ≤ 999 then brkOf zs a b else (0, 0, 2)) else (0, 0, code zs [a, b])

theorem ite_iff {p q : Prop} [Decidable p] [Decidable q] (h : p ↔ q) (a b : Int) : (if p then a else b) = if q then a else b := by
  by_cases hp : p
  · rw [if_pos hp, if_pos (h.1 hp)]
  · rw [if_neg hp, if_neg (fun hq => hp (h.2 hq))]
/-- the days from Monday to Friday before d -/
def wd (d : Int) : Int := d / 7 * 5 + min (d % 7) 5
theorem wd_succ (d : Int) : wd (d + 1) = wd d + (if d % 7 < 5 then 1 else 0) := by unfold wd; split <;> omega
/-- the holidays before d that are no Saturday or Sunday -/
def hcn (d : Int) : List Int → Int
  | [] => 0
  | h :: t => (if h < d ∧ h % 7 < 5 then 1 else 0) + hcn d t
theorem hcn_append (d : Int) (a b : List Int) : hcn d (a ++ b) = hcn d a + hcn d b := by
  induction a with
  | nil => simp [hcn]
  | cons x r ih => rw [List.cons_append, hcn, hcn, ih]; omega
theorem hcn_snoc (d : Int) (a : List Int) (x : Int) : hcn d (a ++ [x]) = hcn d a + (if x < d ∧ x % 7 < 5 then 1 else 0) := by rw [hcn_append]; simp [hcn]
theorem hcn_bd (d : Int) (zs : List Int) : 0 ≤ hcn d zs ∧ hcn d zs ≤ zs.length := by
  induction zs with
  | nil => simp [hcn]
  | cons x r ih => rw [hcn, List.length_cons]; split <;> omega
theorem hcn_none {d : Int} {zs : List Int} (h : d ∉ zs) : hcn (d + 1) zs = hcn d zs := by
  induction zs with
  | nil => rfl
  | cons x r ih =>
    have hx : x ≠ d := fun e => h (by rw [e]; exact List.mem_cons_self ..)
    have e : (x < d + 1 ∧ x % 7 < 5) ↔ (x < d ∧ x % 7 < 5) := by omega
    rw [hcn, hcn, ih (fun hm => h (List.mem_cons_of_mem _ hm)), ite_iff e]
theorem hcn_succ {zs : List Int} (hn : zs.Nodup) (d : Int) : hcn (d + 1) zs = hcn d zs + (if d ∈ zs ∧ d % 7 < 5 then 1 else 0) := by
  induction zs with
  | nil => simp [hcn]
  | cons x r ih =>
    rw [List.nodup_cons] at hn
    by_cases e : x = d
    · subst e
      rw [hcn, hcn, hcn_none hn.1, if_neg (by omega : ¬ (x < x ∧ x % 7 < 5))]
      by_cases h5 : x % 7 < 5
      · rw [if_pos ⟨by omega, h5⟩, if_pos ⟨List.mem_cons_self .., h5⟩]; omega
      · rw [if_neg (fun h => h5 h.2), if_neg (fun h => h5 h.2)]; omega
    · have e1 : (x < d + 1 ∧ x % 7 < 5) ↔ (x < d ∧ x % 7 < 5) := by omega
      have e2 : (d ∈ x :: r ∧ d % 7 < 5) ↔ (d ∈ r ∧ d % 7 < 5) := by
        rw [List.mem_cons]; constructor
        · rintro ⟨h | h, h'⟩
          · exact absurd h.symm e
          · exact ⟨h, h'⟩
        · rintro ⟨h, h'⟩; exact ⟨.inr h, h'⟩
      rw [hcn, hcn, ih hn.2, ite_iff e1, ite_iff e2]; omega
theorem hcn_zero {zs : List Int} (h : ∀ x ∈ zs, 0 ≤ x) : hcn 0 zs = 0 := by
  induction zs with
  | nil => rfl
  | cons x r ih =>
    have := h x (List.mem_cons_self ..)
    rw [hcn, ih (fun y hy => h y (List.mem_cons_of_mem _ hy)), if_neg (by omega)]; rfl
theorem hol_lt {zs : List Int} (h : Hol zs) : ∀ (k i : Nat) (x y : Int), zs[i]? = some x → zs[i + k + 1]? = some y → x < y := by
  intro k
  induction k with
  | zero => intro i x y hx hy; exact h.2.1 i x y hx hy
  | succ k ih =>
    intro i x y hx hy
    have hl := (List.getElem?_eq_some_iff.1 hy).1
    have h1 := ih i x _ hx (List.getElem?_eq_getElem (by omega : i + k + 1 < zs.length))
    have h2 := h.2.1 (i + k + 1) _ y (List.getElem?_eq_getElem (by omega : i + k + 1 < zs.length)) (by rw [← hy]; congr 1)
    omega
theorem hol_pair {zs : List Int} (h : Hol zs) : zs.Pairwise (· < ·) := by
  rw [List.pairwise_iff_getElem]
  intro i j hi hj hij
  exact hol_lt h (j - i - 1) i _ _ (List.getElem?_eq_getElem hi) (by rw [show i + (j - i - 1) + 1 = j by omega]; exact List.getElem?_eq_getElem hj)
theorem hol_nodup {zs : List Int} (h : Hol zs) : zs.Nodup := (hol_pair h).imp fun h' => by omega
theorem count_nat {zs : List Int} (h : Hol zs) (k : Nat) : count zs 0 (k : Int) = wd k - hcn k zs := by
  induction k with
  | zero =>
    rw [show ((0 : Nat) : Int) = 0 from rfl, count_none (Int.le_refl 0), hcn_zero (fun x hx => (hol_day h x hx).1)]; rfl
  | succ k ih =>
    rw [show ((k + 1 : Nat) : Int) = (k : Int) + 1 by omega, count_snoc (by omega), ih, wd_succ, hcn_succ (hol_nodup h)]
    by_cases h5 : (k : Int) % 7 < 5
    · by_cases hm : (k : Int) ∈ zs
      · rw [if_neg (by rw [court_iff]; exact fun h => h.2 hm), if_pos h5, if_pos ⟨hm, h5⟩]; omega
      · rw [if_pos ((court_iff zs _).2 ⟨h5, hm⟩), if_pos h5, if_neg (fun h => hm h.1)]; omega
    · rw [if_neg (by rw [court_iff]; exact fun h => h5 h.1), if_neg h5, if_neg (fun h => h5 h.2)]; omega
theorem count_wd {zs : List Int} (h : Hol zs) {d : Int} (hd : 0 ≤ d) : wd d - hcn d zs = count zs 0 d := by
  obtain ⟨k, rfl⟩ := Int.eq_ofNat_of_zero_le hd
  exact (count_nat h k).symm
theorem count_diff {zs : List Int} {a b : Int} (h0 : 0 ≤ a) (h : a ≤ b) : count zs 0 b - count zs 0 a = count zs a b := by rw [count_add h0 h]; omega

/-- whether x is in zs -/
def has (zs : List Int) (x : Int) : Bool := zs.contains x
theorem court_has (zs : List Int) (d : Int) : court zs d = (decide (d % 7 < 5) && !has zs d) := rfl
/-- what a search in a sorted list comes to -/
theorem found_yes {zs : List Int} {k : Nat} {x : Int} (h : zs[k]? = some x) : has zs x = true := by unfold has; simpa using List.mem_of_getElem? h
theorem found_not {zs : List Int} {x : Int} (h : x ∉ zs) : has zs x = false := by unfold has; simpa using h
theorem found_no {zs : List Int} {k : Nat} {x : Int} (h1 : ∀ t y, t < k → zs[t]? = some y → y < x) (h2 : ∀ t y, k ≤ t → zs[t]? = some y → x < y) : has zs x = false := by
  refine found_not fun h => ?_
  obtain ⟨t, ht⟩ := List.mem_iff_getElem?.1 h
  by_cases e : t < k
  · have := h1 t x e ht; omega
  · have := h2 t x (by omega) ht; omega

end Go.Proofs.YtchffaohmeaccaaDoor.Pure21
