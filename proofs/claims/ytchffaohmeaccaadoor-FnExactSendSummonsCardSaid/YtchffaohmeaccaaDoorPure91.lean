/- Plain facts on chapter 9: sending a summons; what the laws need. -/
import Derived.Test.YtchffaohmeaccaaDoorBase0
import Derived.Test.YtchffaohmeaccaaDoorPure21
namespace Go.Proofs.YtchffaohmeaccaaDoor
open Pure2 Pure20 Pure21 Pure40

noncomputable def sendL (hs : List Int) (ts : List Summons) (n d k : Int) : List Summons × Int :=
  if (deadR hs d k).2 = 0 then (if areM (insM ts ⟨n, d, (deadR hs d k).1, 0, 0⟩) = true then (insM ts ⟨n, d, (deadR hs d k).1, 0, 0⟩, 0) else ([], 5)) else ([], (deadR hs d k).2)
noncomputable def sendR (hs : List Int) (ts : List Summons) (n d k : Int) : List Summons × Int :=
  if hol hs = true ∧ areM ts = true then (if inR n 1 1000000 = true then sendL hs ts n d k else ([], 2)) else ([], 1)
theorem sendR_1 {hs : List Int} {ts : List Summons} {n d k : Int} (h : ¬ (hol hs = true ∧ areM ts = true)) : sendR hs ts n d k = ([], 1) := by unfold sendR; rw [if_neg h]
theorem sendR_2 {hs : List Int} {ts : List Summons} {n d k : Int} (h : hol hs = true ∧ areM ts = true) (h1 : inR n 1 1000000 = false) : sendR hs ts n d k = ([], 2) := by unfold sendR; rw [if_pos h, if_neg (by rw [h1]; decide)]
theorem sendR_c {hs : List Int} {ts : List Summons} {n d k due c : Int} (h : hol hs = true ∧ areM ts = true) (h1 : inR n 1 1000000 = true) (h2 : deadR hs d k = (due, c)) (hc : c ≠ 0) : sendR hs ts n d k = ([], c) := by
  unfold sendR sendL; rw [if_pos h, if_pos h1, h2, if_neg hc]
theorem sendR_0 {hs : List Int} {ts : List Summons} {n d k due : Int} (h : hol hs = true ∧ areM ts = true) (h1 : inR n 1 1000000 = true) (h2 : deadR hs d k = (due, 0)) :
    sendR hs ts n d k = if areM (insM ts ⟨n, d, due, 0, 0⟩) = true then (insM ts ⟨n, d, due, 0, 0⟩, 0) else ([], 5) := by
  unfold sendR sendL; rw [if_pos h, if_pos h1, h2, if_pos rfl]
/-- what a deadline is -/
theorem deadR_cases (hs : List Int) (d k : Int) : (∃ due, deadR hs d k = (due, 0) ∧ hol hs = true ∧ (0 ≤ d ∧ d ≤ 20000) ∧ d ≤ due ∧ due ≤ 20000) ∨ (∃ c, deadR hs d k = (0, c) ∧ (c = 1 ∨ c = 2 ∨ c = 3)) := by
  unfold deadR
  rcases code_cases hs [d] with ⟨h, h1, h2⟩ | h | h
  · rw [if_pos h]
    by_cases hk : 0 ≤ k ∧ k ≤ 1000
    · rw [if_pos hk]
      have hn := (nextOf_is h1 (d + k)).1.1
      by_cases hl : 20000 < nextOf hs (d + k)
      · exact .inr ⟨3, by rw [lim_yes hl], by omega⟩
      · exact .inl ⟨_, by rw [lim_no hl], (hol_iff hs).2 h1, all_one h2, by omega, by omega⟩
    · exact .inr ⟨2, by rw [if_neg hk], by omega⟩
  · exact .inr ⟨1, by rw [if_neg (by omega), h], by omega⟩
  · exact .inr ⟨2, by rw [if_neg (by omega), h], by omega⟩
theorem sendR_cases (hs : List Int) (ts : List Summons) (n d k : Int) :
    (∃ due, sendR hs ts n d k = (insM ts ⟨n, d, due, 0, 0⟩, 0) ∧ hol hs = true ∧ areM ts = true ∧ areM (insM ts ⟨n, d, due, 0, 0⟩) = true ∧ (0 ≤ d ∧ d ≤ 20000)) ∨
    (∃ c, sendR hs ts n d k = ([], c) ∧ (c = 1 ∨ c = 2 ∨ c = 3 ∨ c = 5)) := by
  by_cases h : hol hs = true ∧ areM ts = true
  · cases h1 : inR n 1 1000000
    · exact .inr ⟨2, sendR_2 h h1, by omega⟩
    · rcases deadR_cases hs d k with ⟨due, e, _, hd, _⟩ | ⟨c, e, hc⟩
      · rw [sendR_0 h h1 e]
        by_cases ha : areM (insM ts ⟨n, d, due, 0, 0⟩) = true
        · exact .inl ⟨due, by rw [if_pos ha], h.1, h.2, ha, hd⟩
        · exact .inr ⟨5, by rw [if_neg ha], by omega⟩
      · exact .inr ⟨c, sendR_c h h1 e (by omega), by omega⟩
  · exact .inr ⟨1, sendR_1 h, by omega⟩
theorem sendR_small (hs : List Int) (ts : List Summons) (n d k : Int) : (sendR hs ts n d k).1.length ≤ 20 := by
  rcases sendR_cases hs ts n d k with ⟨due, e, _, _, h, _⟩ | ⟨c, e, _⟩
  · rw [e]; exact areM_len h
  · rw [e]; exact Nat.zero_le _

/-! what the laws need -/
theorem overM_open {d : Int} {s : Summons} (h : overM d s = true) : openM d s = true := by unfold overM at h; simp only [Bool.and_eq_true] at h; exact h.1
theorem remM_open {d : Int} {s : Summons} (h : remM d s = true) : openM d s = true := by unfold remM at h; simp only [Bool.and_eq_true] at h; exact h.1
theorem numsM_mem {p : Summons → Bool} {ts : List Summons} {x : Int} : x ∈ numsM p ts ↔ ∃ (i : Nat) (s : Summons), ts[i]? = some s ∧ p s = true ∧ s.num = x := by
  unfold numsM
  rw [List.mem_map]
  constructor
  · rintro ⟨s, h, e⟩
    rw [List.mem_filter] at h
    obtain ⟨i, hi⟩ := List.mem_iff_getElem?.1 h.1
    exact ⟨i, s, hi, h.2, e⟩
  · rintro ⟨i, s, hi, h, e⟩
    exact ⟨s, List.mem_filter.2 ⟨List.mem_of_getElem? hi, h⟩, e⟩
theorem numsM_sub {p q : Summons → Bool} (h : ∀ s, p s = true → q s = true) {ts : List Summons} {x : Int} (hx : x ∈ numsM p ts) : x ∈ numsM q ts := by
  obtain ⟨i, s, h1, h2, h3⟩ := numsM_mem.1 hx
  exact numsM_mem.2 ⟨i, s, h1, h s h2, h3⟩
/-- the list of one who answered is of summonses, and they are not open then -/
theorem answered_ok {s : Summons} {a d : Int} (h : okM s = true) (ha : 1 ≤ a ∧ a ≤ 3) (hd : s.sent ≤ d ∧ d ≤ 20000) : okM (answered s a d) = true := by
  obtain ⟨h1, h2, h3, _⟩ := okM_parts h
  exact okM_of h1 h2 h3 (.inr ⟨ha, hd⟩)
theorem set_are {ts : List Summons} {k : Nat} {s x : Summons} (h : areM ts = true) (hs : ts[k]? = some s) (hx : okM x = true) (hn : x.num = s.num) : areM (ts.set k x) = true := by
  have hk := lt_of_getM hs
  refine (areM_iff _).2 ⟨?_, by rw [List.length_set]; exact areM_len h⟩
  have hat : ∀ (i : Nat) y, (ts.set k x)[i]? = some y → (i = k ∧ y = x) ∨ (i ≠ k ∧ ts[i]? = some y) := by
    intro i y hy
    by_cases e : i = k
    · subst e; rw [List.getElem?_set_self hk] at hy; cases hy; exact .inl ⟨rfl, rfl⟩
    · rw [List.getElem?_set_ne (by omega)] at hy; exact .inr ⟨e, hy⟩
  intro i a _ ha
  rcases hat i a ha with ⟨rfl, rfl⟩ | ⟨e, ha'⟩
  · refine ⟨hx, fun b h0 hb => ?_⟩
    rcases hat _ b hb with ⟨e, _⟩ | ⟨_, hb'⟩
    · omega
    · rw [hn]; exact areM_lt h i (i - 1) (by omega) hb' hs
  · refine ⟨areM_at h ha', fun b h0 hb => ?_⟩
    rcases hat _ b hb with ⟨e, rfl⟩ | ⟨_, hb'⟩
    · rw [hn]; exact areM_lt h i (i - 1) (by omega) (by rw [e]; exact hs) ha'
    · exact areM_lt h i (i - 1) (by omega) hb' ha'
/-- after an answer: open that day can be asked, and they are not among the open ones -/
theorem ans_then {ts : List Summons} {n a d : Int} {ys : List Summons} (h : ansR9 ts n a d = (ys, 0)) : areM ys = true ∧ (onR openM ys d).2 = 0 ∧ n ∉ (onR openM ys d).1 := by
  rcases codeA_cases ts a d with ⟨hc, ha, hd, hb⟩ | hc | hc
  · rw [ansR9_ok hc] at h
    rcases ansL_cases ts n a d with ⟨s, hw, h0, h1, e⟩ | e | e
    · rw [e] at h
      injection h with h _; subst h
      obtain ⟨hs, hn⟩ := whoM_some hw
      have hok := answered_ok (areM_at ha hs) hb ⟨h1, hd.2⟩
      have hy := set_are ha hs hok rfl
      have hk := codeM_0 hy ((isDay_iff d).2 hd)
      rw [onR_ok hk]
      refine ⟨hy, rfl, fun hm => ?_⟩
      obtain ⟨i, x, hx, hp, he⟩ := numsM_mem.1 hm
      have hl := lt_of_getM hs
      by_cases c : i = placeM ts n
      · subst c
        rw [List.getElem?_set_self hl] at hx; cases hx
        unfold openM answered at hp
        simp at hp; omega
      · rw [List.getElem?_set_ne (by omega)] at hx
        exact c ((place_found ha hx he).symm)
    · rw [e] at h; injection h with _ h; omega
    · rw [e] at h; injection h with _ h; omega
  · rw [ansR9_bad hc (by omega)] at h; injection h with _ h; omega
  · rw [ansR9_bad hc (by omega)] at h; injection h with _ h; omega
/-- after sending: they are among the open ones of the day -/
theorem send_then {hs : List Int} {ts : List Summons} {n d k : Int} {ys : List Summons} (h : sendR hs ts n d k = (ys, 0)) : areM ys = true ∧ ys.length = ts.length + 1 ∧ (onR openM ys d).2 = 0 ∧ n ∈ (onR openM ys d).1 := by
  rcases sendR_cases hs ts n d k with ⟨due, e, _, _, hy, hd⟩ | ⟨c, e, hc⟩
  · rw [e] at h
    injection h with h _; subst h
    have hk := codeM_0 hy ((isDay_iff d).2 hd)
    rw [onR_ok hk]
    refine ⟨hy, insM_len _ _, rfl, numsM_mem.2 ⟨placeM ts n, (⟨n, d, due, 0, 0⟩ : Summons), ?_, ?_, rfl⟩⟩
    · rw [insM_at, if_neg (by simp), if_pos rfl]
    · unfold openM; simp
  · rw [e] at h; injection h with _ h; omega
/-- a next reminder is one: somebody is reminded on it -/
theorem next_then {ts : List Summons} {d n : Int} (h : nextR9 ts d = (n, 0)) : (onR remM ts n).2 = 0 ∧ (onR remM ts n).1.length ≠ 0 ∧ d < n := by
  rcases codeM_cases ts d with ⟨hc, ha, hd⟩ | hc | hc
  · rw [nextR9_ok hc] at h
    rcases remL_cases ts d with ⟨m, hf, e⟩ | e
    · rw [e] at h
      injection h with h _; subst h
      obtain ⟨h1, h2, ⟨i, s, hs, h0, hr⟩, _⟩ := hf
      have hk := codeM_0 (d := m) ha ((isDay_iff m).2 ⟨by omega, h2⟩)
      rw [onR_ok hk]
      refine ⟨rfl, fun hl => ?_, h1⟩
      have hm : s.num ∈ numsM (remM m) ts := numsM_mem.2 ⟨i, s, hs, ?_, rfl⟩
      · have e0 : numsM (remM m) ts = [] := List.length_eq_zero_iff.1 hl
        rw [e0] at hm; cases hm
      · obtain ⟨_, _, p3, _⟩ := okM_parts (areM_at ha hs)
        have := (remD_iff m s).1 hr
        unfold remM openM
        rw [hr, h0]
        simp; omega
    · rw [e] at h; injection h with _ h; omega
  · rw [nextR9_bad hc (by omega)] at h; injection h with _ h; omega
  · rw [nextR9_bad hc (by omega)] at h; injection h with _ h; omega
/-- all answers are counted once -/
theorem cnt_open (ts : List Summons) (d : Int) : cntM ts d ts.length 0 = (numsM (openM d) ts).length := by
  unfold cntM numsM
  rw [List.take_length, List.length_map]
  congr 3
  funext s
  rw [openM_by]
theorem cnt_sum (ts : List Summons) (d : Int) : ∀ k, k ≤ ts.length → cntM ts d k 0 + cntM ts d k 1 + cntM ts d k 2 + cntM ts d k 3 ≤ k := by
  intro k
  induction k with
  | zero => intro _; simp [cntM_zero]
  | succ k ih =>
    intro hk
    have hs : ts[k]? = some (ts[k]'(by omega)) := List.getElem?_eq_getElem (by omega)
    have := ih (by omega)
    rw [cntM_step hs, cntM_step hs, cntM_step hs, cntM_step hs]
    (repeat' split) <;> omega
end Go.Proofs.YtchffaohmeaccaaDoor
