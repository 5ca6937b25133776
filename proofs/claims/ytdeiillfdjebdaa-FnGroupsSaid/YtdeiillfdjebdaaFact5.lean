/- Plain facts on the answers of chapter 5, for the laws over draws. -/
import Derived.Test.YtdeiillfdjebdaaChecked
import Derived.Test.YtdeiillfdjebdaaBase
import Derived.Test.YtdeiillfdjebdaaPure51
import Derived.Test.YtdeiillfdjebdaaCode5
import Derived.Test.YtdeiillfdjebdaaPairs5
import Derived.Test.YtdeiillfdjebdaaGrp5
import Derived.Test.YtdeiillfdjebdaaJoined5
import Derived.Test.YtdeiillfdjebdaaSafe5
import Derived.Test.YtdeiillfdjebdaaChain5
import Derived.Test.YtdeiillfdjebdaaTight5
import Derived.Test.YtdeiillfdjebdaaHelp5
import Derived.Test.YtdeiillfdjebdaaKept5
import Derived.WalkKit
import Derived.Lib.Hide
namespace Go.Proofs.Ytdeiillfdjebdaa
open Go.RowKit Pure1 Pure2 Pure40 Pure41 Pure50 Pure51

/-! everybody is in exactly one group -/
theorem count_one {ks : List Nat} (hn : ks.Nodup) {x : Nat} (hx : x ∈ ks) : (ks.map (fun k => if x = k then 1 else 0)).sum = 1 := by
  induction ks with
  | nil => cases hx
  | cons k r ih =>
    have hk := List.nodup_cons.1 hn
    rw [List.map_cons, List.sum_cons]
    by_cases e : x = k
    · subst e
      rw [if_pos rfl]
      have h0 : ∀ l : List Nat, x ∉ l → (l.map (fun k => if x = k then 1 else 0)).sum = 0 := by
        intro l hl
        induction l with
        | nil => rfl
        | cons y l ih2 =>
          rw [List.map_cons, List.sum_cons, if_neg (fun e => hl (by simp [e])), ih2 (fun h => hl (by simp [h]))]
      rw [h0 r hk.1]
    · rw [if_neg e, ih hk.2 (by rcases List.mem_cons.1 hx with h | h; exact absurd h e; exact h)]
theorem parts_sum {ks : List Nat} (hn : ks.Nodup) (f : Nat → Nat) : ∀ l : List Nat, (∀ j ∈ l, f j ∈ ks) → (ks.map (fun k => (l.filter (fun j => decide (f j = k))).length)).sum = l.length
  | [], _ => by
    have : ∀ ks : List Nat, (ks.map (fun k => (([] : List Nat).filter (fun j => decide (f j = k))).length)).sum = 0 := by
      intro ks; induction ks with
      | nil => rfl
      | cons k r ih => rw [List.map_cons, List.sum_cons, ih]; rfl
    exact this ks
  | j :: r, h => by
    have h1 := parts_sum hn f r (fun i hi => h i (by simp [hi]))
    have h2 := count_one hn (h j (by simp))
    have key : ∀ ks : List Nat, (ks.map (fun k => ((j :: r).filter (fun i => decide (f i = k))).length)).sum = (ks.map (fun k => if f j = k then 1 else 0)).sum + (ks.map (fun k => (r.filter (fun i => decide (f i = k))).length)).sum := by
      intro ks; induction ks with
      | nil => rfl
      | cons k s ih =>
        simp only [List.map_cons, List.sum_cons, ih]
        have : ((j :: r).filter (fun i => decide (f i = k))).length = (if f j = k then 1 else 0) + (r.filter (fun i => decide (f i = k))).length := by
          rw [List.filter_cons]
          by_cases e : f j = k
          · rw [if_pos (decide_eq_true e), if_pos e, List.length_cons]; omega
          · rw [if_neg (by simp [e]), if_neg e]; omega
        rw [this]; omega
    rw [key ks, h2, h1, List.length_cons]; omega
theorem sel_nodup (p : Nat → Bool) (n : Nat) : (sel p n).Nodup := List.Pairwise.filter _ List.nodup_range
theorem groups_total {A : Nat → Nat → Bool} {n : Nat} (hs : ∀ i j, A i j = A j i) : total (groupsL A n n) = n := by
  have h1 := parts_sum (sel_nodup (fun i => decide (keep A i = i)) n) (keep A) (List.range n) (fun j hj => sel_mem.2 ⟨by have := List.mem_range.1 hj; have := keep_le_self (A := A) j; omega, decide_eq_true (keep_keep hs j)⟩)
  rw [List.length_range] at h1
  refine Eq.trans ?_ h1
  unfold total groupsL kpsTo
  rw [List.map_map]
  congr 1
  refine List.map_congr_left (fun k hk => ?_)
  have hk2 := of_decide_eq_true (sel_mem.1 hk).2
  show (toI (grpL A n k)).length = _
  rw [toI_length, ← grp_same hs hk2]
  rfl
theorem pickP_len {ps : List Pers} {l : List Nat} (h : ∀ k ∈ l, k < ps.length) : (pickP ps l).length = l.length := by
  induction l with
  | nil => rfl
  | cons k r ih =>
    have hk := h k (by simp)
    have : pickP ps (k :: r) = ps[k] :: pickP ps r := by simp [pickP, hk]
    rw [this, List.length_cons, List.length_cons, ih (fun i hi => h i (by simp [hi]))]
theorem hasI_toI {l : List Nat} {x : Nat} : hasI (toI l) (x : Int) = decide (x ∈ l) := by
  unfold hasI toI
  rw [decide_eq_decide, List.mem_map]
  constructor
  · rintro ⟨y, hy, e⟩
    have : y = x := by omega
    exact this ▸ hy
  · intro h; exact ⟨x, h, rfl⟩
/-- what the answers of a list of persons and a limit have to do with each other -/
def GrpFacts (qs : List Pers) (gs ps : List (List Int)) (js : List Pers) (d : Int) : Prop :=
  total gs = qs.length ∧ js.length = gs.length ∧ d = (qs.length : Int) - (gs.length : Int) ∧
  (∀ xs ∈ gs, xs.length ≤ 12) ∧ gs.length ≤ 12 ∧ ps.length ≤ 144 ∧ qs.length ≤ 12 ∧
  ∀ ys ∈ ps, ∃ a b : Int, ys = [a, b] ∧ ∀ xs ∈ gs, hasI xs a = hasI xs b
theorem grp_facts {qs : List Pers} {m : Int} {gs ps : List (List Int)} {js : List Pers} {d c1 c2 c3 c4 : Int} (h1 : groupsR qs m = (gs, c1)) (h2 : pairsR qs m = (ps, c2)) (h3 : joinedR qs m = (js, c3)) (h4 : dupR qs m = (d, c4)) :
    c2 = c1 ∧ c3 = c1 ∧ c4 = c1 ∧ (c1 ≠ 0 ∨ (c1 = 0 ∧ GrpFacts qs gs ps js d)) := by
  unfold groupsR at h1; unfold pairsR at h2; unfold joinedR at h3; unfold dupR at h4
  by_cases h : code5 qs m [] = 0
  · rw [if_pos h] at h1 h2 h3 h4
    simp only [Prod.mk.injEq] at h1 h2 h3 h4
    obtain ⟨rfl, rfl⟩ := h1; obtain ⟨rfl, rfl⟩ := h2; obtain ⟨rfl, rfl⟩ := h3; obtain ⟨rfl, rfl⟩ := h4
    obtain ⟨hP, _, _⟩ := code5_zero h
    have hq := arePers_len hP
    have hA : ∀ i j, adj qs m i j = true → i < qs.length ∧ j < qs.length := fun i j h => adj_lt h
    refine ⟨rfl, rfl, rfl, .inr ⟨rfl, groups_total (adj_comm qs m), ?_, ?_, ?_, ?_, ?_, hq, ?_⟩⟩
    · rw [pickP_len (l := kpsTo (adj qs m) qs.length) (fun k hk => (sel_mem.1 (show k ∈ sel _ _ from hk)).1), groupsL_length]
    · rw [groupsL_length]
    · intro xs hx
      obtain ⟨i, _, e⟩ := List.mem_map.1 hx
      rw [← e, toI_length]
      have := sel_le (fun j => decide (0 ≤ dist (adj qs m) i j)) qs.length
      unfold grpL; omega
    · have := groupsL_le (adj qs m) qs.length qs.length; omega
    · have h1 := pairsTo_le (A := adj qs m) qs.length qs.length
      have h2 : qs.length * qs.length ≤ 12 * 12 := Nat.mul_le_mul hq hq
      show (pairsTo _ _ _).length ≤ _
      omega
    · intro ys hy
      obtain ⟨a, b, e, hab, hb, had⟩ := pairsTo_mem (A := adj qs m) (n := qs.length) (i := qs.length) hy
      refine ⟨a, b, e, fun xs hx => ?_⟩
      obtain ⟨i, _, e2⟩ := List.mem_map.1 hx
      rw [← e2, hasI_toI, hasI_toI, decide_eq_decide]
      have hl := hA _ _ had
      have hc := Conn.edge had
      unfold grpL
      rw [sel_mem, sel_mem, decide_eq_true_eq, decide_eq_true_eq, dist_nonneg, dist_nonneg]
      exact ⟨fun h => ⟨hl.2, h.2.trans hc⟩, fun h => ⟨hl.1, h.2.trans (hc.symm (adj_comm qs m))⟩⟩
  · rw [if_neg h] at h1 h2 h3 h4
    simp only [Prod.mk.injEq] at h1 h2 h3 h4
    exact ⟨by omega, by omega, by omega, .inl (by omega)⟩
/-- with a safe limit no two are alike -/
theorem safe_facts {qs : List Pers} {s c : Int} (h : safeR qs = (s, c)) : c ≠ 0 ∨ (c = 0 ∧ pairsR qs s = ([], 0)) := by
  unfold safeR at h
  by_cases hP : arePers qs = true
  · rw [if_pos hP] at h
    by_cases h100 : mostUp qs qs.length = 100
    · rw [if_pos h100] at h; simp only [Prod.mk.injEq] at h; exact .inl (by omega)
    · rw [if_neg h100] at h
      simp only [Prod.mk.injEq] at h
      obtain ⟨rfl, rfl⟩ := h
      refine .inr ⟨rfl, ?_⟩
      have hb := mostUp_in qs qs.length
      have hc : code5 qs (mostUp qs qs.length + 1) [] = 0 := by
        unfold code5; rw [if_pos hP, if_pos (inR_iff.2 (by omega))]; simp [inL]
      unfold pairsR
      rw [if_pos hc]
      have : pairsL (adj qs (mostUp qs qs.length + 1)) qs.length = [] := by
        rw [List.eq_nil_iff_forall_not_mem]
        intro ys hy
        obtain ⟨a, b, _, hab, hb2, had⟩ := pairsTo_mem hy
        rw [adj_comm] at had
        have hl := adj_lt had
        have hge := mostUp_ge qs qs.length b a hab hb2
        rw [likeAt_eq (List.getElem?_eq_getElem hl.1) (List.getElem?_eq_getElem hl.2)] at hge
        rw [adj_at (List.getElem?_eq_getElem hl.1) (List.getElem?_eq_getElem hl.2), decide_eq_true_eq] at had
        omega
      rw [this]
  · rw [if_neg hP] at h; simp only [Prod.mk.injEq] at h; exact .inl (by omega)

theorem total_take_succ {xss : List (List Int)} {t : Nat} {xs : List Int} (h : xss[t]? = some xs) : total (xss.take (t + 1)) = total (xss.take t) + xs.length := by
  rw [take_get h]; simp [total]
theorem total_take_le (xss : List (List Int)) (t : Nat) : total (xss.take t) ≤ total xss := by
  have : total xss = total (xss.take t) + total (xss.drop t) := by
    conv => lhs; rw [← List.take_append_drop t xss]
    simp only [total, List.map_append, List.sum_append]
  omega

/-! keepers and chains -/
theorem keeper_facts {qs : List Pers} {m i k c : Int} (h : keeperR qs m i = (k, c)) : c ≠ 0 ∨ (c = 0 ∧ k ≤ i ∧ keeperR qs m k = (k, 0)) := by
  unfold keeperR at h
  by_cases hc : code5 qs m [i] = 0
  · rw [if_pos hc] at h
    simp only [Prod.mk.injEq] at h
    obtain ⟨rfl, rfl⟩ := h
    obtain ⟨hP, hm, hi⟩ := code5_zero hc
    have hi := hi i (by simp)
    have hk := keep_le_self (A := adj qs m) i.toNat
    refine .inr ⟨rfl, by omega, ?_⟩
    have hc2 : code5 qs m [(keep (adj qs m) i.toNat : Int)] = 0 := by
      unfold code5; rw [if_pos hP, if_pos hm]
      rw [if_pos]
      simp only [inL, List.all_cons, List.all_nil, Bool.and_true]
      exact inR_iff.2 (by omega)
    unfold keeperR
    rw [if_pos hc2, Int.toNat_natCast, keep_keep (adj_comm qs m)]
  · rw [if_neg hc] at h; simp only [Prod.mk.injEq] at h; exact .inl (by omega)
theorem tight_code {qs : List Pers} {m i : Int} : (tightR qs m i).2 = (keeperR qs m i).2 := by
  unfold tightR keeperR; split <;> rfl
theorem chain_at {A : Nat → Nat → Bool} {b n : Nat} (hA : ∀ i j, A i j = true → i < n ∧ j < n) : ∀ (d a : Nat), a < n → dist A b a = d → (chain A b d a)[0]? = some a ∧ (chain A b d a)[d]? = some b ∧ ∀ (i x y : Nat), (chain A b d a)[i]? = some x → (chain A b d a)[i + 1]? = some y → A x y = true ∨ A y x = true
  | 0, a, _, h => by
    have : a = b := dist_zero h
    subst this
    exact ⟨rfl, rfl, fun i x y _ hy => by simp [chain] at hy⟩
  | d + 1, a, ha, h => by
    obtain ⟨h1, h2, _⟩ := nxt_spec (A := A) (b := b) (a := a) (d := d) (by omega)
    obtain ⟨g1, g2, g3⟩ := chain_at (b := b) hA d (nxt A b a) (hA _ _ h2).1 h1
    refine ⟨rfl, ?_, fun i x y hx hy => ?_⟩
    · rw [chain, List.getElem?_cons_succ]; exact g2
    · rw [chain] at hx hy
      cases i with
      | zero =>
        rw [List.getElem?_cons_zero] at hx
        rw [List.getElem?_cons_succ, g1] at hy
        cases hx; cases hy
        exact .inr h2
      | succ i =>
        rw [List.getElem?_cons_succ] at hx hy
        exact g3 i x y hx hy
/-- what a chain is -/
def ChainFacts (qs : List Pers) (m x y : Int) (zs : List Int) : Prop :=
  0 < zs.length ∧ zs.length ≤ 12 ∧ zs[0]? = some x ∧ zs[zs.length - 1]? = some y ∧ inR m 0 100 = true ∧ arePers qs = true ∧
  (∀ (i : Nat) (u : Int), zs[i]? = some u → ∃ k : Nat, u = k ∧ k < qs.length) ∧
  (∀ (i : Nat) (u v : Nat) (p q : Pers), zs[i]? = some (u : Int) → zs[i + 1]? = some (v : Int) → qs[u]? = some p → qs[v]? = some q → m ≤ likeP p q) ∧
  ∃ ws, chainR qs m y x = (ws, 0) ∧ ws.length = zs.length
theorem chain_facts {qs : List Pers} {m x y c : Int} {zs : List Int} (h : chainR qs m x y = (zs, c)) : c ≠ 0 ∨ (c = 0 ∧ ChainFacts qs m x y zs) := by
  unfold chainR at h
  by_cases hc : code5 qs m [x, y] = 0
  · rw [if_pos hc] at h
    obtain ⟨hP, hm, hi⟩ := code5_zero hc
    have hx := hi x (by simp); have hy := hi y (by simp)
    by_cases hneg : dist (adj qs m) y.toNat x.toNat < 0
    · rw [if_pos hneg] at h; simp only [Prod.mk.injEq] at h; exact .inl (by omega)
    · rw [if_neg hneg] at h
      simp only [Prod.mk.injEq] at h
      obtain ⟨rfl, rfl⟩ := h
      obtain ⟨u, rfl⟩ : ∃ u : Nat, x = u := ⟨x.toNat, by omega⟩
      obtain ⟨v, rfl⟩ : ∃ v : Nat, y = v := ⟨y.toNat, by omega⟩
      rw [Int.toNat_natCast, Int.toNat_natCast] at *
      have hA : ∀ i j, adj qs m i j = true → i < qs.length ∧ j < qs.length := fun i j h => adj_lt h
      obtain ⟨d, hd⟩ : ∃ d : Nat, dist (adj qs m) v u = d := ⟨(dist (adj qs m) v u).toNat, by omega⟩
      rw [hd, Int.toNat_natCast]
      have hq := arePers_len hP
      have hu : u < qs.length := by omega
      have hv : v < qs.length := by omega
      have hdl := dist_lt hA (b := v) hu
      rw [hd] at hdl
      obtain ⟨g1, g2, g3⟩ := chain_at hA d u hu hd
      have hlen := chain_length (A := adj qs m) v d u
      have hlenI : (toI (chain (adj qs m) v d u)).length = d + 1 := by rw [toI_length, hlen]
      have inr : ∀ (e a : Nat), a < qs.length → dist (adj qs m) v a = e → ∀ (i k : Nat), (chain (adj qs m) v e a)[i]? = some k → k < qs.length := by
        intro e
        induction e with
        | zero => intro a ha _ i k hk; rw [chain] at hk; have := (List.getElem?_eq_some_iff.1 hk).1; simp at this; subst this; simp at hk; omega
        | succ e ih =>
          intro a ha he i k hk
          rw [chain] at hk
          cases i with
          | zero => simp at hk; omega
          | succ i =>
            rw [List.getElem?_cons_succ] at hk
            obtain ⟨h1, h2, _⟩ := nxt_spec (A := adj qs m) (b := v) (a := a) (d := e) (by omega)
            exact ih _ (hA _ _ h2).1 h1 i k hk
      refine .inr ⟨rfl, by rw [hlenI]; omega, by rw [hlenI]; omega, toI_at g1, by rw [hlenI]; exact toI_at g2, hm, hP, ?_, ?_, ?_⟩
      · intro i w hw
        unfold toI at hw
        rw [List.getElem?_map, Option.map_eq_some_iff] at hw
        obtain ⟨k, hk, e⟩ := hw
        exact ⟨k, e.symm, inr d u hu hd i k hk⟩
      · intro i a b p q ha hb hp hq
        unfold toI at ha hb
        rw [List.getElem?_map, Option.map_eq_some_iff] at ha hb
        obtain ⟨a', ha, ea⟩ := ha
        obtain ⟨b', hb, eb⟩ := hb
        obtain rfl : a' = a := by omega
        obtain rfl : b' = b := by omega
        have hab : adj qs m a' b' = true := by
          rcases g3 i a' b' ha hb with h | h
          · exact h
          · rw [adj_comm]; exact h
        rw [adj_at hp hq, decide_eq_true_eq] at hab
        exact hab
      · have hc2 : code5 qs m [(v : Int), (u : Int)] = 0 := by
          unfold code5; rw [if_pos hP, if_pos hm, if_pos]
          simp only [inL, List.all_cons, List.all_nil, Bool.and_true, Bool.and_eq_true]
          exact ⟨inR_iff.2 (by omega), inR_iff.2 (by omega)⟩
        have hd2 : dist (adj qs m) u v = d := by rw [dist_comm (adj_comm qs m)]; exact hd
        refine ⟨_, by unfold chainR; rw [if_pos hc2, Int.toNat_natCast, Int.toNat_natCast, if_neg (by omega)], ?_⟩
        rw [toI_length, toI_length, chain_length, chain_length, hd2, Int.toNat_natCast]
  · rw [if_neg hc] at h; simp only [Prod.mk.injEq] at h; exact .inl (by omega)
theorem alike_yes {p q : Pers} {m : Int} (hp : isPers p = true) (hq : isPers q = true) (hm : inR m 0 100 = true) (h : m ≤ likeP p q) : alikeP p q m = (true, 0) := by
  unfold alikeP; rw [if_pos ⟨hp, hq⟩, if_pos hm, decide_eq_true h]

end Go.Proofs.Ytdeiillfdjebdaa
