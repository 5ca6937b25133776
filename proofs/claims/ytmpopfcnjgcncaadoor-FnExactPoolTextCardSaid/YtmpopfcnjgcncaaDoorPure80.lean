/- Plain facts on pools (chapter 8): pools, who is left, draws, putting back, replays, chances. No program is imported here. -/
import Derived.Test.YtmpopfcnjgcncaaDoorPure2
import Derived.Test.YtmpopfcnjgcncaaDoorPure30
import Derived.Test.YtmpopfcnjgcncaaDoorPure60
import Derived.WalkKit
namespace Go.Proofs.YtmpopfcnjgcncaaDoor.Pure80
open Go.RowKit Pure2 Pure30 Pure60

/-- is a number in a list -/
def mem (zs : List Int) (x : Int) : Bool := decide (x ∈ zs)
theorem mem_iff (zs : List Int) (x : Int) : mem zs x = true ↔ x ∈ zs := by simp [mem]
theorem mem_no (zs : List Int) (x : Int) : mem zs x = false ↔ x ∉ zs := by simp [mem]

structure PoolV where
  nums : List Int
  drawn : List Int
  state : Int
/-- the zero value -/
def zeroP : PoolV := ⟨[], [], 0⟩

/-- the first k drawn numbers are numbers of the pool, each drawn once -/
def DrawnTo (ns ds : List Int) (k : Nat) : Prop := ∀ (i : Nat) x, i < k → ds[i]? = some x → x ∈ ns ∧ x ∉ ds.take i
theorem drawnTo_zero (ns ds : List Int) : DrawnTo ns ds 0 := fun i x h => by omega
theorem drawnTo_step {ns ds : List Int} {k : Nat} {x : Int} (h : DrawnTo ns ds k) (hx : ds[k]? = some x) (h1 : mem ns x = true) (h2 : mem (ds.take k) x = false) : DrawnTo ns ds (k + 1) := by
  intro i y hi hy
  by_cases e : i = k
  · subst e; rw [hx] at hy; cases hy; exact ⟨(mem_iff _ _).1 h1, (mem_no _ _).1 h2⟩
  · exact h i y (by omega) hy
def IsPool (p : PoolV) : Prop := Rises 60 1 1000000 p.nums ∧ DrawnTo p.nums p.drawn p.drawn.length ∧ isState p.state = true
noncomputable def isPool (p : PoolV) : Bool := @decide (IsPool p) (Classical.propDecidable _)
theorem isPool_iff (p : PoolV) : isPool p = true ↔ IsPool p := by unfold isPool; exact @decide_eq_true_iff _ (Classical.propDecidable _)
theorem isPool_no (p : PoolV) : isPool p = false ↔ ¬ IsPool p := by rw [← Bool.not_eq_true, isPool_iff]
theorem pool_rises {p : PoolV} (h : rises 60 1 1000000 p.nums = false) : isPool p = false := (isPool_no p).2 fun hh => (rises_no _ _ _ _).1 h hh.1
theorem pool_out {p : PoolV} {k : Nat} {x : Int} (hx : p.nums[k]? = some x) (h : ¬ (1 ≤ x ∧ x ≤ 1000000)) : isPool p = false := pool_rises (rises_out hx h)
theorem pool_down {p : PoolV} {k : Nat} {x y : Int} (hx : p.nums[k]? = some x) (hy : p.nums[k + 1]? = some y) (h : y ≤ x) : isPool p = false := pool_rises (rises_down hx hy h)
theorem pool_long {p : PoolV} (h : 60 < p.nums.length) : isPool p = false := pool_rises (rises_long h)
theorem pool_none {p : PoolV} {k : Nat} {x : Int} (hx : p.drawn[k]? = some x) (h : mem p.nums x = false) : isPool p = false :=
  (isPool_no p).2 fun hh => (mem_no _ _).1 h (hh.2.1 k x (List.getElem?_eq_some_iff.1 hx).1 hx).1
theorem pool_twice {p : PoolV} {k : Nat} {x : Int} (hx : p.drawn[k]? = some x) (h : mem (p.drawn.take k) x = true) : isPool p = false :=
  (isPool_no p).2 fun hh => (hh.2.1 k x (List.getElem?_eq_some_iff.1 hx).1 hx).2 ((mem_iff _ _).1 h)
theorem pool_end {p : PoolV} {j k : Nat} (h : RisesTo 1 1000000 p.nums j) (hj : p.nums.length ≤ j) (hd : DrawnTo p.nums p.drawn k) (hk : p.drawn.length ≤ k) : isPool p = (decide (p.nums.length ≤ 60) && isState p.state) := by
  by_cases hl : p.nums.length ≤ 60
  · rw [decide_eq_true hl, Bool.true_and]
    cases hs : isState p.state with
    | true => exact (isPool_iff p).2 ⟨risesTo_end h hj hl, fun i x hi hx => hd i x (by omega) hx, hs⟩
    | false => exact (isPool_no p).2 fun hh => by have := hh.2.2; rw [hs] at this; cases this
  · rw [decide_eq_false hl]; exact pool_long (by omega)

theorem drawn_nodup {ns ds : List Int} (h : DrawnTo ns ds ds.length) : ds.Nodup := by
  rw [List.nodup_iff_pairwise_ne, List.pairwise_iff_getElem]
  intro i j hi hj hij e
  refine (h j _ hj (List.getElem?_eq_getElem hj)).2 (List.mem_iff_getElem?.2 ⟨i, ?_⟩)
  rw [List.getElem?_take_of_lt hij, List.getElem?_eq_getElem hi, e]
theorem drawn_sub {ns ds : List Int} (h : DrawnTo ns ds ds.length) : ∀ x ∈ ds, x ∈ ns := by
  intro x hx
  obtain ⟨i, hi⟩ := List.mem_iff_getElem?.1 hx
  exact (h i x (List.getElem?_eq_some_iff.1 hi).1 hi).1
theorem drawn_of {ns ds : List Int} (h1 : ds.Nodup) (h2 : ∀ x ∈ ds, x ∈ ns) : DrawnTo ns ds ds.length := by
  intro i x _ hx
  refine ⟨h2 x (List.mem_of_getElem? hx), fun hm => ?_⟩
  obtain ⟨k, hk⟩ := List.mem_iff_getElem?.1 hm
  rw [List.getElem?_take] at hk
  split at hk
  · rename_i hlt
    rw [List.nodup_iff_pairwise_ne, List.pairwise_iff_getElem] at h1
    obtain ⟨hi, e1⟩ := List.getElem?_eq_some_iff.1 hx
    obtain ⟨hk', e2⟩ := List.getElem?_eq_some_iff.1 hk
    exact h1 k i hk' hi hlt (e2.trans e1.symm)
  · cases hk
theorem pairwise_of_next {zs : List Int} (h : ∀ (i : Nat) x y, zs[i]? = some x → zs[i + 1]? = some y → x < y) : zs.Pairwise (· < ·) := by
  induction zs with
  | nil => exact List.Pairwise.nil
  | cons a r ih =>
    have hr : r.Pairwise (· < ·) := ih fun i x y hx hy => h (i + 1) x y (by simpa using hx) (by simpa using hy)
    refine List.pairwise_cons.2 ⟨?_, hr⟩
    cases r with
    | nil => intro b hb; cases hb
    | cons b r =>
      have hab : a < b := h 0 a b rfl rfl
      intro c hc
      rcases List.mem_cons.1 hc with rfl | hc
      · exact hab
      · exact Int.lt_trans hab ((List.pairwise_cons.1 hr).1 c hc)
theorem rises_nodup {c : Nat} {lo hi : Int} {zs : List Int} (h : Rises c lo hi zs) : zs.Nodup := by
  rw [List.nodup_iff_pairwise_ne]
  exact (pairwise_of_next h.2.1).imp fun h => Int.ne_of_lt h
theorem pool_nodup {p : PoolV} (h : isPool p = true) : p.nums.Nodup := rises_nodup ((isPool_iff p).1 h).1
theorem pool_dnodup {p : PoolV} (h : isPool p = true) : p.drawn.Nodup := drawn_nodup ((isPool_iff p).1 h).2.1
theorem pool_sub {p : PoolV} (h : isPool p = true) : ∀ x ∈ p.drawn, x ∈ p.nums := drawn_sub ((isPool_iff p).1 h).2.1
theorem pool_len {p : PoolV} (h : isPool p = true) : p.nums.length ≤ 60 := ((isPool_iff p).1 h).1.2.2
theorem pool_state {p : PoolV} (h : isPool p = true) : 1 ≤ p.state ∧ p.state ≤ 2147483646 := (isState_iff _).1 ((isPool_iff p).1 h).2.2
theorem pool_range {p : PoolV} (h : isPool p = true) : ∀ x ∈ p.nums, 1 ≤ x ∧ x ≤ 1000000 := by
  intro x hx
  obtain ⟨i, hi⟩ := List.mem_iff_getElem?.1 hx
  exact ((isPool_iff p).1 h).1.1 i x hi
theorem pool_make {p : PoolV} (h : isPool p = true) {ds : List Int} {s : Int} (h1 : ds.Nodup) (h2 : ∀ x ∈ ds, x ∈ p.nums) (h3 : 1 ≤ s ∧ s ≤ 2147483646) : isPool ⟨p.nums, ds, s⟩ = true :=
  (isPool_iff _).2 ⟨((isPool_iff p).1 h).1, drawn_of h1 h2, (isState_iff s).2 h3⟩
theorem len_sub : ∀ {a b : List Int}, a.Nodup → (∀ x ∈ a, x ∈ b) → a.length ≤ b.length := fun {_ _} h1 h2 => (List.Nodup.length_le_of_subset h1 h2)
theorem pool_dlen {p : PoolV} (h : isPool p = true) : p.drawn.length ≤ p.nums.length := len_sub (pool_dnodup h) (pool_sub h)

/-- the numbers that are left -/
def leftL (ns ds : List Int) : List Int := ns.filter fun x => !mem ds x
theorem leftL_mem (ns ds : List Int) (x : Int) : x ∈ leftL ns ds ↔ x ∈ ns ∧ x ∉ ds := by simp [leftL, mem]
theorem leftL_le (ns ds : List Int) : (leftL ns ds).length ≤ ns.length := List.length_filter_le _ _
theorem leftL_none (ns : List Int) : leftL ns [] = ns := by simp [leftL, mem]
theorem leftL_nodup {ns ds : List Int} (h : ns.Nodup) : (leftL ns ds).Nodup := h.sublist List.filter_sublist
theorem leftL_snoc (ns ds : List Int) (x : Int) : leftL ns (ds ++ [x]) = (leftL ns ds).filter fun y => !decide (y = x) := by
  unfold leftL mem
  rw [List.filter_filter]
  congr 1; funext y
  by_cases h1 : y ∈ ds <;> by_cases h2 : y = x <;> simp [h1, h2]
theorem filter_ne_length {zs : List Int} (h : zs.Nodup) {x : Int} (hx : x ∈ zs) : (zs.filter fun y => !decide (y = x)).length + 1 = zs.length := by
  induction zs with
  | nil => cases hx
  | cons a r ih =>
    rw [List.nodup_cons] at h
    by_cases e : a = x
    · subst e
      have : (r.filter fun y => !decide (y = a)) = r := List.filter_eq_self.2 fun y hy => by simp; rintro rfl; exact h.1 hy
      simp [this]
    · have := ih h.2 ((List.mem_cons.1 hx).resolve_left (Ne.symm e))
      simp [e]; omega
theorem leftL_rev {ns : List Int} (h1 : ns.Nodup) : ∀ rs : List Int, rs.reverse.Nodup → (∀ x ∈ rs.reverse, x ∈ ns) → (leftL ns rs.reverse).length + rs.length = ns.length
  | [], _, _ => by rw [List.reverse_nil, leftL_none]; rfl
  | x :: rs, h2, h3 => by
    rw [List.reverse_cons] at h2 h3 ⊢
    have h4 : rs.reverse.Nodup ∧ x ∉ rs.reverse := by
      rw [List.nodup_append] at h2
      exact ⟨h2.1, fun hm => h2.2.2 x hm x (by simp) rfl⟩
    have h5 := leftL_rev h1 rs h4.1 (fun y hy => h3 y (List.mem_append_left _ hy))
    have h6 := filter_ne_length (leftL_nodup (ds := rs.reverse) h1) ((leftL_mem ns rs.reverse x).2 ⟨h3 x (by simp), h4.2⟩)
    rw [leftL_snoc, List.length_cons]
    omega
theorem leftL_length {ns ds : List Int} (h1 : ns.Nodup) (h2 : ds.Nodup) (h3 : ∀ x ∈ ds, x ∈ ns) : (leftL ns ds).length + ds.length = ns.length := by
  have := leftL_rev h1 ds.reverse (by rw [List.reverse_reverse]; exact h2) (by rw [List.reverse_reverse]; exact h3)
  rw [List.reverse_reverse, List.length_reverse] at this; exact this
theorem pool_left {p : PoolV} (h : isPool p = true) : (leftL p.nums p.drawn).length + p.drawn.length = p.nums.length := leftL_length (pool_nodup h) (pool_dnodup h) (pool_sub h)
theorem filter_take_snoc (f : Int → Bool) {zs : List Int} {k : Nat} {x : Int} (hx : zs[k]? = some x) : (zs.take (k + 1)).filter f = (zs.take k).filter f ++ (if f x = true then [x] else []) := by
  rw [List.take_add_one, hx, List.filter_append]
  simp [List.filter_cons]

/-- the number that is drawn in state t -/
def pick (ns ds : List Int) (t : Int) : Int := (leftL ns ds).getD (below t (leftL ns ds).length).toNat 0
/-- drawn numbers and state behind j draws -/
def drawN (ns ds : List Int) (s : Int) : Nat → List Int × Int
  | 0 => (ds, s)
  | j + 1 => ((drawN ns ds s j).1 ++ [pick ns (drawN ns ds s j).1 (nx (drawN ns ds s j).2)], nx (drawN ns ds s j).2)
def outN (ns ds : List Int) (s : Int) (j : Nat) : List Int := (drawN ns ds s j).1.drop ds.length
theorem drawN_length (ns ds : List Int) (s : Int) (j : Nat) : (drawN ns ds s j).1.length = ds.length + j := by
  induction j with
  | zero => rfl
  | succ j ih => simp only [drawN, List.length_append, List.length_singleton]; omega
theorem outN_zero (ns ds : List Int) (s : Int) : outN ns ds s 0 = [] := by simp [outN, drawN]
theorem outN_step (ns ds : List Int) (s : Int) (j : Nat) : outN ns ds s (j + 1) = outN ns ds s j ++ [pick ns (drawN ns ds s j).1 (nx (drawN ns ds s j).2)] := by
  unfold outN
  rw [drawN, List.drop_append_of_le_length (by rw [drawN_length]; omega)]
theorem outN_length (ns ds : List Int) (s : Int) (j : Nat) : (outN ns ds s j).length = j := by
  unfold outN; rw [List.length_drop, drawN_length]; omega
theorem drawN_split (ns ds : List Int) (s : Int) (j : Nat) : (drawN ns ds s j).1 = ds ++ outN ns ds s j := by
  induction j with
  | zero => simp [outN_zero, drawN]
  | succ j ih => rw [outN_step, ← List.append_assoc, ← ih, drawN]
theorem outN_none (ns : List Int) (s : Int) (j : Nat) : outN ns [] s j = (drawN ns [] s j).1 := rfl
theorem drawN_state (ns ds : List Int) {s : Int} (h : 1 ≤ s ∧ s ≤ 2147483646) (j : Nat) : 1 ≤ (drawN ns ds s j).2 ∧ (drawN ns ds s j).2 ≤ 2147483646 := by
  induction j with
  | zero => exact h
  | succ j ih => exact nx_state ih
theorem below_left {ns ds : List Int} {t : Int} (ht : 1 ≤ t ∧ t ≤ 2147483646) (h : 0 < (leftL ns ds).length) : 0 ≤ below t (leftL ns ds).length ∧ (below t (leftL ns ds).length).toNat < (leftL ns ds).length := by
  have h1 := below_bd (s := t) (n := ((leftL ns ds).length : Int)) (by omega) (by omega)
  have h2 := h1.2 (by omega)
  omega
theorem pick_at {ns ds : List Int} {t : Int} (ht : 1 ≤ t ∧ t ≤ 2147483646) (h : 0 < (leftL ns ds).length) : (leftL ns ds)[(below t (leftL ns ds).length).toNat]? = some (pick ns ds t) := by
  have := (below_left ht h).2
  unfold pick
  rw [List.getD_eq_getElem?_getD, List.getElem?_eq_getElem this]; rfl
theorem pick_mem {ns ds : List Int} {t : Int} (ht : 1 ≤ t ∧ t ≤ 2147483646) (h : 0 < (leftL ns ds).length) : pick ns ds t ∈ ns ∧ pick ns ds t ∉ ds := (leftL_mem ns ds _).1 (List.mem_of_getElem? (pick_at ht h))
/-- enough are left for j draws -/
theorem drawN_good {ns ds : List Int} {s : Int} (hs : 1 ≤ s ∧ s ≤ 2147483646) (h1 : ns.Nodup) (h2 : ds.Nodup) (h3 : ∀ x ∈ ds, x ∈ ns) (j : Nat) (hj : ds.length + j ≤ ns.length) : (drawN ns ds s j).1.Nodup ∧ (∀ x ∈ (drawN ns ds s j).1, x ∈ ns) := by
  induction j with
  | zero => exact ⟨h2, h3⟩
  | succ j ih =>
    obtain ⟨i1, i2⟩ := ih (by omega)
    have hl := leftL_length h1 i1 i2
    rw [drawN_length] at hl
    have hp := pick_mem (nx_state (drawN_state ns ds hs j)) (show 0 < (leftL ns (drawN ns ds s j).1).length by omega)
    refine ⟨?_, ?_⟩
    · rw [drawN, List.nodup_append]
      refine ⟨i1, by simp, ?_⟩
      intro a ha b hb e
      rw [List.mem_singleton] at hb
      subst hb e
      exact hp.2 ha
    · intro x hx
      rw [drawN, List.mem_append, List.mem_singleton] at hx
      rcases hx with hx | rfl
      · exact i2 x hx
      · exact hp.1
theorem drawN_left {ns ds : List Int} {s : Int} (hs : 1 ≤ s ∧ s ≤ 2147483646) (h1 : ns.Nodup) (h2 : ds.Nodup) (h3 : ∀ x ∈ ds, x ∈ ns) (j : Nat) (hj : ds.length + j ≤ ns.length) : (leftL ns (drawN ns ds s j).1).length + (ds.length + j) = ns.length := by
  have hg := drawN_good hs h1 h2 h3 j hj
  have := leftL_length h1 hg.1 hg.2
  rw [drawN_length] at this; exact this

/-- the answers -/
noncomputable def makeR (ns : List Int) (s : Int) : PoolV × Int := if isPool ⟨ns, [], s⟩ = true then (⟨ns, [], s⟩, 0) else (zeroP, 1)
noncomputable def leftR (p : PoolV) : List Int × Int := if isPool p = true then (leftL p.nums p.drawn, 0) else ([], 1)
noncomputable def takeC (p : PoolV) (k : Int) : Int := if isPool p = true then (if k < 0 then 2 else if (p.nums.length : Int) - p.drawn.length < k then 3 else 0) else 1
def drawP (p : PoolV) (k : Int) : PoolV := ⟨p.nums, (drawN p.nums p.drawn p.state k.toNat).1, (drawN p.nums p.drawn p.state k.toNat).2⟩
noncomputable def takeR (p : PoolV) (k : Int) : PoolV × List Int × Int := if takeC p k = 0 then (drawP p k, outN p.nums p.drawn p.state k.toNat, 0) else (zeroP, [], takeC p k)
/-- all of back have been drawn, each is told once -/
def BackTo (ds bs : List Int) (k : Nat) : Prop := ∀ (i : Nat) x, i < k → bs[i]? = some x → x ∈ ds
noncomputable def putC (p : PoolV) (bs : List Int) : Int := if isPool p = true then (if bs.all (mem p.drawn) = true then (if bs.Nodup then 0 else 5) else 4) else 1
noncomputable def putR (p : PoolV) (bs : List Int) : PoolV × Int := if putC p bs = 0 then (⟨p.nums, leftL p.drawn bs, p.state⟩, 0) else (zeroP, putC p bs)
noncomputable def replayR (p : PoolV) (s : Int) : Bool × Int := if isPool p = true then (if isState s = true then (decide (drawN p.nums [] s p.drawn.length = (p.drawn, p.state)), 0) else (false, 2)) else (false, 1)
noncomputable def chanceC (p : PoolV) (k : Int) : Int := if isPool p = true then (if 0 ≤ k ∧ k ≤ 60 then (if p.nums.length - p.drawn.length = 0 then 4 else if (p.nums.length : Int) - p.drawn.length < k then 3 else 0) else 2) else 1
noncomputable def chanceR (p : PoolV) (k : Int) : Int × Int × Int := if chanceC p k = 0 then (k / Int.gcd k ((p.nums.length : Int) - p.drawn.length), ((p.nums.length : Int) - p.drawn.length) / Int.gcd k ((p.nums.length : Int) - p.drawn.length), 0) else (0, 0, chanceC p k)

theorem takeC_cases (p : PoolV) (k : Int) : (takeC p k = 0 ∧ isPool p = true ∧ 0 ≤ k ∧ k ≤ (p.nums.length : Int) - p.drawn.length) ∨ takeC p k = 1 ∨ takeC p k = 2 ∨ takeC p k = 3 := by
  unfold takeC
  split
  · split
    · exact .inr (.inr (.inl rfl))
    · split
      · exact .inr (.inr (.inr rfl))
      · exact .inl ⟨rfl, by assumption, by omega, by omega⟩
  · exact .inr (.inl rfl)
theorem take_good {p : PoolV} {k : Int} (h : takeC p k = 0) : isPool p = true ∧ 0 ≤ k ∧ p.drawn.length + k.toNat ≤ p.nums.length := by
  rcases takeC_cases p k with h1 | h1 | h1 | h1
  · exact ⟨h1.2.1, h1.2.2.1, by omega⟩
  all_goals rw [h] at h1; cases h1
theorem take_pool {p : PoolV} {k : Int} (h : takeC p k = 0) : isPool (drawP p k) = true := by
  obtain ⟨h1, h2, h3⟩ := take_good h
  have hg := drawN_good (pool_state h1) (pool_nodup h1) (pool_dnodup h1) (pool_sub h1) k.toNat h3
  exact pool_make h1 hg.1 hg.2 (drawN_state _ _ (pool_state h1) _)
/-- what FnPools asks of a draw -/
theorem take_split {p : PoolV} {k : Int} (h : takeC p k = 0) :
    (leftL (drawP p k).nums (drawP p k).drawn).length + (outN p.nums p.drawn p.state k.toNat).length = (leftL p.nums p.drawn).length ∧ ((outN p.nums p.drawn p.state k.toNat).length : Int) = k
      ∧ ∀ x ∈ outN p.nums p.drawn p.state k.toNat, x ∈ leftL p.nums p.drawn ∧ x ∉ leftL (drawP p k).nums (drawP p k).drawn := by
  obtain ⟨h1, h2, h3⟩ := take_good h
  have hp := pool_left h1
  have hq := drawN_left (pool_state h1) (pool_nodup h1) (pool_dnodup h1) (pool_sub h1) k.toNat h3
  have hg := drawN_good (pool_state h1) (pool_nodup h1) (pool_dnodup h1) (pool_sub h1) k.toNat h3
  have ho := outN_length p.nums p.drawn p.state k.toNat
  refine ⟨?_, by omega, ?_⟩
  · show (leftL p.nums (drawN p.nums p.drawn p.state k.toNat).1).length + _ = _
    omega
  · intro x hx
    have hs := drawN_split p.nums p.drawn p.state k.toNat
    have hx' : x ∈ (drawN p.nums p.drawn p.state k.toNat).1 := by rw [hs]; exact List.mem_append_right _ hx
    refine ⟨(leftL_mem _ _ _).2 ⟨hg.2 x hx', ?_⟩, fun hm => ((leftL_mem _ _ _).1 hm).2 hx'⟩
    have hn := hg.1
    rw [hs, List.nodup_append] at hn
    exact fun hd => hn.2.2 x hd x hx rfl
theorem make_take {ns : List Int} {s : Int} (h : isPool ⟨ns, [], s⟩ = true) (hn : 0 < ns.length) : takeC ⟨ns, [], s⟩ 1 = 0 := by
  rcases takeC_cases ⟨ns, [], s⟩ 1 with h1 | h1 | h1 | h1
  · exact h1.1
  all_goals
    exfalso
    unfold takeC at h1
    rw [if_pos h, if_neg (by omega), if_neg (by simp; omega)] at h1
    cases h1
theorem make_replay {ns : List Int} {s : Int} (h : isPool ⟨ns, [], s⟩ = true) (hn : 0 < ns.length) : replayR (drawP ⟨ns, [], s⟩ 1) s = (true, 0) := by
  have hp := take_pool (make_take h hn)
  have hs : isState s = true := ((isPool_iff _).1 h).2.2
  unfold replayR
  rw [if_pos hp, if_pos hs]
  have e : (drawP ⟨ns, [], s⟩ 1).drawn.length = 1 := by show (drawN ns [] s 1).1.length = 1; rw [drawN_length]; rfl
  rw [e]
  congr 1
  exact decide_eq_true rfl
theorem put_count {p : PoolV} {bs : List Int} (h : putC p bs = 0) : (leftL p.drawn bs).length + bs.length = p.drawn.length := by
  unfold putC at h
  split at h
  · split at h
    · split at h
      · rename_i h1 h2 h3
        exact leftL_length (pool_dnodup h1) h3 fun x hx => (mem_iff _ _).1 (List.all_eq_true.1 h2 x hx)
      · cases h
    · cases h
  · cases h
theorem chance_good {p : PoolV} {k : Int} (h : chanceC p k = 0) : isPool p = true ∧ 0 ≤ k ∧ k ≤ (p.nums.length : Int) - p.drawn.length ∧ 0 < (p.nums.length : Int) - p.drawn.length := by
  unfold chanceC at h
  split at h
  · rename_i h1
    split at h
    · split at h
      · cases h
      · split at h
        · cases h
        · have := pool_dlen h1; exact ⟨h1, by omega, by omega, by omega⟩
    · cases h
  · cases h
theorem gcd_cross (k n : Int) : k / Int.gcd k n * n = k * (n / Int.gcd k n) := by
  have h1 : (Int.gcd k n : Int) ∣ k := Int.gcd_dvd_left ..
  have h2 : (Int.gcd k n : Int) ∣ n := Int.gcd_dvd_right ..
  obtain ⟨a, ha⟩ := h1
  obtain ⟨b, hb⟩ := h2
  by_cases h0 : (Int.gcd k n : Int) = 0
  · rw [h0, Int.zero_mul] at ha hb; rw [h0, Int.ediv_zero, Int.ediv_zero, Int.zero_mul, Int.mul_zero]
  · have e1 : k / (Int.gcd k n : Int) = a := by
      conv => lhs; lhs; rw [ha]
      exact Int.mul_ediv_cancel_left a h0
    have e2 : n / (Int.gcd k n : Int) = b := by
      conv => lhs; lhs; rw [hb]
      exact Int.mul_ediv_cancel_left b h0
    rw [e1, e2]
    conv => lhs; rw [hb]
    conv => rhs; rw [ha]
    rw [← Int.mul_assoc, Int.mul_comm a]
theorem chance_split {p : PoolV} {k : Int} (h : chanceC p k = 0) : (chanceR p k).1 * (leftL p.nums p.drawn).length = k * (chanceR p k).2.1 ∧ (chanceR p k).1 ≤ (chanceR p k).2.1 := by
  obtain ⟨h1, h2, h3, h4⟩ := chance_good h
  have hp := pool_left h1
  have e : ((leftL p.nums p.drawn).length : Int) = (p.nums.length : Int) - p.drawn.length := by omega
  unfold chanceR
  rw [if_pos h, e]
  refine ⟨gcd_cross _ _, ?_⟩
  exact Int.ediv_le_ediv (by have : 0 < Int.gcd k ((p.nums.length : Int) - p.drawn.length) := Int.gcd_pos_of_ne_zero_right _ (by omega); omega) h3
end Go.Proofs.YtmpopfcnjgcncaaDoor.Pure80
