/- Plain facts on chapter 6: rules, candidates, the reasons against them and the answers. No program is imported here. -/
import Derived.Test.YtjnjmoiilapbiaaPure2
import Derived.Test.YtjnjmoiilapbiaaPure3
import Derived.Test.YtjnjmoiilapbiaaPure40
import Derived.Test.YtjnjmoiilapbiaaPure60
import Derived.WalkKit
import Derived.WalkSpells
import Derived.WalkLawsBesides
namespace Go.Proofs.Ytjnjmoiilapbiaa.Pure61
open Go.RowKit Pure1 Pure2 Pure3 Pure40 Pure60

/-- rules -/
structure Rul where
  year : Int
  least : Int
  most : Int
  zones : List Int
  jobs : List Int
/-- a candidate -/
structure Cand where
  p : Pers
  cit : Bool
  con : Bool
  flu : Bool
  job : Int
def Cand.cells (c : Cand) : List Value := [.int .i64 c.p.num, .string c.p.fst, .string c.p.lst, .int .i64 c.p.born, .int .i64 c.p.zone, .bool c.cit, .bool c.con, .bool c.flu, .int .i64 c.job]
/-- A candidate lies at cell o of block b: nine cells. -/
def AtC (w : World) (b o : Nat) (c : Cand) : Prop :=
  w.cell? ⟨b, o, none⟩ = some (.int .i64 c.p.num) ∧ w.cell? ⟨b, o + 1, none⟩ = some (.string c.p.fst) ∧ w.cell? ⟨b, o + 2, none⟩ = some (.string c.p.lst) ∧ w.cell? ⟨b, o + 3, none⟩ = some (.int .i64 c.p.born) ∧ w.cell? ⟨b, o + 4, none⟩ = some (.int .i64 c.p.zone) ∧
  w.cell? ⟨b, o + 5, none⟩ = some (.bool c.cit) ∧ w.cell? ⟨b, o + 6, none⟩ = some (.bool c.con) ∧ w.cell? ⟨b, o + 7, none⟩ = some (.bool c.flu) ∧ w.cell? ⟨b, o + 8, none⟩ = some (.int .i64 c.job)
/-- .. from the block's first cell on -/
def AtD (w : World) (b : Nat) (c : Cand) : Prop :=
  w.cell? ⟨b, 0, none⟩ = some (.int .i64 c.p.num) ∧ w.cell? ⟨b, 1, none⟩ = some (.string c.p.fst) ∧ w.cell? ⟨b, 2, none⟩ = some (.string c.p.lst) ∧ w.cell? ⟨b, 3, none⟩ = some (.int .i64 c.p.born) ∧ w.cell? ⟨b, 4, none⟩ = some (.int .i64 c.p.zone) ∧
  w.cell? ⟨b, 5, none⟩ = some (.bool c.cit) ∧ w.cell? ⟨b, 6, none⟩ = some (.bool c.con) ∧ w.cell? ⟨b, 7, none⟩ = some (.bool c.flu) ∧ w.cell? ⟨b, 8, none⟩ = some (.int .i64 c.job)
theorem AtC.below {w w' : World} {b o : Nat} {c : Cand} (h : AtC w b o c) (hb : Below w.heap.size w w') : AtC w' b o c :=
  ⟨cell_later hb h.1, cell_later hb h.2.1, cell_later hb h.2.2.1, cell_later hb h.2.2.2.1, cell_later hb h.2.2.2.2.1, cell_later hb h.2.2.2.2.2.1, cell_later hb h.2.2.2.2.2.2.1, cell_later hb h.2.2.2.2.2.2.2.1, cell_later hb h.2.2.2.2.2.2.2.2⟩
theorem AtD.below {w w' : World} {b : Nat} {c : Cand} (h : AtD w b c) (hb : Below w.heap.size w w') : AtD w' b c :=
  ⟨cell_later hb h.1, cell_later hb h.2.1, cell_later hb h.2.2.1, cell_later hb h.2.2.2.1, cell_later hb h.2.2.2.2.1, cell_later hb h.2.2.2.2.2.1, cell_later hb h.2.2.2.2.2.2.1, cell_later hb h.2.2.2.2.2.2.2.1, cell_later hb h.2.2.2.2.2.2.2.2⟩
theorem AtD.atC {w : World} {b : Nat} {c : Cand} (h : AtD w b c) : AtC w b 0 c := by
  unfold AtC; simp only [Nat.zero_add]; exact h
theorem AtC.atD {w : World} {b : Nat} {c : Cand} (h : AtC w b 0 c) : AtD w b c := by
  unfold AtC at h; simp only [Nat.zero_add] at h; exact h
theorem AtC.lt {w : World} {b o : Nat} {c : Cand} (h : AtC w b o c) : b < w.heap.size := World.block_lt_of_cell? w _ h.1
theorem atD_box (w : World) (n : Int) (f l : ByteArray) (b z : Int) (c1 c2 c3 : Bool) (j : Int) (T : TypeId) : AtD (w.alloc (.cells #[.int .i64 n, .string f, .string l, .int .i64 b, .int .i64 z, .bool c1, .bool c2, .bool c3, .int .i64 j] T)) w.heap.size ⟨⟨n, f, l, b, z⟩, c1, c2, c3, j⟩ := by
  have h : (w.alloc (.cells #[.int .i64 n, .string f, .string l, .int .i64 b, .int .i64 z, .bool c1, .bool c2, .bool c3, .int .i64 j] T)).heap[w.heap.size]? = some (.cells #[.int .i64 n, .string f, .string l, .int .i64 b, .int .i64 z, .bool c1, .bool c2, .bool c3, .int .i64 j] T) := heap_alloc_new w _
  refine ⟨?_, ?_, ?_, ?_, ?_, ?_, ?_, ?_, ?_⟩ <;> (unfold World.cell?; rw [h]; rfl)
/-- The slice at address a reads, from its head on, the candidates cs. -/
def CandsAt (w : World) (a : Option Addr) (cs : List Cand) : Prop :=
  cs = [] ∨ ∃ b off, a = some ⟨b, off, none⟩ ∧ ∀ i c, cs[i]? = some c → AtC w b (off + i * 9) c
theorem CandsAt.below {w w' : World} {a : Option Addr} {cs : List Cand} (h : CandsAt w a cs) (hb : Below w.heap.size w w') : CandsAt w' a cs := by
  rcases h with rfl | ⟨b, off, rfl, hc⟩
  · exact .inl rfl
  · exact .inr ⟨b, off, rfl, fun i x hx => (hc i x hx).below hb⟩
theorem CandsAt.at {w : World} {a : Option Addr} {cs : List Cand} (h : CandsAt w a cs) {k len : Nat} (hl : cs.length = len) (hk : k < len) :
    ∃ b off c, a = some ⟨b, off, none⟩ ∧ AtC w b (off + k * 9) c ∧ cs[k]? = some c := by
  have hx : cs[k]? = some cs[k] := List.getElem?_eq_getElem (by omega)
  rcases h with rfl | ⟨b, off, rfl, hc⟩
  · simp at hl; omega
  · exact ⟨b, off, _, rfl, hc k _ hx, hx⟩
/-- one candidate that lies in a block of its own -/
theorem CandsAt.one {w : World} {b : Nat} {c : Cand} (h : AtD w b c) : CandsAt w (some ⟨b, 0, none⟩) [c] :=
  .inr ⟨b, 0, rfl, fun i x hx => by
    match i, hx with
    | 0, hx => cases hx; rw [Nat.zero_mul]; exact h.atC
    | n + 1, hx => simp at hx⟩
/-- the names of all candidates are no longer than a text may be -/
def FitsC (cs : List Cand) : Prop := ∀ c ∈ cs, c.p.fits
theorem FitsC.at {cs : List Cand} (h : FitsC cs) {k : Nat} {c : Cand} (hp : cs[k]? = some c) : c.p.fst.size ≤ maxLen ∧ c.p.lst.size ≤ maxLen := h c (List.mem_of_getElem? hp)

/-- the slices of rules read their lists -/
def RulesIn (w : World) (za : Option Addr) (zl : Nat) (ja : Option Addr) (jl : Nat) (zz jj : List Int) : Prop :=
  zz.length = zl ∧ zl ≤ maxLen ∧ IntsAt w za zz ∧ jj.length = jl ∧ jl ≤ maxLen ∧ IntsAt w ja jj
theorem RulesIn.below {w w' : World} {za ja : Option Addr} {zl jl : Nat} {zz jj : List Int} (h : RulesIn w za zl ja jl zz jj) (hb : Below w.heap.size w w') : RulesIn w' za zl ja jl zz jj :=
  ⟨h.1, h.2.1, h.2.2.1.below hb, h.2.2.2.1, h.2.2.2.2.1, h.2.2.2.2.2.below hb⟩

noncomputable def areRul (r : Rul) : Bool := inR r.year 1900 2200 && (inR r.least 0 150 && (inR r.most r.least 150 && (rises 20 0 99 r.zones && rises 20 0 20 r.jobs)))
def isCand (c : Cand) : Bool := isPers c.p && inR c.job 0 20
/-- does a list have a number? -/
def has (zs : List Int) (x : Int) : Bool := decide (x ∈ zs)
/-- which of the seven reasons hold -/
def truths (r : Rul) (c : Cand) : List Bool := [decide (r.year - c.p.born < r.least), decide (r.most < r.year - c.p.born), !has r.zones c.p.zone, !c.cit, c.con, !c.flu, has r.jobs c.job]
theorem truths_len (r : Rul) (c : Cand) : (truths r c).length = 7 := rfl
/-- the sum of the powers of two of those that hold -/
def mask : List Bool → Int
  | [] => 0
  | b :: l => (if b then 1 else 0) + 2 * mask l
theorem mask_snoc (l : List Bool) (b : Bool) : mask (l ++ [b]) = mask l + (if b then 2 ^ l.length else 0) := by
  induction l with
  | nil => cases b <;> rfl
  | cons x l ih => rw [List.cons_append, mask, mask, ih]; cases x <;> cases b <;> simp [Int.pow_succ] <;> omega
theorem mask_take {l : List Bool} {k : Nat} {b : Bool} (h : l[k]? = some b) : mask (l.take (k + 1)) = mask (l.take k) + (if b then 2 ^ k else 0) := by
  obtain ⟨hk, hb⟩ := List.getElem?_eq_some_iff.1 h
  rw [List.take_succ_eq_append_getElem hk, mask_snoc, hb, List.length_take, Nat.min_eq_left (by omega)]
theorem mask_bounds (l : List Bool) : 0 ≤ mask l ∧ mask l < 2 ^ l.length := by
  induction l with
  | nil => exact ⟨Int.le_refl _, by decide⟩
  | cons x l ih => rw [mask, List.length_cons, Int.pow_succ]; cases x <;> simp <;> omega
theorem mask_zero {l : List Bool} (h : mask l = 0) : ∀ b ∈ l, b = false := by
  induction l with
  | nil => intro b hb; cases hb
  | cons x l ih =>
    have hb := (mask_bounds l).1
    rw [mask] at h
    cases x
    · simp at h
      intro b hm
      rcases List.mem_cons.1 hm with e | hm
      · exact e
      · exact ih (by omega) b hm
    · simp at h; omega
/-- the reasons against a candidate -/
def reasons (r : Rul) (c : Cand) : Int := mask (truths r c)
theorem reasons_bounds (r : Rul) (c : Cand) : 0 ≤ reasons r c ∧ reasons r c < 128 := by
  have := mask_bounds (truths r c)
  rw [truths_len] at this
  exact ⟨this.1, by have := this.2; unfold reasons; omega⟩
/-- the code of rules and candidates -/
noncomputable def codeC (r : Rul) (cs : List Cand) : Int := if areRul r = true ∧ cs.length ≤ 60 ∧ cs.all isCand = true then 0 else 1
theorem codeC_cases (r : Rul) (cs : List Cand) : (codeC r cs = 0 ∧ areRul r = true ∧ cs.length ≤ 60 ∧ cs.all isCand = true) ∨ codeC r cs = 1 := by
  unfold codeC; split
  · exact .inl ⟨rfl, by assumption⟩
  · exact .inr rfl
theorem codeC_rul {r : Rul} {cs : List Cand} (h : areRul r = false) : codeC r cs = 1 := by rw [codeC, if_neg (by rw [h]; simp)]
theorem codeC_long {r : Rul} {cs : List Cand} (h : 60 < cs.length) : codeC r cs = 1 := by rw [codeC, if_neg (by omega)]
theorem codeC_cand {r : Rul} {cs : List Cand} {k : Nat} {c : Cand} (hc : cs[k]? = some c) (h : isCand c = false) : codeC r cs = 1 := by
  rw [codeC, if_neg]
  intro hh
  have := List.all_eq_true.1 hh.2.2 c (List.mem_of_getElem? hc)
  rw [h] at this; cases this
theorem codeC_end {r : Rul} {cs : List Cand} {k : Nat} (h : ∀ i c, i < k → cs[i]? = some c → isCand c = true) (hk : cs.length ≤ k) (hr : areRul r = true) (hl : cs.length ≤ 60) : codeC r cs = 0 := by
  rw [codeC, if_pos]
  refine ⟨hr, hl, List.all_eq_true.2 fun c hc => ?_⟩
  obtain ⟨i, hi⟩ := List.mem_iff_getElem?.1 hc
  exact h i c (by have := (List.getElem?_eq_some_iff.1 hi).1; omega) hi
theorem all_next {cs : List Cand} {k : Nat} {c : Cand} (h : ∀ i x, i < k → cs[i]? = some x → isCand x = true) (hc : cs[k]? = some c) (h' : isCand c = true) : ∀ i x, i < k + 1 → cs[i]? = some x → isCand x = true := by
  intro i x hi hx
  by_cases e : i = k
  · subst e; rw [hc] at hx; cases hx; exact h'
  · exact h i x (by omega) hx

/-! the answers -/
noncomputable def reasonsR (r : Rul) (c : Cand) : Int × Int := if codeC r [c] = 0 then (reasons r c, 0) else (0, 1)
def qualB (r : Rul) (c : Cand) : Bool := decide (reasons r c = 0)
noncomputable def qualR (r : Rul) (c : Cand) : Bool × Int := if codeC r [c] = 0 then (qualB r c, 0) else (false, 1)
def qualAt (r : Rul) (cs : List Cand) (i : Nat) : Bool := match cs[i]? with | some c => qualB r c | none => false
/-- the places of those of the first k who are qualified -/
def qualTo (r : Rul) (cs : List Cand) (k : Nat) : List Int := ((List.range k).filter (qualAt r cs)).map (fun (i : Nat) => (i : Int))
theorem qualTo_zero (r : Rul) (cs : List Cand) : qualTo r cs 0 = [] := rfl
theorem qualTo_yes {r : Rul} {cs : List Cand} {k : Nat} {c : Cand} (hc : cs[k]? = some c) (h : qualB r c = true) : qualTo r cs (k + 1) = qualTo r cs k ++ [(k : Int)] := by
  unfold qualTo; rw [List.range_succ, List.filter_append, List.map_append]; simp [qualAt, hc, h]
theorem qualTo_no {r : Rul} {cs : List Cand} {k : Nat} {c : Cand} (hc : cs[k]? = some c) (h : qualB r c = false) : qualTo r cs (k + 1) = qualTo r cs k := by
  unfold qualTo; rw [List.range_succ, List.filter_append, List.map_append]; simp [qualAt, hc, h]
theorem qualTo_len (r : Rul) (cs : List Cand) (k : Nat) : (qualTo r cs k).length ≤ k := by
  unfold qualTo; rw [List.length_map]; exact Nat.le_trans (List.length_filter_le _ _) (by simp)
noncomputable def qualOfR (r : Rul) (cs : List Cand) : List Int × Int := if codeC r cs = 0 then (qualTo r cs cs.length, 0) else ([], 1)
/-- one for a reason that holds -/
def bitI (l : List Bool) (j : Nat) : Int := if l.getD j false then 1 else 0
theorem bitI_of {l : List Bool} {j : Nat} {b : Bool} (h : l[j]? = some b) : bitI l j = if b then 1 else 0 := by rw [bitI, List.getD_eq_getElem?_getD, h]; rfl
/-- how many of the first k have the reason j -/
def cntTo (r : Rul) (cs : List Cand) (k j : Nat) : Int := lsum ((cs.take k).map fun c => bitI (truths r c) j)
theorem cntTo_zero (r : Rul) (cs : List Cand) (j : Nat) : cntTo r cs 0 j = 0 := rfl
theorem cntTo_step {r : Rul} {cs : List Cand} {k : Nat} {c : Cand} (hc : cs[k]? = some c) (j : Nat) : cntTo r cs (k + 1) j = cntTo r cs k j + bitI (truths r c) j := by
  obtain ⟨hk, rfl⟩ := List.getElem?_eq_some_iff.1 hc
  unfold cntTo; rw [List.take_succ_eq_append_getElem hk, List.map_append, lsum_append]; simp [lsum]
theorem bitI_bounds (l : List Bool) (j : Nat) : 0 ≤ bitI l j ∧ bitI l j ≤ 1 := by unfold bitI; split <;> omega
theorem lsum01 {xs : List Int} (h : ∀ x ∈ xs, 0 ≤ x ∧ x ≤ 1) : 0 ≤ lsum xs ∧ lsum xs ≤ xs.length := by
  induction xs with
  | nil => simp [lsum]
  | cons x l ih =>
    have h1 := h x (List.mem_cons_self ..)
    have h2 := ih fun y hy => h y (List.mem_cons_of_mem _ hy)
    simp only [lsum, List.length_cons]; omega
theorem cntTo_bounds (r : Rul) (cs : List Cand) (k j : Nat) : 0 ≤ cntTo r cs k j ∧ cntTo r cs k j ≤ k := by
  have := lsum01 (xs := (cs.take k).map fun c => bitI (truths r c) j) fun x hx => by
    obtain ⟨c, _, rfl⟩ := List.mem_map.1 hx; exact bitI_bounds _ _
  have h2 : ((cs.take k).map fun c => bitI (truths r c) j).length ≤ k := by rw [List.length_map, List.length_take]; omega
  unfold cntTo; omega
def countL (r : Rul) (cs : List Cand) : List Int := (List.range 7).map (cntTo r cs cs.length)
noncomputable def countR (r : Rul) (cs : List Cand) : List Int × Int := if codeC r cs = 0 then (countL r cs, 0) else ([], 1)
/-- nobody has a reason more often than there are people who are not qualified -/
theorem cnt_qual (r : Rul) (cs : List Cand) (j : Nat) (hj : j < 7) : ∀ k, k ≤ cs.length → cntTo r cs k j + (qualTo r cs k).length ≤ k := by
  intro k
  induction k with
  | zero => intro _; simp [cntTo_zero, qualTo_zero]
  | succ k ih =>
    intro hk
    have hc : cs[k]? = some cs[k] := List.getElem?_eq_getElem (by omega)
    have h := ih (by omega)
    rw [cntTo_step hc]
    have hb := bitI_bounds (truths r cs[k]) j
    cases hq : qualB r cs[k]
    · rw [qualTo_no hc hq]; omega
    · rw [qualTo_yes hc hq, List.length_append]
      have hz := mask_zero (of_decide_eq_true hq)
      have hl : j < (truths r cs[k]).length := hj
      have : bitI (truths r cs[k]) j = 0 := by
        rw [bitI_of (List.getElem?_eq_getElem hl), hz _ (List.getElem_mem hl)]; rfl
      simp only [List.length_cons, List.length_nil]; omega

/-- y is the first year, not before the rules' own, in which c is qualified -/
def IsFirst (r : Rul) (c : Cand) (y : Int) : Prop := r.year ≤ y ∧ y ≤ 2200 ∧ qualB { r with year := y } c = true ∧ ∀ x, r.year ≤ x → x < y → qualB { r with year := x } c = false
theorem isFirst_inj {r : Rul} {c : Cand} {y y' : Int} (h : IsFirst r c y) (h' : IsFirst r c y') : y = y' := by
  rcases Int.lt_trichotomy y y' with e | e | e
  · have := h'.2.2.2 y h.1 e; rw [h.2.2.1] at this; cases this
  · exact e
  · have := h.2.2.2 y' h'.1 e; rw [h'.2.2.1] at this; cases this
noncomputable def fromY (r : Rul) (c : Cand) : Int × Int := @ite _ (∃ y, IsFirst r c y) (Classical.propDecidable _) (Classical.epsilon (IsFirst r c), 0) (0, 4)
noncomputable def fromR (r : Rul) (c : Cand) : Int × Int := if codeC r [c] = 0 then fromY r c else (0, 1)
theorem fromY_some {r : Rul} {c : Cand} {y : Int} (h : IsFirst r c y) : fromY r c = (y, 0) := by
  have he : ∃ y, IsFirst r c y := ⟨y, h⟩
  rw [fromY, if_pos he, isFirst_inj (Classical.epsilon_spec he) h]
theorem fromY_none {r : Rul} {c : Cand} (h : ¬ ∃ y, IsFirst r c y) : fromY r c = (0, 4) := by rw [fromY, if_neg h]
theorem fromY_cases (r : Rul) (c : Cand) : (∃ y, IsFirst r c y ∧ fromY r c = (y, 0)) ∨ fromY r c = (0, 4) := by
  by_cases h : ∃ y, IsFirst r c y
  · obtain ⟨y, hy⟩ := h; exact .inl ⟨y, hy, fromY_some hy⟩
  · exact .inr (fromY_none h)
theorem fromY_found {r : Rul} {c : Cand} {y : Int} (h0 : r.year ≤ y) (h1 : y ≤ 2200) (hno : ∀ x, r.year ≤ x → x < y → qualB { r with year := x } c = false) (h : qualB { r with year := y } c = true) : fromY r c = (y, 0) :=
  fromY_some ⟨h0, h1, h, hno⟩
theorem fromY_end {r : Rul} {c : Cand} {y : Int} (h1 : 2200 < y) (hno : ∀ x, r.year ≤ x → x < y → qualB { r with year := x } c = false) : fromY r c = (0, 4) :=
  fromY_none fun ⟨x, h⟩ => by have := hno x h.1 (by have := h.2.1; omega); rw [h.2.2.1] at this; cases this
theorem no_next {r : Rul} {c : Cand} {y : Int} (hno : ∀ x, r.year ≤ x → x < y → qualB { r with year := x } c = false) (h : qualB { r with year := y } c = false) : ∀ x, r.year ≤ x → x < y + 1 → qualB { r with year := x } c = false := by
  intro x h0 h1
  by_cases e : x = y
  · subst e; exact h
  · exact hno x h0 (by omega)

/-! the words of reasons -/
def names7 : List ByteArray := [⟨#[121, 111, 117, 110, 103]⟩, ⟨#[111, 108, 100]⟩, ⟨#[122, 111, 110, 101]⟩, ⟨#[102, 111, 114, 101, 105, 103, 110]⟩, ⟨#[99, 111, 110, 118, 105, 99, 116, 101, 100]⟩, ⟨#[108, 97, 110, 103, 117, 97, 103, 101]⟩, ⟨#[106, 111, 98]⟩]
/-- does the bit i of n hold? -/
def bitN (n i : Nat) : Bool := decide (n / 2 ^ i % 2 = 1)
def namesTo (n k : Nat) : List ByteArray := ((List.range k).filter (bitN n)).map fun i => names7.getD i ByteArray.empty
theorem namesTo_zero (n : Nat) : namesTo n 0 = [] := rfl
theorem namesTo_yes {n k : Nat} {s : ByteArray} (hs : names7[k]? = some s) (h : bitN n k = true) : namesTo n (k + 1) = namesTo n k ++ [s] := by
  unfold namesTo; rw [List.range_succ, List.filter_append, List.map_append]; simp [h, List.getD_eq_getElem?_getD, hs]
theorem namesTo_no {n k : Nat} (h : bitN n k = false) : namesTo n (k + 1) = namesTo n k := by
  unfold namesTo; rw [List.range_succ, List.filter_append, List.map_append]; simp [h]
theorem namesTo_len (n k : Nat) : (namesTo n k).length ≤ k := by
  unfold namesTo; rw [List.length_map]; exact Nat.le_trans (List.length_filter_le _ _) (by simp)
def textR (n : Int) : ByteArray × Int := if inR n 0 127 = true then (wordsT (namesTo n.toNat 7), 0) else (⟨#[]⟩, 1)

end Go.Proofs.Ytjnjmoiilapbiaa.Pure61
