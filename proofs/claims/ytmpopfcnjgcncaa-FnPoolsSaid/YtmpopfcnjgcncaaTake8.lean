/- Contract: (impl.Pool).afterDraws returns the pool after draws, in new memory. -/
import Derived.RangeFuncNested
import Derived.RangeFuncBound
import Derived.RangeFuncCalls
import Derived.RangeFuncLeaves
import Derived.RangeFuncFrom
import Derived.Shelf.Abstract
import Derived.Shelf.RegionOpen
import Derived.WalkKit
import Derived.OwnWalkIn
import Derived.TacticsInMore
import Derived.LoopNIn
import Derived.LoopIn
import Derived.Deep.OwnRows
import Derived.Test.YtmpopfcnjgcncaaChecked
import Derived.Test.YtmpopfcnjgcncaaBase
import Derived.Test.YtmpopfcnjgcncaaInfo
import Derived.Test.YtmpopfcnjgcncaaPure40
import Derived.Test.YtmpopfcnjgcncaaPure80
import Derived.Test.YtmpopfcnjgcncaaPure83
import Derived.Test.YtmpopfcnjgcncaaPure84
import Derived.Test.YtmpopfcnjgcncaaIntL
import Derived.Test.YtmpopfcnjgcncaaBuildI
import Derived.Test.YtmpopfcnjgcncaaBuild8
import Derived.Test.YtmpopfcnjgcncaaRowV
import Derived.Test.YtmpopfcnjgcncaaPoolA
import Derived.Test.YtmpopfcnjgcncaaFacts3
import Derived.Test.YtmpopfcnjgcncaaSt8
import Derived.Test.YtmpopfcnjgcncaaSeq8
import Derived.Test.YtmpopfcnjgcncaaVals8
import Derived.Test.YtmpopfcnjgcncaaSpec80
import Derived.Test.YtmpopfcnjgcncaaImpl8c
import Derived.Lib.Hide
namespace Go.Proofs.Ytmpopfcnjgcncaa
open Go.RowKit Go.Shelf Pure1 Pure2 Pure30 Pure31 Pure40 Pure60 Pure80 Pure83 Pure84 Rec

/-- a list of our own lies in no row of another type -/
theorem build_ne {B g : Nat} {w : World} {v : Value} {zs : List Int} {T : TypeId} {vs : List Value} (h : BuildI B w v zs) (hr : RowV g w T vs) (hT : T ≠ 2) : v.ownBlock ≠ some g := by
  intro e
  obtain ⟨f, ⟨cur, hg, _⟩, _⟩ := hr
  rcases h.2 with ⟨rfl, _⟩ | ⟨k, cap, c, rfl, hB, hh, rest⟩
  · cases e
  · cases e; rw [hg] at hh; cases hh; exact hT rfl
theorem row_ne {g g' : Nat} {w : World} {T T' : TypeId} {vs vs' : List Value} (h : RowV g w T vs) (h' : RowV g' w T' vs') (hT : T ≠ T') : g ≠ g' := by
  rintro rfl
  obtain ⟨f, ⟨cur, hg, _⟩, _⟩ := h
  obtain ⟨f', ⟨cur', hg', _⟩, _⟩ := h'
  rw [hg] at hg'; cases hg'; exact hT rfl
theorem keepsOthers_below {W W' : World} (h : Below W.heap.size W W') : KeepsOthers W W' := ⟨h.size, fun k o hk _ => (h.block k (Array.getElem?_eq_some_iff.1 hk).1).trans hk⟩

/-- how the world turns while a row of some type is written -/
def Turn1 (B : Nat) (T : TypeId) (n : Nat) (w w' : World) : Prop := ∃ g vs vs', B ≤ g ∧ RowV g w T vs ∧ vs.length = n ∧ RowV g w' T vs' ∧ vs'.length = n ∧ w.grownBy w' (some g)
/-- .. by an operation of afterDraws' first region -/
def TurnA (B : Nat) (i : Nat) (w w' : World) : Prop := if i = 6 then Turn1 B 26 3 w w' else if i = 7 then Turn1 B 24 1 w w' else Below w.heap.size w w'
theorem turnA_build {B C i : Nat} {w w' : World} {v : Value} {zs : List Int} (h : BuildI C w v zs) (ht : TurnA B i w w') : BuildI C w' v zs := by
  unfold TurnA at ht
  split at ht
  · obtain ⟨g, vs, vs', hB, hr, hn, hr', hn', hg⟩ := ht
    exact h.kept hg (fun k hk e => build_ne h hr (by decide) (by rw [hk, e]))
  · split at ht
    · obtain ⟨g, vs, vs', hB, hr, hn, hr', hn', hg⟩ := ht
      exact h.kept hg (fun k hk e => build_ne h hr (by decide) (by rw [hk, e]))
    · exact h.below ht
theorem turn1_other {B n g : Nat} {T T' : TypeId} {w w' : World} {vs : List Value} (h : RowV g w T vs) (ht : Turn1 B T' n w w') (hT : T ≠ T') : RowV g w' T vs := by
  obtain ⟨g', us, us', hB, hr, hn, hr', hn', hg⟩ := ht
  exact h.grown hg (fun k e => by cases e; exact row_ne h hr hT)
theorem turn1_same {B n g : Nat} {T : TypeId} {w w' : World} {vs : List Value} (h : RowV g w T vs) (hl : vs.length = n) (ht : Turn1 B T n w w') : ∃ vs', RowV g w' T vs' ∧ vs'.length = n := by
  obtain ⟨g', us, us', hB, hr, hn, hr', hn', hg⟩ := ht
  by_cases e : g = g'
  · subst e; exact ⟨_, hr', hn'⟩
  · exact ⟨vs, h.grown hg (fun k e2 => by cases e2; exact e), hl⟩
/-- some row of a type, somewhere from B on -/
def SomeRow (B : Nat) (T : TypeId) (n : Nat) (v : Value) (w : World) : Prop := ∃ g vs, v = .pointer (some ⟨g, 0, none⟩) ∧ B ≤ g ∧ RowV g w T vs ∧ vs.length = n
/-- what each operation of afterDraws' first region leaves -/
def FactA (B : Nat) (p : PoolV) (pv : Value) : Nat → Value → (Operand → Value) → World → Prop
  | 0, v, _, _ | 2, v, _, _ => v = pv
  | 1, v, _, w => ∃ v0 v1, v = .agg #[v0, v1, .int .i64 p.state] ∧ BuildI B w v0 p.nums ∧ BuildI B w v1 p.drawn ∧ ApartV v0 v1
  | 3, v, ev, w => BuildI B w v (leftL p.nums p.drawn) ∧ ∃ v0 v1, ev (.tmp 11) = .agg #[v0, v1, .int .i64 p.state] ∧ ApartV v0 v ∧ ApartV v1 v
  | 4, v, _, w => SomeRow B 26 3 v w
  | 5, v, _, w => SomeRow B 24 1 v w
  | 6, _, ev, w => ∃ g v0 v1, ev (.tmp 5) = .pointer (some ⟨g, 0, none⟩) ∧ ev (.tmp 11) = .agg #[v0, v1, .int .i64 p.state] ∧ B ≤ g ∧ RowV g w 26 [v0, v1, .int .i64 p.state]
  | 7, _, ev, w => ∃ g, ev (.tmp 6) = .pointer (some ⟨g, 0, none⟩) ∧ B ≤ g ∧ RowV g w 24 [ev (.tmp 13)]
  | _, _, _, _ => True
def depsA : Nat → List Nat
  | 3 => [11]
  | 6 => [5, 11]
  | 7 => [6, 13]
  | _ => []
theorem factA_stab {B : Nat} {p : PoolV} {pv : Value} (j : Nat) (v : Value) (ev ev' : Operand → Value) (w : World) (h : ∀ t ∈ depsA j, ev (.tmp t) = ev' (.tmp t)) (hf : FactA B p pv j v ev w) : FactA B p pv j v ev' w := by
  match j with
  | 0 => exact hf
  | 1 => exact hf
  | 2 => exact hf
  | 3 =>
    have h1 := h 11 (by simp [depsA])
    simp only [FactA] at hf ⊢
    rw [← h1]; exact hf
  | 4 => exact hf
  | 5 => exact hf
  | 6 =>
    have h1 := h 11 (by simp [depsA]); have h2 := h 5 (by simp [depsA])
    simp only [FactA] at hf ⊢
    rw [← h1, ← h2]; exact hf
  | 7 =>
    have h1 := h 6 (by simp [depsA]); have h2 := h 13 (by simp [depsA])
    simp only [FactA] at hf ⊢
    rw [← h1, ← h2]; exact hf
  | n + 8 => trivial
theorem someRow_turn {B i n : Nat} {T : TypeId} {v : Value} {w w' : World} (hT : (T = 26 ∧ n = 3) ∨ (T = 24 ∧ n = 1)) (h : SomeRow B T n v w) (ht : TurnA B i w w') : SomeRow B T n v w' := by
  obtain ⟨g, vs, e, hB, hr, hl⟩ := h
  unfold TurnA at ht
  split at ht
  · rcases hT with ⟨rfl, rfl⟩ | ⟨rfl, rfl⟩
    · obtain ⟨vs', h1, h2⟩ := turn1_same hr hl ht; exact ⟨g, vs', e, hB, h1, h2⟩
    · exact ⟨g, vs, e, hB, turn1_other hr ht (by decide), hl⟩
  · split at ht
    · rcases hT with ⟨rfl, rfl⟩ | ⟨rfl, rfl⟩
      · exact ⟨g, vs, e, hB, turn1_other hr ht (by decide), hl⟩
      · obtain ⟨vs', h1, h2⟩ := turn1_same hr hl ht; exact ⟨g, vs', e, hB, h1, h2⟩
    · exact ⟨g, vs, e, hB, hr.below ht, hl⟩
theorem factA_mono {B : Nat} {p : PoolV} {pv : Value} (i j : Nat) (v : Value) (ev : Operand → Value) (w w' : World) (hij : (i != j) = true) (h7 : j = 7 → i ≠ 6) (hf : FactA B p pv j v ev w) (hR : TurnA B i w w') : FactA B p pv j v ev w' := by
  match j with
  | 0 => exact hf
  | 1 =>
    obtain ⟨v0, v1, e, h0, h1, ha⟩ := hf
    exact ⟨v0, v1, e, turnA_build h0 hR, turnA_build h1 hR, ha⟩
  | 2 => exact hf
  | 3 => exact ⟨turnA_build hf.1 hR, hf.2⟩
  | 4 => exact someRow_turn (.inl ⟨rfl, rfl⟩) hf hR
  | 5 => exact someRow_turn (.inr ⟨rfl, rfl⟩) hf hR
  | 6 =>
    obtain ⟨g, v0, v1, e1, e2, hB, hr⟩ := hf
    refine ⟨g, v0, v1, e1, e2, hB, ?_⟩
    unfold TurnA at hR
    rw [if_neg (by simpa using hij)] at hR
    split at hR
    · exact turn1_other hr hR (by decide)
    · exact hr.below hR
  | 7 =>
    obtain ⟨g, e, hB, hr⟩ := hf
    refine ⟨g, e, hB, ?_⟩
    unfold TurnA at hR
    rw [if_neg (h7 rfl), if_neg (by simpa using hij)] at hR
    exact hr.below hR
  | n + 8 => trivial

theorem rowV_own {W W' : World} {row : Option Nat} {b : Nat} {T : TypeId} {vs : List Value} (h : RowV b W T vs) (hg : W.grownBy W' row) (hr : ∀ r, row = some r → ∃ o : Obj, W.heap[r]? = some o ∧ o.isCells = false) : RowV b W' T vs := by
  obtain ⟨f, hf, h2⟩ := h; exact ⟨f, row_own hf hg hr, h2⟩
/-- between two draws: the pool in block g5, who is left in block g6 -/
def InvT (B rv g5 g6 : Nat) (v0 : Value) (p : PoolV) (d : List Int × Int) (W : World) : Prop :=
  ∃ v1 vL, RowV g5 W 26 [v0, v1, .int .i64 d.2] ∧ RowV g6 W 24 [vL] ∧ RowV rv W 26 [.slice none 0 0, .slice none 0 0, .int .i64 0] ∧ BuildI B W v0 p.nums ∧ BuildI B W v1 d.1 ∧ BuildI B W vL (leftL p.nums d.1) ∧ ApartV v0 v1 ∧ ApartV v0 vL ∧ ApartV v1 vL
theorem InvT.own {B rv g5 g6 : Nat} {v0 : Value} {p : PoolV} {d : List Int × Int} {W W' : World} {row : Option Nat} (h : InvT B rv g5 g6 v0 p d W) (hg : W.grownBy W' row) (hr : ∀ r, row = some r → ∃ o : Obj, W.heap[r]? = some o ∧ o.isCells = false) : InvT B rv g5 g6 v0 p d W' := by
  obtain ⟨v1, vL, h1, h2, h3, h4, h5, h6, h7⟩ := h
  exact ⟨v1, vL, rowV_own h1 hg hr, rowV_own h2 hg hr, rowV_own h3 hg hr, build_own h4 hg hr, build_own h5 hg hr, build_own h6 hg hr, h7⟩

/-- what the round's drawn region leaves alone -/
structure KeptB (B rv g6 : Nat) (v0 vL : Value) (ns ls : List Int) (w W2 W : World) : Prop where
  r6 : RowV g6 W 24 [vL]
  rr : RowV rv W 26 [.slice none 0 0, .slice none 0 0, .int .i64 0]
  n0 : BuildI B W v0 ns
  nL : BuildI B W vL ls
  below : Below w.heap.size w W
  others : KeepsOthers W2 W
  size : W2.heap.size ≤ W.heap.size
theorem KeptB.later {B rv g6 : Nat} {v0 vL : Value} {ns ls : List Int} {w W2 W W' : World} (h : KeptB B rv g6 v0 vL ns ls w W2 W) (hb : Below W.heap.size W W') : KeptB B rv g6 v0 vL ns ls w W2 W' :=
  ⟨h.r6.below hb, h.rr.below hb, h.n0.below hb, h.nL.below hb, h.below.trans (hb.mono h.below.size), h.others.trans (keepsOthers_below hb), Nat.le_trans h.size hb.size⟩
/-- a value's own block is that of another, or a new one -/
def NewOr (s : Nat) (v1 v : Value) : Prop := ∀ q, v.ownBlock = some q → v1.ownBlock = some q ∨ s ≤ q
/-- what each operation of the round's drawn region leaves -/
def FactB (B s g5 : Nat) (v0 v1 vL : Value) (st : Int) (ds : List Int) (idx bL oL : Nat) (y : Int) : Nat → Value → (Operand → Value) → World → Prop
  | 0, v, _, _ | 8, v, _, _ => v = .pointer (some ⟨g5, 1, none⟩)
  | 1, v, _, w => v = v1 ∧ BuildI B w v1 ds
  | 2, v, _, _ => v = vL
  | 3, v, _, _ => v = .int .i64 (idx : Int)
  | 4, v, _, _ => v = .pointer (some ⟨bL, oL + idx, none⟩)
  | 5, v, _, _ => v = .int .i64 y
  | 6, v, _, w => ∃ g, v = .slice (some ⟨g, 0, none⟩) 1 1 ∧ s ≤ g ∧ w.cell? ⟨g, 0, none⟩ = some (.int .i64 y)
  | 7, v, _, w => BuildI B w v (ds ++ [y]) ∧ NewOr s v1 v
  | 9, _, _, w => ∃ v', RowV g5 w 26 [v0, v', .int .i64 st] ∧ BuildI B w v' (ds ++ [y]) ∧ NewOr s v1 v'
  | _, _, _, _ => True
/-- how the world turns by each of them -/
def TurnB (g5 : Nat) (v1 : Value) (i : Nat) (w w' : World) : Prop := if i = 7 then w.grownBy w' v1.ownBlock else if i = 9 then (∃ vs, RowV g5 w 26 vs) ∧ w.grownBy w' (some g5) else Below w.heap.size w w'
theorem factB_mono {B s g5 : Nat} {v0 v1 vL : Value} {st : Int} {ds : List Int} {idx bL oL : Nat} {y : Int} (hs : ∀ q, v1.ownBlock = some q → q < s) (i j : Nat) (v : Value) (ev : Operand → Value) (w w' : World) (hij : i ≠ j) (h1 : j = 1 ∨ j = 6 → i ≠ 7 ∧ i ≠ 9) (hj9 : j ≠ 9) (h97 : j = 7 → i ≠ 7)
    (hf : FactB B s g5 v0 v1 vL st ds idx bL oL y j v ev w) (hR : TurnB g5 v1 i w w') : FactB B s g5 v0 v1 vL st ds idx bL oL y j v ev w' := by
  match j with
  | 0 => exact hf
  | 1 =>
    obtain ⟨e, h⟩ := hf
    obtain ⟨n7, n9⟩ := h1 (.inl rfl)
    unfold TurnB at hR
    rw [if_neg n7, if_neg n9] at hR
    exact ⟨e, h.below hR⟩
  | 2 => exact hf
  | 3 => exact hf
  | 4 => exact hf
  | 5 => exact hf
  | 6 =>
    obtain ⟨g, e, h, hc⟩ := hf
    obtain ⟨n7, n9⟩ := h1 (.inr rfl)
    unfold TurnB at hR
    rw [if_neg n7, if_neg n9] at hR
    exact ⟨g, e, h, cell_later hR hc⟩
  | 7 =>
    obtain ⟨h, hn⟩ := hf
    refine ⟨?_, hn⟩
    unfold TurnB at hR
    rw [if_neg (h97 rfl)] at hR
    split at hR
    · obtain ⟨⟨vs, hr⟩, hg⟩ := hR
      exact h.kept hg (fun k hk e => build_ne h hr (by decide) (by rw [hk, e]))
    · exact h.below hR
  | 8 => exact hf
  | 9 => exact absurd rfl hj9
  | n + 10 => trivial
theorem factB_stab {B s g5 : Nat} {v0 v1 vL : Value} {st : Int} {ds : List Int} {idx bL oL : Nat} {y : Int} (j : Nat) (v : Value) (ev ev' : Operand → Value) (w : World) (hf : FactB B s g5 v0 v1 vL st ds idx bL oL y j v ev w) : FactB B s g5 v0 v1 vL st ds idx bL oL y j v ev' w := by
  match j with
  | 0 => exact hf
  | 1 => exact hf
  | 2 => exact hf
  | 3 => exact hf
  | 4 => exact hf
  | 5 => exact hf
  | 6 => exact hf
  | 7 => exact hf
  | 8 => exact hf
  | 9 => exact hf
  | n + 10 => trivial
theorem stepIn_append {F : Fence} {m : Nat} {B : Nat} {o : Oper} {ev : Operand → Value} {w : World} {K : Value → World → Prop} (s x : Operand) (ho : o.op = .call { callee := .builtin .append, args := #[s, x], argTypes := #[24, 24] })
    (v : Value) (zs : List Int) (hs : ev s = v) (h : BuildI B w v zs) (b : Nat) (y : Int) (hx : ev x = .slice (some ⟨b, 0, none⟩) 1 1) (hc : w.cell? ⟨b, 0, none⟩ = some (.int .i64 y))
    (hl : zs.length ≤ 1000000) (hB : B ≤ w.heap.size)
    (hk : ∀ v' w', BuildI B w' v' (zs ++ [y]) → w.grownBy w' v.ownBlock → (v'.ownBlock = v.ownBlock ∨ v'.ownBlock = some w.heap.size) → K v' w') : stepIn F m Try.prog ((execOp ev o).run Try.prog w) K := by
  obtain ⟨i0, hi, hz0, hz1, hz2⟩ := info_parts Try.info_i64
  obtain ⟨v', w', hr, h2, h3, h4, h5⟩ := run_append_own_at (P := Try.prog) w B 24 o.type 2 i0 (.int .i64 0) 1 8 Try.underlying24 hi hz0 hz1 hz2 rfl (by decide) v zs.length _ h ⟨b, 0, none⟩ 1 1 [.int .i64 y] rfl (by
    intro j u hu
    have hj := (List.getElem?_eq_some_iff.1 hu).1
    simp at hj; subst hj
    simp at hu; subst hu
    simpa [Addr.add] using hc) (by intro u hu; simp at hu; subst hu; rfl) (by unfold maxLen; omega) (by omega) hB
  have hk2 := hk v' w' (by unfold BuildI; rw [List.length_append, List.map_append]; exact h2) h3 h5
  simp [stepIn, execOp, ho, resolve, invoke, builtin, hs, hx, hr, Result.andThen]
  exact hk2

theorem cell_below {B b i : Nat} {w0 w : World} {v : Value} (h : w0.cell? ⟨b, i, none⟩ = some v) (hb : Below B w0 w) (hlt : b < B) : w.cell? ⟨b, i, none⟩ = some v := (hb.cell (p := ⟨b, i, none⟩) hlt).trans h

section
attribute [local go_sem] Oper.semAt_some

set_option maxRecDepth 100000 in
set_option maxHeartbeats 8000000 in
theorem implAfter8_any (a0 : Option Addr) (l0 c0 : Nat) (a1 : Option Addr) (l1 c1 : Nat) (p : PoolV) (K : Nat) (w : World) (hI : PoolV.In w a0 l0 a1 l1 p) (hn0 : a0 = none → l0 = 0 ∧ c0 = 0) (hn1 : a1 = none → l1 = 0 ∧ c1 = 0) (hp : isPool p = true) (hK : p.drawn.length + K ≤ p.nums.length) :
    Calls Try.prog 50 #[.agg #[.slice a0 l0 c0, .slice a1 l1 c1, .int .i64 p.state], .int .i64 (K : Int)] w (SaysCopy ⟨p.nums, (drawN p.nums p.drawn p.state K).1, (drawN p.nums p.drawn p.state K).2⟩ w) := by
  have hl60 : l0 ≤ 60 := by have h1 := pool_len hp; have h2 := hI.1.1; omega
  have hl61 : l1 ≤ 60 := by have h1 := pool_len hp; have h2 := hI.2.1; have h3 := pool_dlen hp; omega
  have hK60 : K ≤ 60 := by have h1 := pool_len hp; omega
  have hw1 : (w.alloc (.cells #[.slice a0 l0 c0, .slice a1 l1 c1, .int .i64 p.state] 26)).heap.size = w.heap.size + 1 := by simp
  have HW := Lib.hid (boxes2 w (.cells #[.slice a0 l0 c0, .slice a1 l1 c1, .int .i64 p.state] 26) (.cells #[.slice none 0 0, .slice none 0 0, .int .i64 0] 26))
  have HX := Lib.hid ((PoolV.boxed w a0 l0 c0 a1 l1 c1 p 26).below (boxed _ (.cells #[.slice none 0 0, .slice none 0 0, .int .i64 0] 26)))
  have hrow := rowV_box (w.alloc (.cells #[.slice a0 l0 c0, .slice a1 l1 c1, .int .i64 p.state] 26)) 26 [.slice none 0 0, .slice none 0 0, .int .i64 0]
  rw [hw1] at hrow
  have HP := Lib.hid hrow
  have HI := Lib.hid hI
  have hsz : ((w.alloc (.cells #[.slice a0 l0 c0, .slice a1 l1 c1, .int .i64 p.state] 26)).alloc (.cells #[.slice none 0 0, .slice none 0 0, .int .i64 0] 26)).heap.size = w.heap.size + 2 := by simp
  have HN0 := Lib.hid hn0; have HN1 := Lib.hid hn1
  have HH := Lib.hid hp; have HKK := Lib.hid hK
  clear hrow hI hw1 hn0 hn1 hp hK
  refine (callsIn_wide (n := 6)).1 ?_
  refine callsIn_of_wp_marks Try.func50 rfl trivial ?_ rfl
  simp only [Try.ntmps50, List.size_toArray, List.length_cons, List.length_nil, Nat.reduceAdd, Nat.reduceSub, Array.replicate_succ, Array.replicate_zero, List.push_toArray, List.append_toArray, List.nil_append, List.cons_append]
  gi_wp2
  generalize (w.alloc (.cells #[.slice a0 l0 c0, .slice a1 l1 c1, .int .i64 p.state] 26)).alloc (.cells #[.slice none 0 0, .slice none 0 0, .int .i64 0] 26) = w0 at HW HX HP hsz ⊢
  obtain ⟨B, hB⟩ : ∃ B, w.heap.size + 2 = B := ⟨_, rfl⟩
  rw [hB] at hsz
  refine wpIn_region_facts3 (sz := 39) (fun _ => trivial) [0, 1, 2, 4] (by kernel_rfl) (by kernel_rfl) (by kernel_rfl) (by kernel_rfl) (fun _ => none) (fun i j => i != j && !(j == 7 && i == 6)) (by kernel_rfl) (by kernel_rfl) depsA (by kernel_rfl) 7 (fun _ => false) (by kernel_rfl)
    (fun W => Below B w0 W) (fun W => Below B w0 W) (TurnA B) (FactA B p (.agg #[.slice a0 l0 c0, .slice a1 l1 c1, .int .i64 p.state])) rfl (by rw [← hsz]; exact (Below.refl _ _).drew) (fun j v ev ev' W h hf => factA_stab j v ev ev' W h hf)
    (fun i j v ev W W' _ _ hk hf hR => factA_mono i j v ev W W' (by revert hk; cases i != j <;> simp) (fun e1 e2 => by subst e1 e2; simp at hk) hf hR) ?_ ?_
  · intro i o ho
    have HI0 := Lib.hid (HI.out.below HW.out)
    match i, ho with
    | 0, ho =>
      cases ho
      intro ev W hc hfn hb hG hd
      have hGs : B ≤ W.heap.size := by have := hG.size; omega
      have h2 : ev (.tmp 2) = .pointer (some ⟨w.heap.size, 0, none⟩) := hb 2 (by simp)
      have x0 := cell_below HX.out.1 hG (by omega); have x1 := cell_below HX.out.2.1 hG (by omega); have x2 := cell_below HX.out.2.2 hG (by omega)
      refine stepIn_gen fun K' hK => ?_
      simp [go_sem, stepIn, hc, hfn, h2, x0, x1, x2]
      exact hK _ _ ⟨hG, Below.refl _ _, (fun h => by cases h), rfl⟩
    | 1, ho =>
      cases ho
      intro ev W hc hfn hb hG hd
      have hGs : B ≤ W.heap.size := by have := hG.size; omega
      have h10 : ev (.tmp 10) = .agg #[.slice a0 l0 c0, .slice a1 l1 c1, .int .i64 p.state] := hd { on := 0, ground := .data } (by simp) rfl (.inl rfl) _ rfl
      refine stepIn_gen fun K' hK => ?_
      simp [go_sem, stepIn, hc, hfn, h10]
      refine callsIn_wide.2 ((implCopied8 a0 l0 c0 a1 l1 c1 p W (HI0.out.below (by rw [hsz]; exact hG)) (by omega) (by omega) HN0.out HN1.out).mono ?_)
      rintro e w2 ⟨v0, v1, rfl, h0, h1, ha, hBw⟩
      exact ⟨_, rfl, hK _ _ ⟨hG.trans (hBw.mono hGs), hBw, (fun h => by cases h), v0, v1, rfl, h0.base hGs, h1.base hGs, ha⟩⟩
    | 2, ho =>
      cases ho
      intro ev W hc hfn hb hG hd
      have hGs : B ≤ W.heap.size := by have := hG.size; omega
      have h2 : ev (.tmp 2) = .pointer (some ⟨w.heap.size, 0, none⟩) := hb 2 (by simp)
      have x0 := cell_below HX.out.1 hG (by omega); have x1 := cell_below HX.out.2.1 hG (by omega); have x2 := cell_below HX.out.2.2 hG (by omega)
      refine stepIn_gen fun K' hK => ?_
      simp [go_sem, stepIn, hc, hfn, h2, x0, x1, x2]
      exact hK _ _ ⟨hG, Below.refl _ _, (fun h => by cases h), rfl⟩
    | 3, ho =>
      cases ho
      intro ev W hc hfn hb hG hd
      have hGs : B ≤ W.heap.size := by have := hG.size; omega
      have h12 : ev (.tmp 12) = .agg #[.slice a0 l0 c0, .slice a1 l1 c1, .int .i64 p.state] := hd { on := 2, ground := .data } (by simp) rfl (.inl rfl) _ rfl
      obtain ⟨v0, v1, h11, h0, h1, ha⟩ : ∃ v0 v1, ev (.tmp 11) = .agg #[v0, v1, .int .i64 p.state] ∧ BuildI B W v0 p.nums ∧ BuildI B W v1 p.drawn ∧ ApartV v0 v1 := hd { on := 1, ground := .chain } (by simp) rfl (.inr rfl) _ rfl
      refine stepIn_gen fun K' hK => ?_
      simp [go_sem, stepIn, hc, hfn, h12]
      refine callsIn_wide.2 ((implLeft8 a0 l0 c0 a1 l1 c1 p W (HI0.out.below (by rw [hsz]; exact hG)) HH.out HN0.out).mono ?_)
      rintro e w2 ⟨v, rfl, ho2, hBw⟩
      exact ⟨_, rfl, hK _ _ ⟨hG.trans (hBw.mono hGs), hBw, (fun h => by cases h), ho2.base hGs, v0, v1, h11, apartV_later h0 ho2 (Nat.le_refl _), apartV_later h1 ho2 (Nat.le_refl _)⟩⟩
    | 4, ho =>
      cases ho
      intro ev W hc hfn hb hG hd
      have hGs : B ≤ W.heap.size := by have := hG.size; omega
      refine stepIn_gen fun K' hK => ?_
      simp [go_sem, stepIn, hc, hfn]
      exact hK _ _ ⟨hG.alloc hGs _, boxed _ _, (fun h => by cases h), W.heap.size, _, rfl, hGs, rowV_box W 26 [.slice none 0 0, .slice none 0 0, .int .i64 0], rfl⟩
    | 5, ho =>
      cases ho
      intro ev W hc hfn hb hG hd
      have hGs : B ≤ W.heap.size := by have := hG.size; omega
      refine stepIn_gen fun K' hK => ?_
      simp [go_sem, stepIn, hc, hfn]
      exact hK _ _ ⟨hG.alloc hGs _, boxed _ _, (fun h => by cases h), W.heap.size, _, rfl, hGs, rowV_box W 24 [.slice none 0 0], rfl⟩
    | 6, ho =>
      cases ho
      intro ev W hc hfn hb hG hd
      have hGs : B ≤ W.heap.size := by have := hG.size; omega
      obtain ⟨g, vs, h5, hgB, hr, hl⟩ : SomeRow B 26 3 (ev (.tmp 5)) W := hd { on := 4, ground := .data } (by simp) rfl (.inl rfl) _ rfl
      obtain ⟨v0, v1, h11, h0, h1, ha⟩ : ∃ v0 v1, ev (.tmp 11) = .agg #[v0, v1, .int .i64 p.state] ∧ BuildI B W v0 p.nums ∧ BuildI B W v1 p.drawn ∧ ApartV v0 v1 := hd { on := 1, ground := .data } (by simp) rfl (.inl rfl) _ rfl
      match vs, hl with
      | [u0, u1, u2], _ =>
        have c0 := hr.cell (show _[0]? = some _ from rfl); have c1 := hr.cell (show _[1]? = some _ from rfl); have c2 := hr.cell (show _[2]? = some _ from rfl)
        have g0 := hr.frozen 0; have g1 := hr.frozen 1; have g2 := hr.frozen 2
        obtain ⟨b0, e0, rfl, _⟩ := h0.slice
        obtain ⟨b1, e1, rfl, _⟩ := h1.slice
        have hr3 := ((hr.put 0 (.slice b0 p.nums.length e0)).put 1 (.slice b1 p.drawn.length e1)).put 2 (.int .i64 p.state)
        refine stepIn_gen fun K' hK => ?_
        simp [go_sem, stepIn, hc, hfn, h5, h11, c0, c1, c2, g0, g1, g2]
        have hg := grown_on (grown_on (grown_cell W g 0 (.slice b0 p.nums.length e0)) (grown_cell _ g 1 (.slice b1 p.drawn.length e1))) (grown_cell _ g 2 (.int .i64 p.state))
        exact hK _ _ ⟨((hG.setCell hgB _).setCell hgB _).setCell hgB _, ⟨g, _, _, hgB, hr, rfl, hr3, rfl, hg⟩, (fun _ => rfl), g, _, _, h5, h11, hgB, hr3⟩
    | 7, ho =>
      cases ho
      intro ev W hc hfn hb hG hd
      obtain ⟨g, vs, h6, hgB, hr, hl⟩ : SomeRow B 24 1 (ev (.tmp 6)) W := hd { on := 5, ground := .data } (by simp) rfl (.inl rfl) _ rfl
      obtain ⟨h13, _⟩ : BuildI B W (ev (.tmp 13)) (leftL p.nums p.drawn) ∧ _ := hd { on := 3, ground := .data } (by simp) rfl (.inl rfl) _ rfl
      match vs, hl with
      | [u0], _ =>
        have c0 := hr.cell (show _[0]? = some _ from rfl)
        have g0 := hr.frozen 0
        obtain ⟨b0, e0, h13e, _⟩ := h13.slice
        have hr3 := hr.put 0 (ev (.tmp 13))
        have hg := grown_cell W g 0 (ev (.tmp 13))
        refine stepIn_gen fun K' hK => ?_
        rw [h13e] at hr3 hg
        simp [go_sem, stepIn, hc, hfn, h6, h13e, c0, g0]
        exact hK _ _ ⟨hG.setCell hgB _, ⟨g, _, _, hgB, hr, rfl, hr3, rfl, hg⟩, (fun _ => rfl), g, h6, hgB, by rw [h13e]; exact hr3⟩
    | n + 8, ho => simp at ho
  · intro a W hb hs hdf hG hf
    obtain ⟨v0, v1, h11, hn, hd, ha01⟩ : ∃ v0 v1, a.eval (.tmp 11) = .agg #[v0, v1, .int .i64 p.state] ∧ BuildI B W v0 p.nums ∧ BuildI B W v1 p.drawn ∧ ApartV v0 v1 := hf 1 _ rfl rfl
    obtain ⟨hL, u0, u1, h11b, ha0L, ha1L⟩ : BuildI B W (a.eval (.tmp 13)) (leftL p.nums p.drawn) ∧ ∃ v0 v1, a.eval (.tmp 11) = .agg #[v0, v1, .int .i64 p.state] ∧ ApartV v0 (a.eval (.tmp 13)) ∧ ApartV v1 (a.eval (.tmp 13)) := hf 3 _ rfl rfl
    obtain ⟨g5, t0, t1, h5, h11c, hB5, hr5⟩ : ∃ g v0 v1, a.eval (.tmp 5) = .pointer (some ⟨g, 0, none⟩) ∧ a.eval (.tmp 11) = .agg #[v0, v1, .int .i64 p.state] ∧ B ≤ g ∧ RowV g W 26 [v0, v1, .int .i64 p.state] := hf 6 _ rfl rfl
    obtain ⟨g6, h6, hB6, hr6⟩ : ∃ g, a.eval (.tmp 6) = .pointer (some ⟨g, 0, none⟩) ∧ B ≤ g ∧ RowV g W 24 [a.eval (.tmp 13)] := hf 7 _ rfl rfl
    rw [h11] at h11b h11c
    obtain ⟨rfl, rfl⟩ : v0 = u0 ∧ v1 = u1 := by simpa using h11b
    obtain ⟨rfl, rfl⟩ : v0 = t0 ∧ v1 = t1 := by simpa using h11c
    generalize a.eval (.tmp 13) = vL at hL ha0L ha1L hr6
    have h2 := hb 2 (by simp)
    have h4 := hb 4 (by simp)
    have h1 := hb 1 (by simp)
    have hGs : B ≤ W.heap.size := by have := hG.size; omega
    have x2 := cell_below HX.out.2.2 hG (by omega)
    have hrv := HP.out.below (show Below w0.heap.size w0 W by rw [hsz]; exact hG)
    have HBW := Lib.hid (HW.out.trans (hG.mono (show w.heap.size ≤ B by omega)))
    clear h11b h11c hf hb
    obtain ⟨⟨ls⟩, dfs⟩ := a
    simp only at hdf
    subst hdf
    have hs : ls.length = 39 := by simpa using hs
    match ls, hs with
    | x0 :: x1 :: y2 :: x3 :: x4 :: x5 :: x6 :: x7 :: x8 :: x9 :: x10 :: x11 :: x12 :: x13 :: x14 :: x15 :: x16 :: x17 :: x18 :: x19 :: x20 :: x21 :: x22 :: x23 :: x24 :: x25 :: x26 :: x27 :: x28 :: x29 :: x30 :: x31 :: x32 :: x33 :: x34 :: x35 :: x36 :: x37 :: x38 :: [], _ =>
      have e1 : x1 = .int .i64 (K : Int) := h1
      have e2 : y2 = .pointer (some ⟨w.heap.size, 0, none⟩) := h2
      have e4 : x4 = .pointer (some ⟨w.heap.size + 1, 0, none⟩) := h4
      have e5 : x5 = .pointer (some ⟨g5, 0, none⟩) := h5
      have e6 : x6 = .pointer (some ⟨g6, 0, none⟩) := h6
      subst e1 e2 e4 e5 e6
      clear h1 h2 h4 h5 h6 h11
      gi_wp2_with (refine ⟨trivial, ?_⟩; gi_at_call 74; refine (callsIn_wide.2 (implNextStates_any _ _ _)).mono ?_; rintro e w' ⟨rfl, rfl⟩)
      obtain ⟨W1, hW1⟩ : ∃ W1, (W.alloc (.cells #[.int .i64 p.state] 2)).alloc (.cells #[.int .i64 (K : Int)] 2) = W1 := ⟨_, rfl⟩
      have hsz1 : W1.heap.size = W.heap.size + 2 := by rw [← hW1]; simp
      have hbW : Below W.heap.size W W1 := by rw [← hW1]; exact boxes2 _ _ _
      have hs1 : Boxed W1 W.heap.size 2 (.int .i64 p.state) := by rw [← hW1]; exact (Boxed.new W 2 (.int .i64 p.state)).alloc _
      have hc1 : Boxed W1 (W.heap.size + 1) 2 (.int .i64 (K : Int)) := by
        rw [← hW1]
        have := Boxed.new (W.alloc (.cells #[.int .i64 p.state] 2)) 2 (.int .i64 (K : Int))
        rw [World.size_alloc] at this
        exact this
      rw [hW1]
      have HW1 := Lib.hid (HBW.out.trans (hbW.mono HBW.out.size))
      have hinv : InvT B (w.heap.size + 1) g5 g6 v0 p (p.drawn, p.state) W1 := ⟨v1, vL, hr5.below hbW, hr6.below hbW, hrv.below hbW, hn.below hbW, hd.below hbW, hL.below hbW, ha01, ha0L, ha1L⟩
      have hwB : w.heap.size ≤ W1.heap.size := by have := HBW.out.size; omega
      clear hW1 hbW hn hd hL ha01 ha0L ha1L hr5 hr6 hrv x2 hG hs HX HP HI HW HN0 HN1
      refine wpIn_rangeFunc_ownF rfl (by omega) (gf := 82) (lb := #[.pointer (some ⟨W.heap.size, 0, none⟩), .pointer (some ⟨W.heap.size + 1, 0, none⟩)]) rfl trivial (enters_of Try.func82 (by kernel_rfl) rfl)
        (implSeq_stops _ (by omega) p.state (K : Int) K W.heap.size (W.heap.size + 1) W1 (pool_state HH.out) (by omega) (by omega) (by omega) (by omega) hs1.cell hc1.cell) walksK_t walksK_b (Below.refl _ _) (fun _ => rfl)
        (fun pre W' => InvT B (w.heap.size + 1) g5 g6 v0 p (drawF p.nums p.state (p.drawn, p.state) (pre.map (·.1))) W' ∧ Below w.heap.size w W')
        (fun _ _ _ => False)
        (OwnFrom.and (Own.from (fun pre A C row hh hg hr => hh.own hg hr) _) (ownFrom_below (Nat.le_refl _) hwB))
        (fun _ _ _ _ _ hh _ _ => hh)
        ⟨hinv, HW1.out⟩
        (fun x => _) (fun l x W' K' hK => by gi_wp2; exact hK) ?body ?done ?stop
      case body =>
        clear hinv hs1 hc1 hwB HW1 HBW hsz1
        rintro l pre x W2 ⟨⟨v1', vL', h5, h6, hrv, hn, hd, hL, a01, a0L, a1L⟩, hBw⟩ hpl
        have hx : x.1 < K := x.2
        have hG8 := drawF_good HH.out (pre.map (·.1)) (by rw [List.length_map]; have := HKK.out; omega)
        rw [List.length_map] at hG8
        have hlen := hG8.left (pool_nodup HH.out)
        have hst := nxs_state (pool_state HH.out) (x.1 + 1)
        have hkk := HKK.out
        have hpn := pool_len HH.out
        have hpick := pick_at (ns := p.nums) (ds := (drawF p.nums p.state (p.drawn, p.state) (pre.map (·.1))).1) hst (by omega)
        have hbl := below_left (ns := p.nums) (ds := (drawF p.nums p.state (p.drawn, p.state) (pre.map (·.1))).1) hst (by omega)
        have HN := Lib.hid (show drawF p.nums p.state (p.drawn, p.state) ((pre ++ [x]).map (·.1)) = drawS p.nums p.state (drawF p.nums p.state (p.drawn, p.state) (pre.map (·.1))) x.1 by rw [List.map_append, List.map_singleton, drawF_snoc])
        generalize drawF p.nums p.state (p.drawn, p.state) (pre.map (·.1)) = d at h5 hd hL hG8 hlen hpick hbl HN
        obtain ⟨dl, st⟩ := d
        simp only [drawS] at HN
        simp only at h5 hd hL hG8 hlen hpick hbl
        have hdl60 : dl.length ≤ 60 := by have := hG8.len; simp only at this; omega
        have HE := Lib.hid (fun (y : Int) (k : Nat) (h : (leftL p.nums dl)[k]? = some y) => leftL_erase (pool_nodup HH.out) h)
        generalize hy : pick p.nums dl (nxs p.state (x.1 + 1)) = y at hpick HN
        generalize nxs p.state (x.1 + 1) = t at hst hpick hbl HN ⊢
        generalize leftL p.nums dl = zs at hL hlen hpick hbl HE
        obtain ⟨m, hm⟩ : ∃ m, zs.length = m + 1 := ⟨zs.length - 1, by omega⟩
        rw [hm] at hpick hbl
        obtain ⟨idx, hid⟩ : ∃ idx : Nat, below t ((m + 1 : Nat) : Int) = idx := ⟨(below t ((m + 1 : Nat) : Int)).toNat, by rw [Int.toNat_of_nonneg hbl.1]⟩
        rw [hid] at hpick hbl
        rw [Int.toNat_natCast] at hpick hbl
        have hidx := hbl.2
        have HEE := Lib.hid (HE.out y idx hpick)
        have hm60 : m ≤ 60 := by omega
        have HC := Lib.hid (implNumberOf_any t ((m : Int) + 1) W2 (by omega) (by omega))
        rw [show ((m : Int) + 1) = ((m + 1 : Nat) : Int) by omega, hid] at HC
        obtain ⟨aL, cL, rfl, hatL⟩ := hL.slice
        have hcap := hL.lencap.2
        rw [hm] at hcap
        obtain ⟨bL, oL, y', rfl, hcL, _, hy'⟩ := hatL.at hm hidx
        obtain rfl : y' = y := Option.some.inj (hy'.symm.trans hpick)
        have HZ := Lib.hid (show IntsIn W2 (some ⟨bL, oL, none⟩) (m + 1) zs from ⟨hm, by unfold maxLen; omega, hatL⟩)
        rw [hm] at h6 a0L a1L
        obtain ⟨a1', c1', rfl, _⟩ := hd.slice
        have c6 := h6.cell (show _[0]? = some _ from rfl)
        have hwB2 := hBw.size
        have HK2 := Lib.hid (show KeptB B (w.heap.size + 1) g6 v0 (.slice (some ⟨bL, oL, none⟩) (m + 1) cL) p.nums zs w W2 W2 from ⟨h6, hrv, hn, by rw [← hm]; exact hL, hBw, KeepsOthers.refl _, Nat.le_refl _⟩)
        have HY := Lib.hid hy'
        have H5 := Lib.hid h5; have HD := Lib.hid hd; have HA01 := Lib.hid a01; have HA0L := Lib.hid a0L; have HA1L := Lib.hid a1L
        clear h5 h6 hrv hn hd hL a01 a0L a1L hBw hG8 hlen hy hbl hatL hy' hpick HE hid
        gi_wp2_with (refine ⟨trivial, ?_⟩; gi_at_call 75; refine (CallsIn.inRound l (callsIn_wide.2 HC.out)).mono ?_; rintro e w' ⟨rfl, rfl⟩)
        rename_i QQ KK hKK
        have hs1 : ∀ q, (Value.slice a1' dl.length c1').ownBlock = some q → q < W2.heap.size := fun q hq => (HD.out.lt q hq).2
        refine wpIn_region_facts3 (sz := 39) (fun _ => trivial) [4, 5, 6, 8, 9] (by kernel_rfl) (by kernel_rfl) (by kernel_rfl) (by kernel_rfl) (fun j => if j = 1 ∨ j = 6 then some 7 else none) (fun i j => i != j && !((j == 1 || j == 6) && (i == 7 || i == 9)) && j != 9) (by kernel_rfl) (by kernel_rfl) (fun _ => []) (by kernel_rfl) 7 (fun i => i == 8 || i == 9) (by kernel_rfl)
          (fun W => KeptB B (w.heap.size + 1) g6 v0 (.slice (some ⟨bL, oL, none⟩) (m + 1) cL) p.nums zs w W2 W ∧ RowV g5 W 26 [v0, .slice a1' dl.length c1', .int .i64 st] ∧ BuildI B W (.slice a1' dl.length c1') dl)
          (fun W => KeptB B (w.heap.size + 1) g6 v0 (.slice (some ⟨bL, oL, none⟩) (m + 1) cL) p.nums zs w W2 W ∧ ∃ u, RowV g5 W 26 [v0, u, .int .i64 st])
          (TurnB g5 (.slice a1' dl.length c1')) (FactB B W2.heap.size g5 v0 (.slice a1' dl.length c1') (.slice (some ⟨bL, oL, none⟩) (m + 1) cL) st dl idx bL oL y') rfl
          (by have hdr := Below.drew (Below.refl W2.heap.size W2); exact ⟨HK2.out.later hdr, H5.out.below hdr, HD.out.below hdr⟩) (fun j v ev ev' W h hf => factB_stab j v ev ev' W hf)
          (fun i j v ev W W' hi hj hk hf hR => by
            simp only [Bool.and_eq_true, bne_iff_ne, Bool.not_eq_true', Bool.and_eq_false_iff, Bool.or_eq_false_iff, beq_eq_false_iff_ne] at hk
            obtain ⟨⟨h1, h2⟩, h3⟩ := hk
            exact factB_mono hs1 i j v ev W W' h1 (fun h => by rcases h2 with h2 | h2 <;> omega) h3 (fun h => by omega) hf hR) ?_ ?_
        · intro i o ho
          match i, ho with
          | 0, ho =>
            cases ho
            intro ev W hc hfn hb hG hd
            have h5 : ev (.tmp 5) = .pointer (some ⟨g5, 0, none⟩) := hb 5 (by simp)
            refine stepIn_gen fun K' hK => ?_
            simp [go_sem, stepIn, hc, hfn, h5]
            exact hK _ _ ⟨hG, Below.refl _ _, (fun h => by cases h), rfl⟩
          | 1, ho =>
            cases ho
            intro ev W hc hfn hb hG hd
            have h24 : ev (.tmp 24) = .pointer (some ⟨g5, 1, none⟩) := hd { on := 0, ground := .data } (by simp) rfl (.inl rfl) _ rfl
            obtain ⟨hkb, hr, hbd⟩ : KeptB B (w.heap.size + 1) g6 v0 (.slice (some ⟨bL, oL, none⟩) (m + 1) cL) p.nums zs w W2 W ∧ RowV g5 W 26 [v0, .slice a1' dl.length c1', .int .i64 st] ∧ BuildI B W (.slice a1' dl.length c1') dl := hG
            have x1 := hr.cell (show _[1]? = some _ from rfl)
            refine stepIn_gen fun K' hK => ?_
            simp [go_sem, stepIn, hc, hfn, h24, x1]
            exact hK _ _ ⟨⟨hkb, hr, hbd⟩, Below.refl _ _, (fun h => by cases h), rfl, hbd⟩
          | 2, ho =>
            cases ho
            intro ev W hc hfn hb hG hd
            have h6 : ev (.tmp 6) = .pointer (some ⟨g6, 0, none⟩) := hb 6 (by simp)
            have x1 := (show KeptB B (w.heap.size + 1) g6 v0 (.slice (some ⟨bL, oL, none⟩) (m + 1) cL) p.nums zs w W2 W from hG.1).r6.cell (show _[0]? = some _ from rfl)
            refine stepIn_gen fun K' hK => ?_
            simp [go_sem, stepIn, hc, hfn, h6, x1]
            exact hK _ _ ⟨hG, Below.refl _ _, (fun h => by cases h), rfl⟩
          | 3, ho =>
            cases ho
            intro ev W hc hfn hb hG hd
            have h9 : ev (.tmp 9) = .int .i64 (idx : Int) := hb 9 (by simp)
            refine stepIn_gen fun K' hK => ?_
            simp [go_sem, stepIn, hc, hfn, h9]
            exact hK _ _ ⟨hG, Below.refl _ _, (fun h => by cases h), rfl⟩
          | 4, ho =>
            cases ho
            intro ev W hc hfn hb hG hd
            have h26 : ev (.tmp 26) = .slice (some ⟨bL, oL, none⟩) (m + 1) cL := hd { on := 2, ground := .data } (by simp) rfl (.inl rfl) _ rfl
            have h27 : ev (.tmp 27) = .int .i64 (idx : Int) := hd { on := 3, ground := .data } (by simp) rfl (.inl rfl) _ rfl
            refine stepIn_gen fun K' hK => ?_
            simp [go_sem, stepIn, hc, hfn, h26, h27, show (idx : Int) < (m : Int) + 1 by omega]
            exact hK _ _ ⟨hG, Below.refl _ _, (fun h => by cases h), rfl⟩
          | 5, ho =>
            cases ho
            intro ev W hc hfn hb hG hd
            have h28 : ev (.tmp 28) = .pointer (some ⟨bL, oL + idx, none⟩) := hd { on := 4, ground := .data } (by simp) rfl (.inl rfl) _ rfl
            have hkb : KeptB B (w.heap.size + 1) g6 v0 (.slice (some ⟨bL, oL, none⟩) (m + 1) cL) p.nums zs w W2 W := hG.1
            have hcell : W.cell? ⟨bL, oL + idx, none⟩ = some (.int .i64 y') := by
              obtain ⟨ax, cx, e, hat⟩ := hkb.nL.slice
              obtain ⟨rfl, -, rfl⟩ : some (⟨bL, oL, none⟩ : Addr) = ax ∧ m + 1 = zs.length ∧ cL = cx := by simpa using e
              obtain ⟨b9, o9, y9, ha9, hc9, _, hy9⟩ := hat.at hm hidx
              cases ha9
              rw [HY.out] at hy9
              cases hy9
              exact hc9
            refine stepIn_gen fun K' hK => ?_
            simp [go_sem, stepIn, hc, hfn, h28, hcell]
            exact hK _ _ ⟨hG, Below.refl _ _, (fun h => by cases h), rfl⟩
          | 6, ho =>
            cases ho
            intro ev W hc hfn hb hG hd
            have h29 : ev (.tmp 29) = .int .i64 y' := hd { on := 5, ground := .data } (by simp) rfl (.inl rfl) _ rfl
            obtain ⟨hkb, hr, hbd⟩ : KeptB B (w.heap.size + 1) g6 v0 (.slice (some ⟨bL, oL, none⟩) (m + 1) cL) p.nums zs w W2 W ∧ RowV g5 W 26 [v0, .slice a1' dl.length c1', .int .i64 st] ∧ BuildI B W (.slice a1' dl.length c1') dl := hG
            have hal := boxed W (.cells #[.int .i64 y'] 2)
            refine stepIn_gen fun K' hK => ?_
            simp [go_sem, stepIn, hc, hfn, h29]
            exact hK _ _ ⟨⟨hkb.later hal, hr.below hal, hbd.below hal⟩, hal, (fun h => by cases h), W.heap.size, rfl, hkb.size, BuildI.lit1 _ _ _⟩
          | 7, ho =>
            cases ho
            intro ev W hc hfn hb hG hd
            obtain ⟨h25, hbd⟩ : ev (.tmp 25) = .slice a1' dl.length c1' ∧ BuildI B W (.slice a1' dl.length c1') dl := by
              have h := hd { on := 1, ground := .data } (by simp) rfl (.inl rfl) _ rfl
              exact h
            obtain ⟨g, h30, hgs, hcg⟩ : ∃ g, ev (.tmp 30) = .slice (some ⟨g, 0, none⟩) 1 1 ∧ W2.heap.size ≤ g ∧ W.cell? ⟨g, 0, none⟩ = some (.int .i64 y') := hd { on := 6, ground := .data } (by simp) rfl (.inl rfl) _ rfl
            obtain ⟨hkb, hr, _⟩ : KeptB B (w.heap.size + 1) g6 v0 (.slice (some ⟨bL, oL, none⟩) (m + 1) cL) p.nums zs w W2 W ∧ RowV g5 W 26 [v0, .slice a1' dl.length c1', .int .i64 st] ∧ BuildI B W (.slice a1' dl.length c1') dl := hG
            refine stepIn_append (.tmp 25) (.tmp 30) rfl _ dl h25 hbd g y' h30 hcg (by omega) (by have := hkb.size; have := H5.out.lt; omega) ?_
            intro v' w' hb' hgr hown
            have hsz' := hgr.size
            refine ⟨⟨⟨hkb.r6.grown hgr (fun q hq e => build_ne hbd hkb.r6 (by decide) (by rw [hq, e])), hkb.rr.grown hgr (fun q hq e => build_ne hbd hkb.rr (by decide) (by rw [hq, e])), hkb.n0.kept hgr (fun q hq e => HA01.out q hq e), hkb.nL.kept hgr (fun q hq e => HA1L.out q e hq), hkb.below.grown hgr hkb.below.size (fun q hq => by have := (hbd.lt q hq).1; omega), hkb.others.trans (KeepsOthers.of_grownBy hgr (fun j o hj ho' => by
                rcases hbd.2 with ⟨e, _⟩ | ⟨g', cap', cur, e, _, hh, _⟩
                · rw [e] at hj; cases hj
                · rw [e] at hj; cases hj; rw [hh] at ho'; cases ho'; rfl)), Nat.le_trans hkb.size hsz'⟩, _, hr.grown hgr (fun q hq e => build_ne hbd hr (by decide) (by rw [hq, e]))⟩, hgr, (fun h => by cases h), hb', fun q hq => ?_⟩
            rcases hown with h | h
            · exact .inl (by rw [← h]; exact hq)
            · rw [h] at hq; cases hq; exact .inr hkb.size
          | 8, ho =>
            cases ho
            intro ev W hc hfn hb hG hd
            have h5 : ev (.tmp 5) = .pointer (some ⟨g5, 0, none⟩) := hb 5 (by simp)
            refine stepIn_gen fun K' hK => ?_
            simp [go_sem, stepIn, hc, hfn, h5]
            exact hK _ _ ⟨hG, Below.refl _ _, (fun h => by cases h), rfl⟩
          | 9, ho =>
            cases ho
            intro ev W hc hfn hb hG hd
            have h32 : ev (.tmp 32) = .pointer (some ⟨g5, 1, none⟩) := hd { on := 8, ground := .data } (by simp) rfl (.inl rfl) _ rfl
            obtain ⟨hb', hnew⟩ : BuildI B W (ev (.tmp 31)) (dl ++ [y']) ∧ NewOr W2.heap.size (.slice a1' dl.length c1') (ev (.tmp 31)) := hd { on := 7, ground := .data } (by simp) rfl (.inl rfl) _ rfl
            obtain ⟨hkb, u, hr⟩ : KeptB B (w.heap.size + 1) g6 v0 (.slice (some ⟨bL, oL, none⟩) (m + 1) cL) p.nums zs w W2 W ∧ ∃ u, RowV g5 W 26 [v0, u, .int .i64 st] := hG
            obtain ⟨ax, cx, hax, _⟩ := hb'.slice
            rw [hax] at hb' hnew
            have x1 := hr.cell (show _[1]? = some _ from rfl)
            have f1 := hr.frozen 1
            have hg := grown_cell W g5 1 (.slice ax (dl ++ [y']).length cx)
            have hr2 := hr.put 1 (.slice ax (dl ++ [y']).length cx)
            refine stepIn_gen fun K' hK => ?_
            simp [go_sem, stepIn, hc, hfn, h32, hax, x1, f1]
            rw [show dl.length + 1 = (dl ++ [y']).length by simp]
            exact hK _ _ ⟨⟨⟨hkb.r6.grown hg (fun q hq e => by cases hq; exact row_ne hr hkb.r6 (by decide) e.symm), hkb.rr.grown hg (fun q hq => by cases hq; omega), hkb.n0.kept hg (fun q hq e => build_ne hkb.n0 hr (by decide) (by rw [hq, e])), hkb.nL.kept hg (fun q hq e => build_ne hkb.nL hr (by decide) (by rw [hq, e])), hkb.below.setCell (by show w.heap.size ≤ g5; omega) _, hkb.others.trans (KeepsOthers.setCell _ _ _), Nat.le_trans hkb.size hg.size⟩, _, hr2⟩, ⟨⟨_, hr⟩, hg⟩, (fun _ => rfl), _, hr2, hb'.kept hg (fun q hq e => build_ne hb' hr (by decide) (by rw [hq, e])), hnew⟩
          | n + 10, ho => simp at ho
        · intro a W3 hb hs hdf hG hf
          obtain ⟨vN, hr5, hbN, hnew⟩ : ∃ v', RowV g5 W3 26 [v0, v', .int .i64 st] ∧ BuildI B W3 v' (dl ++ [y']) ∧ NewOr W2.heap.size (.slice a1' dl.length c1') v' := hf 9 _ rfl rfl
          have hkb : KeptB B (w.heap.size + 1) g6 v0 (.slice (some ⟨bL, oL, none⟩) (m + 1) cL) p.nums zs w W2 W3 := hG.1
          have h5 := hb 5 (by simp)
          have h6 := hb 6 (by simp)
          have h8 := hb 8 (by simp)
          have h9 := hb 9 (by simp)
          have c2 := hr5.cell (show _[2]? = some _ from rfl)
          have f2 := hr5.frozen 2
          have hg := grown_cell W3 g5 2 (.int .i64 t)
          have hne56 : g5 ≠ g6 := row_ne hr5 hkb.r6 (by decide)
          have R5 := Lib.hid (hr5.put 2 (.int .i64 t))
          have R6 := Lib.hid (hkb.r6.grown hg (fun q hq e => by cases hq; exact hne56 e.symm))
          have RR := Lib.hid (hkb.rr.grown hg (fun q hq => by cases hq; omega))
          have N0 := Lib.hid (hkb.n0.kept hg (fun q hq e => build_ne hkb.n0 hr5 (by decide) (by rw [hq, e])))
          have NL := Lib.hid (hkb.nL.kept hg (fun q hq e => build_ne hkb.nL hr5 (by decide) (by rw [hq, e])))
          have NN := Lib.hid (hbN.kept hg (fun q hq e => build_ne hbN hr5 (by decide) (by rw [hq, e])))
          have BW := Lib.hid (hkb.below.setCell (show w.heap.size ≤ (⟨g5, 2, none⟩ : Addr).block by show w.heap.size ≤ g5; omega) (.int .i64 t))
          have KO := Lib.hid (hkb.others.trans (KeepsOthers.setCell W3 ⟨g5, 2, none⟩ (.int .i64 t)))
          have SZ : W2.heap.size ≤ (W3.setCell ⟨g5, 2, none⟩ (.int .i64 t)).heap.size := Nat.le_trans hkb.size hg.size
          have HA := Lib.hid (show ApartV v0 vN from fun q h1 h2 => by
            rcases hnew q h2 with h | h
            · exact HA01.out q h1 h
            · have := (HK2.out.n0.lt q h1).2; omega)
          obtain ⟨aN, cN, rfl, _⟩ := hbN.slice
          obtain ⟨ax, cx, e, hat⟩ := NL.out.slice
          obtain ⟨rfl, -, rfl⟩ : some (⟨bL, oL, none⟩ : Addr) = ax ∧ m + 1 = zs.length ∧ cL = cx := by simpa using e
          have HCW := Lib.hid (implWithout8 (some ⟨bL, oL, none⟩) m cL idx zs (W3.setCell ⟨g5, 2, none⟩ (.int .i64 t)) ⟨hm, by unfold maxLen; omega, hat⟩ (by omega) (by omega) hcap)
          rw [HEE.out] at HCW
          have d6 := hkb.r6.cell (show _[0]? = some _ from rfl)
          have hne65 : g6 ≠ g5 := fun e => hne56 e.symm
          clear hf hb hG hkb hr5 hbN hnew hg e hat HK2 H5 HD
          obtain ⟨⟨ls⟩, dfs⟩ := a
          simp only at hdf
          subst hdf
          replace hs : ls.length = 39 := by simpa using hs
          refine hKK _ _ ?_
          match ls, hs with
          | z0 :: z1 :: z2 :: z3 :: z4 :: z5 :: z6 :: z7 :: z8 :: z9 :: z10 :: z11 :: z12 :: z13 :: z14 :: z15 :: z16 :: z17 :: z18 :: z19 :: z20 :: z21 :: z22 :: z23 :: z24 :: z25 :: z26 :: z27 :: z28 :: z29 :: z30 :: z31 :: z32 :: z33 :: z34 :: z35 :: z36 :: z37 :: z38 :: [], hlist =>
            clear hlist
            have e5 : z5 = .pointer (some ⟨g5, 0, none⟩) := h5
            have e6 : z6 = .pointer (some ⟨g6, 0, none⟩) := h6
            have e8 : z8 = .int .i64 t := h8
            have e9 : z9 = .int .i64 (idx : Int) := h9
            subst e5 e6 e8 e9
            clear h5 h6 h8 h9
            gi_wp2_with (refine ⟨trivial, ?_⟩; gi_at_call 63; refine (CallsIn.inRound l (callsIn_wide.2 HCW.out)).mono ?_; rintro e w5 ⟨vE, rfl, hoE, hBE⟩; have q6 := (R6.out.below hBE).cell (show _[0]? = some _ from rfl); have qf := (R6.out.below hBE).frozen 0; obtain ⟨aE, cE, rfl, _⟩ := hoE.slice)
            exact ⟨(KO.out.trans (keepsOthers_below hBE)).trans (KeepsOthers.setCell _ _ _), ((KO.out.trans (keepsOthers_below hBE)).trans (KeepsOthers.setCell _ _ _)).walks, by
              rw [HN.out]
              have hg2 := grown_cell w5 g6 0 (.slice aE (leftL p.nums (dl ++ [y'])).length cE)
              have r5 := R5.out.below hBE
              have r6 := R6.out.below hBE
              refine ⟨_, .slice aE (leftL p.nums (dl ++ [y'])).length cE, r5.grown hg2 (fun q hq e => by cases hq; exact hne56 e), r6.put 0 _, (RR.out.below hBE).grown hg2 (fun q hq => by cases hq; omega), (N0.out.below hBE).kept hg2 (fun q hq e => build_ne (N0.out.below hBE) r6 (by decide) (by rw [hq, e])), (NN.out.below hBE).kept hg2 (fun q hq e => build_ne (NN.out.below hBE) r6 (by decide) (by rw [hq, e])), ?_, HA.out, apartV_later N0.out hoE (Nat.le_refl _), apartV_later NN.out hoE (Nat.le_refl _)⟩
              have hoE' := hoE.base (show B ≤ (W3.setCell ⟨g5, 2, none⟩ (.int .i64 t)).heap.size by have := R5.out.lt; omega)
              exact hoE'.kept hg2 (fun q hq e => build_ne hoE' r6 (by decide) (by rw [hq, e])), (BW.out.trans (hBE.mono BW.out.size)).setCell (show w.heap.size ≤ (⟨g6, 0, none⟩ : Addr).block by show w.heap.size ≤ g6; omega) _⟩
      case done =>
        rintro D xs W3 hD hS ⟨hinv3, hB3⟩ hK3
        rw [hS, drawF_range] at hinv3
        have hBW := HBW.out.size
        obtain ⟨u1, uL, r5, _, rr, n0, n1, _, b01, _, _⟩ := hinv3
        obtain ⟨an, cn, rfl, _⟩ := n0.slice
        obtain ⟨ad, cd, rfl, _⟩ := n1.slice
        have y0 := r5.cell (show _[0]? = some _ from rfl); have y1 := r5.cell (show _[1]? = some _ from rfl); have y2 := r5.cell (show _[2]? = some _ from rfl)
        have p0 := rr.cell (show _[0]? = some _ from rfl); have p1 := rr.cell (show _[1]? = some _ from rfl); have p2 := rr.cell (show _[2]? = some _ from rfl)
        have f0 := rr.frozen 0; have f1 := rr.frozen 1; have f2 := rr.frozen 2
        have hlB : w.heap.size + 1 < B := by omega
        have hDne : D ≠ w.heap.size + 1 := by omega
        have N0 := Lib.hid (fun u v q => ((n0.stored (x := ⟨w.heap.size + 1, 0, none⟩) hlB u).stored (x := ⟨w.heap.size + 1, 1, none⟩) hlB v).stored (x := ⟨w.heap.size + 1, 2, none⟩) hlB q)
        have N1 := Lib.hid (fun u v q => ((n1.stored (x := ⟨w.heap.size + 1, 0, none⟩) hlB u).stored (x := ⟨w.heap.size + 1, 1, none⟩) hlB v).stored (x := ⟨w.heap.size + 1, 2, none⟩) hlB q)
        have HB6 := Lib.hid (fun u v q => ((hB3.setCell (p := ⟨w.heap.size + 1, 0, none⟩) (Nat.le_succ _) u).setCell (p := ⟨w.heap.size + 1, 1, none⟩) (Nat.le_succ _) v).setCell (p := ⟨w.heap.size + 1, 2, none⟩) (Nat.le_succ _) q)
        have HD6 := Lib.hid (fun (u v q : Value) => ((Below.heap_setCell (((W3.setCell ⟨w.heap.size + 1, 0, none⟩ u).setCell ⟨w.heap.size + 1, 1, none⟩ v)) ⟨w.heap.size + 1, 2, none⟩ q D hDne).trans ((Below.heap_setCell (W3.setCell ⟨w.heap.size + 1, 0, none⟩ u) ⟨w.heap.size + 1, 1, none⟩ v D hDne).trans (Below.heap_setCell W3 ⟨w.heap.size + 1, 0, none⟩ u D hDne))).trans hK3)
        have HA := Lib.hid b01
        have HR6 := Lib.hid (fun u v q => ((rr.put 0 u).put 1 v).put 2 q)
        clear n0 n1 hB3 hinv r5 rr b01
        gi_wp2
        have hK6 := HD6.out (.slice an p.nums.length cn) (.slice ad (drawN p.nums p.drawn p.state K).1.length cd) (.int .i64 (drawN p.nums p.drawn p.state K).2)
        have hB6 := HB6.out (.slice an p.nums.length cn) (.slice ad (drawN p.nums p.drawn p.state K).1.length cd) (.int .i64 (drawN p.nums p.drawn p.state K).2)
        have r6 := HR6.out (.slice an p.nums.length cn) (.slice ad (drawN p.nums p.drawn p.state K).1.length cd) (.int .i64 (drawN p.nums p.drawn p.state K).2)
        have n0 := N0.out (.slice an p.nums.length cn) (.slice ad (drawN p.nums p.drawn p.state K).1.length cd) (.int .i64 (drawN p.nums p.drawn p.state K).2)
        have n1 := N1.out (.slice an p.nums.length cn) (.slice ad (drawN p.nums p.drawn p.state K).1.length cd) (.int .i64 (drawN p.nums p.drawn p.state K).2)
        have hgp := grownBy_putObj' (((W3.setCell ⟨w.heap.size + 1, 0, none⟩ (.slice an p.nums.length cn)).setCell ⟨w.heap.size + 1, 1, none⟩ (.slice ad (drawN p.nums p.drawn p.state K).1.length cd)).setCell ⟨w.heap.size + 1, 2, none⟩ (.int .i64 (drawN p.nums p.drawn p.state K).2)) D (.deferred none)
        have hown : ∀ r, some D = some r → ∃ o : Obj, (((W3.setCell ⟨w.heap.size + 1, 0, none⟩ (.slice an p.nums.length cn)).setCell ⟨w.heap.size + 1, 1, none⟩ (.slice ad (drawN p.nums p.drawn p.state K).1.length cd)).setCell ⟨w.heap.size + 1, 2, none⟩ (.int .i64 (drawN p.nums p.drawn p.state K).2)).heap[r]? = some o ∧ o.isCells = false := fun r e => by cases e; exact ⟨_, hK6, rfl⟩
        have r7 := rowV_own r6 hgp hown
        have z0 := r7.cell (show _[0]? = some _ from rfl); have z1 := r7.cell (show _[1]? = some _ from rfl); have z2 := r7.cell (show _[2]? = some _ from rfl)
        refine ⟨by simp, .inl ⟨_, _, rfl, run_takeDeferred hK6, ?_⟩⟩
        refine ⟨.agg #[.slice an p.nums.length cn, .slice ad (drawN p.nums p.drawn p.state K).1.length cd, .int .i64 (drawN p.nums p.drawn p.state K).2], ?_, ?_⟩
        · rw [Rec.results_cell1 rfl]
          generalize (((W3.setCell ⟨w.heap.size + 1, 0, none⟩ (.slice an p.nums.length cn)).setCell ⟨w.heap.size + 1, 1, none⟩ (.slice ad (drawN p.nums p.drawn p.state K).1.length cd)).setCell ⟨w.heap.size + 1, 2, none⟩ (.int .i64 (drawN p.nums p.drawn p.state K).2)).putObj D (.deferred none) = W9 at z0 z1 z2 ⊢
          clear hK6 hB6 r6 n0 n1 hgp hown r7 y0 y1 y2 p0 p1 p2 f0 f1 f2
          go_simp
        · exact ⟨_, _, rfl, (build_own n0 hgp hown).base (by omega), (build_own n1 hgp hown).base (by omega), HA.out, hB6.trans (belowK_b (w := w) (Nat.le_refl _) _ D _ (.deferred none) (by omega) hK6 rfl rfl)⟩
      case stop =>
        rintro D c pre W _ _ h _
        exact h.elim
end
end Go.Proofs.Ytmpopfcnjgcncaa
