/- Lists and tables of numbers that a call builds by adding: the append's law in a handy form. -/
import Derived.Test.YtdeiillfdjebdaaChecked
import Derived.Test.YtdeiillfdjebdaaBase
import Derived.Test.YtdeiillfdjebdaaInfo
import Derived.Test.YtdeiillfdjebdaaMarkI
import Derived.Test.YtdeiillfdjebdaaTab
import Derived.WalkKit
import Derived.WalkSpells
import Derived.WalkLawsBesides
import Derived.Lib.Hide
import Derived.Deep.OwnRows
import Derived.Outline
namespace Go.Proofs.Ytdeiillfdjebdaa
open Go.RowKit Pure2

theorem info_parts {P : Program} {t : TypeId} {z : Value} {s b : Nat} (h : (P.info? t).map (fun i => (i.zero, i.size, i.bytes)) = some (some z, s, b)) : ∃ i, P.info? t = some i ∧ i.zero = some z ∧ i.size = s ∧ i.bytes = b := by
  obtain ⟨i, hi, hz⟩ := Option.map_eq_some_iff.1 h
  simp only [Prod.mk.injEq] at hz
  exact ⟨i, hi, hz.1, hz.2.1, hz.2.2⟩
theorem Try.info_isl : (Try.prog.info? 37).map (fun i => (i.zero, i.size, i.bytes)) = some (some (.slice none 0 0), 1, 24) := by kernel_rfl

/-- a list of numbers that is being built (from block B on) -/
def BuildI (B : Nat) (w : World) (v : Value) (zs : List Int) : Prop := w.ownsRow B 2 1 v zs.length (zs.map (Value.int .i64))
theorem BuildI.nil (B : Nat) (w : World) : BuildI B w (.slice none 0 0) [] := World.ownsRow_nil _ _ _ _
theorem BuildI.empty {B : Nat} {w : World} (hB : B ≤ w.heap.size) : BuildI B (w.alloc (.cells #[] 2)) (.slice (some ⟨w.heap.size, 0, none⟩) 0 0) [] := World.ownsRow_lit (size := 1) w #[] 0 hB (by decide) rfl
theorem BuildI.one {B : Nat} {w : World} (x : Int) (hB : B ≤ w.heap.size) : BuildI B (w.alloc (.cells #[.int .i64 x] 2)) (.slice (some ⟨w.heap.size, 0, none⟩) 1 1) [x] := World.ownsRow_lit (size := 1) w #[.int .i64 x] 1 hB (by decide) rfl
theorem BuildI.below {B : Nat} {w w' : World} {v : Value} {zs : List Int} (h : BuildI B w v zs) (hb : Below w.heap.size w w') : BuildI B w' v zs := by
  refine ⟨h.1, ?_⟩
  rcases h.2 with hn | ⟨g, cap, cur, rfl, hB, hg, rest⟩
  · exact .inl hn
  · exact .inr ⟨g, cap, cur, rfl, hB, by rw [hb.block g (Array.getElem?_eq_some_iff.1 hg).1]; exact hg, rest⟩
theorem BuildI.alloc {B : Nat} {w : World} {v : Value} {zs : List Int} (h : BuildI B w v zs) (o : Obj) : BuildI B (w.alloc o) v zs := h.below ((Below.refl _ _).alloc (Nat.le_refl _) o)
theorem BuildI.own {B : Nat} {w : World} {v : Value} {zs : List Int} (h : BuildI B w v zs) : ∃ a cap, v = .slice a zs.length cap ∧ zs.length ≤ cap ∧ OwnI B w a zs.length (fun i => zs.getD i 0) := by
  obtain ⟨h1, ⟨rfl, h0⟩ | ⟨g, cap, cur, rfl, hg, hh, hn, hc, hs, hr⟩⟩ := id h
  · exact ⟨_, 0, by rw [h0], by omega, .inl h0⟩
  · rw [Nat.mul_one] at hr hs
    refine ⟨_, cap, rfl, hn, .inr ⟨g, fun i => cur.getD i (.int .i64 0), cap, rfl, hg, hn, ⟨cur, hh, hs, fun i hi => ?_⟩, fun i hi => ?_⟩⟩
    · simp [Array.getD, show i < cur.size by omega]
    · have hx : (zs.map (Value.int .i64))[i]? = some (.int .i64 (zs.getD i 0)) := by
        rw [List.getElem?_map, List.getElem?_eq_getElem (by omega)]; simp [List.getElem?_eq_getElem (show i < zs.length by omega)]
      rw [← hr, List.getElem?_take_of_lt hi, Array.getElem?_toList] at hx
      rw [Array.getElem?_eq_getElem (by omega)] at hx
      simp [Array.getD, show i < cur.size by omega]
      simpa using hx
theorem BuildI.grew {B C : Nat} {w0 w w' : World} {v : Value} {zs : List Int} (h : BuildI B w v zs) (hB : Below C w0 w) (hC : C ≤ B) (hs : C ≤ w.heap.size) (hg : w.grownBy w' v.ownBlock) : Below C w0 w' :=
  hB.grown hg hs (fun k hk => Nat.le_trans hC (h.lt k hk).1)

section
variable {ops : Array Oper} {rest : List Oper} {o : Oper} {a : Act} {Q : Exit → Act → World → Prop} {w : World} {B : Nat}
/-- one number more -/
theorem wpList_int_append (hgd : o.guard = none) (s x : Operand) (ho : o.op = .call { callee := .builtin .append, args := #[s, x], argTypes := #[37, 37] })
    (v : Value) (zs : List Int) (hs : a.eval s = v) (h : BuildI B w v zs) (b : Nat) (y : Int) (hx : a.eval x = .slice (some ⟨b, 0, none⟩) 1 1) (hc : w.cell? ⟨b, 0, none⟩ = some (.int .i64 y))
    (hl : zs.length ≤ 1000000) (hB : B ≤ w.heap.size)
    (hk : ∀ v' w', BuildI B w' v' (zs ++ [y]) → w.grownBy w' v.ownBlock → wpList Try.prog ops Q rest (a.put o.dst v') w') : wpList Try.prog ops Q (o :: rest) a w := by
  obtain ⟨i0, hi, hz0, hz1, hz2⟩ := info_parts Try.info_i64
  refine wpList_append_own (P := Try.prog) w hgd s x 37 ho B 2 i0 (.int .i64 0) 1 8 Try.underlying37 hi hz0 hz1 hz2 rfl (by decide) v zs.length _ hs h ⟨b, 0, none⟩ 1 1 [.int .i64 y] hx rfl ?_ ?_ (by unfold maxLen; omega) (by omega) hB ?_
  · intro j u hu
    have hj := (List.getElem?_eq_some_iff.1 hu).1
    simp at hj; subst hj
    simp at hu; subst hu
    simpa [Addr.add] using hc
  · intro u hu; simp at hu; subst hu; rfl
  · intro v' w' h1 h2 _
    refine hk v' w' ?_ h2
    unfold BuildI
    rw [List.length_append, List.map_append]; exact h1
end

/-- a table that is being built (from block B on) -/
structure BuildT (B : Nat) (w : World) (v : Value) (rows : List RowOf) (xss : List (List Int)) : Prop where
  row : w.ownsRow B 37 1 v rows.length (rows.map rowVal)
  each : OwnRows B w rows (tabG xss)
  fit : Fit rows xss
  apart : Apart rows
theorem BuildT.nil (B : Nat) (w : World) : BuildT B w (.slice none 0 0) [] [] := ⟨World.ownsRow_nil _ _ _ _, fun i r h => by simp at h, ⟨rfl, fun i r xs h => by simp at h⟩, fun i j r s x y _ h => by simp at h⟩
theorem BuildT.empty {B : Nat} {w : World} (hB : B ≤ w.heap.size) : BuildT B (w.alloc (.cells #[] 37)) (.slice (some ⟨w.heap.size, 0, none⟩) 0 0) [] [] :=
  ⟨World.ownsRow_lit (size := 1) w #[] 0 hB (by decide) rfl, fun i r h => by simp at h, ⟨rfl, fun i r xs h => by simp at h⟩, fun i j r s x y _ h => by simp at h⟩
theorem BuildT.below {B : Nat} {w w' : World} {v : Value} {rows : List RowOf} {xss : List (List Int)} (h : BuildT B w v rows xss) (hb : Below w.heap.size w w') : BuildT B w' v rows xss := by
  refine ⟨⟨h.row.1, ?_⟩, h.each.below hb, h.fit, h.apart⟩
  rcases h.row.2 with hn | ⟨g, cap, cur, rfl, hB, hg, rest⟩
  · exact .inl hn
  · exact .inr ⟨g, cap, cur, rfl, hB, by rw [hb.block g (Array.getElem?_eq_some_iff.1 hg).1]; exact hg, rest⟩
theorem BuildT.alloc {B : Nat} {w : World} {v : Value} {rows : List RowOf} {xss : List (List Int)} (h : BuildT B w v rows xss) (o : Obj) : BuildT B (w.alloc o) v rows xss := h.below ((Below.refl _ _).alloc (Nat.le_refl _) o)
theorem BuildT.grew {B C : Nat} {w0 w w' : World} {v : Value} {rows : List RowOf} {xss : List (List Int)} (h : BuildT B w v rows xss) (hB : Below C w0 w) (hC : C ≤ B) (hs : C ≤ w.heap.size) (hg : w.grownBy w' v.ownBlock) : Below C w0 w' :=
  hB.grown hg hs (fun k hk => Nat.le_trans hC (h.row.lt k hk).1)
/-- the finished table -/
theorem BuildT.own {B : Nat} {w : World} {v : Value} {rows : List RowOf} {xss : List (List Int)} (h : BuildT B w v rows xss) : ∃ a cap, v = .slice a xss.length cap ∧ OwnTab B w a rows (tabG xss) := by
  have hlen := h.fit.1
  obtain ⟨h1, ⟨rfl, h0⟩ | ⟨g, cap, cur, rfl, hg, hh, hn, hc, hs, hr⟩⟩ := h.row
  · exact ⟨_, 0, by rw [← hlen, h0], .inl (List.length_eq_zero_iff.1 h0)⟩
  · rw [Nat.mul_one] at hr hs
    refine ⟨_, cap, by rw [← hlen], .inr ⟨g, fun i => cur.getD i (.int .i64 0), cap, rfl, hg, hn, ⟨cur, hh, hs, fun i hi => ?_⟩, fun i r hi => ?_, h.each, h.apart⟩⟩
    · simp [Array.getD, show i < cur.size by omega]
    · have hil : i < rows.length := (List.getElem?_eq_some_iff.1 hi).1
      have hx : (rows.map rowVal)[i]? = some (rowVal r) := by rw [List.getElem?_map, hi]; rfl
      rw [← hr, List.getElem?_take_of_lt hil, Array.getElem?_toList] at hx
      rw [Array.getElem?_eq_getElem (by omega)] at hx
      simp [Array.getD, show i < cur.size by omega]
      simpa using hx
/-- the block of a new row is none of those before it, if it lies behind them -/
theorem BuildT.fresh {B C : Nat} {w : World} {v : Value} {rows : List RowOf} {xss : List (List Int)} (h : BuildT B w v rows xss) (hC : w.heap.size ≤ C) : ∀ (i : Nat) (r : RowOf), rows[i]? = some r → r.2.1 ≠ 0 → ∀ x, r.1 = some x → x.block < C :=
  fun i r hr hz _ hx => Nat.lt_of_lt_of_le (own_lt (h.each i r hr) hx hz) hC
theorem BuildT.snoc {B C : Nat} {w w' : World} {v v' : Value} {rows : List RowOf} {xss : List (List Int)} {r : RowOf} {xs : List Int} (h : BuildT B w v rows xss)
    (hlow : ∀ (i : Nat) (r : RowOf), rows[i]? = some r → r.2.1 ≠ 0 → ∀ x, r.1 = some x → x.block < C) (hr : OwnI C w r.1 r.2.1 (fun j => xs.getD j 0)) (hBC : B ≤ C) (hl : r.2.1 = xs.length)
    (hown : w'.ownsRow B 37 1 v' (rows.length + 1) (rows.map rowVal ++ [rowVal r])) (hg : w.grownBy w' v.ownBlock) : BuildT B w' v' (rows ++ [r]) (xss ++ [xs]) := by
  have keep : ∀ {D : Nat} {s : RowOf} {g : Nat → Int}, OwnI D w s.1 s.2.1 g → OwnI D w' s.1 s.2.1 g := by
    intro D s g ho
    refine own_other ho (fun hz x hx => hg.block _ (own_lt ho hx hz) ?_)
    intro e
    rcases ho with ho | ⟨b, f, N, e2, _, _, hr2, _⟩
    · exact hz ho
    · rw [hx] at e2; cases e2
      rcases h.row.2 with ⟨hv, _⟩ | ⟨k, cap, cur, hv, _, hh, _⟩
      · rw [hv] at e; cases e
      · rw [hv] at e
        simp only [Value.ownBlock, Option.some.injEq] at e
        subst e
        obtain ⟨c2, h2, _⟩ := hr2
        rw [hh] at h2
        cases h2
  have split : ∀ {i : Nat} {s : RowOf}, (rows ++ [r])[i]? = some s → (i < rows.length ∧ rows[i]? = some s) ∨ (i = rows.length ∧ s = r) := by
    intro i s hs
    by_cases e : i < rows.length
    · rw [List.getElem?_append_left e] at hs; exact .inl ⟨e, hs⟩
    · have h1 := (List.getElem?_eq_some_iff.1 hs).1
      rw [List.length_append, List.length_singleton] at h1
      have e2 : i = rows.length := by omega
      subst e2
      rw [List.getElem?_append_right (Nat.le_refl _)] at hs
      simp at hs
      exact .inr ⟨rfl, hs.symm⟩
  have hfit := h.fit
  refine ⟨?_, ?_, ⟨by simp [hfit.1], ?_⟩, ?_⟩
  · rw [List.length_append, List.map_append]; exact hown
  · intro i s hs
    rcases split hs with ⟨hi, hs1⟩ | ⟨rfl, rfl⟩
    · have h1 := keep (h.each i s hs1)
      have : tabG (xss ++ [xs]) i = tabG xss i := by
        funext j; unfold tabG; rw [List.getElem?_append_left (by rw [← hfit.1]; exact hi)]
      rw [this]; exact h1
    · rw [tabG_at (show (xss ++ [xs])[rows.length]? = some xs by rw [hfit.1, List.getElem?_append_right (Nat.le_refl _)]; simp)]
      rcases keep hr with h1 | ⟨b, f, N, e, hb, h2⟩
      · exact .inl h1
      · exact .inr ⟨b, f, N, e, Nat.le_trans hBC hb, h2⟩
  · intro i s ys hs hy
    rcases split hs with ⟨hi, hs1⟩ | ⟨rfl, rfl⟩
    · rw [List.getElem?_append_left (by rw [← hfit.1]; exact hi)] at hy
      exact hfit.2 i s ys hs1 hy
    · rw [hfit.1, List.getElem?_append_right (Nat.le_refl _)] at hy
      simp at hy; rw [← hy]; exact hl
  · intro i j s t x y hij hs ht hz1 hz2 hx hy
    rcases split ht with ⟨hj, ht1⟩ | ⟨rfl, rfl⟩
    · rcases split hs with ⟨hi, hs1⟩ | ⟨e, _⟩
      · exact h.apart i j s t x y hij hs1 ht1 hz1 hz2 hx hy
      · omega
    · rcases split hs with ⟨hi, hs1⟩ | ⟨e, _⟩
      · have h1 := hlow i s hs1 hz1 x hx
        rcases hr with h2 | ⟨b, f, N, e, hb, h2⟩
        · exact absurd h2 hz2
        · rw [hy] at e; cases e; simp only; omega
      · omega

section
variable {ops : Array Oper} {rest : List Oper} {o : Oper} {a : Act} {Q : Exit → Act → World → Prop} {w : World} {B : Nat}
/-- one row more -/
theorem wpList_tab_append (hgd : o.guard = none) (s x : Operand) (ho : o.op = .call { callee := .builtin .append, args := #[s, x], argTypes := #[27, 27] })
    (v : Value) (rows : List RowOf) (xss : List (List Int)) (hs : a.eval s = v) (h : BuildT B w v rows xss) (b : Nat) (r : RowOf) (xs : List Int) (C : Nat) (hx : a.eval x = .slice (some ⟨b, 0, none⟩) 1 1) (hc : w.cell? ⟨b, 0, none⟩ = some (rowVal r))
    (hlow : ∀ (i : Nat) (r : RowOf), rows[i]? = some r → r.2.1 ≠ 0 → ∀ x, r.1 = some x → x.block < C) (hr : OwnI C w r.1 r.2.1 (fun j => xs.getD j 0)) (hBC : B ≤ C) (hrl : r.2.1 = xs.length)
    (hl : xss.length ≤ 1000000) (hB : B ≤ w.heap.size)
    (hk : ∀ v' w', BuildT B w' v' (rows ++ [r]) (xss ++ [xs]) → w.grownBy w' v.ownBlock → wpList Try.prog ops Q rest (a.put o.dst v') w') : wpList Try.prog ops Q (o :: rest) a w := by
  obtain ⟨i0, hi, hz0, hz1, hz2⟩ := info_parts Try.info_isl
  have hlen := h.fit.1
  refine wpList_append_own (P := Try.prog) w hgd s x 27 ho B 37 i0 (.slice none 0 0) 1 24 Try.underlying27 hi hz0 hz1 hz2 rfl (by decide) v rows.length _ hs h.row ⟨b, 0, none⟩ 1 1 [rowVal r] hx rfl ?_ ?_ (by unfold maxLen; omega) (by omega) hB ?_
  · intro j u hu
    have hj := (List.getElem?_eq_some_iff.1 hu).1
    simp at hj; subst hj
    simp at hu; subst hu
    simpa [Addr.add] using hc
  · intro u hu; simp at hu; subst hu; rfl
  · intro v' w' h1 h2 _
    exact hk v' w' (h.snoc hlow hr hBC hrl h1 h2) h2
end

/-- a table beside a code: the answer -/
def SaysTab (xss : List (List Int)) (n : Int) (w : World) (e : Ending) (w' : World) : Prop :=
  ∃ a cap rows, e = .returned (.tuple #[.slice a xss.length cap, .int .i64 n]) ∧ Fit rows xss ∧ OwnTab w.heap.size w' a rows (tabG xss) ∧ Below w.heap.size w w'
/-- a table -/
def SaysT1 (xss : List (List Int)) (w : World) (e : Ending) (w' : World) : Prop :=
  ∃ v rows, e = .returned v ∧ BuildT w.heap.size w' v rows xss ∧ Below w.heap.size w w'
/-- a list of numbers -/
def SaysL1 (zs : List Int) (w : World) (e : Ending) (w' : World) : Prop :=
  ∃ v, e = .returned v ∧ BuildI w.heap.size w' v zs ∧ Below w.heap.size w w'
/-- a list of numbers beside a code -/
def SaysNewI (zs : List Int) (n : Int) (w : World) (e : Ending) (w' : World) : Prop :=
  ∃ a cap, e = .returned (.tuple #[.slice a zs.length cap, .int .i64 n]) ∧ OwnI w.heap.size w' a zs.length (fun i => zs.getD i 0) ∧ Below w.heap.size w w'
end Go.Proofs.Ytdeiillfdjebdaa
