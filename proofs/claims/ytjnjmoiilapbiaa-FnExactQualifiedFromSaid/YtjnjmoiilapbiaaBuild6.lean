/- Lists of numbers and of texts that a call builds by adding. -/
import Derived.Test.YtjnjmoiilapbiaaChecked
import Derived.Test.YtjnjmoiilapbiaaBase
import Derived.Test.YtjnjmoiilapbiaaInfo
import Derived.Test.YtjnjmoiilapbiaaMarkI
import Derived.WalkKit
import Derived.WalkSpells
import Derived.WalkLawsBesides
import Derived.Lib.Hide
import Derived.Lib.QuietBelow
import Derived.Deep.OwnRows
import Derived.Outline
namespace Go.Proofs.Ytjnjmoiilapbiaa
open Go.RowKit Go.Sort Pure2 Pure3

theorem info_parts {P : Program} {t : TypeId} {z : Value} {s b : Nat} (h : (P.info? t).map (fun i => (i.zero, i.size, i.bytes)) = some (some z, s, b)) : ∃ i, P.info? t = some i ∧ i.zero = some z ∧ i.size = s ∧ i.bytes = b := by
  obtain ⟨i, hi, hz⟩ := Option.map_eq_some_iff.1 h
  simp only [Prod.mk.injEq] at hz
  exact ⟨i, hi, hz.1, hz.2.1, hz.2.2⟩
/-- a list of numbers that is being built (from block B on) -/
def BuildI (B : Nat) (w : World) (v : Value) (zs : List Int) : Prop := w.ownsRow B 2 1 v zs.length (zs.map (Value.int .i64))
theorem BuildI.nil (B : Nat) (w : World) : BuildI B w (.slice none 0 0) [] := World.ownsRow_nil _ _ _ _
theorem BuildI.empty {B : Nat} {w : World} (hB : B ≤ w.heap.size) : BuildI B (w.alloc (.cells #[] 2)) (.slice (some ⟨w.heap.size, 0, none⟩) 0 0) [] := World.ownsRow_lit (size := 1) w #[] 0 hB (by decide) rfl
theorem BuildI.one {B : Nat} {w : World} (x : Int) (hB : B ≤ w.heap.size) : BuildI B (w.alloc (.cells #[.int .i64 x] 2)) (.slice (some ⟨w.heap.size, 0, none⟩) 1 1) [x] := World.ownsRow_lit (size := 1) w #[.int .i64 x] 1 hB (by decide) rfl
theorem BuildI.below {B : Nat} {w w' : World} {v : Value} {zs : List Int} (h : BuildI B w v zs) (hb : Below w.heap.size w w') : BuildI B w' v zs := by
  refine ⟨h.1, ?_⟩
  rcases h.2 with hn | ⟨g, cap, cur, rfl, hB, hg, rest⟩
  · exact .inl hn
  · exact .inr ⟨g, cap, cur, rfl, hB, by rw [hb.block g (Array.getElem?_eq_some_iff.1 hg).1]; exact hg, rest⟩
theorem BuildI.alloc {B : Nat} {w : World} {v : Value} {zs : List Int} (h : BuildI B w v zs) (o : Obj) : BuildI B (w.alloc o) v zs := h.below ((Below.refl _ _).alloc (Nat.le_refl _) o)
theorem BuildI.own {B : Nat} {w : World} {v : Value} {zs : List Int} (h : BuildI B w v zs) : ∃ a cap, v = .slice a zs.length cap ∧ zs.length ≤ cap ∧ OwnI B w a zs.length (fun i => zs.getD i 0) := by
  obtain ⟨h1, ⟨rfl, h0⟩ | ⟨g, cap, cur, rfl, hg, hh, hn, hc, hs, hr⟩⟩ := id h
  · exact ⟨_, 0, by rw [h0], by omega, .inl h0⟩
  · rw [Nat.mul_one] at hr hs
    refine ⟨_, cap, rfl, hn, .inr ⟨g, fun i => cur.getD i (.int .i64 0), cap, rfl, hg, hn, ⟨cur, hh, hs, fun i hi => ?_⟩, fun i hi => ?_⟩⟩
    · simp [Array.getD, show i < cur.size by omega]
    · have hx : (zs.map (Value.int .i64))[i]? = some (.int .i64 (zs.getD i 0)) := by
        rw [List.getElem?_map, List.getElem?_eq_getElem (by omega)]; simp [List.getElem?_eq_getElem (show i < zs.length by omega)]
      rw [← hr, List.getElem?_take_of_lt hi, Array.getElem?_toList] at hx
      rw [Array.getElem?_eq_getElem (by omega)] at hx
      simp [Array.getD, show i < cur.size by omega]
      simpa using hx
theorem BuildI.grew {B C : Nat} {w0 w w' : World} {v : Value} {zs : List Int} (h : BuildI B w v zs) (hB : Below C w0 w) (hC : C ≤ B) (hs : C ≤ w.heap.size) (hg : w.grownBy w' v.ownBlock) : Below C w0 w' :=
  hB.grown hg hs (fun k hk => Nat.le_trans hC (h.lt k hk).1)

section
variable {ops : Array Oper} {rest : List Oper} {o : Oper} {a : Act} {Q : Exit → Act → World → Prop} {w : World} {B : Nat}
/-- one number more -/
theorem wpList_int_append (hgd : o.guard = none) (s x : Operand) (ho : o.op = .call { callee := .builtin .append, args := #[s, x], argTypes := #[24, 24] })
    (v : Value) (zs : List Int) (hs : a.eval s = v) (h : BuildI B w v zs) (b : Nat) (y : Int) (hx : a.eval x = .slice (some ⟨b, 0, none⟩) 1 1) (hc : w.cell? ⟨b, 0, none⟩ = some (.int .i64 y))
    (hl : zs.length ≤ 1000000) (hB : B ≤ w.heap.size)
    (hk : ∀ v' w', BuildI B w' v' (zs ++ [y]) → w.grownBy w' v.ownBlock → wpList Try.prog ops Q rest (a.put o.dst v') w') : wpList Try.prog ops Q (o :: rest) a w := by
  obtain ⟨i0, hi, hz0, hz1, hz2⟩ := info_parts Try.info_i64
  refine wpList_append_own (P := Try.prog) w hgd s x 24 ho B 2 i0 (.int .i64 0) 1 8 Try.underlying24 hi hz0 hz1 hz2 rfl (by decide) v zs.length _ hs h ⟨b, 0, none⟩ 1 1 [.int .i64 y] hx rfl ?_ ?_ (by unfold maxLen; omega) (by omega) hB ?_
  · intro j u hu
    have hj := (List.getElem?_eq_some_iff.1 hu).1
    simp at hj; subst hj
    simp at hu; subst hu
    simpa [Addr.add] using hc
  · intro u hu; simp at hu; subst hu; rfl
  · intro v' w' h1 h2 _
    refine hk v' w' ?_ h2
    unfold BuildI
    rw [List.length_append, List.map_append]; exact h1
end

/-- a list of texts that is being built (from block B on) -/
def BuildS (B : Nat) (w : World) (v : Value) (zs : List ByteArray) : Prop := w.ownsRow B 9 1 v zs.length (zs.map (Value.string))
theorem BuildS.nil (B : Nat) (w : World) : BuildS B w (.slice none 0 0) [] := World.ownsRow_nil _ _ _ _
theorem BuildS.empty {B : Nat} {w : World} (hB : B ≤ w.heap.size) : BuildS B (w.alloc (.cells #[] 9)) (.slice (some ⟨w.heap.size, 0, none⟩) 0 0) [] := World.ownsRow_lit (size := 1) w #[] 0 hB (by decide) rfl
theorem BuildS.one {B : Nat} {w : World} (x : ByteArray) (hB : B ≤ w.heap.size) : BuildS B (w.alloc (.cells #[.string x] 9)) (.slice (some ⟨w.heap.size, 0, none⟩) 1 1) [x] := World.ownsRow_lit (size := 1) w #[.string x] 1 hB (by decide) rfl
theorem BuildS.below {B : Nat} {w w' : World} {v : Value} {zs : List ByteArray} (h : BuildS B w v zs) (hb : Below w.heap.size w w') : BuildS B w' v zs := by
  refine ⟨h.1, ?_⟩
  rcases h.2 with hn | ⟨g, cap, cur, rfl, hB, hg, rest⟩
  · exact .inl hn
  · exact .inr ⟨g, cap, cur, rfl, hB, by rw [hb.block g (Array.getElem?_eq_some_iff.1 hg).1]; exact hg, rest⟩
theorem BuildS.alloc {B : Nat} {w : World} {v : Value} {zs : List ByteArray} (h : BuildS B w v zs) (o : Obj) : BuildS B (w.alloc o) v zs := h.below ((Below.refl _ _).alloc (Nat.le_refl _) o)
theorem BuildS.reads {B : Nat} {w : World} {v : Value} {zs : List ByteArray} (h : BuildS B w v zs) : ∃ a cap, v = .slice a zs.length cap ∧ zs.length ≤ cap ∧ StrsAt w a zs := by
  obtain ⟨h1, ⟨rfl, h0⟩ | ⟨g, cap, cur, rfl, hg, hh, hn, hc, hs, hr⟩⟩ := id h
  · exact ⟨_, 0, by rw [h0], by omega, .inl (List.length_eq_zero_iff.1 h0)⟩
  · rw [Nat.mul_one] at hr hs
    refine ⟨_, cap, rfl, hn, .inr ⟨g, 0, rfl, fun i x hx => ?_⟩⟩
    have hi := (List.getElem?_eq_some_iff.1 hx).1
    have hx' : (zs.map Value.string)[i]? = some (.string x) := by rw [List.getElem?_map, hx]; rfl
    rw [← hr, List.getElem?_take_of_lt hi, Array.getElem?_toList] at hx'
    rw [Nat.zero_add]
    simp [World.cell?, hh, hx']
theorem BuildS.grew {B C : Nat} {w0 w w' : World} {v : Value} {zs : List ByteArray} (h : BuildS B w v zs) (hB : Below C w0 w) (hC : C ≤ B) (hs : C ≤ w.heap.size) (hg : w.grownBy w' v.ownBlock) : Below C w0 w' :=
  hB.grown hg hs (fun k hk => Nat.le_trans hC (h.lt k hk).1)

section
variable {ops : Array Oper} {rest : List Oper} {o : Oper} {a : Act} {Q : Exit → Act → World → Prop} {w : World} {B : Nat}
/-- one text more -/
theorem wpList_str_append (hgd : o.guard = none) (s x : Operand) (ho : o.op = .call { callee := .builtin .append, args := #[s, x], argTypes := #[81, 81] })
    (v : Value) (zs : List ByteArray) (hs : a.eval s = v) (h : BuildS B w v zs) (b : Nat) (y : ByteArray) (hx : a.eval x = .slice (some ⟨b, 0, none⟩) 1 1) (hc : w.cell? ⟨b, 0, none⟩ = some (.string y))
    (hl : zs.length ≤ 1000000) (hB : B ≤ w.heap.size)
    (hk : ∀ v' w', BuildS B w' v' (zs ++ [y]) → w.grownBy w' v.ownBlock → wpList Try.prog ops Q rest (a.put o.dst v') w') : wpList Try.prog ops Q (o :: rest) a w := by
  obtain ⟨i0, hi, hz0, hz1, hz2⟩ := info_parts Try.info_str
  refine wpList_append_own (P := Try.prog) w hgd s x 81 ho B 9 i0 (.string ⟨#[]⟩) 1 16 Try.underlying81 hi hz0 hz1 hz2 rfl (by decide) v zs.length _ hs h ⟨b, 0, none⟩ 1 1 [.string y] hx rfl ?_ ?_ (by unfold maxLen; omega) (by omega) hB ?_
  · intro j u hu
    have hj := (List.getElem?_eq_some_iff.1 hu).1
    simp at hj; subst hj
    simp at hu; subst hu
    simpa [Addr.add] using hc
  · intro u hu; simp at hu; subst hu; rfl
  · intro v' w' h1 h2 _
    refine hk v' w' ?_ h2
    unfold BuildS
    rw [List.length_append, List.map_append]; exact h1
end

theorem BuildI.mono {B C : Nat} {w : World} {v : Value} {zs : List Int} (h : BuildI C w v zs) (hBC : B ≤ C) : BuildI B w v zs := by
  refine ⟨h.1, ?_⟩
  rcases h.2 with hn | ⟨g, cap, cur, rfl, hB, rest⟩
  · exact .inl hn
  · exact .inr ⟨g, cap, cur, rfl, by omega, rest⟩
theorem cell_one (w : World) (v : Value) (T : TypeId) : (w.alloc (.cells #[v] T)).cell? ⟨w.heap.size, 0, none⟩ = some v := by
  have h : (w.alloc (.cells #[v] T)).heap[w.heap.size]? = some (.cells #[v] T) := heap_alloc_new w _
  unfold World.cell?; rw [h]; rfl
/-- a list of numbers beside a code -/
def SaysNewI (zs : List Int) (n : Int) (w : World) (e : Ending) (w' : World) : Prop :=
  ∃ a cap, e = .returned (.tuple #[.slice a zs.length cap, .int .i64 n]) ∧ OwnI w.heap.size w' a zs.length (fun i => zs.getD i 0) ∧ Below w.heap.size w w'
theorem ownI_kept {C : Nat} {w w' : World} {a : Option Addr} {len : Nat} {g : Nat → Int} {row : Option Nat} (h : OwnI C w a len g) (hg : w.grownBy w' row) (hrow : ∀ k, row = some k → k < C) : OwnI C w' a len g := by
  rcases h with h | ⟨b, f, N, e, hB, hN, hr, hf⟩
  · exact .inl h
  · exact .inr ⟨b, f, N, e, hB, hN, hr.of_block (hg.block b hr.lt (fun e => by have := hrow b e.symm; omega)), hf⟩
theorem ownI_mono {B C : Nat} {w : World} {a : Option Addr} {len : Nat} {g : Nat → Int} (h : OwnI C w a len g) (hBC : B ≤ C) : OwnI B w a len g := by
  rcases h with h | ⟨b, f, N, e, hB, h2⟩
  · exact .inl h
  · exact .inr ⟨b, f, N, e, by omega, h2⟩
theorem regr_call {P : Program} {f : FuncId} {args : Array Value} {w : World} {v : Value} (h : ∀ W, Below w.heap.size w W → Calls P f args W fun e w' => e = .returned v ∧ Below W.heap.size W w') (d : Nat) (os : Array Obj) :
    Calls P f args (grow (redrawn w d) os) fun e w'' => e = .returned v ∧ ∃ p : Regrown, w'' = grow (redrawn w p.d) p.os := Calls.regrown_of (h _ (below_regrown w d os))
end Go.Proofs.Ytjnjmoiilapbiaa
