/- Lists of numbers that a call builds by adding. -/
import Derived.Test.YtekhdggaelppkaaChecked
import Derived.Test.YtekhdggaelppkaaBase0
import Derived.Test.YtekhdggaelppkaaInfo
import Derived.Test.YtekhdggaelppkaaMarkI
import Derived.Test.YtekhdggaelppkaaIntL
import Derived.WalkKit
import Derived.WalkSpells
import Derived.WalkLawsBesides
import Derived.Lib.Hide
import Derived.Lib.OwnBridge
import Derived.Deep.OwnRows
import Derived.Outline
namespace Go.Proofs.Ytekhdggaelppkaa
open Go.RowKit Go.Sort Pure2 Pure3

theorem info_parts {P : Program} {t : TypeId} {z : Value} {s b : Nat} (h : (P.info? t).map (fun i => (i.zero, i.size, i.bytes)) = some (some z, s, b)) : ∃ i, P.info? t = some i ∧ i.zero = some z ∧ i.size = s ∧ i.bytes = b := by
  obtain ⟨i, hi, hz⟩ := Option.map_eq_some_iff.1 h
  simp only [Prod.mk.injEq] at hz
  exact ⟨i, hi, hz.1, hz.2.1, hz.2.2⟩
/-- a list of numbers that is being built (from block B on) -/
def BuildI (B : Nat) (w : World) (v : Value) (zs : List Int) : Prop := w.ownsRow B 2 1 v zs.length (zs.map (Value.int .i64))
theorem BuildI.nil (B : Nat) (w : World) : BuildI B w (.slice none 0 0) [] := World.ownsRow_nil _ _ _ _
theorem BuildI.empty {B : Nat} {w : World} (hB : B ≤ w.heap.size) : BuildI B (w.alloc (.cells #[] 2)) (.slice (some ⟨w.heap.size, 0, none⟩) 0 0) [] := World.ownsRow_lit (size := 1) w #[] 0 hB (by decide) rfl
theorem BuildI.one {B : Nat} {w : World} (x : Int) (hB : B ≤ w.heap.size) : BuildI B (w.alloc (.cells #[.int .i64 x] 2)) (.slice (some ⟨w.heap.size, 0, none⟩) 1 1) [x] := World.ownsRow_lit (size := 1) w #[.int .i64 x] 1 hB (by decide) rfl
theorem BuildI.below {B : Nat} {w w' : World} {v : Value} {zs : List Int} (h : BuildI B w v zs) (hb : Below w.heap.size w w') : BuildI B w' v zs := by
  refine ⟨h.1, ?_⟩
  rcases h.2 with hn | ⟨g, cap, cur, rfl, hB, hg, rest⟩
  · exact .inl hn
  · exact .inr ⟨g, cap, cur, rfl, hB, by rw [hb.block g (Array.getElem?_eq_some_iff.1 hg).1]; exact hg, rest⟩
theorem BuildI.alloc {B : Nat} {w : World} {v : Value} {zs : List Int} (h : BuildI B w v zs) (o : Obj) : BuildI B (w.alloc o) v zs := h.below ((Below.refl _ _).alloc (Nat.le_refl _) o)
theorem BuildI.own {B : Nat} {w : World} {v : Value} {zs : List Int} (h : BuildI B w v zs) : ∃ a cap, v = .slice a zs.length cap ∧ zs.length ≤ cap ∧ OwnI B w a zs.length (fun i => zs.getD i 0) := by
  obtain ⟨h1, ⟨rfl, h0⟩ | ⟨g, cap, cur, rfl, hg, hh, hn, hc, hs, hr⟩⟩ := id h
  · exact ⟨_, 0, by rw [h0], by omega, .inl h0⟩
  · rw [Nat.mul_one] at hr hs
    refine ⟨_, cap, rfl, hn, .inr ⟨g, fun i => cur.getD i (.int .i64 0), cap, rfl, hg, hn, ⟨cur, hh, hs, fun i hi => ?_⟩, fun i hi => ?_⟩⟩
    · simp [Array.getD, show i < cur.size by omega]
    · have hx : (zs.map (Value.int .i64))[i]? = some (.int .i64 (zs.getD i 0)) := by
        rw [List.getElem?_map, List.getElem?_eq_getElem (by omega)]; simp [List.getElem?_eq_getElem (show i < zs.length by omega)]
      rw [← hr, List.getElem?_take_of_lt hi, Array.getElem?_toList] at hx
      rw [Array.getElem?_eq_getElem (by omega)] at hx
      simp [Array.getD, show i < cur.size by omega]
      simpa using hx
theorem BuildI.grew {B C : Nat} {w0 w w' : World} {v : Value} {zs : List Int} (h : BuildI B w v zs) (hB : Below C w0 w) (hC : C ≤ B) (hs : C ≤ w.heap.size) (hg : w.grownBy w' v.ownBlock) : Below C w0 w' :=
  hB.grown hg hs (fun k hk => Nat.le_trans hC (h.lt k hk).1)

section
variable {ops : Array Oper} {rest : List Oper} {o : Oper} {a : Act} {Q : Exit → Act → World → Prop} {w : World} {B : Nat}
/-- one number more -/
theorem wpList_int_append (hgd : o.guard = none) (s x : Operand) (ho : o.op = .call { callee := .builtin .append, args := #[s, x], argTypes := #[24, 24] })
    (v : Value) (zs : List Int) (hs : a.eval s = v) (h : BuildI B w v zs) (b : Nat) (y : Int) (hx : a.eval x = .slice (some ⟨b, 0, none⟩) 1 1) (hc : w.cell? ⟨b, 0, none⟩ = some (.int .i64 y))
    (hl : zs.length ≤ 1000000) (hB : B ≤ w.heap.size)
    (hk : ∀ v' w', BuildI B w' v' (zs ++ [y]) → w.grownBy w' v.ownBlock → wpList Try.prog ops Q rest (a.put o.dst v') w') : wpList Try.prog ops Q (o :: rest) a w := by
  obtain ⟨i0, hi, hz0, hz1, hz2⟩ := info_parts Try.info_i64
  refine wpList_append_own (P := Try.prog) w hgd s x 24 ho B 2 i0 (.int .i64 0) 1 8 Try.underlying24 hi hz0 hz1 hz2 rfl (by decide) v zs.length _ hs h ⟨b, 0, none⟩ 1 1 [.int .i64 y] hx rfl ?_ ?_ (by unfold maxLen; omega) (by omega) hB ?_
  · intro j u hu
    have hj := (List.getElem?_eq_some_iff.1 hu).1
    simp at hj; subst hj
    simp at hu; subst hu
    simpa [Addr.add] using hc
  · intro u hu; simp at hu; subst hu; rfl
  · intro v' w' h1 h2 _
    refine hk v' w' ?_ h2
    unfold BuildI
    rw [List.length_append, List.map_append]; exact h1
end
theorem BuildI.parts {B : Nat} {w : World} {v : Value} {zs : List Int} (h : BuildI B w v zs) : (v = .slice none 0 0 ∧ zs = []) ∨ IntL w B v zs := by
  rcases h.2 with ⟨rfl, h0⟩ | ⟨g, cap, cur, rfl, h3⟩
  · exact .inl ⟨rfl, List.length_eq_zero_iff.1 h0⟩
  · exact .inr ⟨⟨g, cap, rfl⟩, h⟩
theorem BuildI.base {w : World} {B B' : Nat} {v : Value} {zs : List Int} (h : BuildI B w v zs) (hb : B' ≤ B) : BuildI B' w v zs := by
  rcases h.parts with ⟨rfl, rfl⟩ | h
  · exact BuildI.nil _ _
  · exact (h.base hb).2
theorem BuildI.slice {w : World} {B : Nat} {v : Value} {zs : List Int} (h : BuildI B w v zs) : ∃ a cap, v = .slice a zs.length cap ∧ IntsAt w a zs := by
  rcases h.parts with ⟨rfl, rfl⟩ | h
  · exact ⟨_, _, rfl, .inl rfl⟩
  · obtain ⟨⟨g, cap, rfl⟩, _⟩ := id h
    exact ⟨_, _, rfl, h.reads⟩
theorem BuildI.lit1 (w : World) (x : Int) (T : TypeId) : (w.alloc (.cells #[.int .i64 x] T)).cell? ⟨w.heap.size, 0, none⟩ = some (.int .i64 x) := by
  unfold World.cell?; rw [heap_alloc_new]; rfl
theorem BuildI.lit2 (w : World) (o : Obj) (x : Int) (T : TypeId) : ((w.alloc o).alloc (.cells #[.int .i64 x] T)).cell? ⟨w.heap.size + 1, 0, none⟩ = some (.int .i64 x) := by
  have h : ((w.alloc o).alloc (.cells #[.int .i64 x] T)).heap[(w.alloc o).heap.size]? = some (.cells #[.int .i64 x] T) := heap_alloc_new _ _
  rw [show (w.alloc o).heap.size = w.heap.size + 1 by simp] at h
  unfold World.cell?; rw [h]; rfl
end Go.Proofs.Ytekhdggaelppkaa
