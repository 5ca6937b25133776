/- Contract: spec.l06Rules draws rules. -/
import Derived.Test.YtjnjmoiilapbiaaChecked
import Derived.Test.YtjnjmoiilapbiaaBase
import Derived.Test.YtjnjmoiilapbiaaPure40
import Derived.Test.YtjnjmoiilapbiaaPure6
import Derived.Test.YtjnjmoiilapbiaaPure61
import Derived.Test.YtjnjmoiilapbiaaNext
import Derived.Test.YtjnjmoiilapbiaaPick
import Derived.Test.YtjnjmoiilapbiaaDrawW
import Derived.Test.YtjnjmoiilapbiaaPersLaw
import Derived.Test.YtjnjmoiilapbiaaGood4
import Derived.Test.YtjnjmoiilapbiaaDraw4
import Derived.Test.YtjnjmoiilapbiaaTruth6
import Derived.Test.YtjnjmoiilapbiaaRulLaw6
import Derived.WalkKit
import Derived.WalkSpells
import Derived.WalkLawsBesides
import Derived.Lib.Hide
import Derived.IntWalk
import Derived.Outline
namespace Go.Proofs.Ytjnjmoiilapbiaa
open Go.RowKit Pure1 Pure2 Pure6 Pure40 Pure61

/-- a slice of numbers that lies in a block behind b -/
def IntsUp (b : Nat) (w : World) (a : Option Addr) (zs : List Int) : Prop := zs = [] ∨ ∃ g, a = some ⟨g, 0, none⟩ ∧ b < g ∧ ∀ i x, zs[i]? = some x → w.cell? ⟨g, i, none⟩ = some (.int .i64 x)
theorem IntsUp.reads {b : Nat} {w : World} {a : Option Addr} {zs : List Int} (h : IntsUp b w a zs) : IntsAt w a zs := by
  rcases h with h | ⟨g, rfl, _, hc⟩
  · exact .inl h
  · exact .inr ⟨g, 0, rfl, fun i x hx => by rw [Nat.zero_add]; exact hc i x hx⟩
theorem IntsUp.below {b : Nat} {w w' : World} {a : Option Addr} {zs : List Int} (h : IntsUp b w a zs) (hb : Below w.heap.size w w') : IntsUp b w' a zs := by
  rcases h with h | ⟨g, e, hg, hc⟩
  · exact .inl h
  · exact .inr ⟨g, e, hg, fun i x hx => cell_later hb (hc i x hx)⟩
theorem IntsUp.grown {b k : Nat} {w w' : World} {a : Option Addr} {zs : List Int} (h : IntsUp b w a zs) (hg : w.grownBy w' (some k)) (hk : k ≤ b) : IntsUp b w' a zs := by
  rcases h with h | ⟨g, e, hgb, hc⟩
  · exact .inl h
  · exact .inr ⟨g, e, hgb, fun i x hx => hg.cell (hc i x hx) (fun e => by have h2 : g = k := Option.some.inj e; omega)⟩
theorem IntsUp.stored {b : Nat} {w : World} {a : Option Addr} {zs : List Int} (h : IntsUp b w a zs) {x : Addr} (hx : x.block ≤ b) (u : Value) : IntsUp b (w.setCell x u) a zs := by
  rcases h with h | ⟨g, e, hgb, hc⟩
  · exact .inl h
  · exact .inr ⟨g, e, hgb, fun i y hy => by rw [← hc i y hy]; exact World.cell?_of_block (w := w) (Below.heap_setCell _ _ _ _ (show g ≠ x.block by omega))⟩
theorem IntsUp.mono {b b' : Nat} {w : World} {a : Option Addr} {zs : List Int} (h : IntsUp b w a zs) (hb : b' ≤ b) : IntsUp b' w a zs := by
  rcases h with h | ⟨g, e, hgb, hc⟩
  · exact .inl h
  · exact .inr ⟨g, e, by omega, hc⟩
theorem intsUp_apart {b : Nat} {w : World} {a : Option Addr} {zs : List Int} (h : IntsUp b w a zs) {x : Addr} (hx : ∀ g, a = some ⟨g, 0, none⟩ → x.block ≠ g) (u : Value) : IntsUp b (w.setCell x u) a zs := by
  rcases h with h | ⟨g, e, hgb, hc⟩
  · exact .inl h
  · exact .inr ⟨g, e, hgb, fun i y hy => by rw [← hc i y hy]; exact World.cell?_of_block (w := w) (Below.heap_setCell _ _ _ _ (fun e2 => hx g e e2.symm))⟩
theorem intsUp_lit {b : Nat} (w : World) (zs : List Int) (T : TypeId) (hb : b < w.heap.size) : IntsUp b (w.alloc (.cells (zs.map (Value.int .i64)).toArray T)) (some ⟨w.heap.size, 0, none⟩) zs := .inr ⟨_, rfl, hb, alloc_ints w T zs⟩
/-- the lists of rules, behind b -/
def RulesUp (b : Nat) (w : World) (za : Option Addr) (zl : Nat) (ja : Option Addr) (jl : Nat) (zz jj : List Int) : Prop := zz.length = zl ∧ zl ≤ 4 ∧ IntsUp b w za zz ∧ jj.length = jl ∧ jl ≤ 4 ∧ IntsUp b w ja jj
theorem RulesUp.reads {b : Nat} {w : World} {za ja : Option Addr} {zl jl : Nat} {zz jj : List Int} (h : RulesUp b w za zl ja jl zz jj) : RulesIn w za zl ja jl zz jj :=
  ⟨h.1, by have := h.2.1; unfold maxLen; omega, h.2.2.1.reads, h.2.2.2.1, by have := h.2.2.2.2.1; unfold maxLen; omega, h.2.2.2.2.2.reads⟩
theorem RulesUp.below {b : Nat} {w w' : World} {za ja : Option Addr} {zl jl : Nat} {zz jj : List Int} (h : RulesUp b w za zl ja jl zz jj) (hb : Below w.heap.size w w') : RulesUp b w' za zl ja jl zz jj :=
  ⟨h.1, h.2.1, h.2.2.1.below hb, h.2.2.2.1, h.2.2.2.2.1, h.2.2.2.2.2.below hb⟩
theorem RulesUp.grown {b k : Nat} {w w' : World} {za ja : Option Addr} {zl jl : Nat} {zz jj : List Int} (h : RulesUp b w za zl ja jl zz jj) (hg : w.grownBy w' (some k)) (hk : k ≤ b) : RulesUp b w' za zl ja jl zz jj :=
  ⟨h.1, h.2.1, h.2.2.1.grown hg hk, h.2.2.2.1, h.2.2.2.2.1, h.2.2.2.2.2.grown hg hk⟩
theorem RulesUp.stored {b : Nat} {w : World} {za ja : Option Addr} {zl jl : Nat} {zz jj : List Int} (h : RulesUp b w za zl ja jl zz jj) {x : Addr} (hx : x.block ≤ b) (u : Value) : RulesUp b (w.setCell x u) za zl ja jl zz jj :=
  ⟨h.1, h.2.1, h.2.2.1.stored hx u, h.2.2.2.1, h.2.2.2.2.1, h.2.2.2.2.2.stored hx u⟩
theorem RulesUp.mono {b b' : Nat} {w : World} {za ja : Option Addr} {zl jl : Nat} {zz jj : List Int} (h : RulesUp b w za zl ja jl zz jj) (hb : b' ≤ b) : RulesUp b' w za zl ja jl zz jj :=
  ⟨h.1, h.2.1, h.2.2.1.mono hb, h.2.2.2.1, h.2.2.2.2.1, h.2.2.2.2.2.mono hb⟩
theorem Row5.grown {b k : Nat} {w w' : World} {T : TypeId} {v0 v1 v2 v3 v4 : Value} (h : Row5 b w T v0 v1 v2 v3 v4) (hg : w.grownBy w' (some k)) (hne : b ≠ k) : Row5 b w' T v0 v1 v2 v3 v4 := by
  obtain ⟨f, hr, hf⟩ := h; exact ⟨f, hr.of_block (hg.block b hr.lt (fun e => hne (Option.some.inj e))), hf⟩
theorem Row5.set0 {b : Nat} {w : World} {T : TypeId} {v0 v1 v2 v3 v4 : Value} (h : Row5 b w T v0 v1 v2 v3 v4) (v : Value) : Row5 b (w.setCell ⟨b, 0, none⟩ v) T v v1 v2 v3 v4 := by
  obtain ⟨f, hr, h0, h1, h2, h3, h4⟩ := h; exact ⟨_, hr.set 0 v, rfl, h1, h2, h3, h4⟩
theorem Row5.set2 {b : Nat} {w : World} {T : TypeId} {v0 v1 v2 v3 v4 : Value} (h : Row5 b w T v0 v1 v2 v3 v4) (v : Value) : Row5 b (w.setCell ⟨b, 2, none⟩ v) T v0 v1 v v3 v4 := by
  obtain ⟨f, hr, h0, h1, h2, h3, h4⟩ := h; exact ⟨_, hr.set 2 v, h0, h1, rfl, h3, h4⟩
/-- rules are handed out, whose lists lie behind the source -/
def GaveR (B b : Nat) (w : World) (e : Ending) (w' : World) : Prop :=
  ∃ (y l m : Int) (za : Option Addr) (zl zc : Nat) (ja : Option Addr) (jl jc : Nat) (zz jj : List Int), e = .returned (.agg #[.int .i64 y, .int .i64 l, .int .i64 m, .slice za zl zc, .slice ja jl jc]) ∧ RulesUp b w' za zl ja jl zz jj ∧ Src B 93 w' b ∧ w.grownBy w' (some b)

set_option maxRecDepth 100000 in
set_option maxHeartbeats 8000000 in
theorem specRules6_any (B b : Nat) (w : World) (h : Src B 93 w b) :
    Calls Try.prog 46 #[.pointer (some ⟨b, 0, none⟩)] w (GaveR B b w) := by
  have hlt := h.lt
  have hbB := h.base
  have HS0 := Lib.hid (h.alloc (.cells #[.int .i64 0, .int .i64 0, .int .i64 0, .slice none 0 0, .slice none 0 0] 26)); have HG0 := Lib.hid (grown_alloc w (.cells #[.int .i64 0, .int .i64 0, .int .i64 0, .slice none 0 0, .slice none 0 0] 26) (some b)); have HR0 := Lib.hid (row5_box w 26 (.int .i64 0) (.int .i64 0) (.int .i64 0) (.slice none 0 0) (.slice none 0 0))
  clear h
  go_enter Try.func46, Try.ntmps46
  go_wp2_with fail
  generalize (w.alloc (.cells #[.int .i64 0, .int .i64 0, .int .i64 0, .slice none 0 0, .slice none 0 0] 26)) = u0 at HS0 HG0 HR0 ⊢
  obtain ⟨rv, hrv⟩ : ∃ rv, w.heap.size = rv := ⟨_, rfl⟩
  have HRV := Lib.hid hrv
  rw [hrv] at HR0 hlt ⊢
  clear hrv
  refine (specNext_any B b 40 u0 (by omega) HS0.out).mono ?_; rintro e u1 ⟨x0, rfl, hx, _, hS, hg⟩
  obtain ⟨lx0, ux0⟩ := hx (by omega)
  clear hx
  have HS_1 := Lib.hid (hS)
  have HG_2 := Lib.hid (grown_trans HG0.out hg)
  have HR_3 := Lib.hid (HR0.out.grown hg (by omega))
  clear hS hg
  go_wp2_with fail
  refine (specNext_any B b 8 u1 (by omega) HS_1.out).mono ?_; rintro e u2 ⟨x1, rfl, hx, _, hS, hg⟩
  obtain ⟨lx1, ux1⟩ := hx (by omega)
  clear hx
  have HS_4 := Lib.hid (hS)
  have HG_5 := Lib.hid (grown_trans HG_2.out hg)
  have HR_6 := Lib.hid (HR_3.out.grown hg (by omega))
  clear hS hg
  go_wp2_with fail
  refine (specNext_any B b 15 u2 (by omega) HS_4.out).mono ?_; rintro e u3 ⟨x2, rfl, hx, _, hS, hg⟩
  obtain ⟨lx2, ux2⟩ := hx (by omega)
  clear hx
  have HS_7 := Lib.hid (hS)
  have HG_8 := Lib.hid (grown_trans HG_5.out hg)
  have HR_9 := Lib.hid (HR_6.out.grown hg (by omega))
  clear hS hg
  go_wp2_with fail
  have hrl := HR_9.out.lt
  have HUZ_10 := Lib.hid (intsUp_lit (b := rv) u3 [0, 1] 2 hrl)
  have HS_11 := Lib.hid (HS_7.out.alloc (.cells #[.int .i64 0, .int .i64 1] 2))
  have HG_12 := Lib.hid (grown_trans HG_8.out (grown_alloc u3 (.cells #[.int .i64 0, .int .i64 1] 2) (some b)))
  have HR_13 := Lib.hid (HR_9.out.below (boxed u3 (.cells #[.int .i64 0, .int .i64 1] 2)))
  have HUJ_14 := Lib.hid (intsUp_lit (b := rv) (u3.alloc (.cells #[.int .i64 0, .int .i64 1] 2)) [3, 7] 2 (by simp; omega))
  have HS_15 := Lib.hid (HS_11.out.alloc (.cells #[.int .i64 3, .int .i64 7] 2))
  have HG_16 := Lib.hid (grown_trans HG_12.out (grown_alloc (u3.alloc (.cells #[.int .i64 0, .int .i64 1] 2)) (.cells #[.int .i64 3, .int .i64 7] 2) (some b)))
  have HR_17 := Lib.hid (HR_13.out.below (boxed (u3.alloc (.cells #[.int .i64 0, .int .i64 1] 2)) (.cells #[.int .i64 3, .int .i64 7] 2)))
  have HUZ_18 := Lib.hid (HUZ_10.out.below (boxed (u3.alloc (.cells #[.int .i64 0, .int .i64 1] 2)) (.cells #[.int .i64 3, .int .i64 7] 2)))
  have HX_19 := Lib.hid (row5_box ((u3.alloc (.cells #[.int .i64 0, .int .i64 1] 2)).alloc (.cells #[.int .i64 3, .int .i64 7] 2)) 26 (.int .i64 (2000 + x0)) (.int .i64 (18 + x1)) (.int .i64 (60 + x2)) (.slice (some ⟨u3.heap.size, 0, none⟩) 2 2) (.slice (some ⟨(u3.alloc (.cells #[.int .i64 0, .int .i64 1] 2)).heap.size, 0, none⟩) 2 2))
  have HS_20 := Lib.hid (HS_15.out.alloc (.cells #[.int .i64 (2000 + x0), .int .i64 (18 + x1), .int .i64 (60 + x2), .slice (some ⟨u3.heap.size, 0, none⟩) 2 2, .slice (some ⟨(u3.alloc (.cells #[.int .i64 0, .int .i64 1] 2)).heap.size, 0, none⟩) 2 2] 26))
  have HG_21 := Lib.hid (grown_trans HG_16.out (grown_alloc ((u3.alloc (.cells #[.int .i64 0, .int .i64 1] 2)).alloc (.cells #[.int .i64 3, .int .i64 7] 2)) (.cells #[.int .i64 (2000 + x0), .int .i64 (18 + x1), .int .i64 (60 + x2), .slice (some ⟨u3.heap.size, 0, none⟩) 2 2, .slice (some ⟨(u3.alloc (.cells #[.int .i64 0, .int .i64 1] 2)).heap.size, 0, none⟩) 2 2] 26) (some b)))
  have HR_22 := Lib.hid (HR_17.out.below (boxed ((u3.alloc (.cells #[.int .i64 0, .int .i64 1] 2)).alloc (.cells #[.int .i64 3, .int .i64 7] 2)) (.cells #[.int .i64 (2000 + x0), .int .i64 (18 + x1), .int .i64 (60 + x2), .slice (some ⟨u3.heap.size, 0, none⟩) 2 2, .slice (some ⟨(u3.alloc (.cells #[.int .i64 0, .int .i64 1] 2)).heap.size, 0, none⟩) 2 2] 26)))
  have HUZ_23 := Lib.hid (HUZ_18.out.below (boxed ((u3.alloc (.cells #[.int .i64 0, .int .i64 1] 2)).alloc (.cells #[.int .i64 3, .int .i64 7] 2)) (.cells #[.int .i64 (2000 + x0), .int .i64 (18 + x1), .int .i64 (60 + x2), .slice (some ⟨u3.heap.size, 0, none⟩) 2 2, .slice (some ⟨(u3.alloc (.cells #[.int .i64 0, .int .i64 1] 2)).heap.size, 0, none⟩) 2 2] 26)))
  have HUJ_24 := Lib.hid (HUJ_14.out.below (boxed ((u3.alloc (.cells #[.int .i64 0, .int .i64 1] 2)).alloc (.cells #[.int .i64 3, .int .i64 7] 2)) (.cells #[.int .i64 (2000 + x0), .int .i64 (18 + x1), .int .i64 (60 + x2), .slice (some ⟨u3.heap.size, 0, none⟩) 2 2, .slice (some ⟨(u3.alloc (.cells #[.int .i64 0, .int .i64 1] 2)).heap.size, 0, none⟩) 2 2] 26)))
  have hs1 : (u3.alloc (.cells #[.int .i64 0, .int .i64 1] 2)).heap.size = u3.heap.size + 1 := by simp
  have hs2 : ((u3.alloc (.cells #[.int .i64 0, .int .i64 1] 2)).alloc (.cells #[.int .i64 3, .int .i64 7] 2)).heap.size = u3.heap.size + 1 + 1 := by simp
  simp only [hs1, hs2] at HS_20 HG_21 HR_22 HUZ_23 HUJ_24 HX_19
  clear hs1 hs2
  generalize (((u3.alloc (.cells #[.int .i64 0, .int .i64 1] 2)).alloc (.cells #[.int .i64 3, .int .i64 7] 2)).alloc (.cells #[.int .i64 (2000 + x0), .int .i64 (18 + x1), .int .i64 (60 + x2), .slice (some ⟨u3.heap.size, 0, none⟩) 2 2, .slice (some ⟨(u3.heap.size + 1), 0, none⟩) 2 2] 26)) = u4 at HS_20 HG_21 HR_22 HUZ_23 HUJ_24 HX_19 ⊢
  obtain ⟨zb, hzb⟩ : ∃ zb, u3.heap.size = zb := ⟨_, rfl⟩
  obtain ⟨jb, hjb⟩ : ∃ jb, zb + 1 = jb := ⟨_, rfl⟩
  obtain ⟨bx, hbx⟩ : ∃ bx, jb + 1 = bx := ⟨_, rfl⟩
  rw [hzb] at HUZ_23 HUJ_24 HX_19 hrl ⊢
  rw [hjb] at HUJ_24 HX_19 ⊢
  rw [hbx] at HX_19 ⊢
  clear hzb
  refine (specNext_any B b 24 u4 (by omega) HS_20.out).mono ?_; rintro e u5 ⟨x4, rfl, hx, _, hS, hg⟩
  obtain ⟨lx4, ux4⟩ := hx (by omega)
  clear hx
  have HS_25 := Lib.hid (hS)
  have HG_26 := Lib.hid (grown_trans HG_21.out hg)
  have HR_27 := Lib.hid (HR_22.out.grown hg (by omega))
  have HUZ_28 := Lib.hid (HUZ_23.out.grown hg (by omega))
  have HUJ_29 := Lib.hid (HUJ_24.out.grown hg (by omega))
  have HX_30 := Lib.hid (HX_19.out.grown hg (by omega))
  clear hS hg
  by_cases hc0 : x4 = 0
  · have hd0 : (x4 == 0) = true := beq_iff_eq.2 hc0
    clear hc0
    obtain ⟨c0, c1, c2, c3, c4⟩ := HX_30.out.cells
    go_wp2_with fail
    clear c0 c1 c2 c3 c4
    have HS_31 := Lib.hid (HS_25.out.alloc (.cells #[.int .i64 ((18 + x1)), .int .i64 (18 + x1 - 1), .int .i64 150, .int .i64 151] 2))
    have HG_32 := Lib.hid (grown_trans HG_26.out (grown_alloc u5 (.cells #[.int .i64 ((18 + x1)), .int .i64 (18 + x1 - 1), .int .i64 150, .int .i64 151] 2) (some b)))
    have HR_33 := Lib.hid (HR_27.out.below (boxed u5 (.cells #[.int .i64 ((18 + x1)), .int .i64 (18 + x1 - 1), .int .i64 150, .int .i64 151] 2)))
    have HUZ_34 := Lib.hid (HUZ_28.out.below (boxed u5 (.cells #[.int .i64 ((18 + x1)), .int .i64 (18 + x1 - 1), .int .i64 150, .int .i64 151] 2)))
    have HUJ_35 := Lib.hid (HUJ_29.out.below (boxed u5 (.cells #[.int .i64 ((18 + x1)), .int .i64 (18 + x1 - 1), .int .i64 150, .int .i64 151] 2)))
    have HX_36 := Lib.hid (HX_30.out.below (boxed u5 (.cells #[.int .i64 ((18 + x1)), .int .i64 (18 + x1 - 1), .int .i64 150, .int .i64 151] 2)))
    refine (specPick_any B b u5.heap.size [(18 + x1), 18 + x1 - 1, 150, 151] 4 4 _ rfl (by omega) (by omega) HS_31.out (by have := HR_33.out.lt; simp at this ⊢; omega) (alloc_ints u5 _ [(18 + x1), 18 + x1 - 1, 150, 151])).mono ?_; rintro e u6 ⟨q6, rfl, hq, hS, hg⟩
    have HS_37 := Lib.hid (hS)
    have HG_38 := Lib.hid (grown_trans HG_32.out hg)
    have HR_39 := Lib.hid (HR_33.out.grown hg (by omega))
    have HUZ_40 := Lib.hid (HUZ_34.out.grown hg (by omega))
    have HUJ_41 := Lib.hid (HUJ_35.out.grown hg (by omega))
    have HX_42 := Lib.hid (HX_36.out.grown hg (by omega))
    clear hS hg
    have HS_43 := Lib.hid (Src_set (o := 2) HS_37.out (show b ≠ bx by omega) (show B ≤ bx by omega) (.int .i64 q6))
    have HG_44 := Lib.hid (grown_new (o := 2) HG_38.out (show w.heap.size ≤ bx by have := HRV.out; omega) (.int .i64 q6))
    have HUZ_45 := Lib.hid (intsUp_apart HUZ_40.out (x := ⟨bx, 2, none⟩) (by intro g e; cases e; show bx ≠ _; omega) (.int .i64 q6))
    have HUJ_46 := Lib.hid (intsUp_apart HUJ_41.out (x := ⟨bx, 2, none⟩) (by intro g e; cases e; show bx ≠ _; omega) (.int .i64 q6))
    obtain ⟨c0, c1, c2, c3, c4⟩ := HX_42.out.cells
    obtain ⟨d0, d1, d2, d3, d4⟩ := HR_39.out.cells
    have e0 := HR_39.out.frozen 0; have e1 := HR_39.out.frozen 1; have e2 := HR_39.out.frozen 2; have e3 := HR_39.out.frozen 3; have e4 := HR_39.out.frozen 4
    have f2 := HX_42.out.frozen 2
    go_wp2_with fail
    (try simp only [Exit.inBlock, Exit.then])
    refine bodyPost_ret (v := .agg #[.int .i64 (2000 + x0), .int .i64 (18 + x1), .int .i64 q6, .slice (some ⟨zb, 0, none⟩) 2 2, .slice (some ⟨jb, 0, none⟩) 2 2]) ?_ rfl ⟨_, _, _, _, _, _, _, _, _, [0, 1], [3, 7], rfl, RulesUp.mono (b := rv) ⟨rfl, (by simp), (((((HUZ_45.out.stored (x := ⟨rv, 0, none⟩) (Nat.le_refl _) (.int .i64 (2000 + x0))).stored (x := ⟨rv, 1, none⟩) (Nat.le_refl _) (.int .i64 (18 + x1))).stored (x := ⟨rv, 2, none⟩) (Nat.le_refl _) (.int .i64 q6)).stored (x := ⟨rv, 3, none⟩) (Nat.le_refl _) (.slice (some ⟨zb, 0, none⟩) 2 2)).stored (x := ⟨rv, 4, none⟩) (Nat.le_refl _) (.slice (some ⟨jb, 0, none⟩) 2 2)), rfl, (by simp), (((((HUJ_46.out.stored (x := ⟨rv, 0, none⟩) (Nat.le_refl _) (.int .i64 (2000 + x0))).stored (x := ⟨rv, 1, none⟩) (Nat.le_refl _) (.int .i64 (18 + x1))).stored (x := ⟨rv, 2, none⟩) (Nat.le_refl _) (.int .i64 q6)).stored (x := ⟨rv, 3, none⟩) (Nat.le_refl _) (.slice (some ⟨zb, 0, none⟩) 2 2)).stored (x := ⟨rv, 4, none⟩) (Nat.le_refl _) (.slice (some ⟨jb, 0, none⟩) 2 2))⟩ (by omega), (Src_set (o := 4) (Src_set (o := 3) (Src_set (o := 2) (Src_set (o := 1) (Src_set (o := 0) HS_43.out (by omega) (by omega) (.int .i64 (2000 + x0))) (by omega) (by omega) (.int .i64 (18 + x1))) (by omega) (by omega) (.int .i64 q6)) (by omega) (by omega) (.slice (some ⟨zb, 0, none⟩) 2 2)) (by omega) (by omega) (.slice (some ⟨jb, 0, none⟩) 2 2)), (grown_new (o := 4) (grown_new (o := 3) (grown_new (o := 2) (grown_new (o := 1) (grown_new (o := 0) HG_44.out (by have := HRV.out; omega) (.int .i64 (2000 + x0))) (by have := HRV.out; omega) (.int .i64 (18 + x1))) (by have := HRV.out; omega) (.int .i64 q6)) (by have := HRV.out; omega) (.slice (some ⟨zb, 0, none⟩) 2 2)) (by have := HRV.out; omega) (.slice (some ⟨jb, 0, none⟩) 2 2))⟩
    rw [results_cell1 rfl]
    go_simp
  · have hd0 : (x4 == 0) = false := beq_eq_false_iff_ne.2 hc0
    clear hc0
    by_cases hc1 : x4 = 1
    · have hd1 : (x4 == 1) = true := beq_iff_eq.2 hc1
      clear hc1
      go_wp2_with fail
      have HS_31 := Lib.hid (HS_25.out.alloc (.cells #[.int .i64 1899, .int .i64 1900, .int .i64 2200, .int .i64 2201] 2))
      have HG_32 := Lib.hid (grown_trans HG_26.out (grown_alloc u5 (.cells #[.int .i64 1899, .int .i64 1900, .int .i64 2200, .int .i64 2201] 2) (some b)))
      have HR_33 := Lib.hid (HR_27.out.below (boxed u5 (.cells #[.int .i64 1899, .int .i64 1900, .int .i64 2200, .int .i64 2201] 2)))
      have HUZ_34 := Lib.hid (HUZ_28.out.below (boxed u5 (.cells #[.int .i64 1899, .int .i64 1900, .int .i64 2200, .int .i64 2201] 2)))
      have HUJ_35 := Lib.hid (HUJ_29.out.below (boxed u5 (.cells #[.int .i64 1899, .int .i64 1900, .int .i64 2200, .int .i64 2201] 2)))
      have HX_36 := Lib.hid (HX_30.out.below (boxed u5 (.cells #[.int .i64 1899, .int .i64 1900, .int .i64 2200, .int .i64 2201] 2)))
      refine (specPick_any B b u5.heap.size [1899, 1900, 2200, 2201] 4 4 _ rfl (by omega) (by omega) HS_31.out (by have := HR_33.out.lt; simp at this ⊢; omega) (alloc_ints u5 _ [1899, 1900, 2200, 2201])).mono ?_; rintro e u6 ⟨q6, rfl, hq, hS, hg⟩
      have HS_37 := Lib.hid (hS)
      have HG_38 := Lib.hid (grown_trans HG_32.out hg)
      have HR_39 := Lib.hid (HR_33.out.grown hg (by omega))
      have HUZ_40 := Lib.hid (HUZ_34.out.grown hg (by omega))
      have HUJ_41 := Lib.hid (HUJ_35.out.grown hg (by omega))
      have HX_42 := Lib.hid (HX_36.out.grown hg (by omega))
      clear hS hg
      have HS_43 := Lib.hid (Src_set (o := 0) HS_37.out (show b ≠ bx by omega) (show B ≤ bx by omega) (.int .i64 q6))
      have HG_44 := Lib.hid (grown_new (o := 0) HG_38.out (show w.heap.size ≤ bx by have := HRV.out; omega) (.int .i64 q6))
      have HUZ_45 := Lib.hid (intsUp_apart HUZ_40.out (x := ⟨bx, 0, none⟩) (by intro g e; cases e; show bx ≠ _; omega) (.int .i64 q6))
      have HUJ_46 := Lib.hid (intsUp_apart HUJ_41.out (x := ⟨bx, 0, none⟩) (by intro g e; cases e; show bx ≠ _; omega) (.int .i64 q6))
      obtain ⟨c0, c1, c2, c3, c4⟩ := HX_42.out.cells
      obtain ⟨d0, d1, d2, d3, d4⟩ := HR_39.out.cells
      have e0 := HR_39.out.frozen 0; have e1 := HR_39.out.frozen 1; have e2 := HR_39.out.frozen 2; have e3 := HR_39.out.frozen 3; have e4 := HR_39.out.frozen 4
      have f0 := HX_42.out.frozen 0
      go_wp2_with fail
      (try simp only [Exit.inBlock, Exit.then])
      refine bodyPost_ret (v := .agg #[.int .i64 q6, .int .i64 (18 + x1), .int .i64 (60 + x2), .slice (some ⟨zb, 0, none⟩) 2 2, .slice (some ⟨jb, 0, none⟩) 2 2]) ?_ rfl ⟨_, _, _, _, _, _, _, _, _, [0, 1], [3, 7], rfl, RulesUp.mono (b := rv) ⟨rfl, (by simp), (((((HUZ_45.out.stored (x := ⟨rv, 0, none⟩) (Nat.le_refl _) (.int .i64 q6)).stored (x := ⟨rv, 1, none⟩) (Nat.le_refl _) (.int .i64 (18 + x1))).stored (x := ⟨rv, 2, none⟩) (Nat.le_refl _) (.int .i64 (60 + x2))).stored (x := ⟨rv, 3, none⟩) (Nat.le_refl _) (.slice (some ⟨zb, 0, none⟩) 2 2)).stored (x := ⟨rv, 4, none⟩) (Nat.le_refl _) (.slice (some ⟨jb, 0, none⟩) 2 2)), rfl, (by simp), (((((HUJ_46.out.stored (x := ⟨rv, 0, none⟩) (Nat.le_refl _) (.int .i64 q6)).stored (x := ⟨rv, 1, none⟩) (Nat.le_refl _) (.int .i64 (18 + x1))).stored (x := ⟨rv, 2, none⟩) (Nat.le_refl _) (.int .i64 (60 + x2))).stored (x := ⟨rv, 3, none⟩) (Nat.le_refl _) (.slice (some ⟨zb, 0, none⟩) 2 2)).stored (x := ⟨rv, 4, none⟩) (Nat.le_refl _) (.slice (some ⟨jb, 0, none⟩) 2 2))⟩ (by omega), (Src_set (o := 4) (Src_set (o := 3) (Src_set (o := 2) (Src_set (o := 1) (Src_set (o := 0) HS_43.out (by omega) (by omega) (.int .i64 q6)) (by omega) (by omega) (.int .i64 (18 + x1))) (by omega) (by omega) (.int .i64 (60 + x2))) (by omega) (by omega) (.slice (some ⟨zb, 0, none⟩) 2 2)) (by omega) (by omega) (.slice (some ⟨jb, 0, none⟩) 2 2)), (grown_new (o := 4) (grown_new (o := 3) (grown_new (o := 2) (grown_new (o := 1) (grown_new (o := 0) HG_44.out (by have := HRV.out; omega) (.int .i64 q6)) (by have := HRV.out; omega) (.int .i64 (18 + x1))) (by have := HRV.out; omega) (.int .i64 (60 + x2))) (by have := HRV.out; omega) (.slice (some ⟨zb, 0, none⟩) 2 2)) (by have := HRV.out; omega) (.slice (some ⟨jb, 0, none⟩) 2 2))⟩
      rw [results_cell1 rfl]
      go_simp
    · have hd1 : (x4 == 1) = false := beq_eq_false_iff_ne.2 hc1
      clear hc1
      by_cases hc2 : x4 = 2
      · have hd2 : (x4 == 2) = true := beq_iff_eq.2 hc2
        clear hc2
        have hrl5 := HR_27.out.lt
        have hbn := HX_30.out.lt
        have HN_31 := Lib.hid (intsUp_lit (b := rv) u5 [1, 1] 2 hrl5)
        have HS_32 := Lib.hid (HS_25.out.alloc (.cells #[.int .i64 1, .int .i64 1] 2))
        have HG_33 := Lib.hid (grown_trans HG_26.out (grown_alloc u5 (.cells #[.int .i64 1, .int .i64 1] 2) (some b)))
        have HR_34 := Lib.hid (HR_27.out.below (boxed u5 (.cells #[.int .i64 1, .int .i64 1] 2)))
        have HUJ_35 := Lib.hid (HUJ_29.out.below (boxed u5 (.cells #[.int .i64 1, .int .i64 1] 2)))
        have HX_36 := Lib.hid (HX_30.out.below (boxed u5 (.cells #[.int .i64 1, .int .i64 1] 2)))
        obtain ⟨nb, hnb⟩ : ∃ nb, u5.heap.size = nb := ⟨_, rfl⟩
        rw [hnb] at HN_31 hbn
        have HNB := Lib.hid hnb
        clear hnb
        have HS_37 := Lib.hid (Src_set (o := 3) HS_32.out (show b ≠ bx by omega) (show B ≤ bx by omega) (.slice (some ⟨nb, 0, none⟩) 2 2))
        have HG_38 := Lib.hid (grown_new (o := 3) HG_33.out (show w.heap.size ≤ bx by have := HRV.out; omega) (.slice (some ⟨nb, 0, none⟩) 2 2))
        have HUZ_39 := Lib.hid (intsUp_apart HN_31.out (x := ⟨bx, 3, none⟩) (by intro g e; cases e; show bx ≠ _; omega) (.slice (some ⟨nb, 0, none⟩) 2 2))
        have HUJ_40 := Lib.hid (intsUp_apart HUJ_35.out (x := ⟨bx, 3, none⟩) (by intro g e; cases e; show bx ≠ _; omega) (.slice (some ⟨nb, 0, none⟩) 2 2))
        obtain ⟨c0, c1, c2, c3, c4⟩ := HX_36.out.cells
        obtain ⟨d0, d1, d2, d3, d4⟩ := HR_34.out.cells
        have e0 := HR_34.out.frozen 0; have e1 := HR_34.out.frozen 1; have e2 := HR_34.out.frozen 2; have e3 := HR_34.out.frozen 3; have e4 := HR_34.out.frozen 4
        have f3 := HX_36.out.frozen 3
        go_wp2_with fail
        (try simp only [Exit.inBlock, Exit.then])
        rw [HNB.out]
        refine bodyPost_ret (v := .agg #[.int .i64 (2000 + x0), .int .i64 (18 + x1), .int .i64 (60 + x2), .slice (some ⟨nb, 0, none⟩) 2 2, .slice (some ⟨jb, 0, none⟩) 2 2]) ?_ rfl ⟨_, _, _, _, _, _, _, _, _, [1, 1], [3, 7], rfl, RulesUp.mono (b := rv) ⟨rfl, (by simp), (((((HUZ_39.out.stored (x := ⟨rv, 0, none⟩) (Nat.le_refl _) (.int .i64 (2000 + x0))).stored (x := ⟨rv, 1, none⟩) (Nat.le_refl _) (.int .i64 (18 + x1))).stored (x := ⟨rv, 2, none⟩) (Nat.le_refl _) (.int .i64 (60 + x2))).stored (x := ⟨rv, 3, none⟩) (Nat.le_refl _) (.slice (some ⟨nb, 0, none⟩) 2 2)).stored (x := ⟨rv, 4, none⟩) (Nat.le_refl _) (.slice (some ⟨jb, 0, none⟩) 2 2)), rfl, (by simp), (((((HUJ_40.out.stored (x := ⟨rv, 0, none⟩) (Nat.le_refl _) (.int .i64 (2000 + x0))).stored (x := ⟨rv, 1, none⟩) (Nat.le_refl _) (.int .i64 (18 + x1))).stored (x := ⟨rv, 2, none⟩) (Nat.le_refl _) (.int .i64 (60 + x2))).stored (x := ⟨rv, 3, none⟩) (Nat.le_refl _) (.slice (some ⟨nb, 0, none⟩) 2 2)).stored (x := ⟨rv, 4, none⟩) (Nat.le_refl _) (.slice (some ⟨jb, 0, none⟩) 2 2))⟩ (by omega), (Src_set (o := 4) (Src_set (o := 3) (Src_set (o := 2) (Src_set (o := 1) (Src_set (o := 0) HS_37.out (by omega) (by omega) (.int .i64 (2000 + x0))) (by omega) (by omega) (.int .i64 (18 + x1))) (by omega) (by omega) (.int .i64 (60 + x2))) (by omega) (by omega) (.slice (some ⟨nb, 0, none⟩) 2 2)) (by omega) (by omega) (.slice (some ⟨jb, 0, none⟩) 2 2)), (grown_new (o := 4) (grown_new (o := 3) (grown_new (o := 2) (grown_new (o := 1) (grown_new (o := 0) HG_38.out (by have := HRV.out; omega) (.int .i64 (2000 + x0))) (by have := HRV.out; omega) (.int .i64 (18 + x1))) (by have := HRV.out; omega) (.int .i64 (60 + x2))) (by have := HRV.out; omega) (.slice (some ⟨nb, 0, none⟩) 2 2)) (by have := HRV.out; omega) (.slice (some ⟨jb, 0, none⟩) 2 2))⟩
        rw [results_cell1 rfl]
        go_simp
      · have hd2 : (x4 == 2) = false := beq_eq_false_iff_ne.2 hc2
        clear hc2
        by_cases hc3 : x4 = 3
        · have hd3 : (x4 == 3) = true := beq_iff_eq.2 hc3
          clear hc3
          go_wp2_with fail
          have HS_31 := Lib.hid (HS_25.out.alloc (.cells #[.int .i64 20, .int .i64 21, .int .i64 (-1)] 2))
          have HG_32 := Lib.hid (grown_trans HG_26.out (grown_alloc u5 (.cells #[.int .i64 20, .int .i64 21, .int .i64 (-1)] 2) (some b)))
          have HR_33 := Lib.hid (HR_27.out.below (boxed u5 (.cells #[.int .i64 20, .int .i64 21, .int .i64 (-1)] 2)))
          have HUZ_34 := Lib.hid (HUZ_28.out.below (boxed u5 (.cells #[.int .i64 20, .int .i64 21, .int .i64 (-1)] 2)))
          have HUJ_35 := Lib.hid (HUJ_29.out.below (boxed u5 (.cells #[.int .i64 20, .int .i64 21, .int .i64 (-1)] 2)))
          have HX_36 := Lib.hid (HX_30.out.below (boxed u5 (.cells #[.int .i64 20, .int .i64 21, .int .i64 (-1)] 2)))
          refine (specPick_any B b u5.heap.size [20, 21, -1] 3 3 _ rfl (by omega) (by omega) HS_31.out (by have := HR_33.out.lt; simp at this ⊢; omega) (alloc_ints u5 _ [20, 21, -1])).mono ?_; rintro e u6 ⟨q6, rfl, hq, hS, hg⟩
          have HS_37 := Lib.hid (hS)
          have HG_38 := Lib.hid (grown_trans HG_32.out hg)
          have HR_39 := Lib.hid (HR_33.out.grown hg (by omega))
          have HUZ_40 := Lib.hid (HUZ_34.out.grown hg (by omega))
          have HUJ_41 := Lib.hid (HUJ_35.out.grown hg (by omega))
          have HX_42 := Lib.hid (HX_36.out.grown hg (by omega))
          clear hS hg
          have hrl5 := HR_39.out.lt
          have hbn := HX_42.out.lt
          have HN_43 := Lib.hid (intsUp_lit (b := rv) u6 [q6] 2 hrl5)
          have HS_44 := Lib.hid (HS_37.out.alloc (.cells #[.int .i64 q6] 2))
          have HG_45 := Lib.hid (grown_trans HG_38.out (grown_alloc u6 (.cells #[.int .i64 q6] 2) (some b)))
          have HR_46 := Lib.hid (HR_39.out.below (boxed u6 (.cells #[.int .i64 q6] 2)))
          have HUZ_47 := Lib.hid (HUZ_40.out.below (boxed u6 (.cells #[.int .i64 q6] 2)))
          have HX_48 := Lib.hid (HX_42.out.below (boxed u6 (.cells #[.int .i64 q6] 2)))
          obtain ⟨nb, hnb⟩ : ∃ nb, u6.heap.size = nb := ⟨_, rfl⟩
          rw [hnb] at HN_43 hbn
          have HNB := Lib.hid hnb
          clear hnb
          have HS_49 := Lib.hid (Src_set (o := 4) HS_44.out (show b ≠ bx by omega) (show B ≤ bx by omega) (.slice (some ⟨nb, 0, none⟩) 1 1))
          have HG_50 := Lib.hid (grown_new (o := 4) HG_45.out (show w.heap.size ≤ bx by have := HRV.out; omega) (.slice (some ⟨nb, 0, none⟩) 1 1))
          have HUZ_51 := Lib.hid (intsUp_apart HUZ_47.out (x := ⟨bx, 4, none⟩) (by intro g e; cases e; show bx ≠ _; omega) (.slice (some ⟨nb, 0, none⟩) 1 1))
          have HUJ_52 := Lib.hid (intsUp_apart HN_43.out (x := ⟨bx, 4, none⟩) (by intro g e; cases e; show bx ≠ _; omega) (.slice (some ⟨nb, 0, none⟩) 1 1))
          obtain ⟨c0, c1, c2, c3, c4⟩ := HX_48.out.cells
          obtain ⟨d0, d1, d2, d3, d4⟩ := HR_46.out.cells
          have e0 := HR_46.out.frozen 0; have e1 := HR_46.out.frozen 1; have e2 := HR_46.out.frozen 2; have e3 := HR_46.out.frozen 3; have e4 := HR_46.out.frozen 4
          have f4 := HX_48.out.frozen 4
          go_wp2_with fail
          (try simp only [Exit.inBlock, Exit.then])
          rw [HNB.out]
          refine bodyPost_ret (v := .agg #[.int .i64 (2000 + x0), .int .i64 (18 + x1), .int .i64 (60 + x2), .slice (some ⟨zb, 0, none⟩) 2 2, .slice (some ⟨nb, 0, none⟩) 1 1]) ?_ rfl ⟨_, _, _, _, _, _, _, _, _, [0, 1], [q6], rfl, RulesUp.mono (b := rv) ⟨rfl, (by simp), (((((HUZ_51.out.stored (x := ⟨rv, 0, none⟩) (Nat.le_refl _) (.int .i64 (2000 + x0))).stored (x := ⟨rv, 1, none⟩) (Nat.le_refl _) (.int .i64 (18 + x1))).stored (x := ⟨rv, 2, none⟩) (Nat.le_refl _) (.int .i64 (60 + x2))).stored (x := ⟨rv, 3, none⟩) (Nat.le_refl _) (.slice (some ⟨zb, 0, none⟩) 2 2)).stored (x := ⟨rv, 4, none⟩) (Nat.le_refl _) (.slice (some ⟨nb, 0, none⟩) 1 1)), rfl, (by simp), (((((HUJ_52.out.stored (x := ⟨rv, 0, none⟩) (Nat.le_refl _) (.int .i64 (2000 + x0))).stored (x := ⟨rv, 1, none⟩) (Nat.le_refl _) (.int .i64 (18 + x1))).stored (x := ⟨rv, 2, none⟩) (Nat.le_refl _) (.int .i64 (60 + x2))).stored (x := ⟨rv, 3, none⟩) (Nat.le_refl _) (.slice (some ⟨zb, 0, none⟩) 2 2)).stored (x := ⟨rv, 4, none⟩) (Nat.le_refl _) (.slice (some ⟨nb, 0, none⟩) 1 1))⟩ (by omega), (Src_set (o := 4) (Src_set (o := 3) (Src_set (o := 2) (Src_set (o := 1) (Src_set (o := 0) HS_49.out (by omega) (by omega) (.int .i64 (2000 + x0))) (by omega) (by omega) (.int .i64 (18 + x1))) (by omega) (by omega) (.int .i64 (60 + x2))) (by omega) (by omega) (.slice (some ⟨zb, 0, none⟩) 2 2)) (by omega) (by omega) (.slice (some ⟨nb, 0, none⟩) 1 1)), (grown_new (o := 4) (grown_new (o := 3) (grown_new (o := 2) (grown_new (o := 1) (grown_new (o := 0) HG_50.out (by have := HRV.out; omega) (.int .i64 (2000 + x0))) (by have := HRV.out; omega) (.int .i64 (18 + x1))) (by have := HRV.out; omega) (.int .i64 (60 + x2))) (by have := HRV.out; omega) (.slice (some ⟨zb, 0, none⟩) 2 2)) (by have := HRV.out; omega) (.slice (some ⟨nb, 0, none⟩) 1 1))⟩
          rw [results_cell1 rfl]
          go_simp
        · have hd3 : (x4 == 3) = false := beq_eq_false_iff_ne.2 hc3
          clear hc3
          by_cases hc4 : x4 = 4
          · have hd4 : (x4 == 4) = true := beq_iff_eq.2 hc4
            clear hc4
            have hrl5 := HR_27.out.lt
            have hbn := HX_30.out.lt
            have HN_31 := Lib.hid (show IntsUp rv (u5.alloc (.cells #[] 2)) (some ⟨u5.heap.size, 0, none⟩) [] from .inl rfl)
            have HS_32 := Lib.hid (HS_25.out.alloc (.cells #[] 2))
            have HG_33 := Lib.hid (grown_trans HG_26.out (grown_alloc u5 (.cells #[] 2) (some b)))
            have HR_34 := Lib.hid (HR_27.out.below (boxed u5 (.cells #[] 2)))
            have HUJ_35 := Lib.hid (HUJ_29.out.below (boxed u5 (.cells #[] 2)))
            have HX_36 := Lib.hid (HX_30.out.below (boxed u5 (.cells #[] 2)))
            obtain ⟨nb, hnb⟩ : ∃ nb, u5.heap.size = nb := ⟨_, rfl⟩
            rw [hnb] at HN_31 hbn
            have HNB := Lib.hid hnb
            clear hnb
            have HS_37 := Lib.hid (Src_set (o := 3) HS_32.out (show b ≠ bx by omega) (show B ≤ bx by omega) (.slice (some ⟨nb, 0, none⟩) 0 0))
            have HG_38 := Lib.hid (grown_new (o := 3) HG_33.out (show w.heap.size ≤ bx by have := HRV.out; omega) (.slice (some ⟨nb, 0, none⟩) 0 0))
            have HUZ_39 := Lib.hid (intsUp_apart HN_31.out (x := ⟨bx, 3, none⟩) (by intro g e; cases e; show bx ≠ _; omega) (.slice (some ⟨nb, 0, none⟩) 0 0))
            have HUJ_40 := Lib.hid (intsUp_apart HUJ_35.out (x := ⟨bx, 3, none⟩) (by intro g e; cases e; show bx ≠ _; omega) (.slice (some ⟨nb, 0, none⟩) 0 0))
            obtain ⟨c0, c1, c2, c3, c4⟩ := HX_36.out.cells
            obtain ⟨d0, d1, d2, d3, d4⟩ := HR_34.out.cells
            have e0 := HR_34.out.frozen 0; have e1 := HR_34.out.frozen 1; have e2 := HR_34.out.frozen 2; have e3 := HR_34.out.frozen 3; have e4 := HR_34.out.frozen 4
            have f3 := HX_36.out.frozen 3
            go_wp2_with fail
            (try simp only [Exit.inBlock, Exit.then])
            rw [HNB.out]
            refine bodyPost_ret (v := .agg #[.int .i64 (2000 + x0), .int .i64 (18 + x1), .int .i64 (60 + x2), .slice (some ⟨nb, 0, none⟩) 0 0, .slice (some ⟨jb, 0, none⟩) 2 2]) ?_ rfl ⟨_, _, _, _, _, _, _, _, _, [], [3, 7], rfl, RulesUp.mono (b := rv) ⟨rfl, (by simp), (((((HUZ_39.out.stored (x := ⟨rv, 0, none⟩) (Nat.le_refl _) (.int .i64 (2000 + x0))).stored (x := ⟨rv, 1, none⟩) (Nat.le_refl _) (.int .i64 (18 + x1))).stored (x := ⟨rv, 2, none⟩) (Nat.le_refl _) (.int .i64 (60 + x2))).stored (x := ⟨rv, 3, none⟩) (Nat.le_refl _) (.slice (some ⟨nb, 0, none⟩) 0 0)).stored (x := ⟨rv, 4, none⟩) (Nat.le_refl _) (.slice (some ⟨jb, 0, none⟩) 2 2)), rfl, (by simp), (((((HUJ_40.out.stored (x := ⟨rv, 0, none⟩) (Nat.le_refl _) (.int .i64 (2000 + x0))).stored (x := ⟨rv, 1, none⟩) (Nat.le_refl _) (.int .i64 (18 + x1))).stored (x := ⟨rv, 2, none⟩) (Nat.le_refl _) (.int .i64 (60 + x2))).stored (x := ⟨rv, 3, none⟩) (Nat.le_refl _) (.slice (some ⟨nb, 0, none⟩) 0 0)).stored (x := ⟨rv, 4, none⟩) (Nat.le_refl _) (.slice (some ⟨jb, 0, none⟩) 2 2))⟩ (by omega), (Src_set (o := 4) (Src_set (o := 3) (Src_set (o := 2) (Src_set (o := 1) (Src_set (o := 0) HS_37.out (by omega) (by omega) (.int .i64 (2000 + x0))) (by omega) (by omega) (.int .i64 (18 + x1))) (by omega) (by omega) (.int .i64 (60 + x2))) (by omega) (by omega) (.slice (some ⟨nb, 0, none⟩) 0 0)) (by omega) (by omega) (.slice (some ⟨jb, 0, none⟩) 2 2)), (grown_new (o := 4) (grown_new (o := 3) (grown_new (o := 2) (grown_new (o := 1) (grown_new (o := 0) HG_38.out (by have := HRV.out; omega) (.int .i64 (2000 + x0))) (by have := HRV.out; omega) (.int .i64 (18 + x1))) (by have := HRV.out; omega) (.int .i64 (60 + x2))) (by have := HRV.out; omega) (.slice (some ⟨nb, 0, none⟩) 0 0)) (by have := HRV.out; omega) (.slice (some ⟨jb, 0, none⟩) 2 2))⟩
            rw [results_cell1 rfl]
            go_simp
          · have hd4 : (x4 == 4) = false := beq_eq_false_iff_ne.2 hc4
            clear hc4
            obtain ⟨c0, c1, c2, c3, c4⟩ := HX_30.out.cells
            obtain ⟨d0, d1, d2, d3, d4⟩ := HR_27.out.cells
            have e0 := HR_27.out.frozen 0; have e1 := HR_27.out.frozen 1; have e2 := HR_27.out.frozen 2; have e3 := HR_27.out.frozen 3; have e4 := HR_27.out.frozen 4
            go_wp2_with fail
            (try simp only [Exit.inBlock, Exit.then])
            refine bodyPost_ret (v := .agg #[.int .i64 (2000 + x0), .int .i64 (18 + x1), .int .i64 (60 + x2), .slice (some ⟨zb, 0, none⟩) 2 2, .slice (some ⟨jb, 0, none⟩) 2 2]) ?_ rfl ⟨_, _, _, _, _, _, _, _, _, [0, 1], [3, 7], rfl, RulesUp.mono (b := rv) ⟨rfl, (by simp), (((((HUZ_28.out.stored (x := ⟨rv, 0, none⟩) (Nat.le_refl _) (.int .i64 (2000 + x0))).stored (x := ⟨rv, 1, none⟩) (Nat.le_refl _) (.int .i64 (18 + x1))).stored (x := ⟨rv, 2, none⟩) (Nat.le_refl _) (.int .i64 (60 + x2))).stored (x := ⟨rv, 3, none⟩) (Nat.le_refl _) (.slice (some ⟨zb, 0, none⟩) 2 2)).stored (x := ⟨rv, 4, none⟩) (Nat.le_refl _) (.slice (some ⟨jb, 0, none⟩) 2 2)), rfl, (by simp), (((((HUJ_29.out.stored (x := ⟨rv, 0, none⟩) (Nat.le_refl _) (.int .i64 (2000 + x0))).stored (x := ⟨rv, 1, none⟩) (Nat.le_refl _) (.int .i64 (18 + x1))).stored (x := ⟨rv, 2, none⟩) (Nat.le_refl _) (.int .i64 (60 + x2))).stored (x := ⟨rv, 3, none⟩) (Nat.le_refl _) (.slice (some ⟨zb, 0, none⟩) 2 2)).stored (x := ⟨rv, 4, none⟩) (Nat.le_refl _) (.slice (some ⟨jb, 0, none⟩) 2 2))⟩ (by omega), (Src_set (o := 4) (Src_set (o := 3) (Src_set (o := 2) (Src_set (o := 1) (Src_set (o := 0) HS_25.out (by omega) (by omega) (.int .i64 (2000 + x0))) (by omega) (by omega) (.int .i64 (18 + x1))) (by omega) (by omega) (.int .i64 (60 + x2))) (by omega) (by omega) (.slice (some ⟨zb, 0, none⟩) 2 2)) (by omega) (by omega) (.slice (some ⟨jb, 0, none⟩) 2 2)), (grown_new (o := 4) (grown_new (o := 3) (grown_new (o := 2) (grown_new (o := 1) (grown_new (o := 0) HG_26.out (by have := HRV.out; omega) (.int .i64 (2000 + x0))) (by have := HRV.out; omega) (.int .i64 (18 + x1))) (by have := HRV.out; omega) (.int .i64 (60 + x2))) (by have := HRV.out; omega) (.slice (some ⟨zb, 0, none⟩) 2 2)) (by have := HRV.out; omega) (.slice (some ⟨jb, 0, none⟩) 2 2))⟩
            rw [results_cell1 rfl]
            go_simp

end Go.Proofs.Ytjnjmoiilapbiaa
