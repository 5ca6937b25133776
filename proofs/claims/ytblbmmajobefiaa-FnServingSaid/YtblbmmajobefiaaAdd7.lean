/- Contract of chapter 7's model: AddTerm. -/
import Derived.Test.YtblbmmajobefiaaChecked
import Derived.Test.YtblbmmajobefiaaBase
import Derived.Test.YtblbmmajobefiaaInfo
import Derived.Test.YtblbmmajobefiaaTermA
import Derived.Test.YtblbmmajobefiaaTermB
import Derived.Test.YtblbmmajobefiaaTermC
import Derived.Test.YtblbmmajobefiaaPure70
import Derived.Test.YtblbmmajobefiaaSpec7
import Derived.Test.YtblbmmajobefiaaStepApp
import Derived.WalkKit
import Derived.WalkSpells
import Derived.WalkLawsBesides
import Derived.Lib.Hide
import Derived.IntWalk
import Derived.Deep.OwnRows
import Derived.Outline
namespace Go.Proofs.Ytblbmmajobefiaa
open Go.RowKit Pure1 Pure2 Pure20 Pure40

/-- terms of our own and a code are returned; nothing that was there has turned -/
def SaysTerms (ts : List Term) (c : Int) (w : World) (e : Ending) (w' : World) : Prop :=
  ∃ v, e = .returned (.tuple #[v, .int .i64 c]) ∧ (∃ a cap, v = .slice a ts.length cap) ∧ (ts = [] ∨ Term.L w' w.heap.size v ts) ∧ Below w.heap.size w w'
def AddG (B : Nat) (w1 w : World) : Prop := Below B w1 w ∧ w1.heap.size ≤ w.heap.size
theorem AddG.alloc {B : Nat} {w1 w : World} (h : AddG B w1 w) (o : Obj) (hB : B ≤ w1.heap.size) : AddG B w1 (w.alloc o) := ⟨h.1.alloc (Nat.le_trans hB h.2) o, by simp; exact Nat.le_succ_of_le h.2⟩
theorem AddG.grown {B : Nat} {w1 w w' : World} {v : Value} {ts : List Term} (h : AddG B w1 w) (ho : Term.L w B v ts) (hg : w.grownBy w' v.ownBlock) (hB : B ≤ w1.heap.size) : AddG B w1 w' :=
  ⟨h.1.grown hg (Nat.le_trans hB h.2) (fun k hk => (ho.2.lt k hk).1), Nat.le_trans h.2 hg.size⟩
def AddRel (B : Nat) (i : Nat) (w w' : World) : Prop := if i = 5 then Below B w w' else if i = 2 then ∃ g, (∃ cur T, w.heap[g]? = some (.cells cur T (0, 0)) ∧ cur.size = 0) ∧ w.grownBy w' (some g) else Below w.heap.size w w'
def AddF (B : Nat) (a : Option Addr) (cap : Nat) (ts : List Term) (c : Term) : Nat → Value → World → Prop
  | 0, v, w => (∃ g, v = .slice (some ⟨g, 0, none⟩) 0 0) ∧ Term.L w B v []
  | 1, v, _ => v = .slice a ts.length cap
  | 2, v, w => Term.L w B v ts
  | 3, v, _ => v = .agg #[.int .i64 c.num, .int .i64 c.frm, .int .i64 c.to]
  | 4, v, w => Term.L w B v [c]
  | 5, v, w | 6, v, w => Term.L w B v (ts ++ [c])
  | _, _, _ => True
def addGone : Nat → Option Nat
  | 0 => some 2
  | 2 | 4 => some 5
  | 5 => some 6
  | _ => none
def addKeep (i j : Nat) : Bool := !((i == 2 && (j == 0 || j == 2)) || i == 5 && (j == 0 || j == 2 || j == 4 || j == 5 || j == 6))
theorem vals_of {w : World} {b off : Nat} {ts : List Term} (h : ∀ i c, ts[i]? = some c → Term.At w b (off + i * 3) c) (j : Nat) (u : Value) (hu : (Term.vals ts)[j]? = some u) : w.cell? ((⟨b, off, none⟩ : Addr).add j) = some u := by
  rw [Addr.add_mid]
  have hj : j < ts.length * 3 := by rw [← Term.vals_len]; exact (List.getElem?_eq_some_iff.1 hu).1
  obtain ⟨q, r, hr, rfl⟩ : ∃ q r, r < 3 ∧ j = q * 3 + r := ⟨j / 3, j % 3, Nat.mod_lt _ (by omega), by omega⟩
  have hc : ts[q]? = some (ts[q]'(by omega)) := List.getElem?_eq_getElem (by omega)
  rw [Term.vals_at hc r hr] at hu
  obtain ⟨h0, h1, h2⟩ := h q _ hc
  rcases (by omega : r = 0 ∨ r = 1 ∨ r = 2) with rfl | rfl | rfl <;> (cases hu; rw [← Nat.add_assoc]; assumption)

set_option maxRecDepth 100000 in
set_option maxHeartbeats 4000000 in
theorem specAddTerm_any (b0 off cap : Nat) (len : Nat) (ts : List Term) (c : Term) (w : World) (hl : ts.length = len) (hm : len ≤ 10000) (hR : ∀ i t, ts[i]? = some t → Term.At w b0 (off + i * 3) t) :
    Calls Try.prog 22 #[.slice (some ⟨b0, off, none⟩) len cap, .agg #[.int .i64 c.num, .int .i64 c.frm, .int .i64 c.to]] w (SaysTerms (addR7 ts c).1 (addR7 ts c).2 w) := by
  subst hl
  have hW := Term.bx w (.cells #[.int .i64 c.num, .int .i64 c.frm, .int .i64 c.to] 32)
  have HX := Lib.hid (Term.boxed w c 32)
  have HR := Lib.hid (fun (W : World) (hB : Below w.heap.size w W) i t (hi : ts[i]? = some t) => (hR i t hi).below hB)
  have HI := Lib.hid (show Term.ListAt w (some ⟨b0, off, none⟩) ts from .inr ⟨b0, off, rfl, hR⟩)
  have HT := Lib.hid (specAreTerms_any (some ⟨b0, off, none⟩) ts.length cap ts (w.alloc (.cells #[.int .i64 c.num, .int .i64 c.frm, .int .i64 c.to] 32)) rfl (by unfold maxLen; omega) (HI.out.below hW))
  have HW := Lib.hid hW
  have HE := Lib.hid (show addR7 ts c = if areT ts = true then (if areT (ts ++ [c]) = true then (ts ++ [c], 0) else ([], 5)) else ([], 1) from rfl)
  generalize addR7 ts c = v at HE ⊢
  clear hR hW
  generalize areT ts = b1 at HT HE
  cases b1
  · have HF := Lib.hid (show v = ([], 1) by rw [HE.out]; rfl)
    go_enter Try.func22, Try.ntmps22
    go_wp2_with fail
    refine HT.out.mono ?_; rintro e w1 ⟨rfl, hB⟩
    have HB := Lib.hid (HW.out.trans (hB.mono HW.out.size)); clear hB
    go_wp2_with fail
    go_ret2
    rw [HF.out]
    exact ⟨_, rfl, ⟨_, _, rfl⟩, .inl rfl, HB.out⟩
  · go_enter Try.func22, Try.ntmps22
    go_wp2_with fail
    have hsz1 : (w.alloc (.cells #[.int .i64 c.num, .int .i64 c.frm, .int .i64 c.to] 32)).heap.size = w.heap.size + 1 := by simp
    refine HT.out.mono ?_; rintro e w1 ⟨rfl, hB⟩
    have HX1 := Lib.hid (HX.out.below hB)
    have hsz2 := hB.size
    rw [hsz1] at hsz2
    have HB1 := Lib.hid (HW.out.trans (hB.mono HW.out.size)); clear hB HX HW HT hsz1
    obtain ⟨bx, hbx⟩ : ∃ bx, w.heap.size = bx := ⟨_, rfl⟩
    have HBX := Lib.hid hbx
    rw [hbx] at HX1 HB1 HR hsz2
    (try rw [hbx])
    clear hbx
    go_wp2_with fail
    refine wp_region_facts2 (sz := 20) [0, 3] (by kernel_rfl) (by kernel_rfl) (by kernel_rfl) addGone addKeep (by kernel_rfl) (by kernel_rfl) (AddG (bx + 1) w1) (AddRel (bx + 1)) (AddF (bx + 1) (some ⟨b0, off, none⟩) cap ts c) rfl ⟨Below.drew (Below.refl _ _), Nat.le_refl _⟩ ?_ ?_ ?_
    · intro i j u w2 w3 hi hj hkp hf hR
      have hi : i < 7 := hi; have hj : j < 7 := hj
      simp only [AddRel] at hR
      by_cases h5 : i = 5
      · rw [if_pos h5] at hR
        subst h5
        have hj2 : ¬ (j = 0 ∨ j = 2 ∨ j = 4 ∨ j = 5 ∨ j = 6) := by
          rintro (rfl | rfl | rfl | rfl | rfl) <;> cases hkp
        unfold AddF at hf ⊢
        split at hf <;> first | exact hf | (exfalso; omega)
      · rw [if_neg h5] at hR
        by_cases h2 : i = 2
        · rw [if_pos h2] at hR
          subst h2
          have hj2 : ¬ (j = 0 ∨ j = 2) := by
            rintro (rfl | rfl) <;> cases hkp
          obtain ⟨g0, he, hg⟩ := hR
          unfold AddF at hf ⊢
          split at hf <;> first | exact hf | (exfalso; omega) | exact hf.other (by simp) he hg
        · rw [if_neg h2] at hR
          unfold AddF at hf ⊢
          split at hf <;> first | exact hf | exact hf.below hR | exact ⟨hf.1, hf.2.below hR⟩ | trivial
    · intro i o ho
      have hbw : ∀ W, AddG (bx + 1) w1 W → bx + 1 ≤ W.heap.size := fun W h => Nat.le_trans hsz2 h.2
      have hbox : ∀ W, AddG (bx + 1) w1 W → Term.Box W bx c := fun W h => by
        have hb := h.1.block bx (by omega)
        exact ⟨(World.cell?_of_block (w := w1) hb).trans HX1.out.1, (World.cell?_of_block (w := w1) hb).trans HX1.out.2.1, (World.cell?_of_block (w := w1) hb).trans HX1.out.2.2⟩
      match i, ho with
      | 0, ho =>
        cases ho
        intro ev w' hc hfn hb hG hd
        refine stepTo_gen fun K' hK => ?_
        simp [go_sem, stepTo, hc, hfn]
        exact hK _ _ ⟨hG.alloc _ hsz2, Term.bx _ _, (fun h => by cases h), ⟨_, rfl⟩, ⟨_, _, rfl⟩, World.ownsRow_lit w' #[] 0 (hbw w' hG) (by decide) rfl⟩
      | 1, ho =>
        cases ho
        intro ev w' hc hfn hb hG hd
        have h0 : ev (.tmp 0) = .slice (some ⟨b0, off, none⟩) ts.length cap := hb 0 (by simp)
        refine stepTo_gen fun K' hK => ?_
        simp [go_sem, stepTo, hc, hfn, h0]
        exact hK _ _ ⟨hG, Below.refl _ _, (fun h => by cases h), rfl⟩
      | 2, ho =>
        cases ho
        intro ev w' hc hfn hb hG hd
        obtain ⟨⟨g0, e0⟩, h1⟩ : (∃ g0, ev (.tmp 10) = .slice (some ⟨g0, 0, none⟩) 0 0) ∧ Term.L w' (bx + 1) (ev (.tmp 10)) [] := hd { on := 0, ground := .data } (by simp) rfl rfl _ rfl
        have h2 : ev (.tmp 11) = .slice (some ⟨b0, off, none⟩) ts.length cap := hd { on := 1, ground := .data } (by simp) rfl rfl _ rfl
        have hBW : Below bx w w' := HB1.out.trans (hG.1.mono (by omega))
        obtain ⟨v', w'', hr, hO, hg⟩ := Term.append_run 24 h1 ⟨b0, off, none⟩ cap (qs := ts) (fun j u hu => vals_of (fun i t hi => HR.out w' hBW i t hi) j u hu) (by simp; omega) (hbw w' hG)
        refine stepTo_gen fun K' hK => step_app (s := .tmp 10) (x := .tmp 11) (t := 24) rfl (by rw [h2]; exact hr) (hK _ _ ⟨hG.grown h1 hg hsz2, ?_, (fun h => by cases h), hO⟩)
        have hg0 : w'.grownBy w'' (some g0) := by have := hg; rw [e0] at this; exact this
        refine ⟨g0, ?_, hg0⟩
        rcases h1.2.2 with ⟨e1, _⟩ | ⟨g1, cap1, cur1, e1, _, h5, _, _, h7, _⟩
        · rw [e0] at e1; cases e1
        · rw [e0] at e1; cases e1; exact ⟨_, _, h5, by rw [h7]⟩
      | 3, ho =>
        cases ho
        intro ev w' hc hfn hb hG hd
        have h1 : ev (.tmp 3) = .pointer (some ⟨bx, 0, none⟩) := hb 3 (by simp)
        obtain ⟨c0, c1, c2⟩ := hbox w' hG
        refine stepTo_gen fun K' hK => ?_
        simp [go_sem, stepTo, hc, hfn, h1, c0, c1, c2]
        exact hK _ _ ⟨hG, Below.refl _ _, (fun h => by cases h), rfl⟩
      | 4, ho =>
        cases ho
        intro ev w' hc hfn hb hG hd
        have h1 : ev (.tmp 13) = .agg #[.int .i64 c.num, .int .i64 c.frm, .int .i64 c.to] := hd { on := 3, ground := .data } (by simp) rfl rfl _ rfl
        refine stepTo_gen fun K' hK => ?_
        simp [go_sem, stepTo, hc, hfn, h1]
        exact hK _ _ ⟨hG.alloc _ hsz2, Term.bx _ _, (fun h => by cases h), ⟨_, _, rfl⟩, World.ownsRow_lit w' #[.int .i64 c.num, .int .i64 c.frm, .int .i64 c.to] 1 (hbw w' hG) (by decide) rfl⟩
      | 5, ho =>
        cases ho
        intro ev w' hc hfn hb hG hd
        have h1 : Term.L w' (bx + 1) (ev (.tmp 12)) ts := hd { on := 2, ground := .data } (by simp) rfl rfl _ rfl
        have h2 : Term.L w' (bx + 1) (ev (.tmp 14)) [c] := hd { on := 4, ground := .data } (by simp) rfl rfl _ rfl
        obtain ⟨g2, c2, e2⟩ := h2.1
        rw [e2] at h2
        obtain ⟨v', w'', hr, hO, hg⟩ := Term.append_run 24 h1 ⟨g2, 0, none⟩ c2 (qs := [c]) (fun j u hu => by rw [Addr.add_mid, Nat.zero_add]; exact h2.cell hu) (by simp; omega) (hbw w' hG)
        have e2' : ev (.tmp 14) = .slice (some ⟨g2, 0, none⟩) 1 c2 := e2
        have hr' : (Builtin.append_ #[24, 24] 24 #[ev (.tmp 12), .slice (some ⟨g2, 0, none⟩) 1 c2]).run Try.prog w' = .ok v' w'' := hr
        refine stepTo_gen fun K' hK => step_app (s := .tmp 12) (x := .tmp 14) (t := 24) rfl (by rw [e2']; exact hr') ?_
        exact hK _ _ ⟨hG.grown h1 hg hsz2, (Below.refl _ _).grown hg (hbw w' hG) (fun j hj => (h1.2.lt j hj).1), (fun h => by cases h), hO⟩
      | 6, ho =>
        cases ho
        intro ev w' hc hfn hb hG hd
        have h1 : Term.L w' (bx + 1) (ev (.tmp 15)) (ts ++ [c]) := hd { on := 5, ground := .data } (by simp) rfl rfl _ rfl
        refine stepTo_gen fun K' hK => ?_
        simp [go_sem, stepTo, hc, hfn]
        exact hK _ _ ⟨hG, Below.refl _ _, (fun h => by cases h), h1⟩
      | n + 7, ho => simp at ho
    · intro a w' hb hs hdf hG hf
      have h6 : Term.L w' (bx + 1) (a.eval (.tmp 6)) (ts ++ [c]) := hf 6 _ rfl rfl
      obtain ⟨us, hus⟩ : ∃ us, ts ++ [c] = us := ⟨_, rfl⟩
      have hul : us.length ≤ 10001 := by rw [← hus]; simp; omega
      rw [hus] at h6 HE
      have HUS := Lib.hid hus
      clear hus
      obtain ⟨g, cap2, hv⟩ := h6.1
      rw [hv] at h6
      obtain ⟨⟨ls⟩, dfs⟩ := a
      simp only at hdf
      subst hdf
      have hs : ls.length = 20 := by simpa using hs
      have hv' : (⟨ls⟩ : Array Value).getD 6 undef = .slice (some ⟨g, 0, none⟩) us.length cap2 := hv
      have HL6 := Lib.hid h6; have HB6 := Lib.hid (HB1.out.trans (hG.1.mono (by omega)))
      have hz6 : bx + 1 ≤ w'.heap.size := Nat.le_trans hsz2 hG.2
      clear hf hb hG h6 hv
      match ls, hs with
      | [x0, x1, x2, x3, x4, x5, x6, x7, x8, x9, x10, x11, x12, x13, x14, x15, x16, x17, x18, x19], _ =>
        have e6 : x6 = .slice (some ⟨g, 0, none⟩) us.length cap2 := hv'
        subst e6
        clear hv'
        have HT := Lib.hid (specAreTerms_any (some ⟨g, 0, none⟩) us.length cap2 us w' rfl (by unfold maxLen; omega) HL6.out.reads)
        generalize areT us = b2 at HT HE
        cases b2
        · have HF := Lib.hid (show v = ([], 5) by rw [HE.out]; rfl)
          go_wp2_with fail
          refine HT.out.mono ?_; rintro e w2 ⟨rfl, hB⟩
          have HB := Lib.hid (HB6.out.trans (hB.mono (show bx ≤ _ by omega))); clear hB
          go_wp2_with fail
          go_ret2
          rw [HF.out]
          exact ⟨_, rfl, ⟨_, _, rfl⟩, .inl rfl, by rw [HBX.out]; exact HB.out⟩
        · have HF := Lib.hid (show v = (us, 0) by rw [HE.out]; rfl)
          go_wp2_with fail
          refine HT.out.mono ?_; rintro e w2 ⟨rfl, hB⟩
          have HB := Lib.hid (HB6.out.trans (hB.mono (show bx ≤ _ by omega))); have HL7 := Lib.hid ((HL6.out.below hB).base (show bx ≤ bx + 1 by omega)); clear hB
          go_wp2_with fail
          go_ret2
          rw [HF.out]
          exact ⟨_, rfl, ⟨_, _, rfl⟩, .inr (by rw [HBX.out]; exact HL7.out), by rw [HBX.out]; exact HB.out⟩
end Go.Proofs.Ytblbmmajobefiaa
