/- Contract of the program's AddTerm. (written by add7.py) -/
import Derived.Test.YtblbmmajobefiaaChecked
import Derived.Test.YtblbmmajobefiaaBase
import Derived.Test.YtblbmmajobefiaaInfo
import Derived.Test.YtblbmmajobefiaaTermA
import Derived.Test.YtblbmmajobefiaaTermB
import Derived.Test.YtblbmmajobefiaaTermC
import Derived.Test.YtblbmmajobefiaaTermD
import Derived.Test.YtblbmmajobefiaaPure70
import Derived.Test.YtblbmmajobefiaaPure72
import Derived.Test.YtblbmmajobefiaaSort7
import Derived.Test.YtblbmmajobefiaaImpl7a
import Derived.Test.YtblbmmajobefiaaFacts
import Derived.Test.YtblbmmajobefiaaFacts2
import Derived.Test.YtblbmmajobefiaaStepApp
import Derived.Test.YtblbmmajobefiaaAdd7
import Derived.WalkKit
import Derived.WalkSpells
import Derived.WalkLawsBesides
import Derived.Lib.Hide
import Derived.IntWalk
import Derived.Deep.OwnRows
import Derived.Outline
namespace Go.Proofs.Ytblbmmajobefiaa
open Go.RowKit Pure1 Pure2 Pure20 Pure40

def AddRelP (B : Nat) (i : Nat) (w w' : World) : Prop := if i = 4 then Below B w w' else Below w.heap.size w w'
def AddFP (B : Nat) (a : Option Addr) (len cap : Nat) (ts : List Term) (c : Term) : Nat → Value → World → Prop
  | 0, v, _ => v = .slice a len cap
  | 1, v, w => Term.Bd w B v ts
  | 2, v, _ => v = .agg #[.int .i64 c.num, .int .i64 c.frm, .int .i64 c.to]
  | 3, v, w => Term.L w B v [c]
  | 4, v, w | 5, v, w => Term.Bd w B v (ts ++ [c])
  | _, _, _ => True
def addGoneP : Nat → Option Nat
  | 1 | 3 => some 4
  | 4 => some 5
  | _ => none
def addKeepP (i j : Nat) : Bool := !(i == 4 && (j == 1 || j == 3 || j == 4 || j == 5))
theorem Term.bd_append {w : World} {B : Nat} {v : Value} {ts qs : List Term} (ty : TypeId) (h : Term.Bd w B v ts) (a : Addr) (c : Nat) (hq : ∀ j u, (Term.vals qs)[j]? = some u → w.cell? (a.add j) = some u) (hl : ts.length + qs.length ≤ 100000) (hB : B ≤ w.heap.size) :
    ∃ v' w', (Builtin.append_ #[24, 24] ty #[v, .slice (some a) qs.length c]).run Try.prog w = .ok v' w' ∧ Term.Bd w' B v' (ts ++ qs) ∧ w.grownBy w' v.ownBlock := by
  obtain ⟨i, z, hi, hz, h5, h56, hzs⟩ := Try.infoTerm'
  obtain ⟨v', w', h1, h2, h3, h4⟩ := run_append_own (P := Try.prog) w B 24 ty 32 i z 3 24 Try.underlying24 hi hz h5 h56 hzs (by omega) v ts.length (Term.vals ts) h a qs.length c (Term.vals qs) (Term.vals_len qs) hq Term.vals_one (by unfold maxLen; omega) (by omega) hB
  exact ⟨v', w', h1, by unfold Term.Bd; rw [List.length_append, Term.vals_append]; exact h2, h3⟩

set_option maxRecDepth 100000 in
set_option maxHeartbeats 4000000 in
theorem implAddTerm_any (a : Option Addr) (len cap : Nat) (ts : List Term) (c : Term) (w : World) (hl : ts.length = len) (hm : len ≤ maxLen) (hI : Term.ListAt w a ts) :
    Calls Try.prog 21 #[.slice a len cap, .agg #[.int .i64 c.num, .int .i64 c.frm, .int .i64 c.to]] w (SaysTerms (addR7 ts c).1 (addR7 ts c).2 w) := by
  have hW := Term.bx w (.cells #[.int .i64 c.num, .int .i64 c.frm, .int .i64 c.to] 32)
  have HX := Lib.hid (Term.boxed w c 32)
  have HI := Lib.hid hI
  have HT := Lib.hid (implAreTerms_any a len cap ts (w.alloc (.cells #[.int .i64 c.num, .int .i64 c.frm, .int .i64 c.to] 32)) hl hm (hI.below hW))
  have HW := Lib.hid hW
  have HE := Lib.hid (show addR7 ts c = if areT ts = true then (if areT (ts ++ [c]) = true then (ts ++ [c], 0) else ([], 5)) else ([], 1) from rfl)
  have HL20 := Lib.hid (fun h : areT ts = true => areT_len h)
  have HL := Lib.hid hl
  generalize addR7 ts c = v at HE ⊢
  clear hI hW hl
  generalize areT ts = b1 at HT HE HL20
  cases b1
  · have HF := Lib.hid (show v = ([], 1) by rw [HE.out]; rfl)
    go_enter Try.func21, Try.ntmps21
    go_wp2_with fail
    refine HT.out.mono ?_; rintro e w1 ⟨rfl, hB⟩
    have HB := Lib.hid (HW.out.trans (hB.mono HW.out.size)); clear hB
    go_wp2_with fail
    go_ret2
    rw [HF.out]
    exact ⟨_, rfl, ⟨_, _, rfl⟩, .inl rfl, HB.out⟩
  · have hl20 : ts.length ≤ 20 := HL20.out rfl
    go_enter Try.func21, Try.ntmps21
    go_wp2_with fail
    have hsz1 : (w.alloc (.cells #[.int .i64 c.num, .int .i64 c.frm, .int .i64 c.to] 32)).heap.size = w.heap.size + 1 := by simp
    refine HT.out.mono ?_; rintro e w1 ⟨rfl, hB⟩
    have HX1 := Lib.hid (HX.out.below hB)
    have hsz2 := hB.size
    rw [hsz1] at hsz2
    have HB1 := Lib.hid (HW.out.trans (hB.mono HW.out.size)); clear hB HX HW HT hsz1
    obtain ⟨bx, hbx⟩ : ∃ bx, w.heap.size = bx := ⟨_, rfl⟩
    have HBX := Lib.hid hbx
    have HRI := Lib.hid (fun (W : World) (hB : Below bx w W) => HI.out.below (by rw [hbx]; exact hB))
    rw [hbx] at HX1 HB1 hsz2
    (try rw [hbx])
    clear hbx
    go_wp2_with fail
    refine wp_region_facts2 (sz := 19) [0, 3] (by kernel_rfl) (by kernel_rfl) (by kernel_rfl) addGoneP addKeepP (by kernel_rfl) (by kernel_rfl) (AddG (bx + 1) w1) (AddRelP (bx + 1)) (AddFP (bx + 1) a len cap ts c) rfl ⟨Below.drew (Below.refl _ _), Nat.le_refl _⟩ ?_ ?_ ?_
    · intro i j u w2 w3 hi hj hkp hf hR
      have hi : i < 6 := hi; have hj : j < 6 := hj
      simp only [AddRelP] at hR
      by_cases h4 : i = 4
      · rw [if_pos h4] at hR
        subst h4
        have hj2 : ¬ (j = 1 ∨ j = 3 ∨ j = 4 ∨ j = 5) := by
          rintro (rfl | rfl | rfl | rfl) <;> cases hkp
        unfold AddFP at hf ⊢
        split at hf <;> first | exact hf | (exfalso; omega)
      · rw [if_neg h4] at hR
        unfold AddFP at hf ⊢
        split at hf <;> first | exact hf | exact hf.below hR | trivial
    · intro i o ho
      have hbw : ∀ W, AddG (bx + 1) w1 W → bx + 1 ≤ W.heap.size := fun W h => Nat.le_trans hsz2 h.2
      have hbox : ∀ W, AddG (bx + 1) w1 W → Term.Box W bx c := fun W h => by
        have hb := h.1.block bx (by omega)
        exact ⟨(World.cell?_of_block (w := w1) hb).trans HX1.out.1, (World.cell?_of_block (w := w1) hb).trans HX1.out.2.1, (World.cell?_of_block (w := w1) hb).trans HX1.out.2.2⟩
      match i, ho with
      | 0, ho =>
        cases ho
        intro ev w' hc hfn hb hG hd
        have h0 : ev (.tmp 0) = .slice a len cap := hb 0 (by simp)
        refine stepTo_gen fun K' hK => ?_
        simp [go_sem, stepTo, hc, hfn, h0]
        exact hK _ _ ⟨hG, Below.refl _ _, (fun h => by cases h), rfl⟩
      | 1, ho =>
        cases ho
        intro ev w' hc hfn hb hG hd
        have h2 : ev (.tmp 10) = .slice a len cap := hd { on := 0, ground := .data } (by simp) rfl rfl _ rfl
        have hBW : Below bx w w' := HB1.out.trans (hG.1.mono (by omega))
        refine stepTo_gen fun K' hK => ?_
        simp [go_sem, stepTo, hc, hfn, h2]
        refine (implClone7_any a len cap ts w' HL.out (by have := HL.out; omega) (HRI.out w' hBW)).mono ?_; rintro e w2 ⟨v2, rfl, ho2, hB2⟩
        refine ⟨_, rfl, hK _ _ ⟨⟨hG.1.trans (hB2.mono (hbw w' hG)), Nat.le_trans hG.2 hB2.size⟩, hB2, (fun h => by cases h), ho2.base (hbw w' hG)⟩⟩
      | 2, ho =>
        cases ho
        intro ev w' hc hfn hb hG hd
        have h1 : ev (.tmp 3) = .pointer (some ⟨bx, 0, none⟩) := hb 3 (by simp)
        obtain ⟨c0, c1, c2⟩ := hbox w' hG
        refine stepTo_gen fun K' hK => ?_
        simp [go_sem, stepTo, hc, hfn, h1, c0, c1, c2]
        exact hK _ _ ⟨hG, Below.refl _ _, (fun h => by cases h), rfl⟩
      | 3, ho =>
        cases ho
        intro ev w' hc hfn hb hG hd
        have h1 : ev (.tmp 12) = .agg #[.int .i64 c.num, .int .i64 c.frm, .int .i64 c.to] := hd { on := 2, ground := .data } (by simp) rfl rfl _ rfl
        refine stepTo_gen fun K' hK => ?_
        simp [go_sem, stepTo, hc, hfn, h1]
        exact hK _ _ ⟨hG.alloc _ hsz2, Term.bx _ _, (fun h => by cases h), ⟨_, _, rfl⟩, World.ownsRow_lit w' #[.int .i64 c.num, .int .i64 c.frm, .int .i64 c.to] 1 (hbw w' hG) (by decide) rfl⟩
      | 4, ho =>
        cases ho
        intro ev w' hc hfn hb hG hd
        have h1 : Term.Bd w' (bx + 1) (ev (.tmp 11)) ts := hd { on := 1, ground := .data } (by simp) rfl rfl _ rfl
        have h2 : Term.L w' (bx + 1) (ev (.tmp 13)) [c] := hd { on := 3, ground := .data } (by simp) rfl rfl _ rfl
        obtain ⟨g2, c2, e2⟩ := h2.1
        rw [e2] at h2
        obtain ⟨v', w'', hr, hO, hg⟩ := Term.bd_append 24 h1 ⟨g2, 0, none⟩ c2 (qs := [c]) (fun j u hu => by rw [Addr.add_mid, Nat.zero_add]; exact h2.cell hu) (by simp; omega) (hbw w' hG)
        have e2' : ev (.tmp 13) = .slice (some ⟨g2, 0, none⟩) 1 c2 := e2
        have hr' : (Builtin.append_ #[24, 24] 24 #[ev (.tmp 11), .slice (some ⟨g2, 0, none⟩) 1 c2]).run Try.prog w' = .ok v' w'' := hr
        refine stepTo_gen fun K' hK => step_app (s := .tmp 11) (x := .tmp 13) (t := 24) rfl (by rw [e2']; exact hr') ?_
        have hgr := (Below.refl (bx + 1) w').grown hg (hbw w' hG) (fun j hj => (h1.lt j hj).1)
        exact hK _ _ ⟨⟨hG.1.trans hgr, Nat.le_trans hG.2 hg.size⟩, hgr, (fun h => by cases h), hO⟩
      | 5, ho =>
        cases ho
        intro ev w' hc hfn hb hG hd
        have h1 : Term.Bd w' (bx + 1) (ev (.tmp 14)) (ts ++ [c]) := hd { on := 4, ground := .data } (by simp) rfl rfl _ rfl
        refine stepTo_gen fun K' hK => ?_
        simp [go_sem, stepTo, hc, hfn]
        exact hK _ _ ⟨hG, Below.refl _ _, (fun h => by cases h), h1⟩
      | n + 6, ho => simp at ho
    · intro a' w' hb hs hdf hG hf
      have h6b : Term.Bd w' (bx + 1) (a'.eval (.tmp 6)) (ts ++ [c]) := hf 5 _ rfl rfl
      have h6 : Term.L w' (bx + 1) (a'.eval (.tmp 6)) (ts ++ [c]) := by
        rcases h6b.parts with ⟨_, e⟩ | h
        · simp at e
        · exact h
      clear h6b
      obtain ⟨us, hus⟩ : ∃ us, ts ++ [c] = us := ⟨_, rfl⟩
      have hul : us.length ≤ 10001 := by rw [← hus]; simp; omega
      rw [hus] at h6 HE
      have HUS := Lib.hid hus
      clear hus
      obtain ⟨g, cap2, hv⟩ := h6.1
      rw [hv] at h6
      obtain ⟨⟨ls⟩, dfs⟩ := a'
      simp only at hdf
      subst hdf
      have hs : ls.length = 19 := by simpa using hs
      have hv' : (⟨ls⟩ : Array Value).getD 6 undef = .slice (some ⟨g, 0, none⟩) us.length cap2 := hv
      have HL6 := Lib.hid h6; have HB6 := Lib.hid (HB1.out.trans (hG.1.mono (by omega)))
      have hz6 : bx + 1 ≤ w'.heap.size := Nat.le_trans hsz2 hG.2
      clear hf hb hG h6 hv
      match ls, hs with
      | [x0, x1, x2, x3, x4, x5, x6, x7, x8, x9, x10, x11, x12, x13, x14, x15, x16, x17, x18], _ =>
        have e6 : x6 = .slice (some ⟨g, 0, none⟩) us.length cap2 := hv'
        subst e6
        clear hv'
        have HT := Lib.hid (implAreTerms_any (some ⟨g, 0, none⟩) us.length cap2 us w' rfl (by unfold maxLen; omega) HL6.out.reads)
        generalize areT us = b2 at HT HE
        cases b2
        · have HF := Lib.hid (show v = ([], 5) by rw [HE.out]; rfl)
          go_wp2_with fail
          refine HT.out.mono ?_; rintro e w2 ⟨rfl, hB⟩
          have HB := Lib.hid (HB6.out.trans (hB.mono (show bx ≤ _ by omega))); clear hB
          go_wp2_with fail
          go_ret2
          rw [HF.out]
          exact ⟨_, rfl, ⟨_, _, rfl⟩, .inl rfl, by rw [HBX.out]; exact HB.out⟩
        · have HF := Lib.hid (show v = (us, 0) by rw [HE.out]; rfl)
          go_wp2_with fail
          refine HT.out.mono ?_; rintro e w2 ⟨rfl, hB⟩
          have HB := Lib.hid (HB6.out.trans (hB.mono (show bx ≤ _ by omega))); have HL7 := Lib.hid ((HL6.out.below hB).base (show bx ≤ bx + 1 by omega)); clear hB
          go_wp2_with fail
          go_ret2
          rw [HF.out]
          exact ⟨_, rfl, ⟨_, _, rfl⟩, .inr (by rw [HBX.out]; exact HL7.out), by rw [HBX.out]; exact HB.out⟩
end Go.Proofs.Ytblbmmajobefiaa
