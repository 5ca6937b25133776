/- Contracts: spec.l04Text, spec.PersonText, impl.PersonText. -/
import Derived.Test.YtgjhpeofcbdaaaaDoorChecked
import Derived.Test.YtgjhpeofcbdaaaaDoorBase
import Derived.Test.YtgjhpeofcbdaaaaDoorPure42
import Derived.Test.YtgjhpeofcbdaaaaDoorDec
import Derived.Test.YtgjhpeofcbdaaaaDoorJoin
import Derived.Test.YtgjhpeofcbdaaaaDoorIsPers
import Derived.Test.YtgjhpeofcbdaaaaDoorPersLaw
import Derived.Test.YtgjhpeofcbdaaaaDoorFacts
import Derived.WalkKit
import Derived.WalkSpells
import Derived.WalkLawsBesides
import Derived.Lib.Hide
import Derived.Lib.QuietBelow
import Derived.IntWalk
import Derived.Deep.QuietTactic
import Derived.BigQuiet
import Derived.Outline
namespace Go.Proofs.YtgjhpeofcbdaaaaDoor
open Go.RowKit Go.Sort Pure1 Pure3 Pure4 Pure40 Pure41 Pure42

theorem regr_call4 {P : Program} {f : FuncId} {args : Array Value} {w : World} {v : Value} (h : ∀ W, Below w.heap.size w W → Calls P f args W fun e w' => e = .returned v ∧ Below W.heap.size W w') (d : Nat) (os : Array Obj) :
    Calls P f args (grow (redrawn w d) os) fun e w'' => e = .returned v ∧ ∃ p : Regrown, w'' = grow (redrawn w p.d) p.os := Calls.regrown_of (h _ (below_regrown w d os))

/-- a person whose text can be written -/
def Told (p : Pers) : Prop := p.fst.size ≤ 1000 ∧ p.lst.size ≤ 1000 ∧ (0 ≤ p.num ∧ p.num ≤ 10000000) ∧ (0 ≤ p.born ∧ p.born ≤ 10000000) ∧ (0 ≤ p.zone ∧ p.zone ≤ 10000000)
theorem told_of {p : Pers} (h : isPers p = true) : Told p := by
  obtain ⟨h0, h1, h2, h3, h4⟩ := isPers_parts h
  exact ⟨by omega, by omega, by omega, by omega, by omega⟩

set_option maxRecDepth 100000 in
set_option maxHeartbeats 4000000 in
theorem specText4_any (n : Int) (f l : ByteArray) (b z : Int) (w : World) (h : Told ⟨n, f, l, b, z⟩) :
    Calls Tryd.prog 22 #[.agg #[.int .i64 n, .string f, .string l, .int .i64 b, .int .i64 z]] w (SaysT (textP ⟨n, f, l, b, z⟩) w) := by
  obtain ⟨hf, hl, ⟨hn0, hn1⟩, ⟨hb0, hb1⟩, hz0, hz1⟩ : f.size ≤ 1000 ∧ l.size ≤ 1000 ∧ (0 ≤ n ∧ n ≤ 10000000) ∧ (0 ≤ b ∧ b ≤ 10000000) ∧ (0 ≤ z ∧ z ≤ 10000000) := h
  have HA := Lib.hid (atB_box w n f l b z 25)
  have HB := Lib.hid (boxed w (.cells #[.int .i64 n, .string f, .string l, .int .i64 b, .int .i64 z] 25))
  have HN := Lib.hid (show textP ⟨n, f, l, b, z⟩ = decB n ++ slash ++ f ++ slash ++ l ++ slash ++ decB b ++ slash ++ decB z from rfl)
  have hsn := decB_size (n := n) (by omega) (by omega)
  have hsb := decB_size (n := b) (by omega) (by omega)
  have hsz := decB_size (n := z) (by omega) (by omega)
  have HC1 := Lib.hid (fun W => specDec_any n.toNat n W (by omega) hn0 (by omega))
  have HC2 := Lib.hid (fun W => specDec_any b.toNat b W (by omega) hb0 (by omega))
  have HC3 := Lib.hid (fun W => specDec_any z.toNat z W (by omega) hz0 (by omega))
  generalize decB n = tn at HN hsn HC1
  generalize decB b = tb at HN hsb HC2
  generalize decB z = tz at HN hsz HC3
  generalize textP ⟨n, f, l, b, z⟩ = R at HN ⊢
  go_enter Tryd.func22, Tryd.ntmps22
  go_wp2_with fail
  generalize w.alloc (.cells #[.int .i64 n, .string f, .string l, .int .i64 b, .int .i64 z] 25) = w0 at HA HB ⊢
  obtain ⟨q0, hq0⟩ : ∃ q0, w.heap.size = q0 := ⟨_, rfl⟩
  have HQ := Lib.hid hq0
  have HB' := Lib.hid (show Below q0 w w0 by rw [← hq0]; exact HB.out)
  rw [hq0] at HA ⊢
  clear hq0 HB
  obtain ⟨k0, k1, k2, k3, k4⟩ := HA.out
  have r0 := cell_regrown k0; have r1 := cell_regrown k1; have r2 := cell_regrown k2; have r3 := cell_regrown k3; have r4 := cell_regrown k4
  have hc1 := regr_call4 (w := w0) (fun W _ => show Calls Tryd.prog _ _ W (fun e w' => e = .returned (.string tn) ∧ Below W.heap.size W w') from HC1.out W)
  have hc2 := regr_call4 (w := w0) (fun W _ => show Calls Tryd.prog _ _ W (fun e w' => e = .returned (.string tb) ∧ Below W.heap.size W w') from HC2.out W)
  have hc3 := regr_call4 (w := w0) (fun W _ => show Calls Tryd.prog _ _ W (fun e w' => e = .returned (.string tz) ∧ Below W.heap.size W w') from HC3.out W)
  clear k0 k1 k2 k3 k4
  have s1 : tn.size + 1 ≤ 9223372036854775807 := by omega
  have s2 : tn.size + 1 + f.size ≤ 9223372036854775807 := by omega
  have s3 : tn.size + 1 + f.size + 1 ≤ 9223372036854775807 := by omega
  have s4 : tn.size + 1 + f.size + 1 + l.size ≤ 9223372036854775807 := by omega
  have s5 : tn.size + 1 + f.size + 1 + l.size + 1 ≤ 9223372036854775807 := by omega
  have s6 : tn.size + 1 + f.size + 1 + l.size + 1 + tb.size ≤ 9223372036854775807 := by omega
  have s7 : tn.size + 1 + f.size + 1 + l.size + 1 + tb.size + 1 ≤ 9223372036854775807 := by omega
  have s8 : tn.size + 1 + f.size + 1 + l.size + 1 + tb.size + 1 + tz.size ≤ 9223372036854775807 := by omega
  refine wp_region_quiet_below (by kernel_rfl) (by kernel_rfl) ?_
  iterate 3 (go_big_quiet_step (exact hc1 _ _))
  iterate 12 (go_big_quiet_step (exact hc2 _ _))
  iterate 7 (go_big_quiet_step (exact hc3 _ _))
  refine wpQuiet_nil ?_
  intro _ hw'
  obtain ⟨⟨dq, osq⟩, hw''⟩ := hw'
  subst hw''
  have HB5 := Lib.hid (HB'.out.trans ((below_regrown w0 dq osq).mono (by rw [← HQ.out]; exact HB'.out.size)))
  clear hc1 hc2 hc3 r0 r1 r2 r3 r4
  generalize grow (redrawn w0 dq) osq = w5 at HB5 ⊢
  go_wp2_with fail
  go_ret
  exact ⟨ret_str HN.out.symm, by rw [HQ.out]; exact HB5.out⟩

set_option maxRecDepth 100000 in
set_option maxHeartbeats 1000000 in
theorem specPersonText_any (n : Int) (f l : ByteArray) (b z : Int) (w : World) (hf : f.size ≤ maxLen) (hl : l.size ≤ maxLen) :
    Calls Tryd.prog 9 #[.agg #[.int .i64 n, .string f, .string l, .int .i64 b, .int .i64 z]] w (SaysT2 (textOfP ⟨n, f, l, b, z⟩).1 (textOfP ⟨n, f, l, b, z⟩).2 w) := by
  have HA := Lib.hid (atB_box w n f l b z 25)
  have HB := Lib.hid (boxed w (.cells #[.int .i64 n, .string f, .string l, .int .i64 b, .int .i64 z] 25))
  cases hp : isPers ⟨n, f, l, b, z⟩
  · have HN := Lib.hid (show textOfP ⟨n, f, l, b, z⟩ = (⟨#[]⟩, 1) by rw [textOfP, if_neg (by rw [hp]; simp)])
    go_enter Tryd.func9, Tryd.ntmps9
    go_wp2_with fail
    refine (specIsPerson_any n f l b z _ hf hl).mono ?_; rintro e w1 ⟨rfl, hB⟩; have HB1 := Lib.hid (HB.out.trans (hB.mono HB.out.size)); clear hB
    go_wp2_with fail
    go_ret2
    exact ⟨ret_str2 (by rw [HN.out]) (by rw [HN.out]), HB1.out⟩
  · have HN := Lib.hid (show textOfP ⟨n, f, l, b, z⟩ = (textP ⟨n, f, l, b, z⟩, 0) by rw [textOfP, if_pos hp])
    have HT := Lib.hid (fun W => specText4_any n f l b z W (told_of hp))
    go_enter Tryd.func9, Tryd.ntmps9
    go_wp2_with fail
    refine (specIsPerson_any n f l b z _ hf hl).mono ?_; rintro e w1 ⟨rfl, hB⟩; have HB1 := Lib.hid (HB.out.trans (hB.mono HB.out.size))
    obtain ⟨c0, c1, c2, c3, c4⟩ := HA.out.below hB
    clear hB
    go_wp2_with fail
    clear c0 c1 c2 c3 c4
    refine (HT.out w1).mono ?_; rintro e w2 ⟨rfl, hB⟩; have HB2 := Lib.hid (HB1.out.trans (hB.mono HB1.out.size)); clear hB
    go_wp2_with fail
    go_ret2
    exact ⟨ret_str2 (by rw [HN.out]) (by rw [HN.out]), HB2.out⟩

theorem alloc_strs4 (w : World) (T : TypeId) (ss : List ByteArray) : ∀ (i : Nat) (x : ByteArray), ss[i]? = some x → (w.alloc (.cells (ss.map Value.string).toArray T)).cell? ⟨w.heap.size, i, none⟩ = some (.string x) := by
  intro i x hx
  have : (w.alloc (.cells (ss.map Value.string).toArray T)).heap[w.heap.size]? = some (.cells (ss.map Value.string).toArray T) := heap_alloc_new w _
  unfold World.cell?
  rw [this]
  simp [hx]
/-- a slice of five texts that was laid -/
def Five (ss : List ByteArray) (v : Value) (w : World) : Prop := ∃ g, v = .slice (some ⟨g, 0, none⟩) 5 5 ∧ ∀ (i : Nat) (s : ByteArray), ss[i]? = some s → w.cell? ⟨g, i, none⟩ = some (.string s)
/-- what each operation leaves -/
def TextF (bx : Nat) (p : Pers) : Nat → Value → World → Prop
  | 0, v, _ => v = .pointer (some ⟨bx, 0, none⟩)
  | 1, v, _ => v = .int .i64 p.num
  | 2, v, _ => v = .string (decB p.num)
  | 3, v, _ => v = .pointer (some ⟨bx, 1, none⟩)
  | 4, v, _ => v = .string p.fst
  | 5, v, _ => v = .pointer (some ⟨bx, 2, none⟩)
  | 6, v, _ => v = .string p.lst
  | 7, v, _ => v = .pointer (some ⟨bx, 3, none⟩)
  | 8, v, _ => v = .int .i64 p.born
  | 9, v, _ => v = .string (decB p.born)
  | 10, v, _ => v = .pointer (some ⟨bx, 4, none⟩)
  | 11, v, _ => v = .int .i64 p.zone
  | 12, v, _ => v = .string (decB p.zone)
  | 13, v, w | 14, v, w => Five (fields p) v w
  | _, _, _ => True

set_option maxRecDepth 100000 in
set_option maxHeartbeats 4000000 in
theorem implPersonText_any (n : Int) (f l : ByteArray) (b z : Int) (w : World) (hf : f.size ≤ maxLen) (hl : l.size ≤ maxLen) (hT : Tabs Tryd.prog w) :
    Calls Tryd.prog 8 #[.agg #[.int .i64 n, .string f, .string l, .int .i64 b, .int .i64 z]] w (SaysT2 (textOfP ⟨n, f, l, b, z⟩).1 (textOfP ⟨n, f, l, b, z⟩).2 w) := by
  have HA := Lib.hid (atB_box w n f l b z 25)
  have HB := Lib.hid (boxed w (.cells #[.int .i64 n, .string f, .string l, .int .i64 b, .int .i64 z] 25))
  have HTab := Lib.hid hT; clear hT
  cases hp : isPers ⟨n, f, l, b, z⟩
  · have HN := Lib.hid (show textOfP ⟨n, f, l, b, z⟩ = (⟨#[]⟩, 1) by rw [textOfP, if_neg (by rw [hp]; simp)])
    go_enter Tryd.func8, Tryd.ntmps8
    go_wp2_with fail
    refine (implIsPerson_any n f l b z _ hf hl).mono ?_; rintro e w1 ⟨rfl, hB⟩; have HB1 := Lib.hid (HB.out.trans (hB.mono HB.out.size)); clear hB
    go_wp2_with fail
    go_ret2
    exact ⟨ret_str2 (by rw [HN.out]) (by rw [HN.out]), HB1.out⟩
  · have HN := Lib.hid (show textOfP ⟨n, f, l, b, z⟩ = (textP ⟨n, f, l, b, z⟩, 0) by rw [textOfP, if_pos hp])
    obtain ⟨⟨hn0, hn1⟩, hfs, hls, ⟨hb0, hb1⟩, hz0, hz1⟩ : (1 ≤ n ∧ n ≤ 1000000) ∧ f.size ≤ 16 ∧ l.size ≤ 16 ∧ (1900 ≤ b ∧ b ≤ 2100) ∧ (0 ≤ z ∧ z ≤ 99) := isPers_parts hp
    go_enter Tryd.func8, Tryd.ntmps8
    go_wp2_with fail
    refine (implIsPerson_any n f l b z _ hf hl).mono ?_; rintro e w1 ⟨rfl, hB⟩; have HB1 := Lib.hid (HB.out.trans (hB.mono HB.out.size))
    have HA1 := Lib.hid (HA.out.below hB)
    clear hB
    go_wp2_with fail
    obtain ⟨bx, hbx⟩ : ∃ bx, w.heap.size = bx := ⟨_, rfl⟩
    have HBX := Lib.hid hbx
    rw [hbx] at HA1 ⊢
    clear hbx HA HB
    refine wp_region_facts (sz := 24) [1] (by kernel_rfl) (by kernel_rfl) (by kernel_rfl) (fun W => Below w1.heap.size w1 W) (fun W W' => Below W.heap.size W W') (TextF bx ⟨n, f, l, b, z⟩) rfl (Below.drew (Below.refl _ _)) ?_ ?_ ?_
    · intro j v w2 w3 hf2 hR
      unfold TextF at hf2 ⊢
      split at hf2 <;> first | exact hf2 | trivial | skip
      all_goals
        obtain ⟨g, e, h3⟩ := hf2
        exact ⟨g, e, fun i s hs => cell_later hR (h3 i s hs)⟩
    · intro i o ho
      match i, ho with
      | 0, ho =>
        cases ho
        intro ev w' hc hfn hb hG hd
        have h1 : ev (.tmp 1) = .pointer (some ⟨bx, 0, none⟩) := hb 1 (by simp)
        refine stepTo_gen fun K' hK => ?_
        simp [go_sem, stepTo, hc, hfn, h1]
        exact hK _ _ ⟨hG, Below.refl _ _, (fun h => by cases h), rfl⟩
      | 1, ho =>
        cases ho
        intro ev w' hc hfn hb hG hd
        have h1 : ev (.tmp 8) = .pointer (some ⟨bx, 0, none⟩) := hd { on := 0, ground := .data } (by simp) rfl _ rfl
        obtain ⟨c0, c1, c2, c3, c4⟩ := HA1.out.below hG
        simp only at c0 c1 c2 c3 c4
        refine stepTo_gen fun K' hK => ?_
        simp [go_sem, stepTo, hc, hfn, h1, c0]
        exact hK _ _ ⟨hG, Below.refl _ _, (fun h => by cases h), rfl⟩
      | 2, ho =>
        cases ho
        intro ev w' hc hfn hb hG hd
        have h1 : ev (.tmp 9) = .int .i64 n := hd { on := 1, ground := .data } (by simp) rfl _ rfl
        refine stepTo_gen fun K' hK => ?_
        simp [go_sem, stepTo, hc, hfn, h1]
        refine (implNumberText_any n w' (by omega) (by omega) (HTab.out.below Tryd.gPow (HB1.out.trans (hG.mono HB1.out.size)))).mono ?_; rintro e w2 ⟨rfl, hB⟩
        exact ⟨_, rfl, hK _ _ ⟨hG.trans (hB.mono hG.size), hB, (fun h => by cases h), rfl⟩⟩
      | 3, ho =>
        cases ho
        intro ev w' hc hfn hb hG hd
        have h1 : ev (.tmp 1) = .pointer (some ⟨bx, 0, none⟩) := hb 1 (by simp)
        refine stepTo_gen fun K' hK => ?_
        simp [go_sem, stepTo, hc, hfn, h1]
        exact hK _ _ ⟨hG, Below.refl _ _, (fun h => by cases h), rfl⟩
      | 4, ho =>
        cases ho
        intro ev w' hc hfn hb hG hd
        have h1 : ev (.tmp 11) = .pointer (some ⟨bx, 1, none⟩) := hd { on := 3, ground := .data } (by simp) rfl _ rfl
        obtain ⟨c0, c1, c2, c3, c4⟩ := HA1.out.below hG
        simp only at c0 c1 c2 c3 c4
        refine stepTo_gen fun K' hK => ?_
        simp [go_sem, stepTo, hc, hfn, h1, c1]
        exact hK _ _ ⟨hG, Below.refl _ _, (fun h => by cases h), rfl⟩
      | 5, ho =>
        cases ho
        intro ev w' hc hfn hb hG hd
        have h1 : ev (.tmp 1) = .pointer (some ⟨bx, 0, none⟩) := hb 1 (by simp)
        refine stepTo_gen fun K' hK => ?_
        simp [go_sem, stepTo, hc, hfn, h1]
        exact hK _ _ ⟨hG, Below.refl _ _, (fun h => by cases h), rfl⟩
      | 6, ho =>
        cases ho
        intro ev w' hc hfn hb hG hd
        have h1 : ev (.tmp 13) = .pointer (some ⟨bx, 2, none⟩) := hd { on := 5, ground := .data } (by simp) rfl _ rfl
        obtain ⟨c0, c1, c2, c3, c4⟩ := HA1.out.below hG
        simp only at c0 c1 c2 c3 c4
        refine stepTo_gen fun K' hK => ?_
        simp [go_sem, stepTo, hc, hfn, h1, c2]
        exact hK _ _ ⟨hG, Below.refl _ _, (fun h => by cases h), rfl⟩
      | 7, ho =>
        cases ho
        intro ev w' hc hfn hb hG hd
        have h1 : ev (.tmp 1) = .pointer (some ⟨bx, 0, none⟩) := hb 1 (by simp)
        refine stepTo_gen fun K' hK => ?_
        simp [go_sem, stepTo, hc, hfn, h1]
        exact hK _ _ ⟨hG, Below.refl _ _, (fun h => by cases h), rfl⟩
      | 8, ho =>
        cases ho
        intro ev w' hc hfn hb hG hd
        have h1 : ev (.tmp 15) = .pointer (some ⟨bx, 3, none⟩) := hd { on := 7, ground := .data } (by simp) rfl _ rfl
        obtain ⟨c0, c1, c2, c3, c4⟩ := HA1.out.below hG
        simp only at c0 c1 c2 c3 c4
        refine stepTo_gen fun K' hK => ?_
        simp [go_sem, stepTo, hc, hfn, h1, c3]
        exact hK _ _ ⟨hG, Below.refl _ _, (fun h => by cases h), rfl⟩
      | 9, ho =>
        cases ho
        intro ev w' hc hfn hb hG hd
        have h1 : ev (.tmp 16) = .int .i64 b := hd { on := 8, ground := .data } (by simp) rfl _ rfl
        refine stepTo_gen fun K' hK => ?_
        simp [go_sem, stepTo, hc, hfn, h1]
        refine (implNumberText_any b w' (by omega) (by omega) (HTab.out.below Tryd.gPow (HB1.out.trans (hG.mono HB1.out.size)))).mono ?_; rintro e w2 ⟨rfl, hB⟩
        exact ⟨_, rfl, hK _ _ ⟨hG.trans (hB.mono hG.size), hB, (fun h => by cases h), rfl⟩⟩
      | 10, ho =>
        cases ho
        intro ev w' hc hfn hb hG hd
        have h1 : ev (.tmp 1) = .pointer (some ⟨bx, 0, none⟩) := hb 1 (by simp)
        refine stepTo_gen fun K' hK => ?_
        simp [go_sem, stepTo, hc, hfn, h1]
        exact hK _ _ ⟨hG, Below.refl _ _, (fun h => by cases h), rfl⟩
      | 11, ho =>
        cases ho
        intro ev w' hc hfn hb hG hd
        have h1 : ev (.tmp 18) = .pointer (some ⟨bx, 4, none⟩) := hd { on := 10, ground := .data } (by simp) rfl _ rfl
        obtain ⟨c0, c1, c2, c3, c4⟩ := HA1.out.below hG
        simp only at c0 c1 c2 c3 c4
        refine stepTo_gen fun K' hK => ?_
        simp [go_sem, stepTo, hc, hfn, h1, c4]
        exact hK _ _ ⟨hG, Below.refl _ _, (fun h => by cases h), rfl⟩
      | 12, ho =>
        cases ho
        intro ev w' hc hfn hb hG hd
        have h1 : ev (.tmp 19) = .int .i64 z := hd { on := 11, ground := .data } (by simp) rfl _ rfl
        refine stepTo_gen fun K' hK => ?_
        simp [go_sem, stepTo, hc, hfn, h1]
        refine (implNumberText_any z w' (by omega) (by omega) (HTab.out.below Tryd.gPow (HB1.out.trans (hG.mono HB1.out.size)))).mono ?_; rintro e w2 ⟨rfl, hB⟩
        exact ⟨_, rfl, hK _ _ ⟨hG.trans (hB.mono hG.size), hB, (fun h => by cases h), rfl⟩⟩
      | 13, ho =>
        cases ho
        intro ev w' hc hfn hb hG hd
        have h10 : ev (.tmp 10) = .string (decB n) := hd { on := 2, ground := .data } (by simp) rfl _ rfl
        have h12 : ev (.tmp 12) = .string f := hd { on := 4, ground := .data } (by simp) rfl _ rfl
        have h14 : ev (.tmp 14) = .string l := hd { on := 6, ground := .data } (by simp) rfl _ rfl
        have h17 : ev (.tmp 17) = .string (decB b) := hd { on := 9, ground := .data } (by simp) rfl _ rfl
        have h20 : ev (.tmp 20) = .string (decB z) := hd { on := 12, ground := .data } (by simp) rfl _ rfl
        refine stepTo_gen fun K' hK => ?_
        simp [go_sem, stepTo, hc, hfn, h10, h12, h14, h17, h20]
        exact hK _ _ ⟨hG.trans ((boxed w' _).mono hG.size), boxed w' _, (fun h => by cases h), w'.heap.size, rfl, fun i s hs => by
          have := alloc_strs4 w' 9 (fields ⟨n, f, l, b, z⟩) i s hs
          exact this⟩
      | 14, ho =>
        cases ho
        intro ev w' hc hfn hb hG hd
        obtain ⟨g, h21, h3⟩ : Five (fields ⟨n, f, l, b, z⟩) (ev (.tmp 21)) w' := hd { on := 13, ground := .data } (by simp) rfl _ rfl
        refine stepTo_gen fun K' hK => ?_
        simp [go_sem, stepTo, hc, hfn, h21]
        exact hK _ _ ⟨hG, Below.refl _ _, (fun h => by cases h), g, rfl, h3⟩
      | n + 15, ho => simp at ho
    · intro a w' hb hs hdf hG hf2
      obtain ⟨g, h4, h3⟩ : Five (fields ⟨n, f, l, b, z⟩) (a.eval (.tmp 4)) w' := hf2 14 _ rfl
      obtain ⟨tmps, dfs⟩ := a
      simp only at hdf
      subst hdf
      obtain ⟨lst⟩ := tmps
      clear hf2 hb
      match lst, hs with
      | [x0, x1, x2, x3, x4, x5, x6, x7, x8, x9, x10, x11, x12, x13, x14, x15, x16, x17, x18, x19, x20, x21, x22, x23], _ =>
        obtain rfl : x4 = .slice (some ⟨g, 0, none⟩) 5 5 := h4
        have hgl : g < w'.heap.size := World.block_lt_of_cell? w' _ (h3 0 _ rfl)
        have e1 : (Lib.join ((fields ⟨n, f, l, b, z⟩).map (·.data.toList)) slash.data.toList).length = (textP ⟨n, f, l, b, z⟩).size := by rw [← join_fields]; exact List.size_toArray.symm
        have hsn := decB_size (n := n) (by omega) (by omega)
        have hsb := decB_size (n := b) (by omega) (by omega)
        have hsz := decB_size (n := z) (by omega) (by omega)
        have e2 : (textP ⟨n, f, l, b, z⟩).size = (decB n).size + 1 + f.size + 1 + l.size + 1 + (decB b).size + 1 + (decB z).size := by
          simp only [textP, ByteArray.size_append]; rfl
        have HJ := Lib.hid (show Calls Tryd.prog 20 #[.slice (some ⟨g, 0, none⟩) 5 5, .string ⟨#[47]⟩] w' (fun e w2 => e = .returned (.string (textP ⟨n, f, l, b, z⟩)) ∧ Below w'.heap.size w' w2) from by
          have hj := Tryd.strings_Join g 0 5 (fields ⟨n, f, l, b, z⟩) slash w' (fun j x hx => by rw [Nat.zero_add]; exact h3 j x hx) hgl (by show (5 : Nat) ≤ _; omega) (Nat.le_refl 5) (by rw [e1, e2]; omega)
          rw [join_fields] at hj
          exact hj)
        have HG := Lib.hid (HB1.out.trans (hG.mono HB1.out.size))
        clear hG h3 e1 e2 hsn hsb hsz
        go_wp2_with fail
        refine HJ.out.mono ?_; rintro e w2 ⟨rfl, hB⟩
        have HB2 := Lib.hid (HG.out.trans (hB.mono HG.out.size)); clear hB
        go_wp2_with fail
        go_ret2
        exact ⟨ret_str2 (by rw [HN.out]) (by rw [HN.out]), HB2.out⟩

end Go.Proofs.YtgjhpeofcbdaaaaDoor
