/- Contract: spec.l08Good draws a pool. -/
import Derived.Test.YtjnicmlomjppnaaGreatDoorChecked
import Derived.Test.YtjnicmlomjppnaaGreatDoorBase0
import Derived.Test.YtjnicmlomjppnaaGreatDoorInfo
import Derived.Test.YtjnicmlomjppnaaGreatDoorMidA
import Derived.Test.YtjnicmlomjppnaaGreatDoorIntL
import Derived.Test.YtjnicmlomjppnaaGreatDoorBuildI
import Derived.Test.YtjnicmlomjppnaaGreatDoorBuild8
import Derived.Test.YtjnicmlomjppnaaGreatDoorRowV
import Derived.Test.YtjnicmlomjppnaaGreatDoorPoolA
import Derived.Test.YtjnicmlomjppnaaGreatDoorSpec83
import Derived.WalkKit
import Derived.WalkSpells
import Derived.WalkLawsBesides
import Derived.Lib.Hide
import Derived.IntWalk
import Derived.Deep.OwnRows
import Derived.OwnWalk
import Derived.Outline
namespace Go.Proofs.YtjnicmlomjppnaaGreatDoor
open Go.RowKit Pure1 Pure2 Pure6 Pure30 Pure40 Pure60 Pure80 Pure85 Rec

/-- a pool is handed out, in memory of its own -/
def GaveQ (B b : Nat) (Q : PoolV → Prop) (w : World) (e : Ending) (w' : World) : Prop :=
  ∃ v0 v1 q, e = .returned (.agg #[v0, v1, .int .i64 q.state]) ∧ BuildI w.heap.size w' v0 q.nums ∧ BuildI w.heap.size w' v1 q.drawn ∧ Q q ∧ Src B 58 w' b ∧ w.grownBy w' (some b)
/-- a good pool of few numbers -/
def GoodQ (q : PoolV) : Prop := isPool q = true ∧ q.nums.length ≤ 10

theorem src_later8 {B b : Nat} {T : TypeId} {w w' : World} (h : Src B T w b) (hB : Below w.heap.size w w') : Src B T w' b :=
  h.kept (hB.block _ h.lt) (hB.mono (Nat.le_trans h.base (Nat.le_of_lt h.lt)))
theorem gb_below8 {b : Nat} {w w1 w2 : World} (h : w.grownBy w1 (some b)) (h2 : Below w1.heap.size w1 w2) : w.grownBy w2 (some b) :=
  grown_trans h ⟨h2.os, h2.tape, h2.output, h2.size, fun k hk _ => h2.block k hk⟩
theorem gb_own8 {b g : Nat} {w w1 w2 : World} (h : w.grownBy w1 (some b)) (h2 : w1.grownBy w2 (some g)) (hg : w.heap.size ≤ g) : w.grownBy w2 (some b) :=
  ⟨h2.os.trans h.os, h2.tape.trans h.tape, h2.output.trans h.output, Nat.le_trans h.size h2.size, fun k hk hne => (h2.block k (Nat.lt_of_lt_of_le hk h.size) (fun e => by cases e; omega)).trans (h.block k hk hne)⟩
theorem src_own8 {B b g : Nat} {T : TypeId} {w w' : World} (h : Src B T w b) (hg : w.grownBy w' (some g)) (hne : b ≠ g) (hB : B ≤ g) : Src B T w' b :=
  h.kept (hg.block b h.lt (fun e => hne (Option.some.inj e))) (grown_below hg hB (Nat.le_trans h.base (Nat.le_of_lt h.lt)))
theorem build_src {C b : Nat} {w w' : World} {v : Value} {zs : List Int} (h : BuildI C w v zs) (hg : w.grownBy w' (some b)) (hb : b < C) : BuildI C w' v zs :=
  h.kept hg (fun k hk e => by cases e; have := (h.lt _ hk).1; omega)
theorem row_src {g b : Nat} {T : TypeId} {w w' : World} {vs : List Value} (h : RowV g w T vs) (hg : w.grownBy w' (some b)) (hne : g ≠ b) : RowV g w' T vs :=
  h.grown hg (fun k e => by cases e; exact hne)

/-- what always holds while a pool is taken from -/
structure GoodG (B b C gp rv : Nat) (vN vD : Value) (ns : List Int) (st : Int) (w00 w : World) : Prop where
  src : Src B 58 w b
  grown : w00.grownBy w (some b)
  rp : RowV gp w 26 [vN, vD, .int .i64 st]
  rr : RowV rv w 26 [.slice none 0 0, .slice none 0 0, .int .i64 0]
  n0 : BuildI C w vN ns
  d0 : BuildI C w vD []
section
variable {B b C gp rv : Nat} {vN vD : Value} {ns : List Int} {st : Int} {w00 w w' : World}
theorem GoodG.later (h : GoodG B b C gp rv vN vD ns st w00 w) (hb : Below w.heap.size w w') : GoodG B b C gp rv vN vD ns st w00 w' :=
  ⟨src_later8 h.src hb, gb_below8 h.grown hb, h.rp.below hb, h.rr.below hb, h.n0.below hb, h.d0.below hb⟩
theorem GoodG.next (h : GoodG B b C gp rv vN vD ns st w00 w) (hs : Src B 58 w' b) (hg : w.grownBy w' (some b)) (hb : b < C) (h1 : C ≤ gp) (h2 : C ≤ rv) : GoodG B b C gp rv vN vD ns st w00 w' :=
  ⟨hs, grown_trans h.grown hg, row_src h.rp hg (by omega), row_src h.rr hg (by omega), build_src h.n0 hg hb, build_src h.d0 hg hb⟩
theorem GoodG.stored (h : GoodG B b C gp rv vN vD ns st w00 w) {g : Nat} {vs : List Value} (hr : RowV g w 26 vs) (hg : w.grownBy w' (some g)) (hgb : b < g) (h1 : gp ≠ g) (h2 : rv ≠ g) (h3 : w00.heap.size ≤ g) : GoodG B b C gp rv vN vD ns st w00 w' :=
  ⟨src_own8 h.src hg (by omega) (by have := h.src.base; omega), gb_own8 h.grown hg h3, h.rp.grown hg (fun k e => by cases e; exact h1), h.rr.grown hg (fun k e => by cases e; exact h2),
    h.n0.kept hg (fun q hq e => build_ne h.n0 hr (by decide) (by rw [hq, e])), h.d0.kept hg (fun q hq e => build_ne h.d0 hr (by decide) (by rw [hq, e]))⟩
end
/-- three values of a draw -/
def TookV (C : Nat) (Q : PoolV → Prop) (v : Value) (w : World) : Prop := ∃ v0 v1 v2 q, v = .tuple #[.agg #[v0, v1, .int .i64 q.state], v2, .int .i64 0] ∧ BuildI C w v0 q.nums ∧ BuildI C w v1 q.drawn ∧ Q q
def TookP (C : Nat) (Q : PoolV → Prop) (v : Value) (w : World) : Prop := ∃ v0 v1 q, v = .agg #[v0, v1, .int .i64 q.state] ∧ BuildI C w v0 q.nums ∧ BuildI C w v1 q.drawn ∧ Q q
/-- what each operation leaves -/
def FactG (b C s : Nat) (Q : PoolV → Prop) (pv vN : Value) (n : Nat) : Nat → Value → (Operand → Value) → World → Prop
  | 0, v, _, _ => v = pv
  | 1, v, _, _ => v = .pointer (some ⟨b, 0, none⟩)
  | 2, v, _, _ => v = vN
  | 3, v, _, _ => v = .int .i64 (n : Int)
  | 4, v, _, _ => v = .int .i64 ((n : Int) + 1)
  | 5, v, _, _ => ∃ x : Int, v = .int .i64 x ∧ 0 ≤ x ∧ x ≤ n
  | 6, v, _, w | 7, v, _, w => TookV C Q v w
  | 8, v, _, w => TookP C Q v w
  | 10, v, _, _ | 14, v, _, _ => v = .int .i64 0
  | 11, v, _, w => SomeRow s 26 3 v w
  | 12, _, ev, w => ∃ g v0 v1 q, ev (.tmp 7) = .pointer (some ⟨g, 0, none⟩) ∧ s ≤ g ∧ RowV g w 26 [v0, v1, .int .i64 q.state] ∧ BuildI C w v0 q.nums ∧ BuildI C w v1 q.drawn ∧ Q q
  | _, _, _, _ => True
def depsG : Nat → List Nat
  | 12 => [7]
  | _ => []
/-- how the world turns -/
def TurnG (b s i : Nat) (w w' : World) : Prop := if i = 5 then w.grownBy w' (some b) else if i = 12 then Turn1 s 26 3 w w' else Below w.heap.size w w'
theorem factG_stab {b C s : Nat} {Q : PoolV → Prop} {pv vN : Value} {n : Nat} (j : Nat) (v : Value) (ev ev' : Operand → Value) (w : World) (h : ∀ t ∈ depsG j, ev (.tmp t) = ev' (.tmp t)) (hf : FactG b C s Q pv vN n j v ev w) : FactG b C s Q pv vN n j v ev' w := by
  match j with
  | 0 => exact hf
  | 1 => exact hf
  | 2 => exact hf
  | 3 => exact hf
  | 4 => exact hf
  | 5 => exact hf
  | 6 => exact hf
  | 7 => exact hf
  | 8 => exact hf
  | 9 => trivial
  | 10 => exact hf
  | 11 => exact hf
  | 12 =>
    have h1 := h 7 (by simp [depsG])
    simp only [FactG] at hf ⊢
    rw [← h1]; exact hf
  | 13 => trivial
  | 14 => exact hf
  | n + 15 => trivial
theorem turnG_build {b C s i : Nat} {w w' : World} {v : Value} {zs : List Int} (h : BuildI C w v zs) (hb : b < C) (ht : TurnG b s i w w') : BuildI C w' v zs := by
  unfold TurnG at ht
  split at ht
  · exact build_src h ht hb
  · split at ht
    · obtain ⟨g, vs, vs', hB, hr, hn, hr', hn', hg⟩ := ht
      exact h.kept hg (fun k hk e => build_ne h hr (by decide) (by rw [hk, e]))
    · exact h.below ht
theorem factG_mono {b C s : Nat} {Q : PoolV → Prop} {pv vN : Value} {n : Nat} (hb : b < C) (hs : b < s) (i j : Nat) (v : Value) (ev : Operand → Value) (w w' : World) (hij : i ≠ j) (hf : FactG b C s Q pv vN n j v ev w) (hR : TurnG b s i w w') : FactG b C s Q pv vN n j v ev w' := by
  match j with
  | 0 => exact hf
  | 1 => exact hf
  | 2 => exact hf
  | 3 => exact hf
  | 4 => exact hf
  | 5 => exact hf
  | 6 => obtain ⟨v0, v1, v2, q, e, h0, h1, hq⟩ := hf; exact ⟨v0, v1, v2, q, e, turnG_build h0 hb hR, turnG_build h1 hb hR, hq⟩
  | 7 => obtain ⟨v0, v1, v2, q, e, h0, h1, hq⟩ := hf; exact ⟨v0, v1, v2, q, e, turnG_build h0 hb hR, turnG_build h1 hb hR, hq⟩
  | 8 => obtain ⟨v0, v1, q, e, h0, h1, hq⟩ := hf; exact ⟨v0, v1, q, e, turnG_build h0 hb hR, turnG_build h1 hb hR, hq⟩
  | 9 => trivial
  | 10 => exact hf
  | 11 =>
    obtain ⟨g, vs, e, hB, hr, hl⟩ := hf
    unfold TurnG at hR
    split at hR
    · exact ⟨g, vs, e, hB, row_src hr hR (by omega), hl⟩
    · split at hR
      · obtain ⟨vs', h1, h2⟩ := turn1_same hr hl hR; exact ⟨g, vs', e, hB, h1, h2⟩
      · exact ⟨g, vs, e, hB, hr.below hR, hl⟩
  | 12 =>
    obtain ⟨g, v0, v1, q, e, hB, hr, h0, h1, hq⟩ := hf
    refine ⟨g, v0, v1, q, e, hB, ?_, turnG_build h0 hb hR, turnG_build h1 hb hR, hq⟩
    unfold TurnG at hR
    rw [if_neg hij] at hR
    split at hR
    · exact row_src hr hR (by omega)
    · exact hr.below hR
  | 13 => trivial
  | 14 => exact hf
  | n + 15 => trivial

theorem gaveQ_ret {B b : Nat} {Q : PoolV → Prop} {w W W' : World} {v0 v1 : Value} {q : PoolV} {vs : List Value} (hs : Src B 58 W b) (hg0 : w.grownBy W (some b)) (h0 : BuildI w.heap.size W v0 q.nums) (h1 : BuildI w.heap.size W v1 q.drawn) (hr : RowV w.heap.size W 26 vs) (hg : W.grownBy W' (some w.heap.size)) (hlt : b < w.heap.size) (hq : Q q) :
    GaveQ B b Q w (.returned (.agg #[v0, v1, .int .i64 q.state])) W' :=
  ⟨_, _, q, rfl, h0.kept hg (fun k hk e => build_ne h0 hr (by decide) (by rw [hk, e])), h1.kept hg (fun k hk e => build_ne h1 hr (by decide) (by rw [hk, e])), hq, src_own8 hs hg (by omega) (by have := hs.base; omega), gb_own8 hg0 hg (Nat.le_refl _)⟩

set_option maxRecDepth 100000 in
set_option maxHeartbeats 8000000 in
theorem specGood8_any (B b : Nat) (w : World) (h : Src B 58 w b) :
    Calls Tryz.prog 20 #[.pointer (some ⟨b, 0, none⟩)] w (GaveQ B b GoodQ w) := by
  have hlt := h.lt
  have HS0 := Lib.hid ((h.alloc (.cells #[.slice none 0 0, .slice none 0 0, .int .i64 0] 26)).alloc (.cells #[] 2))
  have HR0 := Lib.hid ((rowV_box w 26 [.slice none 0 0, .slice none 0 0, .int .i64 0]).below (boxed _ (.cells #[] 2)))
  have hE := BuildI.empty (B := w.heap.size) (w := w.alloc (.cells #[.slice none 0 0, .slice none 0 0, .int .i64 0] 26)) (by simp)
  have HG0 := Lib.hid (grown_trans (grown_alloc w (.cells #[.slice none 0 0, .slice none 0 0, .int .i64 0] 26) (some b)) (grown_alloc _ (.cells #[] 2) (some b)))
  have hsz : ((w.alloc (.cells #[.slice none 0 0, .slice none 0 0, .int .i64 0] 26)).alloc (.cells #[] 2)).heap.size = w.heap.size + 2 := by simp
  rw [show (w.alloc (.cells #[.slice none 0 0, .slice none 0 0, .int .i64 0] 26)).heap.size = w.heap.size + 1 by simp] at hE
  have HE0 := Lib.hid hE
  clear h hE
  go_enter Tryz.func20, Tryz.ntmps20
  go_wp2_with fail
  generalize (w.alloc (.cells #[.slice none 0 0, .slice none 0 0, .int .i64 0] 26)).alloc (.cells #[] 2) = w1 at HS0 HR0 HE0 HG0 hsz ⊢
  refine (specNext_any B b 9 w1 (by omega) HS0.out).mono ?_; rintro e w2 ⟨x, rfl, hx, _, hS, hg⟩
  obtain ⟨l1, u1⟩ := hx (by omega)
  have HS2 := Lib.hid hS; have HG2 := Lib.hid (grown_trans HG0.out hg); have HR2 := Lib.hid (row_src HR0.out hg (by omega)); have HE2 := Lib.hid (build_src HE0.out hg hlt)
  have q1 : IntKind.i64.wrap (1 + x) = 1 + x := IntWalk.i64_in _ (by omega)
  clear hS hg hx
  go_wp2_with fail
  refine (specNext_any B b 10 w2 (by omega) HS2.out).mono ?_; rintro e w3 ⟨n, rfl, hn, _, hS, hg⟩
  obtain ⟨l2, u2⟩ := hn (by omega)
  have HS3 := Lib.hid hS; have HG3 := Lib.hid (grown_trans HG2.out hg); have HR3 := Lib.hid (row_src HR2.out hg (by omega)); have HE3 := Lib.hid (build_src HE2.out hg hlt)
  clear hS hg hn
  go_wp2
  go_loopw [3, 4, 5] (fun v xv nv wr => ∃ (zs : List Int) (y : Int) (k : Int), xv = .int .i64 y ∧ nv = .int .i64 k ∧ 0 ≤ k ∧ (zs.length : Int) + k = n ∧ 1 ≤ y ∧ y ≤ 9 + 5 * (zs.length : Int) ∧ RiseBelow zs y ∧ BuildI w.heap.size wr v zs ∧ Src B 58 wr b ∧ w.grownBy wr (some b) ∧ RowV w.heap.size wr 26 [.slice none 0 0, .slice none 0 0, .int .i64 0]) (fun _ _ nv _ => (intOf nv).toNat)
  case atStart => exact ⟨[], _, _, rfl, rfl, l2, by simp, by omega, by simp; omega, riseBelow_nil _, HE3.out, HS3.out, HG3.out, HR3.out⟩
  case round =>
    obtain ⟨zs, y, k, rfl, rfl, hk0, hlen, hy1, hy2, hrb, ho, hS, hG, hR⟩ := hrel
    have HO := Lib.hid ho; have HS := Lib.hid hS; have HG := Lib.hid hG; have HR := Lib.hid hR; have HRB := Lib.hid hrb
    clear ho hS hG hR hrb HS3 HG3 HR3 HE3 HS2 HG2 HR2 HE2
    obtain ⟨av, cv, rfl, hat⟩ := HO.out.slice
    have hz10 : zs.length ≤ 9 := by omega
    by_cases hk : 0 < k
    · have q2 : IntKind.i64.wrap (y + 1) = y + 1 := IntWalk.i64_in _ (by omega)
      have q3 : IntKind.i64.wrap (k - 1) = k - 1 := IntWalk.i64_in _ (by omega)
      clear hat
      go_wp2_with (at_builtin; refine wpList_int_append (B := w.heap.size) rfl _ _ rfl _ _ rfl (HO.out.alloc _) _ y rfl (BuildI.lit1 _ _ _) (by omega) (by have := HG.out.size; simp; omega) ?_)
      intro v' w5 h1 h2
      have hal := boxed wr (.cells #[.int .i64 y] 2)
      have ho3 := HO.out.below hal
      have hown : ∀ q, (Value.slice av zs.length cv).ownBlock = some q → w.heap.size ≤ q := fun q hq => (ho3.lt q hq).1
      have HO5 := Lib.hid h1
      have hs4 := src_later8 HS.out hal
      have HS5 := Lib.hid (hs4.kept (h2.block b hs4.lt (fun e => by have := hown b e.symm; omega)) ⟨h2.os, h2.tape, h2.output, h2.size, fun i hi => h2.block i (by have := hs4.lt; have := hs4.base; omega) (fun e => by have := hown i e.symm; have := hs4.base; omega)⟩)
      have hg4 := gb_below8 HG.out hal
      have HG5 := Lib.hid (show w.grownBy w5 (some b) from ⟨h2.os.trans hg4.os, h2.tape.trans hg4.tape, h2.output.trans hg4.output, Nat.le_trans hg4.size h2.size, fun i hi hne => (h2.block i (Nat.lt_of_lt_of_le hi hg4.size) (fun e => by have := hown i e.symm; omega)).trans (hg4.block i hi hne)⟩)
      have HR5 := Lib.hid ((HR.out.below hal).grown h2 (fun q hq => by rintro rfl; exact build_ne ho3 (HR.out.below hal) (by decide) hq))
      clear h1 h2 hal ho3 hown hs4 hg4 HO HS HG HR
      go_wp2_with fail
      refine (specNext_any B b 5 w5 (by omega) HS5.out).mono ?_; rintro e w6 ⟨z, rfl, hz, _, hS, hg⟩
      obtain ⟨l3, u3⟩ := hz (by omega)
      have q4 : IntKind.i64.wrap (y + 1 + z) = y + 1 + z := IntWalk.i64_in _ (by omega)
      have HS6 := Lib.hid hS; have HG6 := Lib.hid (grown_trans HG5.out hg); have HR6 := Lib.hid (row_src HR5.out hg (by omega)); have HO6 := Lib.hid (build_src HO5.out hg hlt)
      have HRB6 := Lib.hid (riseBelow_step HRB.out hy1 (show y < y + 1 + z by omega))
      clear hS hg hz HS5 HG5 HR5 HO5 HRB
      go_wp2
      go_roundw
      case rel => exact ⟨zs ++ [y], y + 1 + z, k - 1, rfl, rfl, by omega, by rw [List.length_append, List.length_singleton]; omega, by omega, by rw [List.length_append, List.length_singleton]; omega, HRB6.out, HO6.out, HS6.out, HG6.out, HR6.out⟩
      case measure => simp [intOf]; omega
    · have hk00 : k = 0 := by omega
      subst hk00
      have HAT := Lib.hid hat
      clear hat hk hlen
      have HE7 := Lib.hid (BuildI.empty (B := w.heap.size) (w := wr) HG.out.size)
      have hal := boxed wr (.cells #[] 2)
      have HO7 := Lib.hid (HO.out.below hal); have HS7 := Lib.hid (src_later8 HS.out hal); have HG7 := Lib.hid (gb_below8 HG.out hal); have HR7 := Lib.hid (HR.out.below hal)
      have hrw := HG.out.size
      clear hal HAT HO HS HG HR
      go_wp2_with fail
      generalize wr.alloc (.cells #[] 2) = wa at HE7 HO7 HS7 HG7 HR7 ⊢
      refine (specNext_any B b 2000000000 wa (by omega) HS7.out).mono ?_; rintro e w8 ⟨z, rfl, hz, _, hS, hg⟩
      obtain ⟨l3, u3⟩ := hz (by omega)
      have q5 : IntKind.i64.wrap (1 + z) = 1 + z := IntWalk.i64_in _ (by omega)
      have HS8 := Lib.hid hS; have HG8 := Lib.hid (grown_trans HG7.out hg); have HR8 := Lib.hid (row_src HR7.out hg (by omega)); have HO8 := Lib.hid (build_src HO7.out hg hlt); have HE8 := Lib.hid (build_src HE7.out hg hlt)
      have HPP := Lib.hid (riseBelow_pool (s := 1 + z) HRB.out (by omega) (by omega) (by omega))
      clear hS hg hz HS7 HG7 HR7 HO7 HE7 HRB
      obtain ⟨st, hst⟩ : ∃ st, 1 + z = st := ⟨_, rfl⟩
      rw [hst] at HPP q5
      obtain ⟨dB, hdB⟩ : ∃ dB, wr.heap.size = dB := ⟨_, rfl⟩
      rw [hdB] at HE8 hrw ⊢
      have hal := boxed w8 (.cells #[.slice av zs.length cv, .slice (some ⟨dB, 0, none⟩) 0 0, .int .i64 st] 26)
      have HQ9 := Lib.hid (rowV_box w8 26 [.slice av zs.length cv, .slice (some ⟨dB, 0, none⟩) 0 0, .int .i64 st])
      have HO9 := Lib.hid (HO8.out.below hal); have HS9 := Lib.hid (src_later8 HS8.out hal); have HG9 := Lib.hid (gb_below8 HG8.out hal); have HR9 := Lib.hid (HR8.out.below hal); have HE9 := Lib.hid (HE8.out.below hal)
      have hgp0 := HG8.out.size
      have hrp0 := HR8.out.lt
      clear hal HS8 HG8 HR8 HO8 HE8 hdB
      go_wp2_with fail
      try rw [hst]
      generalize hw9 : w8.alloc (.cells #[.slice av zs.length cv, .slice (some ⟨dB, 0, none⟩) 0 0, .int .i64 st] 26) = w9 at HQ9 HO9 HS9 HG9 HR9 HE9 ⊢
      obtain ⟨gp, hgp⟩ : ∃ gp, w8.heap.size = gp := ⟨_, rfl⟩
      rw [hgp] at HQ9 hgp0 hrp0 ⊢
      have hs9 : w9.heap.size = gp + 1 := by rw [← hw9]; simp [hgp]
      clear hw9 hgp
      have HGG := Lib.hid (show GoodG B b w.heap.size gp w.heap.size (.slice av zs.length cv) (.slice (some ⟨dB, 0, none⟩) 0 0) zs st w w9 from ⟨HS9.out, HG9.out, HQ9.out, HR9.out, HO9.out, HE9.out⟩)
      have hap : ∀ x : Int, 0 ≤ x → x ≤ zs.length → GoodQ (drawP ⟨zs, [], st⟩ x) := fun x h0 h1 => ⟨(fresh_take HPP.out h0 h1).2, by show zs.length ≤ 10; omega⟩
      have HAP := Lib.hid hap
      have HTC := Lib.hid (show ∀ x : Int, 0 ≤ x → x ≤ zs.length → takeC ⟨zs, [], st⟩ x = 0 from fun x h0 h1 => fresh_code HPP.out h0 h1)
      have hBb : B ≤ b := HS9.out.base
      clear hap
      refine (wpIn_wide (n := 6)).1 ?_
      refine wpIn_region_facts3 (sz := 55) (fun _ => trivial) [0, 2, 3, 6] (by kernel_rfl) (by kernel_rfl) (by kernel_rfl) (by kernel_rfl) (fun _ => none) (fun i j => i != j) (by kernel_rfl) (by kernel_rfl) depsG (by kernel_rfl) 14 (fun _ => false) (by kernel_rfl)
        (GoodG B b w.heap.size gp w.heap.size (.slice av zs.length cv) (.slice (some ⟨dB, 0, none⟩) 0 0) zs st w) (GoodG B b w.heap.size gp w.heap.size (.slice av zs.length cv) (.slice (some ⟨dB, 0, none⟩) 0 0) zs st w) (TurnG b (gp + 1)) (FactG b w.heap.size (gp + 1) GoodQ (.agg #[.slice av zs.length cv, .slice (some ⟨dB, 0, none⟩) 0 0, .int .i64 st]) (.slice av zs.length cv) zs.length) rfl (HGG.out.later (Below.refl _ _).drew) (fun j v ev ev' W h hf => factG_stab j v ev ev' W h hf)
        (fun i j v ev W W' _ _ hk hf hR => factG_mono hlt (by omega) i j v ev W W' (by simpa using hk) hf hR) ?_ ?_
      · clear HGG HQ9 HO9 HS9 HG9 HR9 HE9 HPP
        intro i o ho
        match i, ho with
        | 0, ho =>
          cases ho
          intro ev W hc hfn hb hG hd
          have h6 : ev (.tmp 6) = .pointer (some ⟨gp, 0, none⟩) := hb 6 (by simp)
          have x0 := hG.rp.cell (show _[0]? = some _ from rfl); have x1 := hG.rp.cell (show _[1]? = some _ from rfl); have x2 := hG.rp.cell (show _[2]? = some _ from rfl)
          refine stepIn_gen fun K' hK => ?_
          simp [go_sem, stepIn, hc, hfn, h6, x0, x1, x2]
          exact hK _ _ ⟨hG, Below.refl _ _, (fun h => by cases h), rfl⟩
        | 1, ho =>
          cases ho
          intro ev W hc hfn hb hG hd
          have h6 : ev (.tmp 0) = .pointer (some ⟨b, 0, none⟩) := hb 0 (by simp)
          refine stepIn_gen fun K' hK => ?_
          simp [go_sem, stepIn, hc, hfn, h6]
          exact hK _ _ ⟨hG, Below.refl _ _, (fun h => by cases h), rfl⟩
        | 2, ho =>
          cases ho
          intro ev W hc hfn hb hG hd
          have h6 : ev (.tmp 3) = .slice av zs.length cv := hb 3 (by simp)
          refine stepIn_gen fun K' hK => ?_
          simp [go_sem, stepIn, hc, hfn, h6]
          exact hK _ _ ⟨hG, Below.refl _ _, (fun h => by cases h), rfl⟩
        | 3, ho =>
          cases ho
          intro ev W hc hfn hb hG hd
          have h6 : ev (.tmp 38) = .slice av zs.length cv := hd { on := 2, ground := .data } (by simp) rfl (.inl rfl) _ rfl
          refine stepIn_gen fun K' hK => ?_
          simp [go_sem, stepIn, hc, hfn, h6]
          exact hK _ _ ⟨hG, Below.refl _ _, (fun h => by cases h), rfl⟩
        | 4, ho =>
          cases ho
          intro ev W hc hfn hb hG hd
          have h6 : ev (.tmp 39) = .int .i64 (zs.length : Int) := hd { on := 3, ground := .data } (by simp) rfl (.inl rfl) _ rfl
          have q : IntKind.i64.wrap ((zs.length : Int) + 1) = (zs.length : Int) + 1 := IntWalk.i64_in _ (by omega)
          refine stepIn_gen fun K' hK => ?_
          simp [go_sem, stepIn, hc, hfn, h6, q]
          exact hK _ _ ⟨hG, Below.refl _ _, (fun h => by cases h), rfl⟩
        | 5, ho =>
          cases ho
          intro ev W hc hfn hb hG hd
          have h1 : ev (.tmp 37) = .pointer (some ⟨b, 0, none⟩) := hd { on := 1, ground := .data } (by simp) rfl (.inl rfl) _ rfl
          have h4 : ev (.tmp 40) = .int .i64 ((zs.length : Int) + 1) := hd { on := 4, ground := .data } (by simp) rfl (.inl rfl) _ rfl
          refine stepIn_gen fun K' hK => ?_
          simp [go_sem, stepIn, hc, hfn, h1, h4]
          refine callsIn_wide.2 ((specNext_any B b _ W (by omega) hG.src).mono ?_)
          rintro e w2 ⟨x, rfl, hx, hx0, hS, hg⟩
          refine ⟨_, rfl, hK _ _ ⟨hG.next hS hg hlt (by omega) (Nat.le_refl _), hg, (fun h => by cases h), x, rfl, ?_⟩⟩
          by_cases h0 : 1 < (zs.length : Int) + 1
          · have := hx h0; omega
          · have := hx0 (by omega); omega
        | 6, ho =>
          cases ho
          intro ev W hc hfn hb hG hd
          have h1 : ev (.tmp 36) = .agg #[.slice av zs.length cv, .slice (some ⟨dB, 0, none⟩) 0 0, .int .i64 st] := hd { on := 0, ground := .data } (by simp) rfl (.inl rfl) _ rfl
          obtain ⟨x, h4, hx0, hx1⟩ : ∃ x : Int, ev (.tmp 41) = .int .i64 x ∧ 0 ≤ x ∧ x ≤ zs.length := hd { on := 5, ground := .data } (by simp) rfl (.inl rfl) _ rfl
          refine stepIn_gen fun K' hK => ?_
          simp [go_sem, stepIn, hc, hfn, h1, h4]
          have hin : PoolV.In W av zs.length (some ⟨dB, 0, none⟩) 0 ⟨zs, [], st⟩ := by
            obtain ⟨a0, k0, e0, t0⟩ := hG.n0.slice
            obtain ⟨a1, k1, e1, t1⟩ := hG.d0.slice
            cases e0; cases e1
            exact ⟨⟨rfl, by unfold maxLen; omega, t0⟩, ⟨rfl, by unfold maxLen; omega, t1⟩⟩
          refine callsIn_wide.2 ((specTake8_any av zs.length cv (some ⟨dB, 0, none⟩) 0 0 ⟨zs, [], st⟩ x W hin (Nat.le_refl _) hG.n0.nilcap (fun h => by cases h)).mono ?_)
          have hq := HAP.out x hx0 hx1
          have hft : takeR ⟨zs, [], st⟩ x = (drawP ⟨zs, [], st⟩ x, outN zs [] st x.toNat, 0) := by
            have : takeC ⟨zs, [], st⟩ x = 0 := HTC.out x hx0 hx1
            unfold takeR; rw [if_pos this]
          rw [hft]
          rintro e w2 ⟨v0, v1, v2, rfl, h0, h1', h2, _, _, _, hB⟩
          have hs : w.heap.size ≤ W.heap.size := hG.grown.size
          exact ⟨_, rfl, hK _ _ ⟨hG.later hB, hB, (fun h => by cases h), v0, v1, v2, _, rfl, h0.base hs, h1'.base hs, hq⟩⟩
        | 7, ho =>
          cases ho
          intro ev W hc hfn hb hG hd
          have h1 : TookV w.heap.size GoodQ (ev (.tmp 42)) W := hd { on := 6, ground := .data } (by simp) rfl (.inl rfl) _ rfl
          have h2 := h1
          obtain ⟨v0, v1, v2, q, e, _⟩ := h2
          refine stepIn_gen fun K' hK => ?_
          simp [go_sem, stepIn, hc, hfn, e]
          exact hK _ _ ⟨hG, Below.refl _ _, (fun h => by cases h), by rw [e] at h1; exact h1⟩
        | 8, ho =>
          cases ho
          intro ev W hc hfn hb hG hd
          obtain ⟨v0, v1, v2, q, e, h1⟩ : TookV w.heap.size GoodQ (ev (.tmp 35)) W := hd { on := 7, ground := .data } (by simp) rfl (.inl rfl) _ rfl
          refine stepIn_gen fun K' hK => ?_
          simp [go_sem, stepIn, hc, hfn, e]
          exact hK _ _ ⟨hG, Below.refl _ _, (fun h => by cases h), v0, v1, q, rfl, h1⟩
        | 9, ho =>
          cases ho
          intro ev W hc hfn hb hG hd
          obtain ⟨v0, v1, v2, q, e, h1⟩ : TookV w.heap.size GoodQ (ev (.tmp 35)) W := hd { on := 7, ground := .data } (by simp) rfl (.inl rfl) _ rfl
          refine stepIn_gen fun K' hK => ?_
          simp [go_sem, stepIn, hc, hfn, e]
          exact hK _ _ ⟨hG, Below.refl _ _, (fun h => by cases h), trivial⟩
        | 10, ho =>
          cases ho
          intro ev W hc hfn hb hG hd
          obtain ⟨v0, v1, v2, q, e, h1⟩ : TookV w.heap.size GoodQ (ev (.tmp 35)) W := hd { on := 7, ground := .data } (by simp) rfl (.inl rfl) _ rfl
          refine stepIn_gen fun K' hK => ?_
          simp [go_sem, stepIn, hc, hfn, e]
          exact hK _ _ ⟨hG, Below.refl _ _, (fun h => by cases h), rfl⟩
        | 11, ho =>
          cases ho
          intro ev W hc hfn hb hG hd
          have hG1 : gp < W.heap.size := hG.rp.lt
          refine stepIn_gen fun K' hK => ?_
          simp [go_sem, stepIn, hc, hfn]
          exact hK _ _ ⟨hG.later (boxed _ _), boxed _ _, (fun h => by cases h), W.heap.size, _, rfl, hG1, rowV_box W 26 [.slice none 0 0, .slice none 0 0, .int .i64 0], rfl⟩
        | 12, ho =>
          cases ho
          intro ev W hc hfn hb hG hd
          obtain ⟨g, vs, h5, hgB, hr, hl⟩ : SomeRow (gp + 1) 26 3 (ev (.tmp 7)) W := hd { on := 11, ground := .data } (by simp) rfl (.inl rfl) _ rfl
          obtain ⟨v0, v1, q, h11, h0, h1, hq⟩ : TookP w.heap.size GoodQ (ev (.tmp 43)) W := hd { on := 8, ground := .data } (by simp) rfl (.inl rfl) _ rfl
          match vs, hl with
          | [u0, u1, u2], _ =>
            have c0 := hr.cell (show _[0]? = some _ from rfl); have c1 := hr.cell (show _[1]? = some _ from rfl); have c2 := hr.cell (show _[2]? = some _ from rfl)
            have g0 := hr.frozen 0; have g1 := hr.frozen 1; have g2 := hr.frozen 2
            obtain ⟨b0, e0, rfl, _⟩ := h0.slice
            obtain ⟨b1, e1, rfl, _⟩ := h1.slice
            have hr3 := ((hr.put 0 (.slice b0 q.nums.length e0)).put 1 (.slice b1 q.drawn.length e1)).put 2 (.int .i64 q.state)
            refine stepIn_gen fun K' hK => ?_
            simp [go_sem, stepIn, hc, hfn, h5, h11, c0, c1, c2, g0, g1, g2]
            have hg := grown_on (grown_on (grown_cell W g 0 (.slice b0 q.nums.length e0)) (grown_cell _ g 1 (.slice b1 q.drawn.length e1))) (grown_cell _ g 2 (.int .i64 q.state))
            exact hK _ _ ⟨hG.stored hr hg (by omega) (by omega) (by omega) (by omega), ⟨g, _, _, hgB, hr, rfl, hr3, rfl, hg⟩, (fun _ => rfl), g, _, _, q, h5, hgB, hr3,
              h0.kept hg (fun k hk e => build_ne h0 hr (by decide) (by rw [hk, e])), h1.kept hg (fun k hk e => build_ne h1 hr (by decide) (by rw [hk, e])), hq⟩
        | 13, ho =>
          cases ho
          intro ev W hc hfn hb hG hd
          refine stepIn_gen fun K' hK => ?_
          simp [go_sem, stepIn, hc, hfn]
          exact hK _ _ ⟨hG, Below.refl _ _, (fun h => by cases h), trivial⟩
        | 14, ho =>
          cases ho
          intro ev W hc hfn hb hG hd
          have h1 : ev (.tmp 45) = .int .i64 0 := hd { on := 10, ground := .data } (by simp) rfl (.inl rfl) _ rfl
          refine stepIn_gen fun K' hK => ?_
          simp [go_sem, stepIn, hc, hfn, h1]
          exact hK _ _ ⟨hG, Below.refl _ _, (fun h => by cases h), rfl⟩
        | n + 15, ho => simp at ho
      · intro a W hb hs hdf hG hf
        obtain ⟨g7, v0, v1, q, h7, hB7, hr7, h0, h1, hq⟩ : ∃ g v0 v1 q, a.eval (.tmp 7) = .pointer (some ⟨g, 0, none⟩) ∧ gp + 1 ≤ g ∧ RowV g W 26 [v0, v1, .int .i64 q.state] ∧ BuildI w.heap.size W v0 q.nums ∧ BuildI w.heap.size W v1 q.drawn ∧ GoodQ q := by
          have h12 := hf 12 _ rfl rfl
          simp only [FactG] at h12
          exact h12
        have h9 : a.eval (.tmp 9) = .int .i64 0 := hf 14 _ rfl rfl
        have e0 := hb 0 (by simp); have e2 := hb 2 (by simp); have e6 := hb 6 (by simp)
        have HAP0 := Lib.hid (HAP.out 0 (Int.le_refl _) (Int.natCast_nonneg _))
        have HG1 := Lib.hid hG; have HR71 := Lib.hid hr7; have H01 := Lib.hid h0; have H11 := Lib.hid h1; have HQ1 := Lib.hid hq
        have HZP := Lib.hid (show GoodQ ⟨zs, [], st⟩ from ⟨HPP.out, by show zs.length ≤ 10; omega⟩)
        clear HAP hG hr7 h0 h1 hq hf hb HTC HAP0 HPP HGG HQ9 HO9 HS9 HG9 HR9 HE9 hs9
        obtain ⟨⟨ls⟩, dfs⟩ := a
        simp only at hdf
        subst hdf
        have hs : ls.length = 55 := by simpa using hs
        match ls, hs with
        | x0 :: x1 :: x2 :: x3 :: x4 :: x5 :: x6 :: x7 :: x8 :: x9 :: x10 :: x11 :: x12 :: x13 :: x14 :: x15 :: x16 :: x17 :: x18 :: x19 :: x20 :: x21 :: x22 :: x23 :: x24 :: x25 :: x26 :: x27 :: x28 :: x29 :: x30 :: x31 :: x32 :: x33 :: x34 :: x35 :: x36 :: x37 :: x38 :: x39 :: x40 :: x41 :: x42 :: x43 :: x44 :: x45 :: x46 :: x47 :: x48 :: x49 :: x50 :: x51 :: x52 :: x53 :: x54 :: [], _ =>
          have k0 : x0 = .pointer (some ⟨b, 0, none⟩) := e0
          have k2 : x2 = .pointer (some ⟨w.heap.size, 0, none⟩) := e2
          have k6 : x6 = .pointer (some ⟨gp, 0, none⟩) := e6
          have k7 : x7 = .pointer (some ⟨g7, 0, none⟩) := h7
          have k9 : x9 = .int .i64 0 := h9
          subst k0 k2 k6 k7 k9
          clear e0 e2 e6 h7 h9
          go_wp2_with fail
          refine (specNext_any B b 3 W (by omega) HG1.out.src).mono ?_; rintro e W2 ⟨t, rfl, ht, _, hS, hg⟩
          obtain ⟨l4, u4⟩ := ht (by omega)
          have HG2 := Lib.hid (HG1.out.next hS hg hlt (by omega) (Nat.le_refl _))
          have HR72 := Lib.hid (row_src HR71.out hg (by omega)); have H02 := Lib.hid (build_src H01.out hg hlt); have H12 := Lib.hid (build_src H11.out hg hlt)
          clear hS hg ht HG1 HR71 H01 H11
          have r0 := HG2.out.rr.cell (show _[0]? = some _ from rfl); have r1 := HG2.out.rr.cell (show _[1]? = some _ from rfl); have r2 := HG2.out.rr.cell (show _[2]? = some _ from rfl)
          have f0 := HG2.out.rr.frozen 0; have f1 := HG2.out.rr.frozen 1; have f2 := HG2.out.rr.frozen 2
          by_cases ht0 : 0 < t
          · obtain ⟨b0, c0, rfl, _⟩ := H02.out.slice
            obtain ⟨b1, c1, rfl, _⟩ := H12.out.slice
            have y0 := HR72.out.cell (show _[0]? = some _ from rfl); have y1 := HR72.out.cell (show _[1]? = some _ from rfl); have y2 := HR72.out.cell (show _[2]? = some _ from rfl)
            have hgw := grown_on (grown_on (grown_cell W2 w.heap.size 0 (.slice b0 q.nums.length c0)) (grown_cell _ w.heap.size 1 (.slice b1 q.drawn.length c1))) (grown_cell _ w.heap.size 2 (.int .i64 q.state))
            have HF := Lib.hid (gaveQ_ret (Q := GoodQ) HG2.out.src HG2.out.grown H02.out H12.out HG2.out.rr hgw hlt HQ1.out)
            clear hgw
            go_wp2_with fail
            (try simp only [Exit.inBlock, Exit.then])
            refine bodyPost_ret (v := .agg #[.slice b0 q.nums.length c0, .slice b1 q.drawn.length c1, .int .i64 q.state]) ?_ rfl HF.out
            · rw [Rec.results_cell1 rfl]
              go_simp
          · have y0 := HG2.out.rp.cell (show _[0]? = some _ from rfl); have y1 := HG2.out.rp.cell (show _[1]? = some _ from rfl); have y2 := HG2.out.rp.cell (show _[2]? = some _ from rfl)
            have hgw := grown_on (grown_on (grown_cell W2 w.heap.size 0 (.slice av zs.length cv)) (grown_cell _ w.heap.size 1 (.slice (some ⟨dB, 0, none⟩) 0 0))) (grown_cell _ w.heap.size 2 (.int .i64 st))
            have HF := Lib.hid (gaveQ_ret (Q := GoodQ) (q := ⟨zs, [], st⟩) HG2.out.src HG2.out.grown HG2.out.n0 HG2.out.d0 HG2.out.rr hgw hlt HZP.out)
            clear hgw
            go_wp2_with fail
            (try simp only [Exit.inBlock, Exit.then])
            refine bodyPost_ret (v := .agg #[.slice av zs.length cv, .slice (some ⟨dB, 0, none⟩) 0 0, .int .i64 st]) ?_ rfl HF.out
            · rw [Rec.results_cell1 rfl]
              go_simp
end Go.Proofs.YtjnicmlomjppnaaGreatDoor
