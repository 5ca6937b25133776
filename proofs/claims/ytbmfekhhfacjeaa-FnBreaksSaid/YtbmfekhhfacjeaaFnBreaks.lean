/- Proved: for every code, laws.FnBreaks returns true and leaves its argument as it was: no court day lies in the longest break, and what stands at its ends, at what is drawn. No condition. -/
import Derived.Test.YtbmfekhhfacjeaaRows
import Derived.WalkKit
import Derived.ProofKit
import Derived.OpenShut
import Derived.ShutString
import Derived.ChangeOld
import Derived.Below
import Derived.SliceStrings
import Derived.Lib.Hide
import Derived.Test.YtbmfekhhfacjeaaBig
import Derived.Test.YtbmfekhhfacjeaaDrawHD
import Derived.Test.YtbmfekhhfacjeaaDay7
namespace Go.Proofs.Ytbmfekhhfacjeaa.fnBreaks
open Go.ChangeShapes Go.WideShapes Go.ChangeAt Go.RowKit
open Go.ChangeMaps (open_string shut_string)
open Pure2 Pure6 Pure20 Pure21 Pure22
set_option linter.unusedVariables false

theorem own : ownKnob Try.prog.godebug = none := by kernel_rfl
theorem laidOut : laidOutB Try.prog = true := by kernel_rfl

/-- What the walk is told of a slice of integers that came in: it is nil, or it leads to a row of cap cells, the numbers zs. -/
def IsRow (k : IntKind) (w : World) (a : Option Addr) (len cap : Nat) (zs : List Int) : Prop :=
  (a = none ∧ len = 0 ∧ cap = 0 ∧ zs = []) ∨
  ∃ x, a = some x ∧ len ≤ cap ∧ cap ≤ maxLen ∧ zs.length = cap ∧ (∀ i, i < zs.length → w.cell? (x.add i) = some (.int k (zs.getD i 0))) ∧ ∀ n ∈ zs, (Lit.int k n).wf = true

set_option maxRecDepth 100000 in
set_option maxHeartbeats 4000000 in
theorem walk (w : World) (a0 : Option Addr) (len0 cap0 : Nat) (z0 : List Int) (w0 : IsRow .u8 w a0 len0 cap0 z0) :
    Calls Try.prog 5 #[.slice a0 len0 cap0] w fun e w' => e = .returned (.bool true) ∧ Below w.heap.size w w' := by
  obtain ⟨hl, hY⟩ := bytes_of_row w0
  generalize z0.take len0 = bs at hl hY
  have HL := Lib.hid hl; have HY := Lib.hid hY; clear hl hY w0
  have HBig := Lib.hid (lawsBig_any a0 len0 cap0 w)
  by_cases hb : 4096 < len0
  · rw [decide_eq_true hb] at HBig
    go_enter Try.func5, Try.ntmps5
    go_wp2_with fail
    refine HBig.out.mono ?_; rintro e w' ⟨rfl, rfl⟩
    go_wp2_with fail
    go_ret
    exact ⟨rfl, Below.refl _ _⟩
  · rw [decide_eq_false hb] at HBig
    have hm : len0 ≤ 4096 := by omega
    clear hb
    go_enter Try.func5, Try.ntmps5
    go_wp2_with fail
    refine HBig.out.mono ?_; rintro e w' ⟨rfl, rfl⟩
    go_wp2_with fail
    refine (specDrawLongestBreak_any a0 len0 cap0 bs _ HL.out hm (HY.out)).mono ?_; rintro e w11 ⟨aH, cH, zH, d, k, rfl, hzH, hIH, _, _, _, hB1⟩
    have HB1 := Lib.hid (hB1)
    have HH1 := Lib.hid hIH; have hmH : zH.length ≤ maxLen := by unfold maxLen; omega
    clear hB1 hIH
    obtain ⟨⟨s, n, q⟩, hp⟩ : ∃ u, brkR zH d k = u := ⟨_, rfl⟩
    have HF := Lib.hid (brk_facts hp); have HP := Lib.hid hp; clear hp
    go_wp2_with fail
    refine (implBrk_is aH zH.length cH zH d k s n q _ HP.out rfl hmH HH1.out).mono ?_; rintro e w12 ⟨rfl, hB2⟩
    have HB2 := Lib.hid (HB1.out.trans (hB2.mono HB1.out.size))
    have HH2 := Lib.hid (HH1.out.below hB2)
    clear hB2
    go_wp2_with fail
    refine (specBrk_is aH zH.length cH zH d k s n q _ HP.out rfl hmH HH2.out).mono ?_; rintro e w13 ⟨rfl, hB3⟩
    have HB3 := Lib.hid (HB2.out.trans (hB3.mono HB2.out.size))
    have HH3 := Lib.hid (HH2.out.below hB3)
    clear hB3
    rcases HF.out with hq | ⟨hq, h1, h2, h3, h4, h5, h6, h7, h8⟩
    · have hq1 : (q == 0) = false := beq_eq_false_iff_ne.2 hq
      have hq2 : (q != 0) = true := bne_iff_ne.2 hq
      clear hq
      go_wp2_with fail
      go_ret
      exact ⟨rfl, HB3.out⟩
    · subst hq
      have H6 := Lib.hid h6; have H7 := Lib.hid h7; have H8 := Lib.hid h8; clear h6 h7 h8
      obtain ⟨⟨c, r⟩, hr⟩ : ∃ u, cntR zH s (s + n) = u := ⟨_, rfl⟩
      have HR := Lib.hid hr
      have HS := Lib.hid (fun h => hr.symm.trans (H6.out h)); clear hr
      go_wp2_with fail
      refine (implCount_at aH zH.length cH zH s (s + n) c r _ HR.out rfl hmH HH3.out).mono ?_; rintro e w14 ⟨rfl, hB4⟩
      have HB4 := Lib.hid (HB3.out.trans (hB4.mono HB3.out.size))
      have HH4 := Lib.hid (HH3.out.below hB4)
      clear hB4
      by_cases hbig : s + n ≤ 20000
      · obtain ⟨rfl, rfl⟩ := Prod.mk.inj (HS.out hbig)
        clear HS
        by_cases hds : d < s
        · skip
          go_wp2_with fail
          refine (implCourt_at aH zH.length cH zH (s - 1) true 0 _ (H7.out hds) rfl hmH HH4.out).mono ?_; rintro e w15 ⟨rfl, hB5⟩
          have HB5 := Lib.hid (HB4.out.trans (hB5.mono HB4.out.size))
          have HH5 := Lib.hid (HH4.out.below hB5)
          clear hB5
          by_cases hsk : s + n ≤ k
          · skip
            go_wp2_with fail
            refine (implCourt_at aH zH.length cH zH (s + n) true 0 _ (H8.out hsk) rfl hmH HH5.out).mono ?_; rintro e w16 ⟨rfl, hB6⟩
            have HB6 := Lib.hid (HB5.out.trans (hB6.mono HB5.out.size))
            have HH6 := Lib.hid (HH5.out.below hB6)
            clear hB6
            go_wp2_with fail
            go_ret
            exact ⟨rfl, HB6.out⟩
          · skip
            go_wp2_with fail
            go_ret
            exact ⟨rfl, HB5.out⟩
        · skip
          by_cases hsk : s + n ≤ k
          · skip
            go_wp2_with fail
            refine (implCourt_at aH zH.length cH zH (s + n) true 0 _ (H8.out hsk) rfl hmH HH4.out).mono ?_; rintro e w15 ⟨rfl, hB5⟩
            have HB5 := Lib.hid (HB4.out.trans (hB5.mono HB4.out.size))
            have HH5 := Lib.hid (HH4.out.below hB5)
            clear hB5
            go_wp2_with fail
            go_ret
            exact ⟨rfl, HB5.out⟩
          · skip
            go_wp2_with fail
            go_ret
            exact ⟨rfl, HB4.out⟩
      · clear HS
        by_cases hds : d < s
        · skip
          go_wp2_with fail
          refine (implCourt_at aH zH.length cH zH (s - 1) true 0 _ (H7.out hds) rfl hmH HH4.out).mono ?_; rintro e w15 ⟨rfl, hB5⟩
          have HB5 := Lib.hid (HB4.out.trans (hB5.mono HB4.out.size))
          have HH5 := Lib.hid (HH4.out.below hB5)
          clear hB5
          go_wp2_with fail
          go_ret
          exact ⟨rfl, HB5.out⟩
        · skip
          go_wp2_with fail
          go_ret
          exact ⟨rfl, HB4.out⟩

set_option maxRecDepth 100000 in
theorem lifted (os : Os) (started : os.Started) (H : Type) (enc : TypeId × Value → H) :
    ReturnsInHanded {} Try.checked os 5 .any (Rows.fnBreaksSpec.pre6 enc Try.prog Try.f5 Rows.fnBreaksRow.domain false) (Rows.fnBreaksSpec.post enc Try.prog Try.f5 false true false false) := by
  refine returnsInHanded_of_change (C := Try.checked) own started (by kernel_rfl) Try.func5
    (ChangeSpec.witness6 (enc := enc) (C := Try.checked) false ⟨#[], #[.slice none 0 0], []⟩ 8 (by kernel_rfl) (by kernel_rfl) (by kernel_rfl) (by kernel_rfl)) ?_
  intro W base args ds gs before hval0 hW hcnd _
  have hval : ∀ (j : Nat) t v, Try.f5.params[j]? = some t → args[j]? = some v → Value.okWide Try.prog W .any base t v := hval0
  have hW' := hW
  obtain ⟨p, q, hA0, hV, rfl, hfz, hnd⟩ := hW
  have hA : DataW.TrodAll enc Try.prog W 0 (fun _ => true) true Try.f5.params.toList args.toList ds p := hA0
  rw [Try.params5] at hA hval
  obtain ⟨v0, vs0, d0, ds0, p0, q0, hargs, rfl, rfl, h0, r0⟩ := trodAll_cons hA
  obtain ⟨rfl, rfl, rfl⟩ := trodAll_nil r0
  obtain rfl : args = #[v0] := by cases args; simp_all
  obtain ⟨rfl, rfl⟩ := trodVars_none hV
  obtain ⟨a0, len0, cap0, rfl⟩ := okWide_slice Try.underlying22 (hval 0 22 v0 rfl rfl)
  have k0 := h0
  have lt0 : ∀ x ∈ p0, x.block < W.heap.size := by obtain ⟨m, hm⟩ := k0; exact DataW.trod_lt m _ _ _ hm
  obtain ⟨z0, w0⟩ : ∃ zs, IsRow .u8 W a0 len0 cap0 zs := by
    obtain ⟨fuel, hf⟩ := h0
    rcases open_ints Try.underlying22 Try.underlying5 (by kernel_rfl) hf with ⟨hcs, _⟩ | ⟨x, l, c, zs, hcs, _, hl, hm, hz, _, hcell, hwz⟩
    · simp [Value.cells] at hcs
      obtain ⟨rfl, rfl, rfl⟩ := hcs
      exact ⟨[], .inl ⟨rfl, rfl, rfl, rfl⟩⟩
    · simp [Value.cells] at hcs
      obtain ⟨rfl, rfl, rfl⟩ := hcs
      exact ⟨zs, .inr ⟨_, rfl, hl, hm, by simpa using hz, hcell, hwz⟩⟩
  clear hA0 hval0
  refine (walk W a0 len0 cap0 z0 w0).mono fun e W' ⟨he, bel⟩ => ?_
  subst he
  exact ⟨_, rfl, _, _, _, [], _, [], hW', trodAll_mk1 (shut_bool Try.underlying4 _), (trodAll_cons_mk (Below.trod laidOut (by kernel_rfl) (of_decide_eq_true (by kernel_rfl)) k0 bel lt0) trodAll_mk0), rfl, bel.frame _, fun h => by cases h⟩

theorem over : Rows.fnBreaksRow.holds Try.pinned (OpenSpec.ofChange Rows.fnBreaksSpec) :=
  OpenClaim.holds_of_wide 5 Try.f5 rfl rfl rfl rfl rfl rfl rfl ⟨rfl, rfl, rfl, rfl, rfl⟩ rfl rfl rfl rfl rfl (by kernel_rfl) Try.func5 (by kernel_rfl)
    (of_decide_eq_true (by kernel_rfl)) (by unfold Func.isWrapper; first | (rw [if_pos (by decide +kernel)]; kernel_rfl) | (rw [if_neg (by decide +kernel)]; exact ⟨rfl, rfl⟩))
    (fun os started H enc _ => lifted os started H enc)

/-- The statement. -/
theorem proved : Rows.FnBreaksSaid := over
end Go.Proofs.Ytbmfekhhfacjeaa.fnBreaks
