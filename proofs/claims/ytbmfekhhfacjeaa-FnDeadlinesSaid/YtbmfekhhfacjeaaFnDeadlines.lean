/- Proved: for every code, laws.FnDeadlines returns true and leaves its argument as it was: a deadline is a court day, and no court day lies before the next one, at what is drawn. No condition. -/
import Derived.Test.YtbmfekhhfacjeaaRows
import Derived.WalkKit
import Derived.ProofKit
import Derived.OpenShut
import Derived.ShutString
import Derived.ChangeOld
import Derived.Below
import Derived.SliceStrings
import Derived.Lib.Hide
import Derived.Test.YtbmfekhhfacjeaaBig
import Derived.Test.YtbmfekhhfacjeaaDrawHD
import Derived.Test.YtbmfekhhfacjeaaDay7
namespace Go.Proofs.Ytbmfekhhfacjeaa.fnDeadlines
open Go.ChangeShapes Go.WideShapes Go.ChangeAt Go.RowKit
open Go.ChangeMaps (open_string shut_string)
open Pure2 Pure6 Pure20 Pure21 Pure22
set_option linter.unusedVariables false

theorem own : ownKnob Try.prog.godebug = none := by kernel_rfl
theorem laidOut : laidOutB Try.prog = true := by kernel_rfl

/-- What the walk is told of a slice of integers that came in: it is nil, or it leads to a row of cap cells, the numbers zs. -/
def IsRow (k : IntKind) (w : World) (a : Option Addr) (len cap : Nat) (zs : List Int) : Prop :=
  (a = none ∧ len = 0 ∧ cap = 0 ∧ zs = []) ∨
  ∃ x, a = some x ∧ len ≤ cap ∧ cap ≤ maxLen ∧ zs.length = cap ∧ (∀ i, i < zs.length → w.cell? (x.add i) = some (.int k (zs.getD i 0))) ∧ ∀ n ∈ zs, (Lit.int k n).wf = true

set_option maxRecDepth 100000 in
set_option maxHeartbeats 4000000 in
theorem walk (w : World) (a0 : Option Addr) (len0 cap0 : Nat) (z0 : List Int) (w0 : IsRow .u8 w a0 len0 cap0 z0) :
    Calls Try.prog 4 #[.slice a0 len0 cap0] w fun e w' => e = .returned (.bool true) ∧ Below w.heap.size w w' := by
  obtain ⟨hl, hY⟩ := bytes_of_row w0
  generalize z0.take len0 = bs at hl hY
  have HL := Lib.hid hl; have HY := Lib.hid hY; clear hl hY w0
  have HBig := Lib.hid (lawsBig_any a0 len0 cap0 w)
  by_cases hb : 4096 < len0
  · rw [decide_eq_true hb] at HBig
    go_enter Try.func4, Try.ntmps4
    go_wp2_with fail
    refine HBig.out.mono ?_; rintro e w' ⟨rfl, rfl⟩
    go_wp2_with fail
    go_ret
    exact ⟨rfl, Below.refl _ _⟩
  · rw [decide_eq_false hb] at HBig
    have hm : len0 ≤ 4096 := by omega
    clear hb
    go_enter Try.func4, Try.ntmps4
    go_wp2_with fail
    refine HBig.out.mono ?_; rintro e w' ⟨rfl, rfl⟩
    go_wp2_with fail
    refine (specDrawDeadlineOf_any a0 len0 cap0 bs _ HL.out hm (HY.out)).mono ?_; rintro e w11 ⟨aH, cH, zH, d, k, rfl, hzH, hIH, _, _, _, hB1⟩
    have HB1 := Lib.hid (hB1)
    have HH1 := Lib.hid hIH; have hmH : zH.length ≤ maxLen := by unfold maxLen; omega
    clear hB1 hIH
    obtain ⟨⟨p, q⟩, hp⟩ : ∃ u, deadR zH d k = u := ⟨_, rfl⟩
    have HF := Lib.hid (dead_facts hp); have HP := Lib.hid hp; clear hp
    go_wp2_with fail
    refine (implDead_is aH zH.length cH zH d k p q _ HP.out rfl hmH HH1.out).mono ?_; rintro e w12 ⟨rfl, hB2⟩
    have HB2 := Lib.hid (HB1.out.trans (hB2.mono HB1.out.size))
    have HH2 := Lib.hid (HH1.out.below hB2)
    clear hB2
    go_wp2_with fail
    refine (specDead_is aH zH.length cH zH d k p q _ HP.out rfl hmH HH2.out).mono ?_; rintro e w13 ⟨rfl, hB3⟩
    have HB3 := Lib.hid (HB2.out.trans (hB3.mono HB2.out.size))
    have HH3 := Lib.hid (HH2.out.below hB3)
    clear hB3
    go_wp2_with fail
    refine (specDrawNextCourtDay_any a0 len0 cap0 bs _ HL.out hm (HY.out.later HB3.out)).mono ?_; rintro e w14 ⟨aG, cG, zG, x, rfl, hzG, hIG, _, _, _, hB4⟩
    have HB4 := Lib.hid (HB3.out.trans (hB4.mono HB3.out.size))
    have HH4 := Lib.hid (HH3.out.below hB4)
    have HG4 := Lib.hid hIG; have hmG : zG.length ≤ maxLen := by unfold maxLen; omega
    clear hB4 hIG
    obtain ⟨⟨n, q1⟩, hp1⟩ : ∃ u, nextR zG x = u := ⟨_, rfl⟩
    obtain ⟨⟨l, q2⟩, hp2⟩ : ∃ u, lastR zG x = u := ⟨_, rfl⟩
    have HN := Lib.hid (near_facts hp1 hp2); have HP1 := Lib.hid hp1; have HP2 := Lib.hid hp2; clear hp1 hp2
    go_wp2_with fail
    refine (implNext_is aG zG.length cG zG x n q1 _ HP1.out rfl hmG HG4.out).mono ?_; rintro e w15 ⟨rfl, hB5⟩
    have HB5 := Lib.hid (HB4.out.trans (hB5.mono HB4.out.size))
    have HH5 := Lib.hid (HH4.out.below hB5)
    have HG5 := Lib.hid (HG4.out.below hB5)
    clear hB5
    go_wp2_with fail
    refine (specNext_is aG zG.length cG zG x n q1 _ HP1.out rfl hmG HG5.out).mono ?_; rintro e w16 ⟨rfl, hB6⟩
    have HB6 := Lib.hid (HB5.out.trans (hB6.mono HB5.out.size))
    have HH6 := Lib.hid (HH5.out.below hB6)
    have HG6 := Lib.hid (HG5.out.below hB6)
    clear hB6
    go_wp2_with fail
    refine (implLast_is aG zG.length cG zG x l q2 _ HP2.out rfl hmG HG6.out).mono ?_; rintro e w17 ⟨rfl, hB7⟩
    have HB7 := Lib.hid (HB6.out.trans (hB7.mono HB6.out.size))
    have HH7 := Lib.hid (HH6.out.below hB7)
    have HG7 := Lib.hid (HG6.out.below hB7)
    clear hB7
    go_wp2_with fail
    refine (specLast_is aG zG.length cG zG x l q2 _ HP2.out rfl hmG HG7.out).mono ?_; rintro e w18 ⟨rfl, hB8⟩
    have HB8 := Lib.hid (HB7.out.trans (hB8.mono HB7.out.size))
    have HH8 := Lib.hid (HH7.out.below hB8)
    have HG8 := Lib.hid (HG7.out.below hB8)
    clear hB8
    rcases HN.out with hr | ⟨hr, hr2⟩ | ⟨hr, hr2, hc1, hxn, hc2⟩
    · have hr1 : (q1 == 0) = false := beq_eq_false_iff_ne.2 hr
      clear hr
      rcases HF.out with hq | ⟨hq, hc, hk1, hk2, hk3, hk4, hk5⟩
      · have hq1 : (q == 0) = false := beq_eq_false_iff_ne.2 hq
        have hq2 : (q != 0) = true := bne_iff_ne.2 hq
        clear hq
        go_wp2_with fail
        go_ret
        exact ⟨rfl, HB8.out⟩
      · subst hq
        have HC := Lib.hid hc; clear hc
        go_wp2_with fail
        refine (implCourt_at aH zH.length cH zH p true 0 _ HC.out rfl hmH HH8.out).mono ?_; rintro e w19 ⟨rfl, hB9⟩
        have HB9 := Lib.hid (HB8.out.trans (hB9.mono HB8.out.size))
        have HH9 := Lib.hid (HH8.out.below hB9)
        have HG9 := Lib.hid (HG8.out.below hB9)
        clear hB9
        go_wp2_with fail
        go_ret
        exact ⟨rfl, HB9.out⟩
    · subst hr
      have hr1 : (q2 == 0) = false := beq_eq_false_iff_ne.2 hr2
      clear hr2
      rcases HF.out with hq | ⟨hq, hc, hk1, hk2, hk3, hk4, hk5⟩
      · have hq1 : (q == 0) = false := beq_eq_false_iff_ne.2 hq
        have hq2 : (q != 0) = true := bne_iff_ne.2 hq
        clear hq
        go_wp2_with fail
        go_ret
        exact ⟨rfl, HB8.out⟩
      · subst hq
        have HC := Lib.hid hc; clear hc
        go_wp2_with fail
        refine (implCourt_at aH zH.length cH zH p true 0 _ HC.out rfl hmH HH8.out).mono ?_; rintro e w19 ⟨rfl, hB9⟩
        have HB9 := Lib.hid (HB8.out.trans (hB9.mono HB8.out.size))
        have HH9 := Lib.hid (HH8.out.below hB9)
        have HG9 := Lib.hid (HG8.out.below hB9)
        clear hB9
        go_wp2_with fail
        go_ret
        exact ⟨rfl, HB9.out⟩
    · subst hr hr2
      have HC1 := Lib.hid hc1; have HC2 := Lib.hid hc2; clear hc1 hc2
      go_wp2_with fail
      refine (implCount_at aG zG.length cG zG x n 0 0 _ HC1.out rfl hmG HG8.out).mono ?_; rintro e w19 ⟨rfl, hB9⟩
      have HB9 := Lib.hid (HB8.out.trans (hB9.mono HB8.out.size))
      have HH9 := Lib.hid (HH8.out.below hB9)
      have HG9 := Lib.hid (HG8.out.below hB9)
      clear hB9
      rcases HC2.out with ⟨hlx, hc⟩ | ⟨hlx, hc⟩
      · have HC := Lib.hid hc; clear hc
        go_wp2_with fail
        refine (implCount_at aG zG.length cG zG l x 1 0 _ HC.out rfl hmG HG9.out).mono ?_; rintro e w20 ⟨rfl, hB10⟩
        have HB10 := Lib.hid (HB9.out.trans (hB10.mono HB9.out.size))
        have HH10 := Lib.hid (HH9.out.below hB10)
        have HG10 := Lib.hid (HG9.out.below hB10)
        clear hB10
        rcases HF.out with hq | ⟨hq, hc, hk1, hk2, hk3, hk4, hk5⟩
        · have hq1 : (q == 0) = false := beq_eq_false_iff_ne.2 hq
          have hq2 : (q != 0) = true := bne_iff_ne.2 hq
          clear hq
          go_wp2_with fail
          go_ret
          exact ⟨rfl, HB10.out⟩
        · subst hq
          have HC := Lib.hid hc; clear hc
          go_wp2_with fail
          refine (implCourt_at aH zH.length cH zH p true 0 _ HC.out rfl hmH HH10.out).mono ?_; rintro e w21 ⟨rfl, hB11⟩
          have HB11 := Lib.hid (HB10.out.trans (hB11.mono HB10.out.size))
          have HH11 := Lib.hid (HH10.out.below hB11)
          have HG11 := Lib.hid (HG10.out.below hB11)
          clear hB11
          go_wp2_with fail
          go_ret
          exact ⟨rfl, HB11.out⟩
      · subst hlx
        have HC := Lib.hid hc; clear hc
        go_wp2_with fail
        refine (implCount_at aG zG.length cG zG l l 0 0 _ HC.out rfl hmG HG9.out).mono ?_; rintro e w20 ⟨rfl, hB10⟩
        have HB10 := Lib.hid (HB9.out.trans (hB10.mono HB9.out.size))
        have HH10 := Lib.hid (HH9.out.below hB10)
        have HG10 := Lib.hid (HG9.out.below hB10)
        clear hB10
        rcases HF.out with hq | ⟨hq, hc, hk1, hk2, hk3, hk4, hk5⟩
        · have hq1 : (q == 0) = false := beq_eq_false_iff_ne.2 hq
          have hq2 : (q != 0) = true := bne_iff_ne.2 hq
          clear hq
          go_wp2_with fail
          go_ret
          exact ⟨rfl, HB10.out⟩
        · subst hq
          have HC := Lib.hid hc; clear hc
          go_wp2_with fail
          refine (implCourt_at aH zH.length cH zH p true 0 _ HC.out rfl hmH HH10.out).mono ?_; rintro e w21 ⟨rfl, hB11⟩
          have HB11 := Lib.hid (HB10.out.trans (hB11.mono HB10.out.size))
          have HH11 := Lib.hid (HH10.out.below hB11)
          have HG11 := Lib.hid (HG10.out.below hB11)
          clear hB11
          go_wp2_with fail
          go_ret
          exact ⟨rfl, HB11.out⟩

set_option maxRecDepth 100000 in
theorem lifted (os : Os) (started : os.Started) (H : Type) (enc : TypeId × Value → H) :
    ReturnsInHanded {} Try.checked os 4 .any (Rows.fnDeadlinesSpec.pre6 enc Try.prog Try.f4 Rows.fnDeadlinesRow.domain false) (Rows.fnDeadlinesSpec.post enc Try.prog Try.f4 false true false false) := by
  refine returnsInHanded_of_change (C := Try.checked) own started (by kernel_rfl) Try.func4
    (ChangeSpec.witness6 (enc := enc) (C := Try.checked) false ⟨#[], #[.slice none 0 0], []⟩ 8 (by kernel_rfl) (by kernel_rfl) (by kernel_rfl) (by kernel_rfl)) ?_
  intro W base args ds gs before hval0 hW hcnd _
  have hval : ∀ (j : Nat) t v, Try.f4.params[j]? = some t → args[j]? = some v → Value.okWide Try.prog W .any base t v := hval0
  have hW' := hW
  obtain ⟨p, q, hA0, hV, rfl, hfz, hnd⟩ := hW
  have hA : DataW.TrodAll enc Try.prog W 0 (fun _ => true) true Try.f4.params.toList args.toList ds p := hA0
  rw [Try.params4] at hA hval
  obtain ⟨v0, vs0, d0, ds0, p0, q0, hargs, rfl, rfl, h0, r0⟩ := trodAll_cons hA
  obtain ⟨rfl, rfl, rfl⟩ := trodAll_nil r0
  obtain rfl : args = #[v0] := by cases args; simp_all
  obtain ⟨rfl, rfl⟩ := trodVars_none hV
  obtain ⟨a0, len0, cap0, rfl⟩ := okWide_slice Try.underlying22 (hval 0 22 v0 rfl rfl)
  have k0 := h0
  have lt0 : ∀ x ∈ p0, x.block < W.heap.size := by obtain ⟨m, hm⟩ := k0; exact DataW.trod_lt m _ _ _ hm
  obtain ⟨z0, w0⟩ : ∃ zs, IsRow .u8 W a0 len0 cap0 zs := by
    obtain ⟨fuel, hf⟩ := h0
    rcases open_ints Try.underlying22 Try.underlying5 (by kernel_rfl) hf with ⟨hcs, _⟩ | ⟨x, l, c, zs, hcs, _, hl, hm, hz, _, hcell, hwz⟩
    · simp [Value.cells] at hcs
      obtain ⟨rfl, rfl, rfl⟩ := hcs
      exact ⟨[], .inl ⟨rfl, rfl, rfl, rfl⟩⟩
    · simp [Value.cells] at hcs
      obtain ⟨rfl, rfl, rfl⟩ := hcs
      exact ⟨zs, .inr ⟨_, rfl, hl, hm, by simpa using hz, hcell, hwz⟩⟩
  clear hA0 hval0
  refine (walk W a0 len0 cap0 z0 w0).mono fun e W' ⟨he, bel⟩ => ?_
  subst he
  exact ⟨_, rfl, _, _, _, [], _, [], hW', trodAll_mk1 (shut_bool Try.underlying4 _), (trodAll_cons_mk (Below.trod laidOut (by kernel_rfl) (of_decide_eq_true (by kernel_rfl)) k0 bel lt0) trodAll_mk0), rfl, bel.frame _, fun h => by cases h⟩

theorem over : Rows.fnDeadlinesRow.holds Try.pinned (OpenSpec.ofChange Rows.fnDeadlinesSpec) :=
  OpenClaim.holds_of_wide 4 Try.f4 rfl rfl rfl rfl rfl rfl rfl ⟨rfl, rfl, rfl, rfl, rfl⟩ rfl rfl rfl rfl rfl (by kernel_rfl) Try.func4 (by kernel_rfl)
    (of_decide_eq_true (by kernel_rfl)) (by unfold Func.isWrapper; first | (rw [if_pos (by decide +kernel)]; kernel_rfl) | (rw [if_neg (by decide +kernel)]; exact ⟨rfl, rfl⟩))
    (fun os started H enc _ => lifted os started H enc)

/-- The statement. -/
theorem proved : Rows.FnDeadlinesSaid := over
end Go.Proofs.Ytbmfekhhfacjeaa.fnDeadlines
