/- Proved: for every code, laws.FnStates returns true and leaves its argument as it was: states follow one another, and a number below another one is below it, at what is drawn. No condition. -/
import Derived.Test.YtfblkggfdmnpmaaRows
import Derived.WalkKit
import Derived.ProofKit
import Derived.OpenShut
import Derived.ShutString
import Derived.ChangeOld
import Derived.Below
import Derived.SliceStrings
import Derived.Lib.Hide
import Derived.Test.YtfblkggfdmnpmaaBig
import Derived.Test.YtfblkggfdmnpmaaIs3
import Derived.Test.YtfblkggfdmnpmaaDrawS3
import Derived.Test.YtfblkggfdmnpmaaLikeInt
namespace Go.Proofs.Ytfblkggfdmnpmaa.fnStates
open Go.ChangeShapes Go.WideShapes Go.ChangeAt Go.RowKit
open Go.ChangeMaps (open_string shut_string)
open Pure2 Pure6 Pure30 Pure31
set_option linter.unusedVariables false

theorem own : ownKnob Try.prog.godebug = none := by kernel_rfl
theorem laidOut : laidOutB Try.prog = true := by kernel_rfl

/-- What the walk is told of a slice of integers that came in: it is nil, or it leads to a row of cap cells, the numbers zs. -/
def IsRow (k : IntKind) (w : World) (a : Option Addr) (len cap : Nat) (zs : List Int) : Prop :=
  (a = none ∧ len = 0 ∧ cap = 0 ∧ zs = []) ∨
  ∃ x, a = some x ∧ len ≤ cap ∧ cap ≤ maxLen ∧ zs.length = cap ∧ (∀ i, i < zs.length → w.cell? (x.add i) = some (.int k (zs.getD i 0))) ∧ ∀ n ∈ zs, (Lit.int k n).wf = true

set_option maxRecDepth 100000 in
set_option maxHeartbeats 4000000 in
theorem walk (w : World) (a0 : Option Addr) (len0 cap0 : Nat) (z0 : List Int) (w0 : IsRow .u8 w a0 len0 cap0 z0) :
    Calls Try.prog 4 #[.slice a0 len0 cap0] w fun e w' => e = .returned (.bool true) ∧ Below w.heap.size w w' := by
  obtain ⟨hl, hY⟩ := bytes_of_row w0
  generalize z0.take len0 = bs at hl hY
  have HL := Lib.hid hl; have HY := Lib.hid hY; clear hl hY w0
  have HBig := Lib.hid (lawsBig_any a0 len0 cap0 w)
  by_cases hb : 4096 < len0
  · rw [decide_eq_true hb] at HBig
    go_enter Try.func4, Try.ntmps4
    go_wp2_with fail
    refine HBig.out.mono ?_; rintro e w' ⟨rfl, rfl⟩
    go_wp2_with fail
    go_ret
    exact ⟨rfl, Below.refl _ _⟩
  · rw [decide_eq_false hb] at HBig
    have hm : len0 ≤ 4096 := by omega
    clear hb
    go_enter Try.func4, Try.ntmps4
    go_wp2_with fail
    refine HBig.out.mono ?_; rintro e w' ⟨rfl, rfl⟩
    go_wp2_with fail
    refine (specDrawNumberBelow_any a0 len0 cap0 bs w HL.out hm HY.out).mono ?_; rintro e w11 ⟨s, n, rfl, hB⟩
    have HB1 := Lib.hid (hB)
    clear hB
    obtain ⟨⟨k, y, q⟩, hp⟩ : ∃ u, numR s n = u := ⟨_, rfl⟩
    have HF := Lib.hid (num_facts hp); have HP := Lib.hid hp; clear hp
    go_wp2_with fail
    refine (implNumberBelow_is s n k y q w11 HP.out).mono ?_; rintro e w' ⟨rfl, rfl⟩
    go_wp2_with fail
    refine (specNumberBelow_is s n k y q w11 HP.out).mono ?_; rintro e w' ⟨rfl, rfl⟩
    go_wp2_with fail
    refine (specDrawStatesAfter_any a0 len0 cap0 bs w11 HL.out hm (HY.out.later HB1.out)).mono ?_; rintro e w12 ⟨x, c, rfl, _, _, hB⟩
    have HB2 := Lib.hid (HB1.out.trans (hB.mono HB1.out.size))
    clear hB
    obtain ⟨⟨zs, r⟩, hp⟩ : ∃ u, statesR x c = u := ⟨_, rfl⟩
    have HF2 := Lib.hid (states_facts hp); have HP2 := Lib.hid hp; clear hp
    have hzl := HF2.out.1
    have hzm : zs.length ≤ maxLen := by unfold maxLen; omega
    go_wp2_with fail
    refine (implStatesAfter_is x c zs r w12 HP2.out).mono ?_; rintro e w13 ⟨aL, cL, rfl, hO, hB⟩
    have HB3 := Lib.hid (HB2.out.trans (hB.mono HB2.out.size))
    have HL3 := Lib.hid (ownI_reads hO); clear hB hO
    go_wp2_with fail
    refine (specStatesAfter_is x c zs r w13 HP2.out).mono ?_; rintro e w14 ⟨aM, cM, rfl, hO, hB⟩
    have HB4 := Lib.hid (HB3.out.trans (hB.mono HB3.out.size))
    have HL4 := Lib.hid (HL3.out.below hB)
    have HM4 := Lib.hid (ownI_reads hO); clear hB hO
    go_wp2_with fail
    refine (specDrawNextState_any a0 len0 cap0 bs w14 HL.out hm (HY.out.later HB4.out)).mono ?_; rintro e w15 ⟨v, rfl, hB⟩
    have HB5 := Lib.hid (HB4.out.trans (hB.mono HB4.out.size))
    have HL5 := Lib.hid (HL4.out.below hB)
    have HM5 := Lib.hid (HM4.out.below hB)
    clear hB
    obtain ⟨⟨z, t⟩, hp⟩ : ∃ u, nextR v = u := ⟨_, rfl⟩
    have HP3 := Lib.hid hp; clear hp
    go_wp2_with fail
    refine (implNextState_is v z t w15 HP3.out).mono ?_; rintro e w' ⟨rfl, rfl⟩
    go_wp2_with fail
    refine (specNextState_is v z t w15 HP3.out).mono ?_; rintro e w' ⟨rfl, rfl⟩
    go_wp2_with fail
    refine (likeInts_any aL aM zs.length cL zs.length cM zs zs w15 rfl rfl hzm hzm HL5.out HM5.out).mono ?_
    rintro e w' ⟨rfl, m6, rfl⟩
    rw [sameL_self]
    have hB := Go.below_drewN (Below.refl w15.heap.size w15) m6
    obtain ⟨w16, hw⟩ : ∃ u, u = w15.drewN m6 := ⟨_, rfl⟩
    rw [← hw] at hB ⊢; clear hw
    have HB6 := Lib.hid (HB5.out.trans (hB.mono HB5.out.size))
    have HL6 := Lib.hid (HL5.out.below hB)
    have HM6 := Lib.hid (HM5.out.below hB)
    clear hB
    rcases HF2.out.2 with hr | ⟨hr, hnext⟩
    · have hr0 : (r == 0) = false := beq_eq_false_iff_ne.2 hr
      have hr1 : (r != 0) = true := bne_iff_ne.2 hr
      clear hr
      go_wp2_with fail
      go_loop [22] (fun i => i = .int .i64 1) (fun _ => 0)
      case atStart => exact rfl
      case round =>
        obtain rfl := hrel
        rcases HF.out with hq | ⟨hq, hnx, hk0, hk1⟩
        · have hq0 : (q == 0) = false := beq_eq_false_iff_ne.2 hq
          have hq1 : (q != 0) = true := bne_iff_ne.2 hq
          clear hq
          go_wp2_with fail
          go_ret
          exact ⟨rfl, HB6.out⟩
        · subst hq
          have HN := Lib.hid hnx; clear hnx
          go_wp2_with fail
          refine (implNextState_is s y 0 w16 HN.out).mono ?_; rintro e w' ⟨rfl, rfl⟩
          go_wp2_with fail
          go_ret
          exact ⟨rfl, HB6.out⟩
    · subst hr
      have HX := Lib.hid hnext; clear hnext
      go_wp2_with fail
      go_loop [22] (fun i => ∃ j : Nat, i = .int .i64 ((j : Int) + 1) ∧ (j + 1 ≤ zs.length ∨ j = 0)) (fun i => zs.length - (intOf i).toNat)
      case atStart => exact ⟨0, by simp, .inr rfl⟩
      case round =>
        obtain ⟨j, rfl, hj⟩ := hrel
        by_cases hlt : j + 1 < zs.length
        · obtain ⟨b1, off, p1, ha, hc1, _, hz1⟩ := HL6.out.at (len := zs.length) rfl (show j < zs.length by omega)
          obtain ⟨b2, off2, p2, ha2, hc2, _, hz2⟩ := HL6.out.at (len := zs.length) rfl hlt
          subst ha
          obtain ⟨rfl, rfl⟩ : b1 = b2 ∧ off = off2 := by have := Option.some.inj ha2; simp only [Addr.mk.injEq] at this; exact ⟨this.1, this.2.1⟩
          have HN := Lib.hid (HX.out j p1 p2 hz1 hz2)
          clear hz1 hz2 ha2
          go_wp2_with fail
          refine (implNextState_is p1 p2 0 w16 HN.out).mono ?_; rintro e w' ⟨rfl, rfl⟩
          go_wp2_with fail
          go_round
          case rel => exact ⟨j + 1, by go_num, .inl (by omega)⟩
          case measure => simp [intOf]; omega
        · skip
          rcases HF.out with hq | ⟨hq, hnx, hk0, hk1⟩
          · have hq0 : (q == 0) = false := beq_eq_false_iff_ne.2 hq
            have hq1 : (q != 0) = true := bne_iff_ne.2 hq
            clear hq
            go_wp2_with fail
            go_ret
            exact ⟨rfl, HB6.out⟩
          · subst hq
            have HN := Lib.hid hnx; clear hnx
            go_wp2_with fail
            refine (implNextState_is s y 0 w16 HN.out).mono ?_; rintro e w' ⟨rfl, rfl⟩
            go_wp2_with fail
            go_ret
            exact ⟨rfl, HB6.out⟩

set_option maxRecDepth 100000 in
theorem lifted (os : Os) (started : os.Started) (H : Type) (enc : TypeId × Value → H) :
    ReturnsInHanded {} Try.checked os 4 .any (Rows.fnStatesSpec.pre6 enc Try.prog Try.f4 Rows.fnStatesRow.domain false) (Rows.fnStatesSpec.post enc Try.prog Try.f4 false true false false) := by
  refine returnsInHanded_of_change (C := Try.checked) own started (by kernel_rfl) Try.func4
    (ChangeSpec.witness6 (enc := enc) (C := Try.checked) false ⟨#[], #[.slice none 0 0], []⟩ 8 (by kernel_rfl) (by kernel_rfl) (by kernel_rfl) (by kernel_rfl)) ?_
  intro W base args ds gs before hval0 hW hcnd _
  have hval : ∀ (j : Nat) t v, Try.f4.params[j]? = some t → args[j]? = some v → Value.okWide Try.prog W .any base t v := hval0
  have hW' := hW
  obtain ⟨p, q, hA0, hV, rfl, hfz, hnd⟩ := hW
  have hA : DataW.TrodAll enc Try.prog W 0 (fun _ => true) true Try.f4.params.toList args.toList ds p := hA0
  rw [Try.params4] at hA hval
  obtain ⟨v0, vs0, d0, ds0, p0, q0, hargs, rfl, rfl, h0, r0⟩ := trodAll_cons hA
  obtain ⟨rfl, rfl, rfl⟩ := trodAll_nil r0
  obtain rfl : args = #[v0] := by cases args; simp_all
  obtain ⟨rfl, rfl⟩ := trodVars_none hV
  obtain ⟨a0, len0, cap0, rfl⟩ := okWide_slice Try.underlying22 (hval 0 22 v0 rfl rfl)
  have k0 := h0
  have lt0 : ∀ x ∈ p0, x.block < W.heap.size := by obtain ⟨m, hm⟩ := k0; exact DataW.trod_lt m _ _ _ hm
  obtain ⟨z0, w0⟩ : ∃ zs, IsRow .u8 W a0 len0 cap0 zs := by
    obtain ⟨fuel, hf⟩ := h0
    rcases open_ints Try.underlying22 Try.underlying5 (by kernel_rfl) hf with ⟨hcs, _⟩ | ⟨x, l, c, zs, hcs, _, hl, hm, hz, _, hcell, hwz⟩
    · simp [Value.cells] at hcs
      obtain ⟨rfl, rfl, rfl⟩ := hcs
      exact ⟨[], .inl ⟨rfl, rfl, rfl, rfl⟩⟩
    · simp [Value.cells] at hcs
      obtain ⟨rfl, rfl, rfl⟩ := hcs
      exact ⟨zs, .inr ⟨_, rfl, hl, hm, by simpa using hz, hcell, hwz⟩⟩
  clear hA0 hval0
  refine (walk W a0 len0 cap0 z0 w0).mono fun e W' ⟨he, bel⟩ => ?_
  subst he
  exact ⟨_, rfl, _, _, _, [], _, [], hW', trodAll_mk1 (shut_bool Try.underlying4 _), (trodAll_cons_mk (Below.trod laidOut (by kernel_rfl) (of_decide_eq_true (by kernel_rfl)) k0 bel lt0) trodAll_mk0), rfl, bel.frame _, fun h => by cases h⟩

theorem over : Rows.fnStatesRow.holds Try.pinned (OpenSpec.ofChange Rows.fnStatesSpec) :=
  OpenClaim.holds_of_wide 4 Try.f4 rfl rfl rfl rfl rfl rfl rfl ⟨rfl, rfl, rfl, rfl, rfl⟩ rfl rfl rfl rfl rfl (by kernel_rfl) Try.func4 (by kernel_rfl)
    (of_decide_eq_true (by kernel_rfl)) (by unfold Func.isWrapper; first | (rw [if_pos (by decide +kernel)]; kernel_rfl) | (rw [if_neg (by decide +kernel)]; exact ⟨rfl, rfl⟩))
    (fun os started H enc _ => lifted os started H enc)

/-- The statement. -/
theorem proved : Rows.FnStatesSaid := over
end Go.Proofs.Ytfblkggfdmnpmaa.fnStates
