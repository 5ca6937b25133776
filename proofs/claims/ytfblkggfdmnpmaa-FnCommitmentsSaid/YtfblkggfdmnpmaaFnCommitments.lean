/- Proved: for every code, laws.FnCommitments returns true and leaves its argument as it was: a draw is right for its own commitment, and for no other list, at what is drawn. No condition. -/
import Derived.Test.YtfblkggfdmnpmaaRows
import Derived.WalkKit
import Derived.ProofKit
import Derived.OpenShut
import Derived.ShutString
import Derived.ChangeOld
import Derived.Below
import Derived.SliceStrings
import Derived.Lib.Hide
import Derived.Test.YtfblkggfdmnpmaaBig
import Derived.Test.YtfblkggfdmnpmaaIs3
import Derived.Test.YtfblkggfdmnpmaaDrawS3
import Derived.Test.YtfblkggfdmnpmaaLikeInt
import Derived.Test.YtfblkggfdmnpmaaDrawR3
namespace Go.Proofs.Ytfblkggfdmnpmaa.fnCommitments
open Go.ChangeShapes Go.WideShapes Go.ChangeAt Go.RowKit
open Go.ChangeMaps (open_string shut_string)
open Pure2 Pure6 Pure30 Pure31
set_option linter.unusedVariables false

theorem own : ownKnob Try.prog.godebug = none := by kernel_rfl
theorem laidOut : laidOutB Try.prog = true := by kernel_rfl

/-- What the walk is told of a slice of integers that came in: it is nil, or it leads to a row of cap cells, the numbers zs. -/
def IsRow (k : IntKind) (w : World) (a : Option Addr) (len cap : Nat) (zs : List Int) : Prop :=
  (a = none ∧ len = 0 ∧ cap = 0 ∧ zs = []) ∨
  ∃ x, a = some x ∧ len ≤ cap ∧ cap ≤ maxLen ∧ zs.length = cap ∧ (∀ i, i < zs.length → w.cell? (x.add i) = some (.int k (zs.getD i 0))) ∧ ∀ n ∈ zs, (Lit.int k n).wf = true

set_option maxRecDepth 100000 in
set_option maxHeartbeats 4000000 in
theorem walk (w : World) (a0 : Option Addr) (len0 cap0 : Nat) (z0 : List Int) (w0 : IsRow .u8 w a0 len0 cap0 z0) :
    Calls Try.prog 5 #[.slice a0 len0 cap0] w fun e w' => e = .returned (.bool true) ∧ Below w.heap.size w w' := by
  obtain ⟨hl, hY⟩ := bytes_of_row w0
  generalize z0.take len0 = bs at hl hY
  have HL := Lib.hid hl; have HY := Lib.hid hY; clear hl hY w0
  have HBig := Lib.hid (lawsBig_any a0 len0 cap0 w)
  by_cases hb : 4096 < len0
  · rw [decide_eq_true hb] at HBig
    go_enter Try.func5, Try.ntmps5
    go_wp2_with fail
    refine HBig.out.mono ?_; rintro e w' ⟨rfl, rfl⟩
    go_wp2_with fail
    go_ret
    exact ⟨rfl, Below.refl _ _⟩
  · rw [decide_eq_false hb] at HBig
    have hm : len0 ≤ 4096 := by omega
    clear hb
    go_enter Try.func5, Try.ntmps5
    go_wp2_with fail
    refine HBig.out.mono ?_; rintro e w' ⟨rfl, rfl⟩
    go_wp2_with fail
    refine (specDrawIsRightDraw_any a0 len0 cap0 bs w HL.out hm HY.out).mono ?_; rintro e w11 ⟨c, s, t, n, aZ, cZ, zs, rfl, hzl, hI, hB⟩
    have HB1 := Lib.hid (hB)
    have HZ1 := Lib.hid hI; clear hB hI
    have hzm : zs.length ≤ maxLen := by unfold maxLen; omega
    obtain ⟨⟨r, q⟩, hp⟩ : ∃ u, rightR c s t n zs = u := ⟨_, rfl⟩
    have HF := Lib.hid (right_facts hp); have HP := Lib.hid hp; clear hp
    go_wp2_with fail
    refine (implIsRightDraw_is c s t n aZ zs.length cZ zs r q w11 rfl hzm HZ1.out HP.out).mono ?_; rintro e w12 ⟨rfl, hB⟩
    have HB2 := Lib.hid (HB1.out.trans (hB.mono HB1.out.size))
    have HZ2 := Lib.hid (HZ1.out.below hB)
    clear hB
    go_wp2_with fail
    refine (specIsRightDraw_is c s t n aZ zs.length cZ zs r q w12 rfl hzm HZ2.out HP.out).mono ?_; rintro e w13 ⟨rfl, hB⟩
    have HB3 := Lib.hid (HB2.out.trans (hB.mono HB2.out.size))
    have HZ3 := Lib.hid (HZ2.out.below hB)
    clear hB
    go_wp2_with fail
    refine (specDrawCommitmentOf_any a0 len0 cap0 bs w13 HL.out hm (HY.out.later HB3.out)).mono ?_; rintro e w14 ⟨x, y, rfl, hB⟩
    have HB4 := Lib.hid (HB3.out.trans (hB.mono HB3.out.size))
    have HZ4 := Lib.hid (HZ3.out.below hB)
    clear hB
    obtain ⟨⟨g, u⟩, hp⟩ : ∃ v, comR x y = v := ⟨_, rfl⟩
    have HP2 := Lib.hid hp; clear hp
    go_wp2_with fail
    refine (implCommitmentOf_is x y g u w14 HP2.out).mono ?_; rintro e w' ⟨rfl, rfl⟩
    go_wp2_with fail
    refine (specCommitmentOf_is x y g u w14 HP2.out).mono ?_; rintro e w' ⟨rfl, rfl⟩
    rcases HF.out with hq | ⟨hq, d, l, hd, hl, hll, hr⟩
    · have hq0 : (q == 0) = false := beq_eq_false_iff_ne.2 hq
      have hq1 : (q != 0) = true := bne_iff_ne.2 hq
      clear hq
      go_wp2_with fail
      go_ret
      exact ⟨rfl, HB4.out⟩
    · subst hq
      have HD := Lib.hid hd; have HS := Lib.hid hl; clear hd hl
      have hlm : l.length ≤ maxLen := by omega
      clear hll
      go_wp2_with fail
      refine (implCommitmentOf_is s t d 0 w14 HD.out).mono ?_; rintro e w' ⟨rfl, rfl⟩
      go_wp2_with fail
      refine (implSampleOf_is s n zs.length l 0 w14 HS.out).mono ?_; rintro e w15 ⟨aL, cL, rfl, hO, hB⟩
      have HB5 := Lib.hid (HB4.out.trans (hB.mono HB4.out.size))
      have HZ5 := Lib.hid (HZ4.out.below hB)
      have HL5 := Lib.hid (ownI_reads hO); clear hB hO
      rcases hr with ⟨rfl, hr⟩ | ⟨hdc, rfl⟩
      · subst hr
        go_wp2_with fail
        refine (likeInts_any aL aZ l.length cL zs.length cZ l zs w15 rfl rfl hlm hzm HL5.out HZ5.out).mono ?_
        rintro e w' ⟨rfl, n9, rfl⟩
        go_wp2_with fail
        go_ret
        exact ⟨ret_bool (by simp), below_drewN HB5.out _⟩
      · have hdc2 : (d == c) = false := beq_eq_false_iff_ne.2 hdc
        clear hdc
        go_wp2_with fail
        go_ret
        exact ⟨rfl, HB5.out⟩

set_option maxRecDepth 100000 in
theorem lifted (os : Os) (started : os.Started) (H : Type) (enc : TypeId × Value → H) :
    ReturnsInHanded {} Try.checked os 5 .any (Rows.fnCommitmentsSpec.pre6 enc Try.prog Try.f5 Rows.fnCommitmentsRow.domain false) (Rows.fnCommitmentsSpec.post enc Try.prog Try.f5 false true false false) := by
  refine returnsInHanded_of_change (C := Try.checked) own started (by kernel_rfl) Try.func5
    (ChangeSpec.witness6 (enc := enc) (C := Try.checked) false ⟨#[], #[.slice none 0 0], []⟩ 8 (by kernel_rfl) (by kernel_rfl) (by kernel_rfl) (by kernel_rfl)) ?_
  intro W base args ds gs before hval0 hW hcnd _
  have hval : ∀ (j : Nat) t v, Try.f5.params[j]? = some t → args[j]? = some v → Value.okWide Try.prog W .any base t v := hval0
  have hW' := hW
  obtain ⟨p, q, hA0, hV, rfl, hfz, hnd⟩ := hW
  have hA : DataW.TrodAll enc Try.prog W 0 (fun _ => true) true Try.f5.params.toList args.toList ds p := hA0
  rw [Try.params5] at hA hval
  obtain ⟨v0, vs0, d0, ds0, p0, q0, hargs, rfl, rfl, h0, r0⟩ := trodAll_cons hA
  obtain ⟨rfl, rfl, rfl⟩ := trodAll_nil r0
  obtain rfl : args = #[v0] := by cases args; simp_all
  obtain ⟨rfl, rfl⟩ := trodVars_none hV
  obtain ⟨a0, len0, cap0, rfl⟩ := okWide_slice Try.underlying22 (hval 0 22 v0 rfl rfl)
  have k0 := h0
  have lt0 : ∀ x ∈ p0, x.block < W.heap.size := by obtain ⟨m, hm⟩ := k0; exact DataW.trod_lt m _ _ _ hm
  obtain ⟨z0, w0⟩ : ∃ zs, IsRow .u8 W a0 len0 cap0 zs := by
    obtain ⟨fuel, hf⟩ := h0
    rcases open_ints Try.underlying22 Try.underlying5 (by kernel_rfl) hf with ⟨hcs, _⟩ | ⟨x, l, c, zs, hcs, _, hl, hm, hz, _, hcell, hwz⟩
    · simp [Value.cells] at hcs
      obtain ⟨rfl, rfl, rfl⟩ := hcs
      exact ⟨[], .inl ⟨rfl, rfl, rfl, rfl⟩⟩
    · simp [Value.cells] at hcs
      obtain ⟨rfl, rfl, rfl⟩ := hcs
      exact ⟨zs, .inr ⟨_, rfl, hl, hm, by simpa using hz, hcell, hwz⟩⟩
  clear hA0 hval0
  refine (walk W a0 len0 cap0 z0 w0).mono fun e W' ⟨he, bel⟩ => ?_
  subst he
  exact ⟨_, rfl, _, _, _, [], _, [], hW', trodAll_mk1 (shut_bool Try.underlying4 _), (trodAll_cons_mk (Below.trod laidOut (by kernel_rfl) (of_decide_eq_true (by kernel_rfl)) k0 bel lt0) trodAll_mk0), rfl, bel.frame _, fun h => by cases h⟩

theorem over : Rows.fnCommitmentsRow.holds Try.pinned (OpenSpec.ofChange Rows.fnCommitmentsSpec) :=
  OpenClaim.holds_of_wide 5 Try.f5 rfl rfl rfl rfl rfl rfl rfl ⟨rfl, rfl, rfl, rfl, rfl⟩ rfl rfl rfl rfl rfl (by kernel_rfl) Try.func5 (by kernel_rfl)
    (of_decide_eq_true (by kernel_rfl)) (by unfold Func.isWrapper; first | (rw [if_pos (by decide +kernel)]; kernel_rfl) | (rw [if_neg (by decide +kernel)]; exact ⟨rfl, rfl⟩))
    (fun os started H enc _ => lifted os started H enc)

/-- The statement. -/
theorem proved : Rows.FnCommitmentsSaid := over
end Go.Proofs.Ytfblkggfdmnpmaa.fnCommitments
