/- Proved: for every list of texts, laws.FnExactWordsText returns true and leaves its argument as it was: impl.WordsText answers as its model and writes nothing. No condition. -/
import Derived.Test.YtfadmlgdabamhaaRows
import Derived.WalkKit
import Derived.ProofKit
import Derived.OpenShut
import Derived.ShutString
import Derived.ChangeOld
import Derived.Below
import Derived.SliceStrings
import Derived.Lib.Hide
import Derived.Test.YtfadmlgdabamhaaWordsT
import Derived.Test.YtfadmlgdabamhaaStrs
namespace Go.Proofs.Ytfadmlgdabamhaa.fnExactWordsText
open Go.ChangeShapes Go.WideShapes Go.ChangeAt Go.RowKit
open Go.ChangeMaps (open_string shut_string)
open Pure3
set_option linter.unusedVariables false

theorem own : ownKnob Try.prog.godebug = none := by kernel_rfl
theorem laidOut : laidOutB Try.prog = true := by kernel_rfl

/-- What the walk is told of a slice of texts that came in: it is nil, or it leads to a row of cap cells, the texts ss. -/
def IsStrs (w : World) (a : Option Addr) (len cap : Nat) (ss : List ByteArray) : Prop :=
  (a = none ∧ len = 0 ∧ cap = 0 ∧ ss = []) ∨
  ∃ x, a = some x ∧ len ≤ cap ∧ cap ≤ maxLen ∧ ss.length = cap ∧ (∀ i, i < ss.length → w.cell? (x.add i) = some (.string (ss.getD i ByteArray.empty))) ∧ ∀ s ∈ ss, s.size ≤ maxLen

set_option maxHeartbeats 400000 in
theorem walk (w : World) (a0 : Option Addr) (len0 cap0 : Nat) (z0 : List ByteArray) (w0 : IsStrs w a0 len0 cap0 z0) :
    Calls Try.prog 5 #[.slice a0 len0 cap0] w fun e w' => e = .returned (.bool true) ∧ Below w.heap.size w w' := by
  obtain ⟨hl, hc, hm, hI, hS⟩ := strs_of_row w0
  generalize z0.take len0 = ss at hl hI hS
  have hM := hm
  have HL := Lib.hid hl; have HI := Lib.hid hI; have HS := Lib.hid hS; clear hl hI hS w0
  have HZ := Lib.hid (szStringS_any a0 len0 cap0 ss 1048576 w HL.out hM (by omega) HI.out HS.out)
  unfold maxLen at hm
  by_cases hb : 1048576 < strTot ss
  · rw [szLeft_no hb] at HZ
    go_enter Try.func5, Try.ntmps5
    go_wp2_with fail
    refine HZ.out.mono ?_; rintro e w' ⟨rfl, rfl⟩
    go_wp2_with fail
    go_ret
    exact ⟨rfl, Below.refl _ _⟩
  · have hle : len0 ≤ 1048576 := by have := strTot_len ss; have := HL.out; omega
    obtain ⟨m, hm1⟩ : ∃ m : Nat, szLeft ss 1048576 = m := ⟨1048576 - strTot ss, by rw [szLeft, if_pos (by omega)]; omega⟩
    rw [hm1] at HZ; clear hm1 hb
    go_enter Try.func5, Try.ntmps5
    go_wp2_with fail
    refine HZ.out.mono ?_; rintro e w' ⟨rfl, rfl⟩
    go_wp2_with fail
    refine (toStringS_any _ _ _ ss _ HL.out hle HI.out).mono ?_
    rintro e w1 ⟨b1, rfl, _, hI1, hB1⟩
    have HI1 := Lib.hid hI1; have HB1 := Lib.hid hB1; clear hI1 hB1
    go_wp2_with fail
    refine (specWordsText_any _ _ _ ss _ HL.out hM HI1.out HS.out).mono ?_
    rintro e w' ⟨rfl, rfl⟩
    go_wp2_with fail
    refine (toStringS_any _ _ _ ss _ HL.out hle (HI.out.below HB1.out)).mono ?_
    rintro e w2 ⟨b2, rfl, _, hI2, hB2⟩
    have HI2 := Lib.hid hI2; have HB2 := Lib.hid (HB1.out.trans (hB2.mono HB1.out.size)); clear hI2 hB2
    go_wp2_with fail
    refine (implWordsText_any _ _ _ ss _ HL.out hM (Nat.le_refl _) HI2.out HS.out).mono ?_
    rintro e w3 ⟨rfl, hB3⟩
    have HB3 := Lib.hid (HB2.out.trans (hB3.mono HB2.out.size)); have HI3 := Lib.hid (HI2.out.below hB3); clear hB3
    go_wp2_with fail
    refine (toStringS_any _ _ _ ss _ HL.out hle (HI.out.below HB3.out)).mono ?_
    rintro e w4 ⟨b4, rfl, _, hI4, hB4⟩
    have HI4 := Lib.hid hI4; have HB4 := Lib.hid (HB3.out.trans (hB4.mono HB3.out.size)); have HI5 := Lib.hid (HI3.out.below hB4); clear hI4 hB4
    go_wp2_with fail
    refine (eqStringS_any _ _ _ _ _ _ ss ss _ HL.out HL.out hM hM HI5.out HI4.out).mono ?_
    rintro e w' ⟨rfl, n, rfl⟩
    rw [sameS_self]
    go_wp2_with fail
    go_ret
    exact ⟨rfl, below_drewN HB4.out _⟩

set_option maxRecDepth 100000 in
theorem lifted (os : Os) (started : os.Started) (H : Type) (enc : TypeId × Value → H) :
    ReturnsInHanded {} Try.checked os 5 .any (Rows.fnExactWordsTextSpec.pre6 enc Try.prog Try.f5 Rows.fnExactWordsTextRow.domain false) (Rows.fnExactWordsTextSpec.post enc Try.prog Try.f5 false true false false) := by
  refine returnsInHanded_of_change (C := Try.checked) own started (by kernel_rfl) Try.func5
    (ChangeSpec.witness6 (enc := enc) (C := Try.checked) false ⟨#[], #[.slice none 0 0], []⟩ 8 (by kernel_rfl) (by kernel_rfl) (by kernel_rfl) (by kernel_rfl)) ?_
  intro W base args ds gs before hval0 hW hcnd _
  have hval : ∀ (j : Nat) t v, Try.f5.params[j]? = some t → args[j]? = some v → Value.okWide Try.prog W .any base t v := hval0
  have hW' := hW
  obtain ⟨p, q, hA0, hV, rfl, hfz, hnd⟩ := hW
  have hA : DataW.TrodAll enc Try.prog W 0 (fun _ => true) true Try.f5.params.toList args.toList ds p := hA0
  rw [Try.params5] at hA hval
  obtain ⟨v0, vs0, d0, ds0, p0, q0, hargs, rfl, rfl, h0, r0⟩ := trodAll_cons hA
  obtain ⟨rfl, rfl, rfl⟩ := trodAll_nil r0
  obtain rfl : args = #[v0] := by cases args; simp_all
  obtain ⟨rfl, rfl⟩ := trodVars_none hV
  obtain ⟨a0, len0, cap0, rfl⟩ := okWide_slice Try.underlying30 (hval 0 30 v0 rfl rfl)
  have k0 := h0
  have lt0 : ∀ x ∈ p0, x.block < W.heap.size := by obtain ⟨m, hm⟩ := k0; exact DataW.trod_lt m _ _ _ hm
  obtain ⟨z0, w0⟩ : ∃ zs, IsStrs W a0 len0 cap0 zs := by
    obtain ⟨fuel, hf⟩ := h0
    rcases open_strings Try.underlying30 Try.underlying9 (by kernel_rfl) hf with ⟨hcs, _⟩ | ⟨x, l, c, zs, hcs, _, hl, hm, hz, _, hcell, hwz⟩
    · simp [Value.cells] at hcs
      obtain ⟨rfl, rfl, rfl⟩ := hcs
      exact ⟨[], .inl ⟨rfl, rfl, rfl, rfl⟩⟩
    · simp [Value.cells] at hcs
      obtain ⟨rfl, rfl, rfl⟩ := hcs
      exact ⟨zs, .inr ⟨_, rfl, hl, hm, by simpa using hz, hcell, hwz⟩⟩
  clear hA0 hval0
  refine (walk W a0 len0 cap0 z0 w0).mono fun e W' ⟨he, bel⟩ => ?_
  subst he
  exact ⟨_, rfl, _, _, _, [], _, [], hW', trodAll_mk1 (shut_bool Try.underlying4 _), (trodAll_cons_mk (Below.trod laidOut (by kernel_rfl) (of_decide_eq_true (by kernel_rfl)) k0 bel lt0) trodAll_mk0), rfl, bel.frame _, fun h => by cases h⟩

theorem over : Rows.fnExactWordsTextRow.holds Try.pinned (OpenSpec.ofChange Rows.fnExactWordsTextSpec) :=
  OpenClaim.holds_of_wide 5 Try.f5 rfl rfl rfl rfl rfl rfl rfl ⟨rfl, rfl, rfl, rfl, rfl⟩ rfl rfl rfl rfl rfl (by kernel_rfl) Try.func5 (by kernel_rfl)
    (of_decide_eq_true (by kernel_rfl)) (by unfold Func.isWrapper; first | (rw [if_pos (by decide +kernel)]; kernel_rfl) | (rw [if_neg (by decide +kernel)]; exact ⟨rfl, rfl⟩))
    (fun os started H enc _ => lifted os started H enc)

/-- The statement. -/
theorem proved : Rows.FnExactWordsTextSaid := over
end Go.Proofs.Ytfadmlgdabamhaa.fnExactWordsText
