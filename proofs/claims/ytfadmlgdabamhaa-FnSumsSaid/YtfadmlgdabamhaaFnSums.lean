/- Proved: for every code, laws.FnSums returns true and leaves its argument as it was: a sum does not depend on the order, and SumOf and IsWord answer as their models at what is drawn. No condition. -/
import Derived.Test.YtfadmlgdabamhaaRows
import Derived.WalkKit
import Derived.ProofKit
import Derived.OpenShut
import Derived.ShutString
import Derived.ChangeOld
import Derived.Below
import Derived.SliceStrings
import Derived.Lib.Hide
import Derived.Test.YtfadmlgdabamhaaBig
import Derived.Test.YtfadmlgdabamhaaDrawS
import Derived.Test.YtfadmlgdabamhaaSum
import Derived.Test.YtfadmlgdabamhaaIsWord
import Derived.Test.YtfadmlgdabamhaaInfo
namespace Go.Proofs.Ytfadmlgdabamhaa.fnSums
open Go.ChangeShapes Go.WideShapes Go.ChangeAt Go.RowKit
open Go.ChangeMaps (open_string shut_string)
open Pure2 Pure6
set_option linter.unusedVariables false

theorem own : ownKnob Try.prog.godebug = none := by kernel_rfl
theorem laidOut : laidOutB Try.prog = true := by kernel_rfl

/-- What the walk is told of a slice of integers that came in: it is nil, or it leads to a row of cap cells, the numbers zs. -/
def IsRow (k : IntKind) (w : World) (a : Option Addr) (len cap : Nat) (zs : List Int) : Prop :=
  (a = none ∧ len = 0 ∧ cap = 0 ∧ zs = []) ∨
  ∃ x, a = some x ∧ len ≤ cap ∧ cap ≤ maxLen ∧ zs.length = cap ∧ (∀ i, i < zs.length → w.cell? (x.add i) = some (.int k (zs.getD i 0))) ∧ ∀ n ∈ zs, (Lit.int k n).wf = true

set_option maxHeartbeats 400000 in
theorem walk (w : World) (a0 : Option Addr) (len0 cap0 : Nat) (z0 : List Int) (w0 : IsRow .u8 w a0 len0 cap0 z0) :
    Calls Try.prog 3 #[.slice a0 len0 cap0] w fun e w' => e = .returned (.bool true) ∧ Below w.heap.size w w' := by
  obtain ⟨hl, hY⟩ := bytes_of_row w0
  generalize z0.take len0 = bs at hl hY
  have HL := Lib.hid hl; have HY := Lib.hid hY; clear hl hY w0
  have HBig := Lib.hid (lawsBig_any a0 len0 cap0 w)
  by_cases hb : 4096 < len0
  · rw [decide_eq_true hb] at HBig
    go_enter Try.func3, Try.ntmps3
    go_wp2_with fail
    refine HBig.out.mono ?_; rintro e w' ⟨rfl, rfl⟩
    go_wp2_with fail
    go_ret
    exact ⟨rfl, Below.refl _ _⟩
  · rw [decide_eq_false hb] at HBig
    have hm : len0 ≤ 4096 := by omega
    obtain ⟨i0, hi, hz0, hz1, hz2⟩ := info_parts Try.info_i64
    clear hb
    go_enter Try.func3, Try.ntmps3
    go_wp2_with fail
    refine HBig.out.mono ?_; rintro e w' ⟨rfl, rfl⟩
    go_wp2_with fail
    refine (specDrawSumOf_any a0 len0 cap0 bs w HL.out hm HY.out).mono ?_; rintro e w1 ⟨a, cap, zs, rfl, hc, hz, hI, hB1⟩
    have HI := Lib.hid hI; have HB1 := Lib.hid hB1; clear hI hB1
    have hzm : zs.length ≤ maxLen := by unfold maxLen; omega
    go_wp2_with fail
    refine (implSumOf_any a zs.length cap zs w1 rfl hzm HI.out).mono ?_; rintro e w' ⟨rfl, rfl⟩
    go_wp2_with fail
    refine (specSumOf_any a zs.length cap zs w1 rfl hzm HI.out).mono ?_; rintro e w' ⟨rfl, rfl⟩
    go_wp2_with fail
    refine (specDrawIsWord_any a0 len0 cap0 bs w1 HL.out hm (HY.out.later HB1.out)).mono ?_; rintro e w2 ⟨s, rfl, hs, hB2⟩
    have HI2 := Lib.hid (HI.out.below hB2); have HB2 := Lib.hid (HB1.out.trans (hB2.mono HB1.out.size)); clear hB2
    have hsm : s.size ≤ maxLen := by unfold maxLen; omega
    go_wp2_with fail
    refine (implIsWord_any s w2 hsm).mono ?_; rintro e w' ⟨rfl, rfl⟩
    go_wp2_with fail
    refine (specIsWord_any s w2 hsm).mono ?_; rintro e w' ⟨rfl, rfl⟩
    go_wp2_with fail
    go_loopw [9, 10] (fun v i wr => ∃ (m : Nat) (ys : List Int), i = .int .i64 ((m : Int) - 1) ∧ m ≤ zs.length ∧ ys = (zs.drop m).reverse ∧ wr.ownsRow w2.heap.size 2 1 v ys.length (ys.map (Value.int .i64)) ∧ Below w2.heap.size w2 wr) (fun _ i _ => (intOf i + 1).toNat)
    case atStart => exact ⟨zs.length, [], rfl, Nat.le_refl _, by simp, World.ownsRow_lit w2 #[] 0 (Nat.le_refl _) (by decide) rfl, (Below.refl _ _).alloc (Nat.le_refl _) _⟩
    case round =>
      obtain ⟨m, ys, rfl, hmz, hys, ho, hB⟩ := hrel
      have HYS := Lib.hid hys; have HB := Lib.hid hB; clear hys hB
      have hyl : ys.length ≤ zs.length := by rw [HYS.out, List.length_reverse, List.length_drop]; omega
      by_cases hm0 : 0 < m
      · obtain ⟨k, rfl⟩ : ∃ k : Nat, m = k + 1 := ⟨m - 1, by omega⟩
        obtain ⟨b, off, x, ha, hcx, _, hx⟩ := (HI2.out.below HB.out).at rfl (show k < zs.length by omega)
        have HX := Lib.hid hx; clear hx
        subst ha
        have e1 : (((k + 1 : Nat) : Int) - 1) = (k : Int) := by omega
        rw [e1]
        clear e1
        go_wp2_with (at_builtin; refine wpList_append_own _ rfl _ _ 24 rfl w2.heap.size 2 i0 (.int .i64 0) 1 8 Try.underlying24 hi hz0 hz1 hz2 rfl (by decide) _ _ _ rfl (ho.alloc _) ⟨wr.heap.size, 0, none⟩ 1 1 [.int .i64 x] rfl rfl ?c1 ?c2 ?c3 ?c4 ?c5 ?_)
        case c1 => exact cell_one_new _ _ _
        case c2 => intro u hu; simp at hu; subst hu; rfl
        case c3 => unfold maxLen; omega
        case c4 => omega
        case c5 => have := HB.out.size; simp; omega
        intro v' w5 hown' hgrow _
        have HO5 := Lib.hid (owns_snocI hown')
        have HB5 := Lib.hid ((HB.out.alloc HB.out.size _).grown hgrow (by have := HB.out.size; simp; omega) (fun k hk => (ho.lt k hk).1))
        have HN := Lib.hid (show ys ++ [x] = (zs.drop k).reverse by rw [HYS.out]; exact rev_step HX.out)
        clear ho hown' hgrow
        go_wp2_with fail
        go_roundw
        case rel => exact ⟨k, ys ++ [x], rfl, by omega, HN.out, HO5.out, HB5.out⟩
        case measure => simp [intOf]
      · obtain rfl : m = 0 := by omega
        obtain ⟨a2, cap2, rfl, _, hI2⟩ := intsAt_of_owns ho
        have HI3 := Lib.hid hI2; clear hI2 ho hm0
        have HR := Lib.hid (show sumOf ys = sumOf zs by rw [HYS.out, List.drop_zero, sumOf_reverse])
        go_wp2_with fail
        refine (implSumOf_any a2 ys.length cap2 ys wr rfl (Nat.le_trans hyl hzm) HI3.out).mono ?_; rintro e w' ⟨rfl, rfl⟩
        rw [HR.out]
        go_wp2_with fail
        go_ret
        exact ⟨rfl, HB2.out.trans (HB.out.mono HB2.out.size)⟩

set_option maxRecDepth 100000 in
theorem lifted (os : Os) (started : os.Started) (H : Type) (enc : TypeId × Value → H) :
    ReturnsInHanded {} Try.checked os 3 .any (Rows.fnSumsSpec.pre6 enc Try.prog Try.f3 Rows.fnSumsRow.domain false) (Rows.fnSumsSpec.post enc Try.prog Try.f3 false true false false) := by
  refine returnsInHanded_of_change (C := Try.checked) own started (by kernel_rfl) Try.func3
    (ChangeSpec.witness6 (enc := enc) (C := Try.checked) false ⟨#[], #[.slice none 0 0], []⟩ 8 (by kernel_rfl) (by kernel_rfl) (by kernel_rfl) (by kernel_rfl)) ?_
  intro W base args ds gs before hval0 hW hcnd _
  have hval : ∀ (j : Nat) t v, Try.f3.params[j]? = some t → args[j]? = some v → Value.okWide Try.prog W .any base t v := hval0
  have hW' := hW
  obtain ⟨p, q, hA0, hV, rfl, hfz, hnd⟩ := hW
  have hA : DataW.TrodAll enc Try.prog W 0 (fun _ => true) true Try.f3.params.toList args.toList ds p := hA0
  rw [Try.params3] at hA hval
  obtain ⟨v0, vs0, d0, ds0, p0, q0, hargs, rfl, rfl, h0, r0⟩ := trodAll_cons hA
  obtain ⟨rfl, rfl, rfl⟩ := trodAll_nil r0
  obtain rfl : args = #[v0] := by cases args; simp_all
  obtain ⟨rfl, rfl⟩ := trodVars_none hV
  obtain ⟨a0, len0, cap0, rfl⟩ := okWide_slice Try.underlying22 (hval 0 22 v0 rfl rfl)
  have k0 := h0
  have lt0 : ∀ x ∈ p0, x.block < W.heap.size := by obtain ⟨m, hm⟩ := k0; exact DataW.trod_lt m _ _ _ hm
  obtain ⟨z0, w0⟩ : ∃ zs, IsRow .u8 W a0 len0 cap0 zs := by
    obtain ⟨fuel, hf⟩ := h0
    rcases open_ints Try.underlying22 Try.underlying5 (by kernel_rfl) hf with ⟨hcs, _⟩ | ⟨x, l, c, zs, hcs, _, hl, hm, hz, _, hcell, hwz⟩
    · simp [Value.cells] at hcs
      obtain ⟨rfl, rfl, rfl⟩ := hcs
      exact ⟨[], .inl ⟨rfl, rfl, rfl, rfl⟩⟩
    · simp [Value.cells] at hcs
      obtain ⟨rfl, rfl, rfl⟩ := hcs
      exact ⟨zs, .inr ⟨_, rfl, hl, hm, by simpa using hz, hcell, hwz⟩⟩
  clear hA0 hval0
  refine (walk W a0 len0 cap0 z0 w0).mono fun e W' ⟨he, bel⟩ => ?_
  subst he
  exact ⟨_, rfl, _, _, _, [], _, [], hW', trodAll_mk1 (shut_bool Try.underlying4 _), (trodAll_cons_mk (Below.trod laidOut (by kernel_rfl) (of_decide_eq_true (by kernel_rfl)) k0 bel lt0) trodAll_mk0), rfl, bel.frame _, fun h => by cases h⟩

theorem over : Rows.fnSumsRow.holds Try.pinned (OpenSpec.ofChange Rows.fnSumsSpec) :=
  OpenClaim.holds_of_wide 3 Try.f3 rfl rfl rfl rfl rfl rfl rfl ⟨rfl, rfl, rfl, rfl, rfl⟩ rfl rfl rfl rfl rfl (by kernel_rfl) Try.func3 (by kernel_rfl)
    (of_decide_eq_true (by kernel_rfl)) (by unfold Func.isWrapper; first | (rw [if_pos (by decide +kernel)]; kernel_rfl) | (rw [if_neg (by decide +kernel)]; exact ⟨rfl, rfl⟩))
    (fun os started H enc _ => lifted os started H enc)

/-- The statement. -/
theorem proved : Rows.FnSumsSaid := over
end Go.Proofs.Ytfadmlgdabamhaa.fnSums
