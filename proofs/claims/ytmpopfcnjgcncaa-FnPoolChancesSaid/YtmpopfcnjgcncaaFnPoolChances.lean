/- Proved: for every code, laws.FnPoolChances returns true and leaves its argument as it was: the chance of one number that is left is k of the count of those left, in lowest terms, and the answers of ChanceOf and LeftOf are those of their models. No condition. -/
import Derived.Test.YtmpopfcnjgcncaaRows
import Derived.WalkKit
import Derived.ProofKit
import Derived.OpenShut
import Derived.ShutString
import Derived.ChangeOld
import Derived.Below
import Derived.SliceStrings
import Derived.Lib.Hide
import Derived.Test.YtmpopfcnjgcncaaBase
import Derived.Test.YtmpopfcnjgcncaaPure6
import Derived.Test.YtmpopfcnjgcncaaPure80
import Derived.Test.YtmpopfcnjgcncaaIntL
import Derived.Test.YtmpopfcnjgcncaaBuildI
import Derived.Test.YtmpopfcnjgcncaaBuild8
import Derived.Test.YtmpopfcnjgcncaaRowV
import Derived.Test.YtmpopfcnjgcncaaPoolA
import Derived.Test.YtmpopfcnjgcncaaBig
import Derived.Test.YtmpopfcnjgcncaaLikeInt
import Derived.Test.YtmpopfcnjgcncaaSpec81
import Derived.Test.YtmpopfcnjgcncaaSpec84
import Derived.Test.YtmpopfcnjgcncaaImpl8e
import Derived.Test.YtmpopfcnjgcncaaDraw8b
import Derived.Test.YtmpopfcnjgcncaaDraw8c
import Derived.Test.YtmpopfcnjgcncaaDraw8d
import Derived.Test.YtmpopfcnjgcncaaLawP8
namespace Go.Proofs.Ytmpopfcnjgcncaa.fnPoolChances
open Go.ChangeShapes Go.WideShapes Go.ChangeAt Go.RowKit
open Go.ChangeMaps (open_string shut_string)
open Pure2 Pure6 Pure40 Pure60 Pure80
set_option linter.unusedVariables false

theorem own : ownKnob Try.prog.godebug = none := by kernel_rfl
theorem laidOut : laidOutB Try.prog = true := by kernel_rfl

/-- What the walk is told of a slice of integers that came in: it is nil, or it leads to a row of cap cells, the numbers zs. -/
def IsRow (k : IntKind) (w : World) (a : Option Addr) (len cap : Nat) (zs : List Int) : Prop :=
  (a = none ∧ len = 0 ∧ cap = 0 ∧ zs = []) ∨
  ∃ x, a = some x ∧ len ≤ cap ∧ cap ≤ maxLen ∧ zs.length = cap ∧ (∀ i, i < zs.length → w.cell? (x.add i) = some (.int k (zs.getD i 0))) ∧ ∀ n ∈ zs, (Lit.int k n).wf = true

set_option maxRecDepth 100000 in
set_option maxHeartbeats 4000000 in
theorem walk (w : World) (a0 : Option Addr) (len0 cap0 : Nat) (z0 : List Int) (w0 : IsRow .u8 w a0 len0 cap0 z0) :
    Calls Try.prog 4 #[.slice a0 len0 cap0] w fun e w' => e = .returned (.bool true) ∧ Below w.heap.size w w' := by
  obtain ⟨hl, hY⟩ := bytes_of_row w0
  generalize z0.take len0 = bs at hl hY
  have HL := Lib.hid hl; have HY := Lib.hid hY; clear hl hY w0
  have HBig := Lib.hid (lawsBig_any a0 len0 cap0 w)
  by_cases hb : 4096 < len0
  · rw [decide_eq_true hb] at HBig
    go_enter Try.func4, Try.ntmps4
    go_wp2_with fail
    refine HBig.out.mono ?_; rintro e w' ⟨rfl, rfl⟩
    go_wp2_with fail
    go_ret
    exact ⟨rfl, Below.refl _ _⟩
  · rw [decide_eq_false hb] at HBig
    have hm : len0 ≤ 4096 := by omega
    clear hb
    go_enter Try.func4, Try.ntmps4
    go_wp2_with fail
    refine HBig.out.mono ?_; rintro e w' ⟨rfl, rfl⟩
    clear HBig
    go_wp2_with fail
    refine (specDrawChanceOf_any a0 len0 cap0 bs w HL.out hm HY.out).mono ?_; rintro e u1 ⟨w0, w1, q1, k, rfl, h0, h1, hq, hB⟩
    have HB := Lib.hid (hB)
    clear hB
    obtain ⟨a10, c10, rfl, _⟩ := h0.slice
    obtain ⟨a11, c11, rfl, _⟩ := h1.slice
    have n10 := h0.nilcap; have n11 := h1.nilcap; have l11 := h1.lencap.2; have hq1 := hq; have hq1a := hq.1; have hq1b := hq.2
    have HP1 := Lib.hid (poolIn_of_build h0 h1 hq)
    clear h0 h1 hq
    obtain ⟨ca, cb, cc, h3⟩ : ∃ x y z, chanceR q1 k = (x, y, z) := ⟨_, _, _, rfl⟩
    have HCF := Lib.hid (chance_facts hq1 h3)
    have C1 := Lib.hid (fun W (hx : PoolV.In W a10 q1.nums.length a11 q1.drawn.length q1) => show Calls Try.prog 32 #[.agg #[.slice a10 q1.nums.length c10, .slice a11 q1.drawn.length c11, .int .i64 q1.state], .int .i64 k] W (Says8 (.tuple #[.int .i64 ca, .int .i64 cb, .int .i64 cc]) W) from by have e := implChance8_any a10 q1.nums.length c10 a11 q1.drawn.length c11 q1 k W hx l11 (by omega); rw [h3] at e; exact e)
    have C2 := Lib.hid (fun W (hx : PoolV.In W a10 q1.nums.length a11 q1.drawn.length q1) => show Calls Try.prog 33 #[.agg #[.slice a10 q1.nums.length c10, .slice a11 q1.drawn.length c11, .int .i64 q1.state], .int .i64 k] W (Says8 (.tuple #[.int .i64 ca, .int .i64 cb, .int .i64 cc]) W) from by have e := specChance8_any a10 q1.nums.length c10 a11 q1.drawn.length c11 q1 k W hx l11; rw [h3] at e; exact e)
    clear h3
    have hB := boxed u1 (.cells #[.slice a10 q1.nums.length c10, .slice a11 q1.drawn.length c11, .int .i64 q1.state] 26)
    have HB_2 := Lib.hid (HB.out.trans (hB.mono HB.out.size))
    have HP1_2 := Lib.hid (HP1.out.below hB)
    clear HP1 HB
    clear hB
    have HX1 := Lib.hid (PoolV.boxed u1 a10 q1.nums.length c10 a11 q1.drawn.length c11 q1 26)
    obtain ⟨bX10, bX11, bX12⟩ := HX1.out
    go_wp2_with fail
    clear bX10 bX11 bX12
    generalize u1.alloc (.cells #[.slice a10 q1.nums.length c10, .slice a11 q1.drawn.length c11, .int .i64 q1.state] 26) = v1 at HP1_2 HX1 HB_2 ⊢
    obtain ⟨r1, hr1⟩ : ∃ r, u1.heap.size = r := ⟨_, rfl⟩
    rw [hr1] at HX1 ⊢
    clear hr1
    refine (C1.out _ HP1_2.out).mono ?_; rintro e u2 ⟨rfl, hB⟩
    have HB_3 := Lib.hid (HB_2.out.trans (hB.mono HB_2.out.size))
    have HP1_3 := Lib.hid (HP1_2.out.below hB)
    have HX1_3 := Lib.hid (HX1.out.below hB)
    clear HP1_2 HX1 HB_2
    clear hB
    obtain ⟨bX10, bX11, bX12⟩ := HX1_3.out
    go_wp2_with fail
    clear bX10 bX11 bX12
    refine (C2.out _ HP1_3.out).mono ?_; rintro e u3 ⟨rfl, hB⟩
    have HB_4 := Lib.hid (HB_3.out.trans (hB.mono HB_3.out.size))
    have HP1_4 := Lib.hid (HP1_3.out.below hB)
    have HX1_4 := Lib.hid (HX1_3.out.below hB)
    clear HP1_3 HX1_3 HB_3
    clear hB
    clear C1 C2
    go_wp2_with fail
    refine (specDrawLeftOf_any a0 len0 cap0 bs u3 HL.out hm (HY.out.later HB_4.out)).mono ?_; rintro e u4 ⟨w2, w3, q2, rfl, h0, h1, hq, hB⟩
    have HB_5 := Lib.hid (HB_4.out.trans (hB.mono HB_4.out.size))
    have HP1_5 := Lib.hid (HP1_4.out.below hB)
    have HX1_5 := Lib.hid (HX1_4.out.below hB)
    clear HP1_4 HX1_4 HB_4
    clear hB
    obtain ⟨a20, c20, rfl, _⟩ := h0.slice
    obtain ⟨a21, c21, rfl, _⟩ := h1.slice
    have n20 := h0.nilcap; have n21 := h1.nilcap; have l21 := h1.lencap.2; have hq2 := hq; have hq2a := hq.1; have hq2b := hq.2
    have HP2 := Lib.hid (poolIn_of_build h0 h1 hq)
    clear h0 h1 hq
    obtain ⟨zs, z, h2⟩ : ∃ x y, leftR q2 = (x, y) := ⟨_, _, rfl⟩
    have hzs := leftR_small hq2
    rw [h2] at hzs
    simp only at hzs
    have C1 := Lib.hid (fun W (hx : PoolV.In W a20 q2.nums.length a21 q2.drawn.length q2) => show Calls Try.prog 29 #[.agg #[.slice a20 q2.nums.length c20, .slice a21 q2.drawn.length c21, .int .i64 q2.state]] W (SaysBI zs z W) from by have e := implLeftOf8_any a20 q2.nums.length c20 a21 q2.drawn.length c21 q2 W hx l21 n20 (by omega); rw [h2] at e; exact e)
    have C2 := Lib.hid (fun W (hx : PoolV.In W a20 q2.nums.length a21 q2.drawn.length q2) => show Calls Try.prog 35 #[.agg #[.slice a20 q2.nums.length c20, .slice a21 q2.drawn.length c21, .int .i64 q2.state]] W (SaysBI zs z W) from by have e := specLeftOf8_any a20 q2.nums.length c20 a21 q2.drawn.length c21 q2 W hx l21 (by omega); rw [h2] at e; exact e)
    clear h2
    have hB := boxed u4 (.cells #[.slice a20 q2.nums.length c20, .slice a21 q2.drawn.length c21, .int .i64 q2.state] 26)
    have HB_6 := Lib.hid (HB_5.out.trans (hB.mono HB_5.out.size))
    have HP1_6 := Lib.hid (HP1_5.out.below hB)
    have HX1_6 := Lib.hid (HX1_5.out.below hB)
    have HP2_6 := Lib.hid (HP2.out.below hB)
    clear HP1_5 HX1_5 HP2 HB_5
    clear hB
    have HX2 := Lib.hid (PoolV.boxed u4 a20 q2.nums.length c20 a21 q2.drawn.length c21 q2 26)
    obtain ⟨bX20, bX21, bX22⟩ := HX2.out
    go_wp2_with fail
    clear bX20 bX21 bX22
    generalize u4.alloc (.cells #[.slice a20 q2.nums.length c20, .slice a21 q2.drawn.length c21, .int .i64 q2.state] 26) = v2 at HP1_6 HX1_6 HP2_6 HX2 HB_6 ⊢
    obtain ⟨r2, hr2⟩ : ∃ r, u4.heap.size = r := ⟨_, rfl⟩
    rw [hr2] at HX2 ⊢
    clear hr2
    refine (C1.out _ HP2_6.out).mono ?_; rintro e u5 ⟨vI, rfl, ho, hB⟩
    have HB_7 := Lib.hid (HB_6.out.trans (hB.mono HB_6.out.size))
    have HP1_7 := Lib.hid (HP1_6.out.below hB)
    have HX1_7 := Lib.hid (HX1_6.out.below hB)
    have HP2_7 := Lib.hid (HP2_6.out.below hB)
    have HX2_7 := Lib.hid (HX2.out.below hB)
    clear HP1_6 HX1_6 HP2_6 HX2 HB_6
    obtain ⟨aI, cI, rfl, _⟩ := ho.slice
    have HI := Lib.hid (ho)
    clear ho hB
    obtain ⟨bX20, bX21, bX22⟩ := HX2_7.out
    go_wp2_with fail
    clear bX20 bX21 bX22
    refine (C2.out _ HP2_7.out).mono ?_; rintro e u6 ⟨vS, rfl, ho, hB⟩
    have HB_8 := Lib.hid (HB_7.out.trans (hB.mono HB_7.out.size))
    have HP1_8 := Lib.hid (HP1_7.out.below hB)
    have HX1_8 := Lib.hid (HX1_7.out.below hB)
    have HP2_8 := Lib.hid (HP2_7.out.below hB)
    have HX2_8 := Lib.hid (HX2_7.out.below hB)
    have HI_8 := Lib.hid (HI.out.below hB)
    clear HP1_7 HX1_7 HP2_7 HX2_7 HI HB_7
    obtain ⟨aS, cS, rfl, _⟩ := ho.slice
    have HS := Lib.hid (ho)
    clear ho hB C1 C2
    clear HP2_8 HX2_8
    have hI0 : IntsAt u6 aI zs := by obtain ⟨_, _, e, t⟩ := HI_8.out.slice; cases e; exact t
    have hS0 : IntsAt u6 aS zs := by obtain ⟨_, _, e, t⟩ := HS.out.slice; cases e; exact t
    have HLK := Lib.hid (likeSame8 aI aS cI cS zs u6 (by omega) hI0 hS0)
    clear hI0 hS0
    go_wp2_with fail
    refine (HLK.out).mono ?_; rintro e u7 ⟨rfl, hB⟩
    have HB_9 := Lib.hid (HB_8.out.trans (hB.mono HB_8.out.size))
    have HP1_9 := Lib.hid (HP1_8.out.below hB)
    have HX1_9 := Lib.hid (HX1_8.out.below hB)
    have HI_9 := Lib.hid (HI_8.out.below hB)
    have HS_9 := Lib.hid (HS.out.below hB)
    clear HP1_8 HX1_8 HI_8 HS HB_8
    clear hB
    clear HLK
    rcases HCF.out with hkc | ⟨hkc, hl, h5, h6, h7, h8⟩
    · have ekc : (cc == 0) = false := beq_eq_false_iff_ne.2 hkc
      have ekc2 : (cc != 0) = true := bne_iff_ne.2 hkc
      clear hkc
      go_wp2_with fail
      go_ret
      exact ⟨rfl, HB_9.out⟩
    · subst hkc
      have qw1 : IntKind.i64.wrap (ca * ((leftL q1.nums q1.drawn).length : Int)) = k * cb := by rw [h5]; exact IntWalk.i64_in _ (by omega)
      have qw2 : IntKind.i64.wrap (k * cb) = k * cb := IntWalk.i64_in _ (by omega)
      have qw3 : decide (ca ≤ cb) = true := decide_eq_true h6
      have D1 := Lib.hid (fun W (hx : PoolV.In W a10 q1.nums.length a11 q1.drawn.length q1) => show Calls Try.prog 29 #[.agg #[.slice a10 q1.nums.length c10, .slice a11 q1.drawn.length c11, .int .i64 q1.state]] W (SaysBI (leftL q1.nums q1.drawn) 0 W) from by have e := implLeftOf8_any a10 q1.nums.length c10 a11 q1.drawn.length c11 q1 W hx l11 n10 (by omega); rw [hl] at e; exact e)
      clear hl h5 h7 h8
      obtain ⟨bX10, bX11, bX12⟩ := HX1_9.out
      go_wp2_with fail
      clear bX10 bX11 bX12
      refine (D1.out _ HP1_9.out).mono ?_; rintro e u8 ⟨vL, rfl, ho, hB⟩
      have HB_10 := Lib.hid (HB_9.out.trans (hB.mono HB_9.out.size))
      have HP1_10 := Lib.hid (HP1_9.out.below hB)
      have HX1_10 := Lib.hid (HX1_9.out.below hB)
      have HI_10 := Lib.hid (HI_9.out.below hB)
      have HS_10 := Lib.hid (HS_9.out.below hB)
      clear HP1_9 HX1_9 HI_9 HS_9 HB_9
      obtain ⟨aL, cL, rfl, _⟩ := ho.slice
      clear ho hB
      go_wp2_with fail
      go_ret
      exact ⟨rfl, HB_10.out⟩

set_option maxRecDepth 100000 in
theorem lifted (os : Os) (started : os.Started) (H : Type) (enc : TypeId × Value → H) :
    ReturnsInHanded {} Try.checked os 4 .any (Rows.fnPoolChancesSpec.pre6 enc Try.prog Try.f4 Rows.fnPoolChancesRow.domain false) (Rows.fnPoolChancesSpec.post enc Try.prog Try.f4 false true false false) := by
  refine returnsInHanded_of_change (C := Try.checked) own started (by kernel_rfl) Try.func4
    (ChangeSpec.witness6 (enc := enc) (C := Try.checked) false ⟨#[], #[.slice none 0 0], []⟩ 8 (by kernel_rfl) (by kernel_rfl) (by kernel_rfl) (by kernel_rfl)) ?_
  intro W base args ds gs before hval0 hW hcnd _
  have hval : ∀ (j : Nat) t v, Try.f4.params[j]? = some t → args[j]? = some v → Value.okWide Try.prog W .any base t v := hval0
  have hW' := hW
  obtain ⟨p, q, hA0, hV, rfl, hfz, hnd⟩ := hW
  have hA : DataW.TrodAll enc Try.prog W 0 (fun _ => true) true Try.f4.params.toList args.toList ds p := hA0
  rw [Try.params4] at hA hval
  obtain ⟨v0, vs0, d0, ds0, p0, q0, hargs, rfl, rfl, h0, r0⟩ := trodAll_cons hA
  obtain ⟨rfl, rfl, rfl⟩ := trodAll_nil r0
  obtain rfl : args = #[v0] := by cases args; simp_all
  obtain ⟨rfl, rfl⟩ := trodVars_none hV
  obtain ⟨a0, len0, cap0, rfl⟩ := okWide_slice Try.underlying22 (hval 0 22 v0 rfl rfl)
  have k0 := h0
  have lt0 : ∀ x ∈ p0, x.block < W.heap.size := by obtain ⟨m, hm⟩ := k0; exact DataW.trod_lt m _ _ _ hm
  obtain ⟨z0, w0⟩ : ∃ zs, IsRow .u8 W a0 len0 cap0 zs := by
    obtain ⟨fuel, hf⟩ := h0
    rcases open_ints Try.underlying22 Try.underlying5 (by kernel_rfl) hf with ⟨hcs, _⟩ | ⟨x, l, c, zs, hcs, _, hl, hm, hz, _, hcell, hwz⟩
    · simp [Value.cells] at hcs
      obtain ⟨rfl, rfl, rfl⟩ := hcs
      exact ⟨[], .inl ⟨rfl, rfl, rfl, rfl⟩⟩
    · simp [Value.cells] at hcs
      obtain ⟨rfl, rfl, rfl⟩ := hcs
      exact ⟨zs, .inr ⟨_, rfl, hl, hm, by simpa using hz, hcell, hwz⟩⟩
  clear hA0 hval0
  refine (walk W a0 len0 cap0 z0 w0).mono fun e W' ⟨he, bel⟩ => ?_
  subst he
  exact ⟨_, rfl, _, _, _, [], _, [], hW', trodAll_mk1 (shut_bool Try.underlying4 _), (trodAll_cons_mk (Below.trod laidOut (by kernel_rfl) (of_decide_eq_true (by kernel_rfl)) k0 bel lt0) trodAll_mk0), rfl, bel.frame _, fun h => by cases h⟩

theorem over : Rows.fnPoolChancesRow.holds Try.pinned (OpenSpec.ofChange Rows.fnPoolChancesSpec) :=
  OpenClaim.holds_of_wide 4 Try.f4 rfl rfl rfl rfl rfl rfl rfl ⟨rfl, rfl, rfl, rfl, rfl⟩ rfl rfl rfl rfl rfl (by kernel_rfl) Try.func4 (by kernel_rfl)
    (of_decide_eq_true (by kernel_rfl)) (by unfold Func.isWrapper; first | (rw [if_pos (by decide +kernel)]; kernel_rfl) | (rw [if_neg (by decide +kernel)]; exact ⟨rfl, rfl⟩))
    (fun os started H enc _ => lifted os started H enc)

/-- The statement. -/
theorem proved : Rows.FnPoolChancesSaid := over
end Go.Proofs.Ytmpopfcnjgcncaa.fnPoolChances
