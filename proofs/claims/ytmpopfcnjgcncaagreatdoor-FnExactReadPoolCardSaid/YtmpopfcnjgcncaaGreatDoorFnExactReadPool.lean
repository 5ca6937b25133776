/- Proved: for every text, laws.FnExactReadPool returns true and leaves its argument as it was: impl.ReadPool answers as its model, in memory of its own. The condition: the variables listed are laid. -/
import Derived.Test.YtmpopfcnjgcncaaGreatDoorRows
import Derived.Test.YtmpopfcnjgcncaaGreatDoorCards
import Derived.Test.YtmpopfcnjgcncaaGreatDoorTie
import Derived.WalkKit
import Derived.ProofKit
import Derived.OpenShut
import Derived.ShutString
import Derived.ChangeOld
import Derived.Below
import Derived.SliceStrings
import Derived.Lib.Hide
import Derived.Deep.DeepHandedRow
import Derived.Deep.DeepWitnessRowRef
import Derived.SevenTiedAt
import Derived.Test.YtmpopfcnjgcncaaGreatDoorBase0
import Derived.Test.YtmpopfcnjgcncaaGreatDoorPure86
import Derived.Test.YtmpopfcnjgcncaaGreatDoorMarkI
import Derived.Test.YtmpopfcnjgcncaaGreatDoorEqInt
import Derived.Test.YtmpopfcnjgcncaaGreatDoorIntL
import Derived.Test.YtmpopfcnjgcncaaGreatDoorBuildI
import Derived.Test.YtmpopfcnjgcncaaGreatDoorBuild8
import Derived.Test.YtmpopfcnjgcncaaGreatDoorRowV
import Derived.Test.YtmpopfcnjgcncaaGreatDoorPoolA
import Derived.Test.YtmpopfcnjgcncaaGreatDoorPoolB
import Derived.Test.YtmpopfcnjgcncaaGreatDoorSpec80
import Derived.Test.YtmpopfcnjgcncaaGreatDoorLaw8
import Derived.Test.YtmpopfcnjgcncaaGreatDoorRead8
import Derived.Test.YtmpopfcnjgcncaaGreatDoorRead8I
import Derived.Test.YtmpopfcnjgcncaaGreatDoorDoorW
import Derived.Test.YtmpopfcnjgcncaaGreatDoorDoorE
namespace Go.Proofs.YtmpopfcnjgcncaaGreatDoor.fnExactReadPool
open Go.ChangeShapes Go.WideShapes Go.ChangeAt Go.RowKit
open Go.ChangeMaps (open_string shut_string)
open Pure2 Pure30 Pure40 Pure80 Pure86 Rec
set_option linter.unusedVariables false

theorem own : ownKnob Tryz.prog.godebug = none := by kernel_rfl
theorem laidOut : laidOutB Tryz.prog = true := by kernel_rfl


set_option maxRecDepth 100000 in
set_option maxHeartbeats 4000000 in
theorem walk (w : World) (hL : laidMetH Tryz.prog Rows.fnExactReadPoolRow.laid w) (hsh : w.ShapedOpen Tryz.prog) (a0 : ByteArray) (w0 : a0.size ≤ maxLen) :
    Calls Tryz.prog 4 #[.string a0] w fun e w' => e = .returned (.bool true) ∧ Below w.heap.size w w' := by
  have hM := maxAt_of hsh
  have hT := tabs_of hL (by simp [Rows.fnExactReadPoolRow])
  have hE := errs_of hL (by simp [Rows.fnExactReadPoolRow]) (by simp [Rows.fnExactReadPoolRow])
  clear hL hsh
  have hs0 : (a0.size : Int) ≤ 9223372036854775807 := by unfold maxLen at w0; omega
  by_cases hb : 1048576 < (a0.size : Int)
  · go_enter Tryz.func4, Tryz.ntmps4
    go_wp2
    go_ret
    exact ⟨rfl, Below.refl _ _⟩
  · have hs : a0.size ≤ 1048576 := by omega
    have hsm := readQ_small a0
    obtain ⟨q, c, hv⟩ : ∃ q c, readQ a0 = (q, c) := ⟨_, _, rfl⟩
    have HSp := Lib.hid (fun W => show Calls Tryz.prog 11 #[.string a0] W (SaysQ q c W) from by have e := specReadPool_any a0 W hs; rw [hv] at e; exact e)
    have HIm := Lib.hid (fun W (hB : Below w.heap.size w W) => show Calls Tryz.prog 10 #[.string a0] W (SaysQO q c W) from by have e := implReadPool_any a0 W hs (hM.below hB) (hE.below hB) (hT.below Tryz.gPow hB); rw [hv] at e; exact e)
    rw [hv] at hsm
    simp only at hsm
    clear hv hM hE hT
    obtain ⟨m0, m1⟩ := hsm
    go_enter Tryz.func4, Tryz.ntmps4
    go_wp2_with fail
    refine (HSp.out w).mono ?_; rintro e u2 ⟨aS0, eS0, aS1, eS1, rfl, hin, _, hB⟩
    have hbx := boxed u2 (.cells #[.slice aS0 q.nums.length eS0, .slice aS1 q.drawn.length eS1, .int .i64 q.state] 26)
    have HX0 := Lib.hid (PoolV.boxed u2 aS0 q.nums.length eS0 aS1 q.drawn.length eS1 q 26)
    have HS0 := Lib.hid (hin.below hbx)
    have HB0 := Lib.hid (hB.trans (hbx.mono hB.size))
    clear hB hin hbx HSp
    have hbs : u2.heap.size < (u2.alloc (.cells #[.slice aS0 q.nums.length eS0, .slice aS1 q.drawn.length eS1, .int .i64 q.state] 26)).heap.size := by simp
    go_wp2_with fail
    obtain ⟨sb, hsb⟩ : ∃ sb, u2.heap.size = sb := ⟨_, rfl⟩
    rw [hsb] at HX0 hbs ⊢
    generalize u2.alloc (.cells #[.slice aS0 q.nums.length eS0, .slice aS1 q.drawn.length eS1, .int .i64 q.state] 26) = u3 at HX0 HS0 HB0 hbs ⊢
    clear hsb
    obtain ⟨s5, hs5⟩ : ∃ s5, u3.heap.size = s5 := ⟨_, rfl⟩
    have HS := Lib.hid (fun (W : World) (h : Below s5 u3 W) => HS0.out.below (by rw [hs5]; exact h)); have HX := Lib.hid (fun (W : World) (h : Below s5 u3 W) => HX0.out.below (by rw [hs5]; exact h)); have HFIN := Lib.hid (fun (W : World) (h : Below s5 u3 W) => HB0.out.trans ((show Below u3.heap.size u3 W by rw [hs5]; exact h).mono HB0.out.size))
    have E3 : Below s5 u3 u3 := Below.refl _ _
    have hu3 : s5 ≤ u3.heap.size := by omega
    refine (HIm.out u3 (HFIN.out _ E3)).mono ?_; rintro e u5 ⟨aG0, eG0, aG1, eG1, rfl, o0, o1, hA, n0, n1, hB⟩
    have E5 := from_step E3 hu3 hB
    have hcc5 : s5 ≤ u5.heap.size := by have := hB.size; omega
    rw [hs5] at o0 o1 n0 n1
    clear hB
    have hbx := boxed u5 (.cells #[.slice aG0 q.nums.length eG0, .slice aG1 q.drawn.length eG1, .int .i64 q.state] 26)
    have E6 := from_step E5 hu3 hbx
    have HG0 := Lib.hid (o0.below hbx); have HG1 := Lib.hid (o1.below hbx)
    have HXG := Lib.hid (PoolV.boxed u5 aG0 q.nums.length eG0 aG1 q.drawn.length eG1 q 26)
    have hgl : u5.heap.size < (u5.alloc (.cells #[.slice aG0 q.nums.length eG0, .slice aG1 q.drawn.length eG1, .int .i64 q.state] 26)).heap.size := by simp
    clear o0 o1 hbx
    obtain ⟨gb, hgb⟩ : ∃ gb, u5.heap.size = gb := ⟨_, rfl⟩
    have y := HXG.out; have x := HX.out _ E6
    rw [hgb] at y
    obtain ⟨y0, y1, y2⟩ := y
    obtain ⟨x0, x1, x2⟩ := x
    go_wp2_with fail
    clear x0 x1 x2 y0 y1 y2
    rw [hgb] at HXG hgl n0 n1 hcc5
    generalize u5.alloc (.cells #[.slice aG0 q.nums.length eG0, .slice aG1 q.drawn.length eG1, .int .i64 q.state] 26) = u6 at HXG HG0 HG1 E6 hgl ⊢
    clear hgb
    refine (eqPoolV_same aG0 q.nums.length eG0 aG1 q.drawn.length eG1 aS0 eS0 aS1 eS1 q u6 (ownP_in HG0.out HG1.out (by omega) (by omega)) (HS.out u6 E6)).mono ?_; rintro e v2 ⟨rfl, hB⟩
    have F2 := from_step E6 hu3 hB; have HG0b := Lib.hid (HG0.out.below hB); have HG1b := Lib.hid (HG1.out.below hB); have HXGb := Lib.hid (HXG.out.below hB)
    have hglb : gb < v2.heap.size := Nat.lt_of_lt_of_le hgl hB.size
    clear hB HG0 HG1 HXG
    obtain ⟨y0, y1, y2⟩ := HXGb.out
    go_wp2_with fail
    clear y0 y1 y2
    refine (markPoolV_any s5 aG0 q.nums.length eG0 aG1 q.drawn.length eG1 q _ _ 1 v2 (by omega) (by omega) (by omega) (by omega) HG0b.out HG1b.out hA).mono ?_; rintro e v3 ⟨rfl, k0, k1, hT⟩
    have hE := F2.size
    have F3 := F2.trans ((hT.below (by omega)).mono (show s5 ≤ s5 by omega))
    have HK0 := Lib.hid k0; have HK1 := Lib.hid k1
    have HXGc := Lib.hid (HXGb.out.turn hT hglb (.inr (.inr fun x hx => by
      simp at hx
      rcases hx with hx | hx
      · have := (n0 x hx.symm).2; omega
      · have := (n1 x hx.symm).2; omega)))
    clear hT hE k0 k1 HG0b HG1b HXGb
    obtain ⟨y0, y1, y2⟩ := HXGc.out
    go_wp2_with fail
    clear y0 y1 y2
    refine (heldPoolV_any s5 aG0 q.nums.length eG0 aG1 q.drawn.length eG1 q 1 v3 (by omega) (by omega) (by omega) (by omega) HK0.out HK1.out).mono ?_; rintro e v4 ⟨rfl, hB⟩
    have F4 := from_step F3 hu3 hB; have HK05 := Lib.hid (HK0.out.below hB); have HK15 := Lib.hid (HK1.out.below hB); have HXG5 := Lib.hid (HXGc.out.below hB)
    clear hB HK0 HK1 HXGc
    go_wp2_with fail
    refine (HIm.out v4 (HFIN.out _ F4)).mono ?_; rintro e v6 ⟨aH0, eH0, aH1, eH1, rfl, o0, o1, _, _, _, hB⟩
    have hin := ownP_in o0 o1 (by omega) (by omega)
    have hbx := boxed v6 (.cells #[.slice aH0 q.nums.length eH0, .slice aH1 q.drawn.length eH1, .int .i64 q.state] 26)
    have HH := Lib.hid (hin.below hbx)
    have HXH := Lib.hid (PoolV.boxed v6 aH0 q.nums.length eH0 aH1 q.drawn.length eH1 q 26)
    have hB2 := hB.trans (hbx.mono hB.size)
    have F6 := from_step F4 hu3 hB2; have HK06 := Lib.hid (HK05.out.below hB2); have HK16 := Lib.hid (HK15.out.below hB2); have HXG6 := Lib.hid (HXG5.out.below hB2)
    clear hB hB2 hbx hin o0 o1 HK05 HK15 HXG5
    obtain ⟨hb6, hhb6⟩ : ∃ hb6, v6.heap.size = hb6 := ⟨_, rfl⟩
    have y := HXH.out
    rw [hhb6] at y
    obtain ⟨y0, y1, y2⟩ := y
    have x := HX.out _ F6
    obtain ⟨x0, x1, x2⟩ := x
    go_wp2_with fail
    clear x0 x1 x2 y0 y1 y2
    generalize v6.alloc (.cells #[.slice aH0 q.nums.length eH0, .slice aH1 q.drawn.length eH1, .int .i64 q.state] 26) = v7 at HH HXH HK06 HK16 HXG6 F6 ⊢
    refine (eqPoolV_same aH0 q.nums.length eH0 aH1 q.drawn.length eH1 aS0 eS0 aS1 eS1 q v7 HH.out (HS.out v7 F6)).mono ?_; rintro e v8 ⟨rfl, hB⟩
    have F8 := from_step F6 hu3 hB; have HK08 := Lib.hid (HK06.out.below hB); have HK18 := Lib.hid (HK16.out.below hB); have HXG8 := Lib.hid (HXG6.out.below hB)
    clear hB HK06 HK16 HXG6 HH
    obtain ⟨y0, y1, y2⟩ := HXG8.out
    go_wp2_with fail
    clear y0 y1 y2
    refine (heldPoolV_any s5 aG0 q.nums.length eG0 aG1 q.drawn.length eG1 q 1 v8 (by omega) (by omega) (by omega) (by omega) HK08.out HK18.out).mono ?_; rintro e v9 ⟨rfl, hB⟩
    have F9 := from_step F8 hu3 hB
    clear hB
    go_wp2_with fail
    go_ret
    exact ⟨rfl, HFIN.out _ F9⟩

/-- A start that fits: the heap that the variables' own initialisers leave (and the pinned table, where the row lists one). -/
theorem laid_met (os : Os) : laidMetH Tryz.prog Rows.fnExactReadPoolRow.laid ((doorWorldP os).forCall (fun _ _ => 0) ⟨#[], #[.string ByteArray.empty], []⟩).memory :=
  laidMetH_of_parts3 (fuel := 8) (laidMet_of_run' 8 (by kernel_rfl) (by kernel_rfl)) (by kernel_rfl) (by kernel_rfl)
theorem reads (os : Os) {H : Type} (enc : TypeId × Value → H) : DataW.whole enc Tryz.prog ((doorWorldP os).forCall (fun _ _ => 0) ⟨#[], #[.string ByteArray.empty], []⟩).memory Tryz.f4.params.toList Rows.fnExactReadPoolSpec.vars false (#[.string ByteArray.empty] : Array Value).toList 8 = some ([.lit (.string [])], [], []) :=
  by kernel_rfl

set_option maxRecDepth 100000 in
theorem lifted (os : Os) (started : os.Started) (H : Type) (enc : TypeId × Value → H) (F : Stop.Interp) :
    ReturnsInHanded {} Tryz.checked os 4 .any ((OpenSpec.ofChange Rows.fnExactReadPoolSpec).preRow enc Tryz.prog Tryz.f4 Rows.fnExactReadPoolRow.domain false Rows.fnExactReadPoolRow.laid) (((OpenSpec.ofChange Rows.fnExactReadPoolSpec).at F).post enc Tryz.prog Tryz.f4 false true false false) := by
  refine returnsInHanded_of_row (C := Tryz.checked) (s := OpenSpec.ofChange Rows.fnExactReadPoolSpec) own started (by kernel_rfl) Tryz.func4
    (witness_row_atRef (enc := enc) (C := Tryz.checked) false (doorWorldP os) #[.string ByteArray.empty] rfl (by kernel_rfl) (by kernel_rfl) (by kernel_rfl)
      (OpenSpec.preRow_of_cond 8 (reads os enc) (by kernel_rfl) (fun k hk => by cases hk) (by kernel_rfl) (laid_met os))) ?_
  intro W base args ds gs before hval0 hW _ _ _ hL hsh _
  have hval : ∀ (j : Nat) t v, Tryz.f4.params[j]? = some t → args[j]? = some v → Value.okWide Tryz.prog W .any base t v := hval0
  have hW' := hW
  obtain ⟨p, q, hA0, hV, rfl, hfz, hnd⟩ := hW
  have hA : DataW.TrodAll enc Tryz.prog W 0 (fun _ => true) true Tryz.f4.params.toList args.toList ds p := hA0
  rw [Tryz.params4] at hA hval
  obtain ⟨v0, vs0, d0, ds0, p0, q0, hargs, rfl, rfl, h0, r0⟩ := trodAll_cons hA
  obtain ⟨rfl, rfl, rfl⟩ := trodAll_nil r0
  obtain rfl : args = #[v0] := by cases args; simp_all
  obtain ⟨rfl, rfl⟩ := trodVars_none hV
  obtain ⟨a0, rfl, rfl, rfl, w0⟩ := open_string Tryz.underlying9 (hval 0 9 v0 rfl rfl) h0
  clear hA0 hval0
  refine (walk W hL hsh a0 w0).mono fun e W' ⟨he, bel⟩ => ?_
  subst he
  exact ⟨_, rfl, _, _, _, [], _, [], hW', trodAll_mk1 (shut_bool Tryz.underlying4 _), (trodAll_cons_mk (shut_string Tryz.underlying9 w0) trodAll_mk0), rfl, bel.frame _, fun h => by cases h⟩

theorem said : Rows.FnExactReadPoolSaid :=
  OpenClaim.holds_of_cond 4 Tryz.f4 rfl rfl rfl rfl rfl rfl rfl ⟨rfl, rfl, rfl, rfl, rfl⟩ rfl rfl rfl rfl rfl (by kernel_rfl) Tryz.func4 (by kernel_rfl)
    (of_decide_eq_true (by kernel_rfl)) (by unfold Func.isWrapper; first | (rw [if_pos (by decide +kernel)]; kernel_rfl) | (rw [if_neg (by decide +kernel)]; exact ⟨rfl, rfl⟩))
    (fun os started H enc _ F => by rw [OpenClaim.pre_eq_preRow]; exact lifted os started H enc F)

/-- The statement: the tied card. -/
theorem proved : Rows.FnExactReadPoolCardSaid :=
  Claim7.holds_tied_plain_at .later [] _ _ _ _ said (fun _ h => by cases h) (by kernel_rfl) (fun _ h => by cases h) fnExactReadPool_row_tie rfl ⟨rfl, rfl⟩ (by kernel_rfl) rfl
    (fun f fn hf hfn => by
      obtain rfl : f = 4 := Option.some.inj ((show Tryz.prog.funcNamed "loop.example/g01027/laws.FnExactReadPool" = some 4 by kernel_rfl).symm.trans hf) |>.symm
      obtain rfl : fn = Tryz.f4 := (Option.some.inj (Tryz.func4.symm.trans hfn)).symm
      exact ⟨by kernel_rfl, fun j t ht => by
        rw [Tryz.params4] at ht
        have hm : t ∈ [9] := by simpa using Array.mem_of_getElem? ht
        have hall : ([9].all fun u => !Tryz.prog.wantsStandIn u) = true := by kernel_rfl
        exact (show Tryz.prog.wantsStandIn t = false by simpa using List.all_eq_true.1 hall t hm)⟩)
    (by kernel_rfl)
end Go.Proofs.YtmpopfcnjgcncaaGreatDoor.fnExactReadPool
