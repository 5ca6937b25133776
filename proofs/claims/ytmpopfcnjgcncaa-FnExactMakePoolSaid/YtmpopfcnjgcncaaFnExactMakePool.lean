/- Proved: for every list of numbers and every state, laws.FnExactMakePool returns true and leaves its arguments as they were: impl.MakePool answers as its model, in memory of its own. No condition. -/
import Derived.Test.YtmpopfcnjgcncaaRows
import Derived.WalkKit
import Derived.ProofKit
import Derived.OpenShut
import Derived.ShutString
import Derived.ChangeOld
import Derived.Below
import Derived.SliceStrings
import Derived.Lib.Hide
import Derived.Test.YtmpopfcnjgcncaaBase
import Derived.Test.YtmpopfcnjgcncaaPure2
import Derived.Test.YtmpopfcnjgcncaaPure30
import Derived.Test.YtmpopfcnjgcncaaPure40
import Derived.Test.YtmpopfcnjgcncaaPure80
import Derived.Test.YtmpopfcnjgcncaaMarkI
import Derived.Test.YtmpopfcnjgcncaaEqInt
import Derived.Test.YtmpopfcnjgcncaaIntL
import Derived.Test.YtmpopfcnjgcncaaBuildI
import Derived.Test.YtmpopfcnjgcncaaBuild8
import Derived.Test.YtmpopfcnjgcncaaRowV
import Derived.Test.YtmpopfcnjgcncaaPoolA
import Derived.Test.YtmpopfcnjgcncaaPoolB
import Derived.Test.YtmpopfcnjgcncaaSpec80
import Derived.Test.YtmpopfcnjgcncaaSpec81
import Derived.Test.YtmpopfcnjgcncaaLaw8
import Derived.Test.YtmpopfcnjgcncaaImpl8f
namespace Go.Proofs.Ytmpopfcnjgcncaa.fnExactMakePool
open Go.ChangeShapes Go.WideShapes Go.ChangeAt Go.RowKit
open Go.ChangeMaps (open_string shut_string)
open Pure2 Pure30 Pure40 Pure80 Rec
set_option linter.unusedVariables false

theorem own : ownKnob Try.prog.godebug = none := by kernel_rfl
theorem laidOut : laidOutB Try.prog = true := by kernel_rfl

/-- What the walk is told of a slice of integers that came in: it is nil, or it leads to a row of cap cells, the numbers zs. -/
def IsRow (k : IntKind) (w : World) (a : Option Addr) (len cap : Nat) (zs : List Int) : Prop :=
  (a = none ∧ len = 0 ∧ cap = 0 ∧ zs = []) ∨
  ∃ x, a = some x ∧ len ≤ cap ∧ cap ≤ maxLen ∧ zs.length = cap ∧ (∀ i, i < zs.length → w.cell? (x.add i) = some (.int k (zs.getD i 0))) ∧ ∀ n ∈ zs, (Lit.int k n).wf = true

set_option maxRecDepth 100000 in
set_option maxHeartbeats 4000000 in
theorem walk (w : World) (a0 : Option Addr) (len0 cap0 : Nat) (z0 : List Int) (w0 : IsRow .i64 w a0 len0 cap0 z0) (a1 : Int) (w1 : (Lit.int .i64 a1).wf = true) :
    Calls Try.prog 6 #[.slice a0 len0 cap0, .int .i64 a1] w fun e w' => e = .returned (.bool true) ∧ Below w.heap.size w w' := by
  obtain ⟨hl, hm, hI⟩ := ints_of_row w0
  generalize z0.take len0 = zs at hl hI
  have hM := hm
  unfold maxLen at hm
  by_cases hb : 1048576 < (len0 : Int)
  · clear hl hI w0
    go_enter Try.func6, Try.ntmps6
    go_wp2
    go_ret
    exact ⟨rfl, Below.refl _ _⟩
  · have HL := Lib.hid hl; have HI := Lib.hid hI; clear hl hI w0
    have hsm := makeR_small zs a1
    obtain ⟨q, c, hv⟩ : ∃ q c, makeR zs a1 = (q, c) := ⟨_, _, rfl⟩
    have HSp := Lib.hid (fun b W (h : IntsAt W (some ⟨b, 0, none⟩) zs) => show Calls Try.prog 21 #[.slice (some ⟨b, 0, none⟩) len0 len0, .int .i64 a1] W (SaysNewP q c W) from by have e := specMake8_any (some ⟨b, 0, none⟩) len0 len0 zs a1 W ⟨HL.out, hM, h⟩ (fun e => by cases e) (by omega); rw [hv] at e; exact e.mono fun _ _ hh => hh.newP)
    have HIm := Lib.hid (fun b W (h : IntsAt W (some ⟨b, 0, none⟩) zs) => show Calls Try.prog 20 #[.slice (some ⟨b, 0, none⟩) len0 len0, .int .i64 a1] W (SaysNewP q c W) from by have e := implMake8_any (some ⟨b, 0, none⟩) len0 len0 zs a1 W ⟨HL.out, hM, h⟩ (fun e => by cases e) (by omega); rw [hv] at e; exact e.mono fun _ _ hh => hh.newP)
    rw [hv] at hsm
    simp only at hsm
    clear hv
    obtain ⟨m0, m1⟩ := hsm
    go_enter Try.func6, Try.ntmps6
    go_wp2_with fail
    refine (Rec.toInt64W_any _ _ _ zs _ HL.out (by omega) HI.out).mono ?_; rintro e u1 ⟨b1, rfl, _, _, _, hI1, hB⟩
    have HB := Lib.hid hB; clear hB
    go_wp2_with fail
    refine (HSp.out b1 u1 hI1).mono ?_; rintro e u2 ⟨aS0, eS0, aS1, eS1, rfl, o0, o1, _, _, _, hB⟩
    have hin := ownP_in o0 o1 (by omega) (by omega)
    have hbx := boxed u2 (.cells #[.slice aS0 q.nums.length eS0, .slice aS1 q.drawn.length eS1, .int .i64 q.state] 26)
    have HX0 := Lib.hid (PoolV.boxed u2 aS0 q.nums.length eS0 aS1 q.drawn.length eS1 q 26)
    have HS0 := Lib.hid (hin.below hbx)
    have HB0 := Lib.hid (HB.out.trans ((hB.trans (hbx.mono hB.size)).mono HB.out.size))
    clear hB hI1 o0 o1 hin hbx HB
    have hbs : u2.heap.size < (u2.alloc (.cells #[.slice aS0 q.nums.length eS0, .slice aS1 q.drawn.length eS1, .int .i64 q.state] 26)).heap.size := by simp
    go_wp2_with fail
    obtain ⟨sb, hsb⟩ : ∃ sb, u2.heap.size = sb := ⟨_, rfl⟩
    rw [hsb] at HX0 hbs ⊢
    generalize u2.alloc (.cells #[.slice aS0 q.nums.length eS0, .slice aS1 q.drawn.length eS1, .int .i64 q.state] 26) = u3 at HX0 HS0 HB0 hbs ⊢
    clear hsb
    obtain ⟨s5, hs5⟩ : ∃ s5, u3.heap.size = s5 := ⟨_, rfl⟩
    have HS := Lib.hid (fun (W : World) (h : Below s5 u3 W) => HS0.out.below (by rw [hs5]; exact h)); have HX := Lib.hid (fun (W : World) (h : Below s5 u3 W) => HX0.out.below (by rw [hs5]; exact h)); have HFIN := Lib.hid (fun (W : World) (h : Below s5 u3 W) => HB0.out.trans ((show Below u3.heap.size u3 W by rw [hs5]; exact h).mono HB0.out.size)); have HIE := Lib.hid (fun (W : World) (h : Below s5 u3 W) => HI.out.below (HFIN.out W h))
    have E3 : Below s5 u3 u3 := Below.refl _ _
    have hu3 : s5 ≤ u3.heap.size := by omega
    refine (Rec.toInt64W_any _ _ _ zs _ HL.out (by omega) (HIE.out _ E3)).mono ?_; rintro e u4 ⟨bx, rfl, hbx1, hbx2, hox, hIx, hB⟩
    have E4 := from_step E3 hu3 hB
    have HOX := Lib.hid (Rec.ownI_mono hox (show s5 ≤ u3.heap.size by omega))
    clear hox hB
    go_wp2_with fail
    refine (HIm.out bx u4 hIx).mono ?_; rintro e u5 ⟨aG0, eG0, aG1, eG1, rfl, o0, o1, hA, n0, n1, hB⟩
    have E5 := from_step E4 hu3 hB
    have HOX5 := Lib.hid (HOX.out.below hB)
    obtain ⟨cc, hcc⟩ : ∃ cc, u4.heap.size = cc := ⟨_, rfl⟩
    rw [hcc] at o0 o1 n0 n1 hbx2
    have hcc5 : cc ≤ u5.heap.size := by rw [← hcc]; exact hB.size
    have hbx5 : s5 ≤ bx := by omega
    clear hB hIx hbx1
    have hbx := boxed u5 (.cells #[.slice aG0 q.nums.length eG0, .slice aG1 q.drawn.length eG1, .int .i64 q.state] 26)
    have E6 := from_step E5 hu3 hbx
    have HOX6 := Lib.hid (HOX5.out.below hbx)
    have HG0 := Lib.hid (o0.below hbx); have HG1 := Lib.hid (o1.below hbx)
    have HXG := Lib.hid (PoolV.boxed u5 aG0 q.nums.length eG0 aG1 q.drawn.length eG1 q 26)
    have hgl : u5.heap.size < (u5.alloc (.cells #[.slice aG0 q.nums.length eG0, .slice aG1 q.drawn.length eG1, .int .i64 q.state] 26)).heap.size := by simp
    clear o0 o1 hbx
    obtain ⟨gb, hgb⟩ : ∃ gb, u5.heap.size = gb := ⟨_, rfl⟩
    have y := HXG.out; have x := HX.out _ E6
    rw [hgb] at y
    obtain ⟨y0, y1, y2⟩ := y
    obtain ⟨x0, x1, x2⟩ := x
    go_wp2_with fail
    clear x0 x1 x2 y0 y1 y2
    rw [hgb] at HXG hgl n0 n1 hcc5
    generalize u5.alloc (.cells #[.slice aG0 q.nums.length eG0, .slice aG1 q.drawn.length eG1, .int .i64 q.state] 26) = u6 at HXG HG0 HG1 HOX6 E6 hgl ⊢
    clear hgb
    refine (eqPoolV_same aG0 q.nums.length eG0 aG1 q.drawn.length eG1 aS0 eS0 aS1 eS1 q u6 (ownP_in HG0.out HG1.out (by omega) (by omega)) (HS.out u6 E6)).mono ?_; rintro e u7 ⟨rfl, hB⟩
    have E7 := from_step E6 hu3 hB; have HOX7 := Lib.hid (HOX6.out.below hB); have HG07 := Lib.hid (HG0.out.below hB); have HG17 := Lib.hid (HG1.out.below hB); have HXG7 := Lib.hid (HXG.out.below hB)
    have hgl7 : gb < u7.heap.size := Nat.lt_of_lt_of_le hgl hB.size
    clear hB HG0 HG1 HXG HOX6 HOX5
    go_wp2_with fail
    refine (Rec.toInt64W_any _ _ _ zs _ HL.out (by omega) (HIE.out _ E7)).mono ?_; rintro e u8 ⟨by8, rfl, _, _, _, hIy, hB⟩
    have E8 := from_step E7 hu3 hB; have HOX8 := Lib.hid (HOX7.out.below hB); have HG08 := Lib.hid (HG07.out.below hB); have HG18 := Lib.hid (HG17.out.below hB); have HXG8 := Lib.hid (HXG7.out.below hB)
    have hgl8 : gb < u8.heap.size := Nat.lt_of_lt_of_le hgl7 hB.size
    clear hB HG07 HG17 HXG7 HOX7
    go_wp2_with fail
    have hrx : IntsAt u8 (some ⟨bx, 0, none⟩) zs := ownI_reads (by rw [HL.out]; exact HOX8.out)
    refine (sameB (eqInt64S_any _ _ _ _ _ _ zs zs _ HL.out HL.out hM hM hrx hIy)).mono ?_; rintro e u9 ⟨rfl, hB⟩
    have E9 := from_step E8 hu3 hB; have HOX9 := Lib.hid (HOX8.out.below hB); have HG09 := Lib.hid (HG08.out.below hB); have HG19 := Lib.hid (HG18.out.below hB); have HXG9 := Lib.hid (HXG8.out.below hB)
    have hgl9 : gb < u9.heap.size := Nat.lt_of_lt_of_le hgl8 hB.size
    clear hB HG08 HG18 HXG8 HOX8 hrx hIy
    go_wp2_with fail
    refine (markInt_any s5 cc (some ⟨bx, 0, none⟩) len0 len0 _ 1 u9 (by omega) (by omega) (by omega) HOX9.out (fun x hx _ => by cases hx; exact hbx2)).mono ?_; rintro e v1 ⟨rfl, _, hT⟩
    have hE := E9.size
    have F1 := E9.trans (hT.below (by omega))
    have HG0a := Lib.hid (ownI_past HG09.out hT (fun x hx => by cases List.mem_singleton.1 hx; exact hbx2)); have HG1a := Lib.hid (ownI_past HG19.out hT (fun x hx => by cases List.mem_singleton.1 hx; exact hbx2))
    have HXGa := Lib.hid (HXG9.out.turn hT hgl9 (.inr (.inl hcc5)))
    have hgla : gb < v1.heap.size := Nat.lt_of_lt_of_le hgl9 hT.2.2.2.1
    clear hT hE HG09 HG19 HXG9 HOX9
    have x := HX.out _ F1
    obtain ⟨y0, y1, y2⟩ := HXGa.out
    obtain ⟨x0, x1, x2⟩ := x
    go_wp2_with fail
    clear x0 x1 x2 y0 y1 y2
    refine (eqPoolV_same aG0 q.nums.length eG0 aG1 q.drawn.length eG1 aS0 eS0 aS1 eS1 q v1 (ownP_in HG0a.out HG1a.out (by omega) (by omega)) (HS.out v1 F1)).mono ?_; rintro e v2 ⟨rfl, hB⟩
    have F2 := from_step F1 hu3 hB; have HG0b := Lib.hid (HG0a.out.below hB); have HG1b := Lib.hid (HG1a.out.below hB); have HXGb := Lib.hid (HXGa.out.below hB)
    have hglb : gb < v2.heap.size := Nat.lt_of_lt_of_le hgla hB.size
    clear hB HG0a HG1a HXGa
    obtain ⟨y0, y1, y2⟩ := HXGb.out
    go_wp2_with fail
    clear y0 y1 y2
    refine (markPoolV_any cc aG0 q.nums.length eG0 aG1 q.drawn.length eG1 q _ _ 1 v2 (by omega) (by omega) (by omega) (by omega) HG0b.out HG1b.out hA).mono ?_; rintro e v3 ⟨rfl, k0, k1, hT⟩
    have hE := F2.size
    have F3 := F2.trans ((hT.below (by omega)).mono (show s5 ≤ cc by omega))
    have HK0 := Lib.hid k0; have HK1 := Lib.hid k1
    have HXGc := Lib.hid (HXGb.out.turn hT hglb (.inr (.inr fun x hx => by
      simp at hx
      rcases hx with hx | hx
      · have := (n0 x hx.symm).2; omega
      · have := (n1 x hx.symm).2; omega)))
    clear hT hE k0 k1 HG0b HG1b HXGb
    obtain ⟨y0, y1, y2⟩ := HXGc.out
    go_wp2_with fail
    clear y0 y1 y2
    refine (heldPoolV_any cc aG0 q.nums.length eG0 aG1 q.drawn.length eG1 q 1 v3 (by omega) (by omega) (by omega) (by omega) HK0.out HK1.out).mono ?_; rintro e v4 ⟨rfl, hB⟩
    have F4 := from_step F3 hu3 hB; have HK04 := Lib.hid (HK0.out.below hB); have HK14 := Lib.hid (HK1.out.below hB); have HXG4 := Lib.hid (HXGc.out.below hB)
    clear hB HK0 HK1 HXGc
    go_wp2_with fail
    refine (Rec.toInt64W_any _ _ _ zs _ HL.out (by omega) (HIE.out _ F4)).mono ?_; rintro e v5 ⟨b5, rfl, _, _, _, hI5, hB⟩
    have F5 := from_step F4 hu3 hB; have HK05 := Lib.hid (HK04.out.below hB); have HK15 := Lib.hid (HK14.out.below hB); have HXG5 := Lib.hid (HXG4.out.below hB)
    clear hB HK04 HK14 HXG4
    go_wp2_with fail
    refine (HIm.out b5 v5 hI5).mono ?_; rintro e v6 ⟨aH0, eH0, aH1, eH1, rfl, o0, o1, _, _, _, hB⟩
    have hin := ownP_in o0 o1 (by omega) (by omega)
    have hbx := boxed v6 (.cells #[.slice aH0 q.nums.length eH0, .slice aH1 q.drawn.length eH1, .int .i64 q.state] 26)
    have HH := Lib.hid (hin.below hbx)
    have HXH := Lib.hid (PoolV.boxed v6 aH0 q.nums.length eH0 aH1 q.drawn.length eH1 q 26)
    have hB2 := hB.trans (hbx.mono hB.size)
    have F6 := from_step F5 hu3 hB2; have HK06 := Lib.hid (HK05.out.below hB2); have HK16 := Lib.hid (HK15.out.below hB2); have HXG6 := Lib.hid (HXG5.out.below hB2)
    clear hB hB2 hbx hin o0 o1 hI5 HK05 HK15 HXG5
    obtain ⟨hb6, hhb6⟩ : ∃ hb6, v6.heap.size = hb6 := ⟨_, rfl⟩
    have y := HXH.out
    rw [hhb6] at y
    obtain ⟨y0, y1, y2⟩ := y
    have x := HX.out _ F6
    obtain ⟨x0, x1, x2⟩ := x
    go_wp2_with fail
    clear x0 x1 x2 y0 y1 y2
    generalize v6.alloc (.cells #[.slice aH0 q.nums.length eH0, .slice aH1 q.drawn.length eH1, .int .i64 q.state] 26) = v7 at HH HXH HK06 HK16 HXG6 F6 ⊢
    refine (eqPoolV_same aH0 q.nums.length eH0 aH1 q.drawn.length eH1 aS0 eS0 aS1 eS1 q v7 HH.out (HS.out v7 F6)).mono ?_; rintro e v8 ⟨rfl, hB⟩
    have F8 := from_step F6 hu3 hB; have HK08 := Lib.hid (HK06.out.below hB); have HK18 := Lib.hid (HK16.out.below hB); have HXG8 := Lib.hid (HXG6.out.below hB)
    clear hB HK06 HK16 HXG6 HH
    obtain ⟨y0, y1, y2⟩ := HXG8.out
    go_wp2_with fail
    clear y0 y1 y2
    refine (heldPoolV_any cc aG0 q.nums.length eG0 aG1 q.drawn.length eG1 q 1 v8 (by omega) (by omega) (by omega) (by omega) HK08.out HK18.out).mono ?_; rintro e v9 ⟨rfl, hB⟩
    have F9 := from_step F8 hu3 hB
    clear hB
    go_wp2_with fail
    go_ret
    exact ⟨rfl, HFIN.out _ F9⟩

set_option maxRecDepth 100000 in
theorem lifted (os : Os) (started : os.Started) (H : Type) (enc : TypeId × Value → H) :
    ReturnsInHanded {} Try.checked os 6 .any (Rows.fnExactMakePoolSpec.pre6 enc Try.prog Try.f6 Rows.fnExactMakePoolRow.domain false) (Rows.fnExactMakePoolSpec.post enc Try.prog Try.f6 false true false false) := by
  refine returnsInHanded_of_change (C := Try.checked) own started (by kernel_rfl) Try.func6
    (ChangeSpec.witness6 (enc := enc) (C := Try.checked) false ⟨#[], #[.slice none 0 0, .int .i64 0], []⟩ 8 (by kernel_rfl) (by kernel_rfl) (by kernel_rfl) (by kernel_rfl)) ?_
  intro W base args ds gs before hval0 hW hcnd _
  have hval : ∀ (j : Nat) t v, Try.f6.params[j]? = some t → args[j]? = some v → Value.okWide Try.prog W .any base t v := hval0
  have hW' := hW
  obtain ⟨p, q, hA0, hV, rfl, hfz, hnd⟩ := hW
  have hA : DataW.TrodAll enc Try.prog W 0 (fun _ => true) true Try.f6.params.toList args.toList ds p := hA0
  rw [Try.params6] at hA hval
  obtain ⟨v0, vs0, d0, ds0, p0, q0, hargs, rfl, rfl, h0, r0⟩ := trodAll_cons hA
  obtain ⟨v1, vs1, d1, ds1, p1, q1, rfl, rfl, rfl, h1, r1⟩ := trodAll_cons r0
  obtain ⟨rfl, rfl, rfl⟩ := trodAll_nil r1
  obtain rfl : args = #[v0, v1] := by cases args; simp_all
  obtain ⟨rfl, rfl⟩ := trodVars_none hV
  obtain ⟨a0, len0, cap0, rfl⟩ := okWide_slice Try.underlying24 (hval 0 24 v0 rfl rfl)
  have k0 := h0
  have lt0 : ∀ x ∈ p0, x.block < W.heap.size := by obtain ⟨m, hm⟩ := k0; exact DataW.trod_lt m _ _ _ hm
  obtain ⟨z0, w0⟩ : ∃ zs, IsRow .i64 W a0 len0 cap0 zs := by
    obtain ⟨fuel, hf⟩ := h0
    rcases open_ints Try.underlying24 Try.underlying2 (by kernel_rfl) hf with ⟨hcs, _⟩ | ⟨x, l, c, zs, hcs, _, hl, hm, hz, _, hcell, hwz⟩
    · simp [Value.cells] at hcs
      obtain ⟨rfl, rfl, rfl⟩ := hcs
      exact ⟨[], .inl ⟨rfl, rfl, rfl, rfl⟩⟩
    · simp [Value.cells] at hcs
      obtain ⟨rfl, rfl, rfl⟩ := hcs
      exact ⟨zs, .inr ⟨_, rfl, hl, hm, by simpa using hz, hcell, hwz⟩⟩
  obtain ⟨a1, rfl, rfl, rfl, w1⟩ := open_int Try.underlying2 (hval 1 2 v1 rfl rfl) h1
  clear hA0 hval0
  refine (walk W a0 len0 cap0 z0 w0 a1 w1).mono fun e W' ⟨he, bel⟩ => ?_
  subst he
  exact ⟨_, rfl, _, _, _, [], _, [], hW', trodAll_mk1 (shut_bool Try.underlying4 _), (trodAll_cons_mk (Below.trod laidOut (by kernel_rfl) (of_decide_eq_true (by kernel_rfl)) k0 bel lt0) (trodAll_cons_mk (shut_int Try.underlying2 w1) trodAll_mk0)), rfl, bel.frame _, fun h => by cases h⟩

theorem over : Rows.fnExactMakePoolRow.holds Try.pinned (OpenSpec.ofChange Rows.fnExactMakePoolSpec) :=
  OpenClaim.holds_of_wide 6 Try.f6 rfl rfl rfl rfl rfl rfl rfl ⟨rfl, rfl, rfl, rfl, rfl⟩ rfl rfl rfl rfl rfl (by kernel_rfl) Try.func6 (by kernel_rfl)
    (of_decide_eq_true (by kernel_rfl)) (by unfold Func.isWrapper; first | (rw [if_pos (by decide +kernel)]; kernel_rfl) | (rw [if_neg (by decide +kernel)]; exact ⟨rfl, rfl⟩))
    (fun os started H enc _ => lifted os started H enc)

/-- The statement. -/
theorem proved : Rows.FnExactMakePoolSaid := over
end Go.Proofs.Ytmpopfcnjgcncaa.fnExactMakePool
