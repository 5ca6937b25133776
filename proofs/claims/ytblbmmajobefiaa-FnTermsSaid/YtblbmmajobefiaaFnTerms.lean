/- Proved: for every code, laws.FnTerms returns true and leaves its argument as it was: once rested a person stays so until they serve again, nobody serves twice on a day, and the answers of chapter 7 are those of their models. No condition. -/
import Derived.Test.YtblbmmajobefiaaRows
import Derived.WalkKit
import Derived.ProofKit
import Derived.OpenShut
import Derived.ShutString
import Derived.ChangeOld
import Derived.Below
import Derived.SliceStrings
import Derived.Lib.Hide
import Derived.Test.YtblbmmajobefiaaBase
import Derived.Test.YtblbmmajobefiaaPure6
import Derived.Test.YtblbmmajobefiaaPure70
import Derived.Test.YtblbmmajobefiaaPure71
import Derived.Test.YtblbmmajobefiaaTermA
import Derived.Test.YtblbmmajobefiaaTermB
import Derived.Test.YtblbmmajobefiaaTermM
import Derived.Test.YtblbmmajobefiaaTermC
import Derived.Test.YtblbmmajobefiaaTermD
import Derived.Test.YtblbmmajobefiaaBig
import Derived.Test.YtblbmmajobefiaaSpec7
import Derived.Test.YtblbmmajobefiaaSpec7b
import Derived.Test.YtblbmmajobefiaaAdd7
import Derived.Test.YtblbmmajobefiaaLaw7
import Derived.Test.YtblbmmajobefiaaImpl7a
import Derived.Test.YtblbmmajobefiaaImpl7b
import Derived.Test.YtblbmmajobefiaaImpl7d
import Derived.Test.YtblbmmajobefiaaDrawT7a
import Derived.Test.YtblbmmajobefiaaDrawT7c
import Derived.Test.YtblbmmajobefiaaDrawT7d
import Derived.Test.YtblbmmajobefiaaLikeT7
namespace Go.Proofs.Ytblbmmajobefiaa.fnTerms
open Go.ChangeShapes Go.WideShapes Go.ChangeAt Go.RowKit
open Go.ChangeMaps (open_string shut_string)
open Pure2 Pure6 Pure20 Pure40
set_option linter.unusedVariables false

theorem own : ownKnob Try.prog.godebug = none := by kernel_rfl
theorem laidOut : laidOutB Try.prog = true := by kernel_rfl

/-- What the walk is told of a slice of integers that came in: it is nil, or it leads to a row of cap cells, the numbers zs. -/
def IsRow (k : IntKind) (w : World) (a : Option Addr) (len cap : Nat) (zs : List Int) : Prop :=
  (a = none ∧ len = 0 ∧ cap = 0 ∧ zs = []) ∨
  ∃ x, a = some x ∧ len ≤ cap ∧ cap ≤ maxLen ∧ zs.length = cap ∧ (∀ i, i < zs.length → w.cell? (x.add i) = some (.int k (zs.getD i 0))) ∧ ∀ n ∈ zs, (Lit.int k n).wf = true

set_option maxRecDepth 100000 in
set_option maxHeartbeats 4000000 in
theorem walk (w : World) (a0 : Option Addr) (len0 cap0 : Nat) (z0 : List Int) (w0 : IsRow .u8 w a0 len0 cap0 z0) :
    Calls Try.prog 3 #[.slice a0 len0 cap0] w fun e w' => e = .returned (.bool true) ∧ Below w.heap.size w w' := by
  obtain ⟨hl, hY⟩ := bytes_of_row w0
  generalize z0.take len0 = bs at hl hY
  have HL := Lib.hid hl; have HY := Lib.hid hY; clear hl hY w0
  have HBig := Lib.hid (lawsBig_any a0 len0 cap0 w)
  by_cases hb : 4096 < len0
  · rw [decide_eq_true hb] at HBig
    go_enter Try.func3, Try.ntmps3
    go_wp2_with fail
    refine HBig.out.mono ?_; rintro e w' ⟨rfl, rfl⟩
    go_wp2_with fail
    go_ret
    exact ⟨rfl, Below.refl _ _⟩
  · rw [decide_eq_false hb] at HBig
    have hm : len0 ≤ 4096 := by omega
    clear hb
    go_enter Try.func3, Try.ntmps3
    go_wp2_with fail
    refine HBig.out.mono ?_; rintro e w' ⟨rfl, rfl⟩
    clear HBig
    go_wp2_with fail
    refine (specDrawFrom_any a0 len0 cap0 bs w HL.out hm HY.out).mono ?_; rintro e u1 ⟨v1, ts1, n1, d1, rfl, ⟨⟨g1, cap1, rfl⟩, ho, hl1, hz, hB⟩, hn1, hd1⟩
    clear hz
    have HB := Lib.hid (hB)
    have hm1 : ts1.length ≤ maxLen := by unfold maxLen; omega
    have HR1 := Lib.hid (ho.reads)
    clear ho hB
    obtain ⟨f1, k1, h1⟩ : ∃ f k, restFromR ts1 n1 d1 = (f, k) := ⟨_, _, rfl⟩
    have HFF := Lib.hid (from_facts h1)
    have C1 := Lib.hid (fun W (hx : Term.ListAt W (some ⟨g1, 0, none⟩) ts1) => show Calls Try.prog 15 #[.slice (some ⟨g1, 0, none⟩) ts1.length cap1, .int .i64 n1, .int .i64 d1] W (fun e w' => e = .returned (.tuple #[.int .i64 f1, .int .i64 k1]) ∧ Below W.heap.size W w') from by have e := implRestedFrom_any (some ⟨g1, 0, none⟩) ts1.length cap1 ts1 n1 d1 W rfl hm1 hx; rw [h1] at e; exact e)
    have C2 := Lib.hid (fun W (hx : Term.ListAt W (some ⟨g1, 0, none⟩) ts1) => show Calls Try.prog 16 #[.slice (some ⟨g1, 0, none⟩) ts1.length cap1, .int .i64 n1, .int .i64 d1] W (fun e w' => e = .returned (.tuple #[.int .i64 f1, .int .i64 k1]) ∧ Below W.heap.size W w') from by have e := specRestedFrom_any (some ⟨g1, 0, none⟩) ts1.length cap1 ts1 n1 d1 W rfl hm1 hx; rw [h1] at e; exact e)
    clear h1
    go_wp2_with fail
    refine (C1.out _ HR1.out).mono ?_; rintro e u2 ⟨rfl, hB⟩
    have HB_2 := Lib.hid (HB.out.trans (hB.mono HB.out.size))
    have HR1_2 := Lib.hid (HR1.out.below hB)
    clear HR1 HB
    clear hB
    go_wp2_with fail
    refine (C2.out _ HR1_2.out).mono ?_; rintro e u3 ⟨rfl, hB⟩
    have HB_3 := Lib.hid (HB_2.out.trans (hB.mono HB_2.out.size))
    have HR1_3 := Lib.hid (HR1_2.out.below hB)
    clear HR1_2 HB_2
    clear hB
    clear C1 C2
    go_wp2_with fail
    refine (specDrawRested_any a0 len0 cap0 bs u3 HL.out hm (HY.out.later HB_3.out)).mono ?_; rintro e u4 ⟨v2, ts2, n2, d2, rfl, ⟨⟨g2, cap2, rfl⟩, ho, hl2, hz, hB⟩, _, _⟩
    have HB_4 := Lib.hid (HB_3.out.trans (hB.mono HB_3.out.size))
    have HR1_4 := Lib.hid (HR1_3.out.below hB)
    clear HR1_3 HB_3
    clear hz
    have hm2 : ts2.length ≤ maxLen := by unfold maxLen; omega
    have HR2 := Lib.hid (ho.reads)
    clear ho hB
    obtain ⟨r2, k2, h2⟩ : ∃ r k, restedR ts2 n2 d2 = (r, k) := ⟨_, _, rfl⟩
    have C1 := Lib.hid (fun W (hx : Term.ListAt W (some ⟨g2, 0, none⟩) ts2) => show Calls Try.prog 18 #[.slice (some ⟨g2, 0, none⟩) ts2.length cap2, .int .i64 n2, .int .i64 d2] W (fun e w' => e = .returned (.tuple #[.bool r2, .int .i64 k2]) ∧ Below W.heap.size W w') from by have e := implIsRested_any (some ⟨g2, 0, none⟩) ts2.length cap2 ts2 n2 d2 W rfl hm2 hx; rw [h2] at e; exact e)
    have C2 := Lib.hid (fun W (hx : Term.ListAt W (some ⟨g2, 0, none⟩) ts2) => show Calls Try.prog 19 #[.slice (some ⟨g2, 0, none⟩) ts2.length cap2, .int .i64 n2, .int .i64 d2] W (fun e w' => e = .returned (.tuple #[.bool r2, .int .i64 k2]) ∧ Below W.heap.size W w') from by have e := specIsRested_any (some ⟨g2, 0, none⟩) ts2.length cap2 ts2 n2 d2 W rfl hm2 hx; rw [h2] at e; exact e)
    clear h2
    go_wp2_with fail
    refine (C1.out _ HR2.out).mono ?_; rintro e u5 ⟨rfl, hB⟩
    have HB_5 := Lib.hid (HB_4.out.trans (hB.mono HB_4.out.size))
    have HR1_5 := Lib.hid (HR1_4.out.below hB)
    have HR2_5 := Lib.hid (HR2.out.below hB)
    clear HR1_4 HR2 HB_4
    clear hB
    go_wp2_with fail
    refine (C2.out _ HR2_5.out).mono ?_; rintro e u6 ⟨rfl, hB⟩
    have HB_6 := Lib.hid (HB_5.out.trans (hB.mono HB_5.out.size))
    have HR1_6 := Lib.hid (HR1_5.out.below hB)
    have HR2_6 := Lib.hid (HR2_5.out.below hB)
    clear HR1_5 HR2_5 HB_5
    clear hB
    clear C1 C2 HR2_6
    go_wp2_with fail
    refine (specDrawAdd_any a0 len0 cap0 bs u6 HL.out hm (HY.out.later HB_6.out)).mono ?_; rintro e u7 ⟨v3, ts3, c, rfl, ⟨⟨g3, cap3, rfl⟩, ho, hl3, hz, hB⟩, hc⟩
    have HB_7 := Lib.hid (HB_6.out.trans (hB.mono HB_6.out.size))
    have HR1_7 := Lib.hid (HR1_6.out.below hB)
    clear HR1_6 HB_6
    clear hz hc
    have hm3 : ts3.length ≤ maxLen := by unfold maxLen; omega
    have HR3 := Lib.hid (ho.reads)
    clear ho hB
    have hB := Term.bx u7 (.cells #[.int .i64 c.num, .int .i64 c.frm, .int .i64 c.to] 32)
    have HB_8 := Lib.hid (HB_7.out.trans (hB.mono HB_7.out.size))
    have HR1_8 := Lib.hid (HR1_7.out.below hB)
    have HR3_8 := Lib.hid (HR3.out.below hB)
    clear HR1_7 HR3 HB_7
    have HX := Lib.hid (Term.boxed u7 c 32)
    clear hB
    obtain ⟨ys, k3, h3⟩ : ∃ y k, addR7 ts3 c = (y, k) := ⟨_, _, rfl⟩
    have HAF := Lib.hid (add_facts h3)
    have hys := addR7_small ts3 c
    rw [h3] at hys
    simp only at hys
    have C1 := Lib.hid (fun W (hx : Term.ListAt W (some ⟨g3, 0, none⟩) ts3) => show Calls Try.prog 21 #[.slice (some ⟨g3, 0, none⟩) ts3.length cap3, .agg #[.int .i64 c.num, .int .i64 c.frm, .int .i64 c.to]] W (SaysNewT ys k3 W) from by have e := implAddTerm_any (some ⟨g3, 0, none⟩) ts3.length cap3 ts3 c W rfl hm3 hx; rw [h3] at e; exact e.mono fun _ _ x => x.newT)
    have C2 := Lib.hid (fun W (hx : Term.ListAt W (some ⟨g3, 0, none⟩) ts3) => show Calls Try.prog 22 #[.slice (some ⟨g3, 0, none⟩) ts3.length cap3, .agg #[.int .i64 c.num, .int .i64 c.frm, .int .i64 c.to]] W (SaysNewT ys k3 W) from by have e := specAddTerm_all g3 cap3 ts3.length ts3 c W rfl hm3 hx; rw [h3] at e; exact e.mono fun _ _ x => x.newT)
    clear h3
    obtain ⟨bx0, bx1, bx2⟩ := HX.out
    go_wp2_with fail
    clear bx0 bx1 bx2
    generalize u7.alloc (.cells #[.int .i64 c.num, .int .i64 c.frm, .int .i64 c.to] 32) = v7 at HR1_8 HR3_8 HX HB_8 ⊢
    obtain ⟨rx, hrx⟩ : ∃ rx, u7.heap.size = rx := ⟨_, rfl⟩
    rw [hrx] at HX ⊢
    clear hrx
    refine (C1.out _ HR3_8.out).mono ?_; rintro e u8 ⟨aI, capI, rfl, ho, hB⟩
    have HB_9 := Lib.hid (HB_8.out.trans (hB.mono HB_8.out.size))
    have HR1_9 := Lib.hid (HR1_8.out.below hB)
    have HR3_9 := Lib.hid (HR3_8.out.below hB)
    have HX_9 := Lib.hid (HX.out.below hB)
    clear HR1_8 HR3_8 HX HB_8
    have HA := Lib.hid (ho.reads)
    clear ho hB
    obtain ⟨bx0, bx1, bx2⟩ := HX_9.out
    go_wp2_with fail
    clear bx0 bx1 bx2
    refine (C2.out _ HR3_9.out).mono ?_; rintro e u9 ⟨aS, capS, rfl, ho, hB⟩
    have HB_10 := Lib.hid (HB_9.out.trans (hB.mono HB_9.out.size))
    have HR1_10 := Lib.hid (HR1_9.out.below hB)
    have HR3_10 := Lib.hid (HR3_9.out.below hB)
    have HX_10 := Lib.hid (HX_9.out.below hB)
    have HA_10 := Lib.hid (HA.out.below hB)
    clear HR1_9 HR3_9 HX_9 HA HB_9
    have HS := Lib.hid (ho.reads)
    clear ho hB C1 C2
    go_wp2_with fail
    refine (specDrawDays_any a0 len0 cap0 bs u9 HL.out hm (HY.out.later HB_10.out)).mono ?_; rintro e u10 ⟨v4, ts4, n4, rfl, ⟨⟨g4, cap4, rfl⟩, ho, hl4, hz, hB⟩, _⟩
    have HB_11 := Lib.hid (HB_10.out.trans (hB.mono HB_10.out.size))
    have HR1_11 := Lib.hid (HR1_10.out.below hB)
    have HR3_11 := Lib.hid (HR3_10.out.below hB)
    have HX_11 := Lib.hid (HX_10.out.below hB)
    have HA_11 := Lib.hid (HA_10.out.below hB)
    have HS_11 := Lib.hid (HS.out.below hB)
    clear HR1_10 HR3_10 HX_10 HA_10 HS HB_10
    clear hz
    have hm4 : ts4.length ≤ maxLen := by unfold maxLen; omega
    have HR4 := Lib.hid (ho.reads)
    clear ho hB
    obtain ⟨s4, k4, h4⟩ : ∃ r k, daysR ts4 n4 = (r, k) := ⟨_, _, rfl⟩
    have C1 := Lib.hid (fun W (hx : Term.ListAt W (some ⟨g4, 0, none⟩) ts4) => show Calls Try.prog 24 #[.slice (some ⟨g4, 0, none⟩) ts4.length cap4, .int .i64 n4] W (fun e w' => e = .returned (.tuple #[.int .i64 s4, .int .i64 k4]) ∧ Below W.heap.size W w') from by have e := implDaysServed_any (some ⟨g4, 0, none⟩) ts4.length cap4 ts4 n4 W rfl hm4 hx; rw [h4] at e; exact e)
    have C2 := Lib.hid (fun W (hx : Term.ListAt W (some ⟨g4, 0, none⟩) ts4) => show Calls Try.prog 25 #[.slice (some ⟨g4, 0, none⟩) ts4.length cap4, .int .i64 n4] W (fun e w' => e = .returned (.tuple #[.int .i64 s4, .int .i64 k4]) ∧ Below W.heap.size W w') from by have e := specDaysServed_any (some ⟨g4, 0, none⟩) ts4.length cap4 ts4 n4 W rfl hm4 hx; rw [h4] at e; exact e)
    clear h4
    obtain ⟨ok4, h4⟩ : ∃ r, areT ts4 = r := ⟨_, rfl⟩
    have C3 := Lib.hid (fun W (hx : Term.ListAt W (some ⟨g4, 0, none⟩) ts4) => show Calls Try.prog 27 #[.slice (some ⟨g4, 0, none⟩) ts4.length cap4] W (fun e w' => e = .returned (.bool ok4) ∧ Below W.heap.size W w') from by have e := implAreTerms_any (some ⟨g4, 0, none⟩) ts4.length cap4 ts4 W rfl hm4 hx; rw [h4] at e; exact e)
    have C4 := Lib.hid (fun W (hx : Term.ListAt W (some ⟨g4, 0, none⟩) ts4) => show Calls Try.prog 28 #[.slice (some ⟨g4, 0, none⟩) ts4.length cap4] W (fun e w' => e = .returned (.bool ok4) ∧ Below W.heap.size W w') from by have e := specAreTerms_any (some ⟨g4, 0, none⟩) ts4.length cap4 ts4 W rfl hm4 hx; rw [h4] at e; exact e)
    clear h4
    go_wp2_with fail
    refine (C1.out _ HR4.out).mono ?_; rintro e u11 ⟨rfl, hB⟩
    have HB_12 := Lib.hid (HB_11.out.trans (hB.mono HB_11.out.size))
    have HR1_12 := Lib.hid (HR1_11.out.below hB)
    have HR3_12 := Lib.hid (HR3_11.out.below hB)
    have HX_12 := Lib.hid (HX_11.out.below hB)
    have HA_12 := Lib.hid (HA_11.out.below hB)
    have HS_12 := Lib.hid (HS_11.out.below hB)
    have HR4_12 := Lib.hid (HR4.out.below hB)
    clear HR1_11 HR3_11 HX_11 HA_11 HS_11 HR4 HB_11
    clear hB
    go_wp2_with fail
    refine (C2.out _ HR4_12.out).mono ?_; rintro e u12 ⟨rfl, hB⟩
    have HB_13 := Lib.hid (HB_12.out.trans (hB.mono HB_12.out.size))
    have HR1_13 := Lib.hid (HR1_12.out.below hB)
    have HR3_13 := Lib.hid (HR3_12.out.below hB)
    have HX_13 := Lib.hid (HX_12.out.below hB)
    have HA_13 := Lib.hid (HA_12.out.below hB)
    have HS_13 := Lib.hid (HS_12.out.below hB)
    have HR4_13 := Lib.hid (HR4_12.out.below hB)
    clear HR1_12 HR3_12 HX_12 HA_12 HS_12 HR4_12 HB_12
    clear hB
    clear C1 C2
    rcases HAF.out with hka | ⟨hka, p, hp, hcb, hd1a, hd2a⟩
    · have eka : (k3 == 0) = false := beq_eq_false_iff_ne.2 hka
      clear hka
      rcases HFF.out with hkf | ⟨hkf, hfb, hf1, hf2⟩
      · have ekf : (k1 == 0) = false := beq_eq_false_iff_ne.2 hkf
        have ekf2 : (k1 != 0) = true := bne_iff_ne.2 hkf
        clear hkf
        go_wp2_with fail
        refine (likeTerms_same aI aS ys.length capI capS ys u12 rfl (by omega) HA_13.out HS_13.out).mono ?_; rintro e u13 ⟨rfl, hB⟩
        have HB_14 := Lib.hid (HB_13.out.trans (hB.mono HB_13.out.size))
        have HR1_14 := Lib.hid (HR1_13.out.below hB)
        have HR3_14 := Lib.hid (HR3_13.out.below hB)
        have HX_14 := Lib.hid (HX_13.out.below hB)
        have HA_14 := Lib.hid (HA_13.out.below hB)
        have HS_14 := Lib.hid (HS_13.out.below hB)
        have HR4_14 := Lib.hid (HR4_13.out.below hB)
        clear HR1_13 HR3_13 HX_13 HA_13 HS_13 HR4_13 HB_13
        clear hB
        go_wp2_with fail
        refine (C3.out _ HR4_14.out).mono ?_; rintro e u14 ⟨rfl, hB⟩
        have HB_15 := Lib.hid (HB_14.out.trans (hB.mono HB_14.out.size))
        have HR1_15 := Lib.hid (HR1_14.out.below hB)
        have HR3_15 := Lib.hid (HR3_14.out.below hB)
        have HX_15 := Lib.hid (HX_14.out.below hB)
        have HA_15 := Lib.hid (HA_14.out.below hB)
        have HS_15 := Lib.hid (HS_14.out.below hB)
        have HR4_15 := Lib.hid (HR4_14.out.below hB)
        clear HR1_14 HR3_14 HX_14 HA_14 HS_14 HR4_14 HB_14
        clear hB
        go_wp2_with fail
        refine (C4.out _ HR4_15.out).mono ?_; rintro e u15 ⟨rfl, hB⟩
        have HB_16 := Lib.hid (HB_15.out.trans (hB.mono HB_15.out.size))
        have HR1_16 := Lib.hid (HR1_15.out.below hB)
        have HR3_16 := Lib.hid (HR3_15.out.below hB)
        have HX_16 := Lib.hid (HX_15.out.below hB)
        have HA_16 := Lib.hid (HA_15.out.below hB)
        have HS_16 := Lib.hid (HS_15.out.below hB)
        have HR4_16 := Lib.hid (HR4_15.out.below hB)
        clear HR1_15 HR3_15 HX_15 HA_15 HS_15 HR4_15 HB_15
        clear hB
        go_wp2_with fail
        go_ret
        exact ⟨rfl, HB_16.out⟩
      · subst hkf
        by_cases hfd : f1 = d1
        · have efd : (f1 == d1) = true := beq_iff_eq.2 hfd
          have hlt : decide (f1 < d1) = false := decide_eq_false (by omega)
          have E1 := Lib.hid (fun W (hx : Term.ListAt W (some ⟨g1, 0, none⟩) ts1) => show Calls Try.prog 18 #[.slice (some ⟨g1, 0, none⟩) ts1.length cap1, .int .i64 n1, .int .i64 f1] W (fun e w' => e = .returned (.tuple #[.bool true, .int .i64 0]) ∧ Below W.heap.size W w') from by have e := implIsRested_any (some ⟨g1, 0, none⟩) ts1.length cap1 ts1 n1 f1 W rfl hm1 hx; rw [hf1] at e; exact e)
          clear hf1 hf2  hfd hfb
          go_wp2_with fail
          refine (likeTerms_same aI aS ys.length capI capS ys u12 rfl (by omega) HA_13.out HS_13.out).mono ?_; rintro e u13 ⟨rfl, hB⟩
          have HB_14 := Lib.hid (HB_13.out.trans (hB.mono HB_13.out.size))
          have HR1_14 := Lib.hid (HR1_13.out.below hB)
          have HR3_14 := Lib.hid (HR3_13.out.below hB)
          have HX_14 := Lib.hid (HX_13.out.below hB)
          have HA_14 := Lib.hid (HA_13.out.below hB)
          have HS_14 := Lib.hid (HS_13.out.below hB)
          have HR4_14 := Lib.hid (HR4_13.out.below hB)
          clear HR1_13 HR3_13 HX_13 HA_13 HS_13 HR4_13 HB_13
          clear hB
          go_wp2_with fail
          refine (C3.out _ HR4_14.out).mono ?_; rintro e u14 ⟨rfl, hB⟩
          have HB_15 := Lib.hid (HB_14.out.trans (hB.mono HB_14.out.size))
          have HR1_15 := Lib.hid (HR1_14.out.below hB)
          have HR3_15 := Lib.hid (HR3_14.out.below hB)
          have HX_15 := Lib.hid (HX_14.out.below hB)
          have HA_15 := Lib.hid (HA_14.out.below hB)
          have HS_15 := Lib.hid (HS_14.out.below hB)
          have HR4_15 := Lib.hid (HR4_14.out.below hB)
          clear HR1_14 HR3_14 HX_14 HA_14 HS_14 HR4_14 HB_14
          clear hB
          go_wp2_with fail
          refine (C4.out _ HR4_15.out).mono ?_; rintro e u15 ⟨rfl, hB⟩
          have HB_16 := Lib.hid (HB_15.out.trans (hB.mono HB_15.out.size))
          have HR1_16 := Lib.hid (HR1_15.out.below hB)
          have HR3_16 := Lib.hid (HR3_15.out.below hB)
          have HX_16 := Lib.hid (HX_15.out.below hB)
          have HA_16 := Lib.hid (HA_15.out.below hB)
          have HS_16 := Lib.hid (HS_15.out.below hB)
          have HR4_16 := Lib.hid (HR4_15.out.below hB)
          clear HR1_15 HR3_15 HX_15 HA_15 HS_15 HR4_15 HB_15
          clear hB
          go_wp2_with fail
          refine (E1.out _ HR1_16.out).mono ?_; rintro e u18 ⟨rfl, hB⟩
          have HB_17 := Lib.hid (HB_16.out.trans (hB.mono HB_16.out.size))
          have HR1_17 := Lib.hid (HR1_16.out.below hB)
          have HR3_17 := Lib.hid (HR3_16.out.below hB)
          have HX_17 := Lib.hid (HX_16.out.below hB)
          have HA_17 := Lib.hid (HA_16.out.below hB)
          have HS_17 := Lib.hid (HS_16.out.below hB)
          have HR4_17 := Lib.hid (HR4_16.out.below hB)
          clear HR1_16 HR3_16 HX_16 HA_16 HS_16 HR4_16 HB_16
          clear hB
          go_wp2_with fail
          go_ret
          exact ⟨rfl, HB_17.out⟩
        · have efd : (f1 == d1) = false := beq_eq_false_iff_ne.2 hfd
          have hlt : decide (f1 < d1) = false := decide_eq_false (by omega)
          have q4 : IntKind.i64.wrap (f1 - 1) = f1 - 1 := IntWalk.i64_in _ (by omega)
          have hf3 := hf2 hfd
          have E1 := Lib.hid (fun W (hx : Term.ListAt W (some ⟨g1, 0, none⟩) ts1) => show Calls Try.prog 18 #[.slice (some ⟨g1, 0, none⟩) ts1.length cap1, .int .i64 n1, .int .i64 f1] W (fun e w' => e = .returned (.tuple #[.bool true, .int .i64 0]) ∧ Below W.heap.size W w') from by have e := implIsRested_any (some ⟨g1, 0, none⟩) ts1.length cap1 ts1 n1 f1 W rfl hm1 hx; rw [hf1] at e; exact e)
          have E2 := Lib.hid (fun W (hx : Term.ListAt W (some ⟨g1, 0, none⟩) ts1) => show Calls Try.prog 18 #[.slice (some ⟨g1, 0, none⟩) ts1.length cap1, .int .i64 n1, .int .i64 (f1 - 1)] W (fun e w' => e = .returned (.tuple #[.bool false, .int .i64 0]) ∧ Below W.heap.size W w') from by have e := implIsRested_any (some ⟨g1, 0, none⟩) ts1.length cap1 ts1 n1 (f1 - 1) W rfl hm1 hx; rw [hf3] at e; exact e)
          clear hf1 hf2 hf3 hfd hfb
          go_wp2_with fail
          refine (likeTerms_same aI aS ys.length capI capS ys u12 rfl (by omega) HA_13.out HS_13.out).mono ?_; rintro e u13 ⟨rfl, hB⟩
          have HB_14 := Lib.hid (HB_13.out.trans (hB.mono HB_13.out.size))
          have HR1_14 := Lib.hid (HR1_13.out.below hB)
          have HR3_14 := Lib.hid (HR3_13.out.below hB)
          have HX_14 := Lib.hid (HX_13.out.below hB)
          have HA_14 := Lib.hid (HA_13.out.below hB)
          have HS_14 := Lib.hid (HS_13.out.below hB)
          have HR4_14 := Lib.hid (HR4_13.out.below hB)
          clear HR1_13 HR3_13 HX_13 HA_13 HS_13 HR4_13 HB_13
          clear hB
          go_wp2_with fail
          refine (C3.out _ HR4_14.out).mono ?_; rintro e u14 ⟨rfl, hB⟩
          have HB_15 := Lib.hid (HB_14.out.trans (hB.mono HB_14.out.size))
          have HR1_15 := Lib.hid (HR1_14.out.below hB)
          have HR3_15 := Lib.hid (HR3_14.out.below hB)
          have HX_15 := Lib.hid (HX_14.out.below hB)
          have HA_15 := Lib.hid (HA_14.out.below hB)
          have HS_15 := Lib.hid (HS_14.out.below hB)
          have HR4_15 := Lib.hid (HR4_14.out.below hB)
          clear HR1_14 HR3_14 HX_14 HA_14 HS_14 HR4_14 HB_14
          clear hB
          go_wp2_with fail
          refine (C4.out _ HR4_15.out).mono ?_; rintro e u15 ⟨rfl, hB⟩
          have HB_16 := Lib.hid (HB_15.out.trans (hB.mono HB_15.out.size))
          have HR1_16 := Lib.hid (HR1_15.out.below hB)
          have HR3_16 := Lib.hid (HR3_15.out.below hB)
          have HX_16 := Lib.hid (HX_15.out.below hB)
          have HA_16 := Lib.hid (HA_15.out.below hB)
          have HS_16 := Lib.hid (HS_15.out.below hB)
          have HR4_16 := Lib.hid (HR4_15.out.below hB)
          clear HR1_15 HR3_15 HX_15 HA_15 HS_15 HR4_15 HB_15
          clear hB
          go_wp2_with fail
          refine (E1.out _ HR1_16.out).mono ?_; rintro e u18 ⟨rfl, hB⟩
          have HB_17 := Lib.hid (HB_16.out.trans (hB.mono HB_16.out.size))
          have HR1_17 := Lib.hid (HR1_16.out.below hB)
          have HR3_17 := Lib.hid (HR3_16.out.below hB)
          have HX_17 := Lib.hid (HX_16.out.below hB)
          have HA_17 := Lib.hid (HA_16.out.below hB)
          have HS_17 := Lib.hid (HS_16.out.below hB)
          have HR4_17 := Lib.hid (HR4_16.out.below hB)
          clear HR1_16 HR3_16 HX_16 HA_16 HS_16 HR4_16 HB_16
          clear hB
          go_wp2_with fail
          refine (E2.out _ HR1_17.out).mono ?_; rintro e u19 ⟨rfl, hB⟩
          have HB_18 := Lib.hid (HB_17.out.trans (hB.mono HB_17.out.size))
          have HR1_18 := Lib.hid (HR1_17.out.below hB)
          have HR3_18 := Lib.hid (HR3_17.out.below hB)
          have HX_18 := Lib.hid (HX_17.out.below hB)
          have HA_18 := Lib.hid (HA_17.out.below hB)
          have HS_18 := Lib.hid (HS_17.out.below hB)
          have HR4_18 := Lib.hid (HR4_17.out.below hB)
          clear HR1_17 HR3_17 HX_17 HA_17 HS_17 HR4_17 HB_17
          clear hB
          go_wp2_with fail
          go_ret
          exact ⟨rfl, HB_18.out⟩
    · subst hka
      have q1 : IntKind.i64.wrap (p + c.to) = p + c.to := IntWalk.i64_in _ (by omega)
      have q2 : IntKind.i64.wrap (p + c.to - c.frm) = p + c.to - c.frm := IntWalk.i64_in _ (by omega)
      have q3 : IntKind.i64.wrap (p + c.to - c.frm + 1) = p + c.to - c.frm + 1 := IntWalk.i64_in _ (by omega)
      have D1 := Lib.hid (fun W (hx : Term.ListAt W (some ⟨g3, 0, none⟩) ts3) => show Calls Try.prog 24 #[.slice (some ⟨g3, 0, none⟩) ts3.length cap3, .int .i64 c.num] W (fun e w' => e = .returned (.tuple #[.int .i64 p, .int .i64 0]) ∧ Below W.heap.size W w') from by have e := implDaysServed_any (some ⟨g3, 0, none⟩) ts3.length cap3 ts3 c.num W rfl hm3 hx; rw [hd1a] at e; exact e)
      have D2 := Lib.hid (fun W (hx : Term.ListAt W aI ys) => show Calls Try.prog 24 #[.slice aI ys.length capI, .int .i64 c.num] W (fun e w' => e = .returned (.tuple #[.int .i64 (p + c.to - c.frm + 1), .int .i64 0]) ∧ Below W.heap.size W w') from by have e := implDaysServed_any aI ys.length capI ys c.num W rfl (by unfold maxLen; omega) hx; rw [hd2a] at e; exact e)
      clear hd1a hd2a hcb hp
      rcases HFF.out with hkf | ⟨hkf, hfb, hf1, hf2⟩
      · have ekf : (k1 == 0) = false := beq_eq_false_iff_ne.2 hkf
        have ekf2 : (k1 != 0) = true := bne_iff_ne.2 hkf
        clear hkf
        go_wp2_with fail
        refine (likeTerms_same aI aS ys.length capI capS ys u12 rfl (by omega) HA_13.out HS_13.out).mono ?_; rintro e u13 ⟨rfl, hB⟩
        have HB_14 := Lib.hid (HB_13.out.trans (hB.mono HB_13.out.size))
        have HR1_14 := Lib.hid (HR1_13.out.below hB)
        have HR3_14 := Lib.hid (HR3_13.out.below hB)
        have HX_14 := Lib.hid (HX_13.out.below hB)
        have HA_14 := Lib.hid (HA_13.out.below hB)
        have HS_14 := Lib.hid (HS_13.out.below hB)
        have HR4_14 := Lib.hid (HR4_13.out.below hB)
        clear HR1_13 HR3_13 HX_13 HA_13 HS_13 HR4_13 HB_13
        clear hB
        go_wp2_with fail
        refine (C3.out _ HR4_14.out).mono ?_; rintro e u14 ⟨rfl, hB⟩
        have HB_15 := Lib.hid (HB_14.out.trans (hB.mono HB_14.out.size))
        have HR1_15 := Lib.hid (HR1_14.out.below hB)
        have HR3_15 := Lib.hid (HR3_14.out.below hB)
        have HX_15 := Lib.hid (HX_14.out.below hB)
        have HA_15 := Lib.hid (HA_14.out.below hB)
        have HS_15 := Lib.hid (HS_14.out.below hB)
        have HR4_15 := Lib.hid (HR4_14.out.below hB)
        clear HR1_14 HR3_14 HX_14 HA_14 HS_14 HR4_14 HB_14
        clear hB
        go_wp2_with fail
        refine (C4.out _ HR4_15.out).mono ?_; rintro e u15 ⟨rfl, hB⟩
        have HB_16 := Lib.hid (HB_15.out.trans (hB.mono HB_15.out.size))
        have HR1_16 := Lib.hid (HR1_15.out.below hB)
        have HR3_16 := Lib.hid (HR3_15.out.below hB)
        have HX_16 := Lib.hid (HX_15.out.below hB)
        have HA_16 := Lib.hid (HA_15.out.below hB)
        have HS_16 := Lib.hid (HS_15.out.below hB)
        have HR4_16 := Lib.hid (HR4_15.out.below hB)
        clear HR1_15 HR3_15 HX_15 HA_15 HS_15 HR4_15 HB_15
        clear hB
        obtain ⟨bx0, bx1, bx2⟩ := HX_16.out
        go_wp2_with fail
        clear bx0 bx1 bx2
        refine (D1.out _ HR3_16.out).mono ?_; rintro e u16 ⟨rfl, hB⟩
        have HB_17 := Lib.hid (HB_16.out.trans (hB.mono HB_16.out.size))
        have HR1_17 := Lib.hid (HR1_16.out.below hB)
        have HR3_17 := Lib.hid (HR3_16.out.below hB)
        have HX_17 := Lib.hid (HX_16.out.below hB)
        have HA_17 := Lib.hid (HA_16.out.below hB)
        have HS_17 := Lib.hid (HS_16.out.below hB)
        have HR4_17 := Lib.hid (HR4_16.out.below hB)
        clear HR1_16 HR3_16 HX_16 HA_16 HS_16 HR4_16 HB_16
        clear hB
        obtain ⟨bx0, bx1, bx2⟩ := HX_17.out
        go_wp2_with fail
        clear bx0 bx1 bx2
        refine (D2.out _ HA_17.out).mono ?_; rintro e u17 ⟨rfl, hB⟩
        have HB_18 := Lib.hid (HB_17.out.trans (hB.mono HB_17.out.size))
        have HR1_18 := Lib.hid (HR1_17.out.below hB)
        have HR3_18 := Lib.hid (HR3_17.out.below hB)
        have HX_18 := Lib.hid (HX_17.out.below hB)
        have HA_18 := Lib.hid (HA_17.out.below hB)
        have HS_18 := Lib.hid (HS_17.out.below hB)
        have HR4_18 := Lib.hid (HR4_17.out.below hB)
        clear HR1_17 HR3_17 HX_17 HA_17 HS_17 HR4_17 HB_17
        clear hB
        obtain ⟨bx0, bx1, bx2⟩ := HX_18.out
        go_wp2_with fail
        clear bx0 bx1 bx2
        go_ret
        exact ⟨rfl, HB_18.out⟩
      · subst hkf
        by_cases hfd : f1 = d1
        · have efd : (f1 == d1) = true := beq_iff_eq.2 hfd
          have hlt : decide (f1 < d1) = false := decide_eq_false (by omega)
          have E1 := Lib.hid (fun W (hx : Term.ListAt W (some ⟨g1, 0, none⟩) ts1) => show Calls Try.prog 18 #[.slice (some ⟨g1, 0, none⟩) ts1.length cap1, .int .i64 n1, .int .i64 f1] W (fun e w' => e = .returned (.tuple #[.bool true, .int .i64 0]) ∧ Below W.heap.size W w') from by have e := implIsRested_any (some ⟨g1, 0, none⟩) ts1.length cap1 ts1 n1 f1 W rfl hm1 hx; rw [hf1] at e; exact e)
          clear hf1 hf2  hfd hfb
          go_wp2_with fail
          refine (likeTerms_same aI aS ys.length capI capS ys u12 rfl (by omega) HA_13.out HS_13.out).mono ?_; rintro e u13 ⟨rfl, hB⟩
          have HB_14 := Lib.hid (HB_13.out.trans (hB.mono HB_13.out.size))
          have HR1_14 := Lib.hid (HR1_13.out.below hB)
          have HR3_14 := Lib.hid (HR3_13.out.below hB)
          have HX_14 := Lib.hid (HX_13.out.below hB)
          have HA_14 := Lib.hid (HA_13.out.below hB)
          have HS_14 := Lib.hid (HS_13.out.below hB)
          have HR4_14 := Lib.hid (HR4_13.out.below hB)
          clear HR1_13 HR3_13 HX_13 HA_13 HS_13 HR4_13 HB_13
          clear hB
          go_wp2_with fail
          refine (C3.out _ HR4_14.out).mono ?_; rintro e u14 ⟨rfl, hB⟩
          have HB_15 := Lib.hid (HB_14.out.trans (hB.mono HB_14.out.size))
          have HR1_15 := Lib.hid (HR1_14.out.below hB)
          have HR3_15 := Lib.hid (HR3_14.out.below hB)
          have HX_15 := Lib.hid (HX_14.out.below hB)
          have HA_15 := Lib.hid (HA_14.out.below hB)
          have HS_15 := Lib.hid (HS_14.out.below hB)
          have HR4_15 := Lib.hid (HR4_14.out.below hB)
          clear HR1_14 HR3_14 HX_14 HA_14 HS_14 HR4_14 HB_14
          clear hB
          go_wp2_with fail
          refine (C4.out _ HR4_15.out).mono ?_; rintro e u15 ⟨rfl, hB⟩
          have HB_16 := Lib.hid (HB_15.out.trans (hB.mono HB_15.out.size))
          have HR1_16 := Lib.hid (HR1_15.out.below hB)
          have HR3_16 := Lib.hid (HR3_15.out.below hB)
          have HX_16 := Lib.hid (HX_15.out.below hB)
          have HA_16 := Lib.hid (HA_15.out.below hB)
          have HS_16 := Lib.hid (HS_15.out.below hB)
          have HR4_16 := Lib.hid (HR4_15.out.below hB)
          clear HR1_15 HR3_15 HX_15 HA_15 HS_15 HR4_15 HB_15
          clear hB
          obtain ⟨bx0, bx1, bx2⟩ := HX_16.out
          go_wp2_with fail
          clear bx0 bx1 bx2
          refine (D1.out _ HR3_16.out).mono ?_; rintro e u16 ⟨rfl, hB⟩
          have HB_17 := Lib.hid (HB_16.out.trans (hB.mono HB_16.out.size))
          have HR1_17 := Lib.hid (HR1_16.out.below hB)
          have HR3_17 := Lib.hid (HR3_16.out.below hB)
          have HX_17 := Lib.hid (HX_16.out.below hB)
          have HA_17 := Lib.hid (HA_16.out.below hB)
          have HS_17 := Lib.hid (HS_16.out.below hB)
          have HR4_17 := Lib.hid (HR4_16.out.below hB)
          clear HR1_16 HR3_16 HX_16 HA_16 HS_16 HR4_16 HB_16
          clear hB
          obtain ⟨bx0, bx1, bx2⟩ := HX_17.out
          go_wp2_with fail
          clear bx0 bx1 bx2
          refine (D2.out _ HA_17.out).mono ?_; rintro e u17 ⟨rfl, hB⟩
          have HB_18 := Lib.hid (HB_17.out.trans (hB.mono HB_17.out.size))
          have HR1_18 := Lib.hid (HR1_17.out.below hB)
          have HR3_18 := Lib.hid (HR3_17.out.below hB)
          have HX_18 := Lib.hid (HX_17.out.below hB)
          have HA_18 := Lib.hid (HA_17.out.below hB)
          have HS_18 := Lib.hid (HS_17.out.below hB)
          have HR4_18 := Lib.hid (HR4_17.out.below hB)
          clear HR1_17 HR3_17 HX_17 HA_17 HS_17 HR4_17 HB_17
          clear hB
          obtain ⟨bx0, bx1, bx2⟩ := HX_18.out
          go_wp2_with fail
          clear bx0 bx1 bx2
          refine (E1.out _ HR1_18.out).mono ?_; rintro e u18 ⟨rfl, hB⟩
          have HB_19 := Lib.hid (HB_18.out.trans (hB.mono HB_18.out.size))
          have HR1_19 := Lib.hid (HR1_18.out.below hB)
          have HR3_19 := Lib.hid (HR3_18.out.below hB)
          have HX_19 := Lib.hid (HX_18.out.below hB)
          have HA_19 := Lib.hid (HA_18.out.below hB)
          have HS_19 := Lib.hid (HS_18.out.below hB)
          have HR4_19 := Lib.hid (HR4_18.out.below hB)
          clear HR1_18 HR3_18 HX_18 HA_18 HS_18 HR4_18 HB_18
          clear hB
          go_wp2_with fail
          go_ret
          exact ⟨rfl, HB_19.out⟩
        · have efd : (f1 == d1) = false := beq_eq_false_iff_ne.2 hfd
          have hlt : decide (f1 < d1) = false := decide_eq_false (by omega)
          have q4 : IntKind.i64.wrap (f1 - 1) = f1 - 1 := IntWalk.i64_in _ (by omega)
          have hf3 := hf2 hfd
          have E1 := Lib.hid (fun W (hx : Term.ListAt W (some ⟨g1, 0, none⟩) ts1) => show Calls Try.prog 18 #[.slice (some ⟨g1, 0, none⟩) ts1.length cap1, .int .i64 n1, .int .i64 f1] W (fun e w' => e = .returned (.tuple #[.bool true, .int .i64 0]) ∧ Below W.heap.size W w') from by have e := implIsRested_any (some ⟨g1, 0, none⟩) ts1.length cap1 ts1 n1 f1 W rfl hm1 hx; rw [hf1] at e; exact e)
          have E2 := Lib.hid (fun W (hx : Term.ListAt W (some ⟨g1, 0, none⟩) ts1) => show Calls Try.prog 18 #[.slice (some ⟨g1, 0, none⟩) ts1.length cap1, .int .i64 n1, .int .i64 (f1 - 1)] W (fun e w' => e = .returned (.tuple #[.bool false, .int .i64 0]) ∧ Below W.heap.size W w') from by have e := implIsRested_any (some ⟨g1, 0, none⟩) ts1.length cap1 ts1 n1 (f1 - 1) W rfl hm1 hx; rw [hf3] at e; exact e)
          clear hf1 hf2 hf3 hfd hfb
          go_wp2_with fail
          refine (likeTerms_same aI aS ys.length capI capS ys u12 rfl (by omega) HA_13.out HS_13.out).mono ?_; rintro e u13 ⟨rfl, hB⟩
          have HB_14 := Lib.hid (HB_13.out.trans (hB.mono HB_13.out.size))
          have HR1_14 := Lib.hid (HR1_13.out.below hB)
          have HR3_14 := Lib.hid (HR3_13.out.below hB)
          have HX_14 := Lib.hid (HX_13.out.below hB)
          have HA_14 := Lib.hid (HA_13.out.below hB)
          have HS_14 := Lib.hid (HS_13.out.below hB)
          have HR4_14 := Lib.hid (HR4_13.out.below hB)
          clear HR1_13 HR3_13 HX_13 HA_13 HS_13 HR4_13 HB_13
          clear hB
          go_wp2_with fail
          refine (C3.out _ HR4_14.out).mono ?_; rintro e u14 ⟨rfl, hB⟩
          have HB_15 := Lib.hid (HB_14.out.trans (hB.mono HB_14.out.size))
          have HR1_15 := Lib.hid (HR1_14.out.below hB)
          have HR3_15 := Lib.hid (HR3_14.out.below hB)
          have HX_15 := Lib.hid (HX_14.out.below hB)
          have HA_15 := Lib.hid (HA_14.out.below hB)
          have HS_15 := Lib.hid (HS_14.out.below hB)
          have HR4_15 := Lib.hid (HR4_14.out.below hB)
          clear HR1_14 HR3_14 HX_14 HA_14 HS_14 HR4_14 HB_14
          clear hB
          go_wp2_with fail
          refine (C4.out _ HR4_15.out).mono ?_; rintro e u15 ⟨rfl, hB⟩
          have HB_16 := Lib.hid (HB_15.out.trans (hB.mono HB_15.out.size))
          have HR1_16 := Lib.hid (HR1_15.out.below hB)
          have HR3_16 := Lib.hid (HR3_15.out.below hB)
          have HX_16 := Lib.hid (HX_15.out.below hB)
          have HA_16 := Lib.hid (HA_15.out.below hB)
          have HS_16 := Lib.hid (HS_15.out.below hB)
          have HR4_16 := Lib.hid (HR4_15.out.below hB)
          clear HR1_15 HR3_15 HX_15 HA_15 HS_15 HR4_15 HB_15
          clear hB
          obtain ⟨bx0, bx1, bx2⟩ := HX_16.out
          go_wp2_with fail
          clear bx0 bx1 bx2
          refine (D1.out _ HR3_16.out).mono ?_; rintro e u16 ⟨rfl, hB⟩
          have HB_17 := Lib.hid (HB_16.out.trans (hB.mono HB_16.out.size))
          have HR1_17 := Lib.hid (HR1_16.out.below hB)
          have HR3_17 := Lib.hid (HR3_16.out.below hB)
          have HX_17 := Lib.hid (HX_16.out.below hB)
          have HA_17 := Lib.hid (HA_16.out.below hB)
          have HS_17 := Lib.hid (HS_16.out.below hB)
          have HR4_17 := Lib.hid (HR4_16.out.below hB)
          clear HR1_16 HR3_16 HX_16 HA_16 HS_16 HR4_16 HB_16
          clear hB
          obtain ⟨bx0, bx1, bx2⟩ := HX_17.out
          go_wp2_with fail
          clear bx0 bx1 bx2
          refine (D2.out _ HA_17.out).mono ?_; rintro e u17 ⟨rfl, hB⟩
          have HB_18 := Lib.hid (HB_17.out.trans (hB.mono HB_17.out.size))
          have HR1_18 := Lib.hid (HR1_17.out.below hB)
          have HR3_18 := Lib.hid (HR3_17.out.below hB)
          have HX_18 := Lib.hid (HX_17.out.below hB)
          have HA_18 := Lib.hid (HA_17.out.below hB)
          have HS_18 := Lib.hid (HS_17.out.below hB)
          have HR4_18 := Lib.hid (HR4_17.out.below hB)
          clear HR1_17 HR3_17 HX_17 HA_17 HS_17 HR4_17 HB_17
          clear hB
          obtain ⟨bx0, bx1, bx2⟩ := HX_18.out
          go_wp2_with fail
          clear bx0 bx1 bx2
          refine (E1.out _ HR1_18.out).mono ?_; rintro e u18 ⟨rfl, hB⟩
          have HB_19 := Lib.hid (HB_18.out.trans (hB.mono HB_18.out.size))
          have HR1_19 := Lib.hid (HR1_18.out.below hB)
          have HR3_19 := Lib.hid (HR3_18.out.below hB)
          have HX_19 := Lib.hid (HX_18.out.below hB)
          have HA_19 := Lib.hid (HA_18.out.below hB)
          have HS_19 := Lib.hid (HS_18.out.below hB)
          have HR4_19 := Lib.hid (HR4_18.out.below hB)
          clear HR1_18 HR3_18 HX_18 HA_18 HS_18 HR4_18 HB_18
          clear hB
          go_wp2_with fail
          refine (E2.out _ HR1_19.out).mono ?_; rintro e u19 ⟨rfl, hB⟩
          have HB_20 := Lib.hid (HB_19.out.trans (hB.mono HB_19.out.size))
          have HR1_20 := Lib.hid (HR1_19.out.below hB)
          have HR3_20 := Lib.hid (HR3_19.out.below hB)
          have HX_20 := Lib.hid (HX_19.out.below hB)
          have HA_20 := Lib.hid (HA_19.out.below hB)
          have HS_20 := Lib.hid (HS_19.out.below hB)
          have HR4_20 := Lib.hid (HR4_19.out.below hB)
          clear HR1_19 HR3_19 HX_19 HA_19 HS_19 HR4_19 HB_19
          clear hB
          go_wp2_with fail
          go_ret
          exact ⟨rfl, HB_20.out⟩

set_option maxRecDepth 100000 in
theorem lifted (os : Os) (started : os.Started) (H : Type) (enc : TypeId × Value → H) :
    ReturnsInHanded {} Try.checked os 3 .any (Rows.fnTermsSpec.pre6 enc Try.prog Try.f3 Rows.fnTermsRow.domain false) (Rows.fnTermsSpec.post enc Try.prog Try.f3 false true false false) := by
  refine returnsInHanded_of_change (C := Try.checked) own started (by kernel_rfl) Try.func3
    (ChangeSpec.witness6 (enc := enc) (C := Try.checked) false ⟨#[], #[.slice none 0 0], []⟩ 8 (by kernel_rfl) (by kernel_rfl) (by kernel_rfl) (by kernel_rfl)) ?_
  intro W base args ds gs before hval0 hW hcnd _
  have hval : ∀ (j : Nat) t v, Try.f3.params[j]? = some t → args[j]? = some v → Value.okWide Try.prog W .any base t v := hval0
  have hW' := hW
  obtain ⟨p, q, hA0, hV, rfl, hfz, hnd⟩ := hW
  have hA : DataW.TrodAll enc Try.prog W 0 (fun _ => true) true Try.f3.params.toList args.toList ds p := hA0
  rw [Try.params3] at hA hval
  obtain ⟨v0, vs0, d0, ds0, p0, q0, hargs, rfl, rfl, h0, r0⟩ := trodAll_cons hA
  obtain ⟨rfl, rfl, rfl⟩ := trodAll_nil r0
  obtain rfl : args = #[v0] := by cases args; simp_all
  obtain ⟨rfl, rfl⟩ := trodVars_none hV
  obtain ⟨a0, len0, cap0, rfl⟩ := okWide_slice Try.underlying22 (hval 0 22 v0 rfl rfl)
  have k0 := h0
  have lt0 : ∀ x ∈ p0, x.block < W.heap.size := by obtain ⟨m, hm⟩ := k0; exact DataW.trod_lt m _ _ _ hm
  obtain ⟨z0, w0⟩ : ∃ zs, IsRow .u8 W a0 len0 cap0 zs := by
    obtain ⟨fuel, hf⟩ := h0
    rcases open_ints Try.underlying22 Try.underlying5 (by kernel_rfl) hf with ⟨hcs, _⟩ | ⟨x, l, c, zs, hcs, _, hl, hm, hz, _, hcell, hwz⟩
    · simp [Value.cells] at hcs
      obtain ⟨rfl, rfl, rfl⟩ := hcs
      exact ⟨[], .inl ⟨rfl, rfl, rfl, rfl⟩⟩
    · simp [Value.cells] at hcs
      obtain ⟨rfl, rfl, rfl⟩ := hcs
      exact ⟨zs, .inr ⟨_, rfl, hl, hm, by simpa using hz, hcell, hwz⟩⟩
  clear hA0 hval0
  refine (walk W a0 len0 cap0 z0 w0).mono fun e W' ⟨he, bel⟩ => ?_
  subst he
  exact ⟨_, rfl, _, _, _, [], _, [], hW', trodAll_mk1 (shut_bool Try.underlying4 _), (trodAll_cons_mk (Below.trod laidOut (by kernel_rfl) (of_decide_eq_true (by kernel_rfl)) k0 bel lt0) trodAll_mk0), rfl, bel.frame _, fun h => by cases h⟩

theorem over : Rows.fnTermsRow.holds Try.pinned (OpenSpec.ofChange Rows.fnTermsSpec) :=
  OpenClaim.holds_of_wide 3 Try.f3 rfl rfl rfl rfl rfl rfl rfl ⟨rfl, rfl, rfl, rfl, rfl⟩ rfl rfl rfl rfl rfl (by kernel_rfl) Try.func3 (by kernel_rfl)
    (of_decide_eq_true (by kernel_rfl)) (by unfold Func.isWrapper; first | (rw [if_pos (by decide +kernel)]; kernel_rfl) | (rw [if_neg (by decide +kernel)]; exact ⟨rfl, rfl⟩))
    (fun os started H enc _ => lifted os started H enc)

/-- The statement. -/
theorem proved : Rows.FnTermsSaid := over
end Go.Proofs.Ytblbmmajobefiaa.fnTerms
