/- Proved: for every code, laws.FnServing returns true and leaves its argument as it was: the busiest day has the most who serve, and the answers of chapter 7 are those of their models. No condition. -/
import Derived.Test.YtblbmmajobefiaaRows
import Derived.WalkKit
import Derived.ProofKit
import Derived.OpenShut
import Derived.ShutString
import Derived.ChangeOld
import Derived.Below
import Derived.SliceStrings
import Derived.Lib.Hide
import Derived.Test.YtblbmmajobefiaaBase
import Derived.Test.YtblbmmajobefiaaPure6
import Derived.Test.YtblbmmajobefiaaPure70
import Derived.Test.YtblbmmajobefiaaPure71
import Derived.Test.YtblbmmajobefiaaTermA
import Derived.Test.YtblbmmajobefiaaTermB
import Derived.Test.YtblbmmajobefiaaTermM
import Derived.Test.YtblbmmajobefiaaTermC
import Derived.Test.YtblbmmajobefiaaTermD
import Derived.Test.YtblbmmajobefiaaBig
import Derived.Test.YtblbmmajobefiaaSpec7
import Derived.Test.YtblbmmajobefiaaSpec7b
import Derived.Test.YtblbmmajobefiaaAdd7
import Derived.Test.YtblbmmajobefiaaLaw7
import Derived.Test.YtblbmmajobefiaaImpl7a
import Derived.Test.YtblbmmajobefiaaImpl7b
import Derived.Test.YtblbmmajobefiaaImpl7d
import Derived.Test.YtblbmmajobefiaaDrawT7a
import Derived.Test.YtblbmmajobefiaaDrawT7c
import Derived.Test.YtblbmmajobefiaaDrawT7d
import Derived.Test.YtblbmmajobefiaaLikeT7
import Derived.Test.YtblbmmajobefiaaEqInt
import Derived.Test.YtblbmmajobefiaaLikeInt
import Derived.Test.YtblbmmajobefiaaMarkI
import Derived.Test.YtblbmmajobefiaaIntL
import Derived.Test.YtblbmmajobefiaaBuildI
import Derived.Test.YtblbmmajobefiaaServ7
import Derived.Test.YtblbmmajobefiaaBusy7
import Derived.Test.YtblbmmajobefiaaImpl7c
namespace Go.Proofs.Ytblbmmajobefiaa.fnServing
open Go.ChangeShapes Go.WideShapes Go.ChangeAt Go.RowKit
open Go.ChangeMaps (open_string shut_string)
open Pure2 Pure6 Pure20 Pure40
set_option linter.unusedVariables false

theorem own : ownKnob Try.prog.godebug = none := by kernel_rfl
theorem laidOut : laidOutB Try.prog = true := by kernel_rfl

/-- What the walk is told of a slice of integers that came in: it is nil, or it leads to a row of cap cells, the numbers zs. -/
def IsRow (k : IntKind) (w : World) (a : Option Addr) (len cap : Nat) (zs : List Int) : Prop :=
  (a = none ∧ len = 0 ∧ cap = 0 ∧ zs = []) ∨
  ∃ x, a = some x ∧ len ≤ cap ∧ cap ≤ maxLen ∧ zs.length = cap ∧ (∀ i, i < zs.length → w.cell? (x.add i) = some (.int k (zs.getD i 0))) ∧ ∀ n ∈ zs, (Lit.int k n).wf = true

set_option maxRecDepth 100000 in
set_option maxHeartbeats 4000000 in
theorem walk (w : World) (a0 : Option Addr) (len0 cap0 : Nat) (z0 : List Int) (w0 : IsRow .u8 w a0 len0 cap0 z0) :
    Calls Try.prog 4 #[.slice a0 len0 cap0] w fun e w' => e = .returned (.bool true) ∧ Below w.heap.size w w' := by
  obtain ⟨hl, hY⟩ := bytes_of_row w0
  generalize z0.take len0 = bs at hl hY
  have HL := Lib.hid hl; have HY := Lib.hid hY; clear hl hY w0
  have HBig := Lib.hid (lawsBig_any a0 len0 cap0 w)
  by_cases hb : 4096 < len0
  · rw [decide_eq_true hb] at HBig
    go_enter Try.func4, Try.ntmps4
    go_wp2_with fail
    refine HBig.out.mono ?_; rintro e w' ⟨rfl, rfl⟩
    go_wp2_with fail
    go_ret
    exact ⟨rfl, Below.refl _ _⟩
  · rw [decide_eq_false hb] at HBig
    have hm : len0 ≤ 4096 := by omega
    clear hb
    go_enter Try.func4, Try.ntmps4
    go_wp2_with fail
    refine HBig.out.mono ?_; rintro e w' ⟨rfl, rfl⟩
    clear HBig
    go_wp2_with fail
    refine (specDrawBusiest_any a0 len0 cap0 bs w HL.out hm HY.out).mono ?_; rintro e u1 ⟨v1, ts1, rfl, ⟨⟨g1, cap1, rfl⟩, ho, hl1, hz, hB⟩⟩
    clear hz
    have HB := Lib.hid (hB)
    have hm1 : ts1.length ≤ maxLen := by unfold maxLen; omega
    have HR1 := Lib.hid (ho.reads)
    clear ho hB
    obtain ⟨b1, m1, k1, h1⟩ : ∃ b m k, busyR ts1 = ((b, m), k) := ⟨_, _, _, rfl⟩
    have HBF := Lib.hid (busy_facts h1)
    have C1 := Lib.hid (fun W (hx : Term.ListAt W (some ⟨g1, 0, none⟩) ts1) => show Calls Try.prog 30 #[.slice (some ⟨g1, 0, none⟩) ts1.length cap1] W (fun e w' => e = .returned (.tuple #[.int .i64 b1, .int .i64 m1, .int .i64 k1]) ∧ Below W.heap.size W w') from by have e := implBusiest_any (some ⟨g1, 0, none⟩) ts1.length cap1 ts1 W rfl hm1 hx; rw [h1] at e; exact e)
    have C2 := Lib.hid (fun W (hx : Term.ListAt W (some ⟨g1, 0, none⟩) ts1) => show Calls Try.prog 31 #[.slice (some ⟨g1, 0, none⟩) ts1.length cap1] W (fun e w' => e = .returned (.tuple #[.int .i64 b1, .int .i64 m1, .int .i64 k1]) ∧ Below W.heap.size W w') from by have e := specBusiest_any (some ⟨g1, 0, none⟩) ts1.length cap1 ts1 W rfl hm1 hx; rw [h1] at e; exact e)
    clear h1
    go_wp2_with fail
    refine (C1.out _ HR1.out).mono ?_; rintro e u2 ⟨rfl, hB⟩
    have HB_2 := Lib.hid (HB.out.trans (hB.mono HB.out.size))
    have HR1_2 := Lib.hid (HR1.out.below hB)
    clear HR1 HB
    clear hB
    go_wp2_with fail
    refine (C2.out _ HR1_2.out).mono ?_; rintro e u3 ⟨rfl, hB⟩
    have HB_3 := Lib.hid (HB_2.out.trans (hB.mono HB_2.out.size))
    have HR1_3 := Lib.hid (HR1_2.out.below hB)
    clear HR1_2 HB_2
    clear hB
    clear C1 C2
    go_wp2_with fail
    refine (specDrawServing_any a0 len0 cap0 bs u3 HL.out hm (HY.out.later HB_3.out)).mono ?_; rintro e u4 ⟨v2, ts2, d2, rfl, ⟨⟨g2, cap2, rfl⟩, ho, hl2, hz, hB⟩, _⟩
    have HB_4 := Lib.hid (HB_3.out.trans (hB.mono HB_3.out.size))
    have HR1_4 := Lib.hid (HR1_3.out.below hB)
    clear HR1_3 HB_3
    clear hz
    have hm2 : ts2.length ≤ maxLen := by unfold maxLen; omega
    have HR2 := Lib.hid (ho.reads)
    clear ho hB
    obtain ⟨ss, k2, h2⟩ : ∃ r k, servR ts2 d2 = (r, k) := ⟨_, _, rfl⟩
    have hss := servR_small ts2 d2
    rw [h2] at hss
    simp only at hss
    have C1 := Lib.hid (fun W (hx : Term.ListAt W (some ⟨g2, 0, none⟩) ts2) => show Calls Try.prog 33 #[.slice (some ⟨g2, 0, none⟩) ts2.length cap2, .int .i64 d2] W (SaysNewI ss k2 W) from by have e := implServingOnP_any (some ⟨g2, 0, none⟩) ts2.length cap2 ts2 d2 W rfl hm2 hx; rw [h2] at e; exact e.mono fun _ _ x => x.newI)
    have C2 := Lib.hid (fun W (hx : Term.ListAt W (some ⟨g2, 0, none⟩) ts2) => show Calls Try.prog 34 #[.slice (some ⟨g2, 0, none⟩) ts2.length cap2, .int .i64 d2] W (SaysNewI ss k2 W) from by have e := specServingOn_any (some ⟨g2, 0, none⟩) ts2.length cap2 ts2 d2 W rfl hm2 hx; rw [h2] at e; exact e.mono fun _ _ x => x.newI)
    clear h2
    go_wp2_with fail
    refine (C1.out _ HR2.out).mono ?_; rintro e u5 ⟨aI, capI, rfl, ho, hB⟩
    have HB_5 := Lib.hid (HB_4.out.trans (hB.mono HB_4.out.size))
    have HR1_5 := Lib.hid (HR1_4.out.below hB)
    have HR2_5 := Lib.hid (HR2.out.below hB)
    clear HR1_4 HR2 HB_4
    have HI := Lib.hid (ownI_reads ho)
    clear ho hB
    go_wp2_with fail
    refine (C2.out _ HR2_5.out).mono ?_; rintro e u6 ⟨aS, capS, rfl, ho, hB⟩
    have HB_6 := Lib.hid (HB_5.out.trans (hB.mono HB_5.out.size))
    have HR1_6 := Lib.hid (HR1_5.out.below hB)
    have HR2_6 := Lib.hid (HR2_5.out.below hB)
    have HI_6 := Lib.hid (HI.out.below hB)
    clear HR1_5 HR2_5 HI HB_5
    have HS := Lib.hid (ownI_reads ho)
    clear ho hB C1 C2 HR2_6
    obtain ⟨xs, k3, h3⟩ : ∃ r k, overR ts1 = (r, k) := ⟨_, _, rfl⟩
    have HOF := Lib.hid (over_facts h3)
    have hxs := overR_small ts1
    rw [h3] at hxs
    simp only at hxs
    have hmx : xs.length ≤ maxLen := by unfold maxLen; omega
    have hms : ss.length ≤ maxLen := by unfold maxLen; omega
    have C1 := Lib.hid (fun W (hx : Term.ListAt W (some ⟨g1, 0, none⟩) ts1) => show Calls Try.prog 35 #[.slice (some ⟨g1, 0, none⟩) ts1.length cap1] W (SaysNewI xs k3 W) from by have e := implOverServed_any (some ⟨g1, 0, none⟩) ts1.length cap1 ts1 W rfl hm1 hx; rw [h3] at e; exact e.mono fun _ _ x => x.newI)
    have C2 := Lib.hid (fun W (hx : Term.ListAt W (some ⟨g1, 0, none⟩) ts1) => show Calls Try.prog 36 #[.slice (some ⟨g1, 0, none⟩) ts1.length cap1] W (SaysNewI xs k3 W) from by have e := specOverServed_any (some ⟨g1, 0, none⟩) ts1.length cap1 ts1 W rfl hm1 hx; rw [h3] at e; exact e.mono fun _ _ x => x.newI)
    clear h3
    go_wp2_with fail
    refine (C1.out _ HR1_6.out).mono ?_; rintro e u7 ⟨aO, capO, rfl, ho, hB⟩
    have HB_7 := Lib.hid (HB_6.out.trans (hB.mono HB_6.out.size))
    have HR1_7 := Lib.hid (HR1_6.out.below hB)
    have HI_7 := Lib.hid (HI_6.out.below hB)
    have HS_7 := Lib.hid (HS.out.below hB)
    clear HR1_6 HI_6 HS HB_6
    have HO := Lib.hid (ownI_reads ho)
    clear ho hB
    go_wp2_with fail
    refine (C2.out _ HR1_7.out).mono ?_; rintro e u8 ⟨aP, capP, rfl, ho, hB⟩
    have HB_8 := Lib.hid (HB_7.out.trans (hB.mono HB_7.out.size))
    have HR1_8 := Lib.hid (HR1_7.out.below hB)
    have HI_8 := Lib.hid (HI_7.out.below hB)
    have HS_8 := Lib.hid (HS_7.out.below hB)
    have HO_8 := Lib.hid (HO.out.below hB)
    clear HR1_7 HI_7 HS_7 HO HB_7
    have HP := Lib.hid (ownI_reads ho)
    clear ho hB C1 C2
    go_wp2_with fail
    refine (likeInts_any aI aS ss.length capI ss.length capS ss ss u8 rfl rfl hms hms HI_8.out HS_8.out).mono ?_
    intro e u9 hq
    obtain ⟨rfl, hB⟩ := sameI hq
    clear hq
    have HB_9 := Lib.hid (HB_8.out.trans (hB.mono HB_8.out.size))
    have HR1_9 := Lib.hid (HR1_8.out.below hB)
    have HI_9 := Lib.hid (HI_8.out.below hB)
    have HS_9 := Lib.hid (HS_8.out.below hB)
    have HO_9 := Lib.hid (HO_8.out.below hB)
    have HP_9 := Lib.hid (HP.out.below hB)
    clear HR1_8 HI_8 HS_8 HO_8 HP HB_8
    clear hB
    clear HI_9 HS_9
    go_wp2_with fail
    refine (likeInts_any aO aP xs.length capO xs.length capP xs xs u9 rfl rfl hmx hmx HO_9.out HP_9.out).mono ?_
    intro e u10 hq
    obtain ⟨rfl, hB⟩ := sameI hq
    clear hq
    have HB_10 := Lib.hid (HB_9.out.trans (hB.mono HB_9.out.size))
    have HR1_10 := Lib.hid (HR1_9.out.below hB)
    have HO_10 := Lib.hid (HO_9.out.below hB)
    have HP_10 := Lib.hid (HP_9.out.below hB)
    clear HR1_9 HO_9 HP_9 HB_9
    clear hB
    clear HP_10
    rcases HOF.out with hko | ⟨hko, hof⟩
    · have eko : (k3 == 0) = false := beq_eq_false_iff_ne.2 hko
      clear hko
      go_wp2_with fail
      refine wp_loop_rounds 1 ?_
      rw [rounds_succ]
      rcases HBF.out with hkb | ⟨hkb, hA1, hs1, hs2, hs3⟩
      · have ekb : (k1 == 0) = false := beq_eq_false_iff_ne.2 hkb
        have ekb2 : (k1 != 0) = true := bne_iff_ne.2 hkb
        clear hkb
        go_wp2_with fail
        go_ret
        exact ⟨rfl, HB_10.out⟩
      · subst hkb
        have HS3 := Lib.hid hs3
        obtain ⟨zs, k5, h5⟩ : ∃ r k, servR ts1 b1 = (r, k) := ⟨_, _, rfl⟩
        rw [h5] at hs1 hs2
        simp only at hs1 hs2
        subst hs1
        have HZ := Lib.hid hs2
        have HBC := Lib.hid (HB_10.out)
        have HRC := Lib.hid (HR1_10.out)
        have D1 := Lib.hid (show Calls Try.prog 33 #[.slice (some ⟨g1, 0, none⟩) ts1.length cap1, .int .i64 b1] u10 (SaysNewI zs 0 u10) from by have e := implServingOnP_any (some ⟨g1, 0, none⟩) ts1.length cap1 ts1 b1 u10 rfl hm1 HRC.out; rw [h5] at e; exact e.mono fun _ _ x => x.newI)
        clear h5 hs2 hs3 hA1
        go_wp2_with fail
        refine D1.out.mono ?_; rintro e x1 ⟨aZ, capZ, rfl, _, hB⟩
        have HB1 := Lib.hid (HBC.out.trans (hB.mono HBC.out.size)); have HR1 := Lib.hid (HRC.out.below hB); clear hB D1
        go_wp2_with fail
        go_loopw [25, 26, 27] (fun i _ _ wr => ∃ k : Nat, k ≤ ts1.length ∧ i = .int .i64 k ∧ Below x1.heap.size x1 wr) (fun i _ _ _ => ts1.length - (intOf i).toNat)
        case atStart => exact ⟨0, Nat.zero_le _, rfl, Below.refl _ _⟩
        case round =>
          obtain ⟨k, hk, rfl, hB⟩ := hrel
          have HB0 := Lib.hid hB; clear hB
          by_cases hlt : k < ts1.length
          · obtain ⟨b, off, c, ha, hc, hp⟩ := (HR1.out.below HB0.out).at rfl hlt
            obtain ⟨e1, e2⟩ := HS3.out k c hp
            cases ha
            obtain ⟨os, k6, h6⟩ : ∃ r k, servR ts1 c.to = (r, k) := ⟨_, _, rfl⟩
            rw [h6] at e1 e2
            simp only at e1 e2
            subst e1
            obtain ⟨ol, hol⟩ : ∃ ol, os.length = ol := ⟨_, rfl⟩
            have D2 := Lib.hid (show Calls Try.prog 33 #[.slice (some ⟨g1, 0, none⟩) ts1.length cap1, .int .i64 c.to] wr (fun e w' => ∃ a cap, e = .returned (.tuple #[.slice a ol cap, .int .i64 0]) ∧ Below wr.heap.size wr w') from by
              have e := implServingOnP_any (some ⟨g1, 0, none⟩) ts1.length cap1 ts1 c.to wr rfl hm1 (HR1.out.below HB0.out)
              rw [h6] at e
              refine e.mono fun _ _ x => ?_
              obtain ⟨a, cap, he, _, hB⟩ := x.newI
              exact ⟨a, cap, by rw [he, hol], hB⟩)
            rw [hol] at e2
            have hgt : decide ((ol : Int) > m1) = false := decide_eq_false (by omega)
            obtain ⟨c0, c1, c2⟩ := hc
            rw [Nat.zero_add] at c0 c1 c2
            clear h6 hp hol
            go_wp2_with fail
            refine D2.out.mono ?_; rintro e x2 ⟨aH, capH, rfl, hB⟩
            have HB2 := Lib.hid (HB0.out.trans (hB.mono HB0.out.size)); clear hB D2 c0 c1 c2
            go_wp2_with fail
            go_roundw
            case rel => exact ⟨k + 1, by omega, by go_num, HB2.out⟩
            case measure => simp [intOf]; omega
          · go_wp2_with fail
            go_ret
            exact ⟨ret_bool' (by simp [HZ.out]), HB1.out.trans (HB0.out.mono HB1.out.size)⟩
    · subst hko
      have HOX := Lib.hid hof
      clear hof
      go_wp2_with fail
      go_loopw [20, 21, 22] (fun i _ _ wr => ∃ k : Nat, k ≤ xs.length ∧ i = .int .i64 k ∧ Below u10.heap.size u10 wr) (fun i _ _ _ => xs.length - (intOf i).toNat)
      case atStart => exact ⟨0, Nat.zero_le _, rfl, Below.refl _ _⟩
      case round =>
        obtain ⟨k, hk, rfl, hB⟩ := hrel
        have HB0 := Lib.hid hB; clear hB
        by_cases hlt : k < xs.length
        · obtain ⟨b, off, x, ha, hc, ht, hx⟩ := (HO_10.out.below HB0.out).at rfl hlt
          obtain ⟨e1, e2⟩ := HOX.out k x hx
          subst ha
          obtain ⟨dd, k6, h6⟩ : ∃ r k, daysR ts1 x = (r, k) := ⟨_, _, rfl⟩
          rw [h6] at e1 e2
          simp only at e1 e2
          subst e1
          have D2 := Lib.hid (show Calls Try.prog 24 #[.slice (some ⟨g1, 0, none⟩) ts1.length cap1, .int .i64 x] wr (fun e w' => e = .returned (.tuple #[.int .i64 dd, .int .i64 0]) ∧ Below wr.heap.size wr w') from by have e := implDaysServed_any (some ⟨g1, 0, none⟩) ts1.length cap1 ts1 x wr rfl hm1 (HR1_10.out.below HB0.out); rw [h6] at e; exact e)
          have hle : decide (dd ≤ 60) = false := decide_eq_false (by omega)
          clear h6 ht hx
          go_wp2_with fail
          refine D2.out.mono ?_; rintro e x1 ⟨rfl, hB⟩
          have HB1 := Lib.hid (HB0.out.trans (hB.mono HB0.out.size)); clear hB D2 hc
          go_wp2_with fail
          go_roundw
          case rel => exact ⟨k + 1, by omega, by go_num, HB1.out⟩
          case measure => simp [intOf]; omega
        · have hkl : decide ((k : Int) < (xs.length : Int)) = false := decide_eq_false (by omega)
          rcases HBF.out with hkb | ⟨hkb, hA1, hs1, hs2, hs3⟩
          · have ekb : (k1 == 0) = false := beq_eq_false_iff_ne.2 hkb
            have ekb2 : (k1 != 0) = true := bne_iff_ne.2 hkb
            clear hkb
            go_wp2_with fail
            go_ret
            exact ⟨rfl, HB_10.out.trans (HB0.out.mono HB_10.out.size)⟩
          · subst hkb
            have HS3 := Lib.hid hs3
            obtain ⟨zs, k5, h5⟩ : ∃ r k, servR ts1 b1 = (r, k) := ⟨_, _, rfl⟩
            rw [h5] at hs1 hs2
            simp only at hs1 hs2
            subst hs1
            have HZ := Lib.hid hs2
            have HBC := Lib.hid (HB_10.out.trans (HB0.out.mono HB_10.out.size))
            have HRC := Lib.hid (HR1_10.out.below HB0.out)
            have D1 := Lib.hid (show Calls Try.prog 33 #[.slice (some ⟨g1, 0, none⟩) ts1.length cap1, .int .i64 b1] wr (SaysNewI zs 0 wr) from by have e := implServingOnP_any (some ⟨g1, 0, none⟩) ts1.length cap1 ts1 b1 wr rfl hm1 HRC.out; rw [h5] at e; exact e.mono fun _ _ x => x.newI)
            clear h5 hs2 hs3 hA1
            go_wp2_with fail
            refine D1.out.mono ?_; rintro e x1 ⟨aZ, capZ, rfl, _, hB⟩
            have HB1 := Lib.hid (HBC.out.trans (hB.mono HBC.out.size)); have HR1 := Lib.hid (HRC.out.below hB); clear hB D1
            go_wp2_with fail
            go_loopw [25, 26, 27] (fun i _ _ wr => ∃ k : Nat, k ≤ ts1.length ∧ i = .int .i64 k ∧ Below x1.heap.size x1 wr) (fun i _ _ _ => ts1.length - (intOf i).toNat)
            case atStart => exact ⟨0, Nat.zero_le _, rfl, Below.refl _ _⟩
            case round =>
              obtain ⟨k, hk, rfl, hB⟩ := hrel
              have HB0 := Lib.hid hB; clear hB
              by_cases hlt : k < ts1.length
              · obtain ⟨b, off, c, ha, hc, hp⟩ := (HR1.out.below HB0.out).at rfl hlt
                obtain ⟨e1, e2⟩ := HS3.out k c hp
                cases ha
                obtain ⟨os, k6, h6⟩ : ∃ r k, servR ts1 c.to = (r, k) := ⟨_, _, rfl⟩
                rw [h6] at e1 e2
                simp only at e1 e2
                subst e1
                obtain ⟨ol, hol⟩ : ∃ ol, os.length = ol := ⟨_, rfl⟩
                have D2 := Lib.hid (show Calls Try.prog 33 #[.slice (some ⟨g1, 0, none⟩) ts1.length cap1, .int .i64 c.to] wr (fun e w' => ∃ a cap, e = .returned (.tuple #[.slice a ol cap, .int .i64 0]) ∧ Below wr.heap.size wr w') from by
                  have e := implServingOnP_any (some ⟨g1, 0, none⟩) ts1.length cap1 ts1 c.to wr rfl hm1 (HR1.out.below HB0.out)
                  rw [h6] at e
                  refine e.mono fun _ _ x => ?_
                  obtain ⟨a, cap, he, _, hB⟩ := x.newI
                  exact ⟨a, cap, by rw [he, hol], hB⟩)
                rw [hol] at e2
                have hgt : decide ((ol : Int) > m1) = false := decide_eq_false (by omega)
                obtain ⟨c0, c1, c2⟩ := hc
                rw [Nat.zero_add] at c0 c1 c2
                clear h6 hp hol
                go_wp2_with fail
                refine D2.out.mono ?_; rintro e x2 ⟨aH, capH, rfl, hB⟩
                have HB2 := Lib.hid (HB0.out.trans (hB.mono HB0.out.size)); clear hB D2 c0 c1 c2
                go_wp2_with fail
                go_roundw
                case rel => exact ⟨k + 1, by omega, by go_num, HB2.out⟩
                case measure => simp [intOf]; omega
              · go_wp2_with fail
                go_ret
                exact ⟨ret_bool' (by simp [HZ.out]), HB1.out.trans (HB0.out.mono HB1.out.size)⟩

set_option maxRecDepth 100000 in
theorem lifted (os : Os) (started : os.Started) (H : Type) (enc : TypeId × Value → H) :
    ReturnsInHanded {} Try.checked os 4 .any (Rows.fnServingSpec.pre6 enc Try.prog Try.f4 Rows.fnServingRow.domain false) (Rows.fnServingSpec.post enc Try.prog Try.f4 false true false false) := by
  refine returnsInHanded_of_change (C := Try.checked) own started (by kernel_rfl) Try.func4
    (ChangeSpec.witness6 (enc := enc) (C := Try.checked) false ⟨#[], #[.slice none 0 0], []⟩ 8 (by kernel_rfl) (by kernel_rfl) (by kernel_rfl) (by kernel_rfl)) ?_
  intro W base args ds gs before hval0 hW hcnd _
  have hval : ∀ (j : Nat) t v, Try.f4.params[j]? = some t → args[j]? = some v → Value.okWide Try.prog W .any base t v := hval0
  have hW' := hW
  obtain ⟨p, q, hA0, hV, rfl, hfz, hnd⟩ := hW
  have hA : DataW.TrodAll enc Try.prog W 0 (fun _ => true) true Try.f4.params.toList args.toList ds p := hA0
  rw [Try.params4] at hA hval
  obtain ⟨v0, vs0, d0, ds0, p0, q0, hargs, rfl, rfl, h0, r0⟩ := trodAll_cons hA
  obtain ⟨rfl, rfl, rfl⟩ := trodAll_nil r0
  obtain rfl : args = #[v0] := by cases args; simp_all
  obtain ⟨rfl, rfl⟩ := trodVars_none hV
  obtain ⟨a0, len0, cap0, rfl⟩ := okWide_slice Try.underlying22 (hval 0 22 v0 rfl rfl)
  have k0 := h0
  have lt0 : ∀ x ∈ p0, x.block < W.heap.size := by obtain ⟨m, hm⟩ := k0; exact DataW.trod_lt m _ _ _ hm
  obtain ⟨z0, w0⟩ : ∃ zs, IsRow .u8 W a0 len0 cap0 zs := by
    obtain ⟨fuel, hf⟩ := h0
    rcases open_ints Try.underlying22 Try.underlying5 (by kernel_rfl) hf with ⟨hcs, _⟩ | ⟨x, l, c, zs, hcs, _, hl, hm, hz, _, hcell, hwz⟩
    · simp [Value.cells] at hcs
      obtain ⟨rfl, rfl, rfl⟩ := hcs
      exact ⟨[], .inl ⟨rfl, rfl, rfl, rfl⟩⟩
    · simp [Value.cells] at hcs
      obtain ⟨rfl, rfl, rfl⟩ := hcs
      exact ⟨zs, .inr ⟨_, rfl, hl, hm, by simpa using hz, hcell, hwz⟩⟩
  clear hA0 hval0
  refine (walk W a0 len0 cap0 z0 w0).mono fun e W' ⟨he, bel⟩ => ?_
  subst he
  exact ⟨_, rfl, _, _, _, [], _, [], hW', trodAll_mk1 (shut_bool Try.underlying4 _), (trodAll_cons_mk (Below.trod laidOut (by kernel_rfl) (of_decide_eq_true (by kernel_rfl)) k0 bel lt0) trodAll_mk0), rfl, bel.frame _, fun h => by cases h⟩

theorem over : Rows.fnServingRow.holds Try.pinned (OpenSpec.ofChange Rows.fnServingSpec) :=
  OpenClaim.holds_of_wide 4 Try.f4 rfl rfl rfl rfl rfl rfl rfl ⟨rfl, rfl, rfl, rfl, rfl⟩ rfl rfl rfl rfl rfl (by kernel_rfl) Try.func4 (by kernel_rfl)
    (of_decide_eq_true (by kernel_rfl)) (by unfold Func.isWrapper; first | (rw [if_pos (by decide +kernel)]; kernel_rfl) | (rw [if_neg (by decide +kernel)]; exact ⟨rfl, rfl⟩))
    (fun os started H enc _ => lifted os started H enc)

/-- The statement. -/
theorem proved : Rows.FnServingSaid := over
end Go.Proofs.Ytblbmmajobefiaa.fnServing
