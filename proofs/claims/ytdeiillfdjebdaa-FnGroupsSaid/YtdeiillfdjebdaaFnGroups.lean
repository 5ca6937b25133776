/- Proved: for every code, laws.FnGroups returns true and leaves its argument as it was: everybody is in exactly one group, whoever is alike is in the same one, and the answers of chapter 5 are those of their models. No condition. -/
import Derived.Test.YtdeiillfdjebdaaRows
import Derived.WalkKit
import Derived.ProofKit
import Derived.OpenShut
import Derived.ShutString
import Derived.ChangeOld
import Derived.Below
import Derived.SliceStrings
import Derived.Lib.Hide
import Derived.Test.YtdeiillfdjebdaaPure40
import Derived.Test.YtdeiillfdjebdaaPure41
import Derived.Test.YtdeiillfdjebdaaPure51
import Derived.Test.YtdeiillfdjebdaaIsPers
import Derived.Test.YtdeiillfdjebdaaArePers
import Derived.Test.YtdeiillfdjebdaaPersSlice
import Derived.Test.YtdeiillfdjebdaaBig
import Derived.Test.YtdeiillfdjebdaaCode5
import Derived.Test.YtdeiillfdjebdaaMarkP
import Derived.Test.YtdeiillfdjebdaaTab
import Derived.Test.YtdeiillfdjebdaaTabLike
import Derived.Test.YtdeiillfdjebdaaTabB
import Derived.Test.YtdeiillfdjebdaaPairs5
import Derived.Test.YtdeiillfdjebdaaGrp5
import Derived.Test.YtdeiillfdjebdaaJoined5
import Derived.Test.YtdeiillfdjebdaaSafe5
import Derived.Test.YtdeiillfdjebdaaKept5
import Derived.Test.YtdeiillfdjebdaaDraw5
import Derived.Test.YtdeiillfdjebdaaHelp5
import Derived.Test.YtdeiillfdjebdaaFact5
namespace Go.Proofs.Ytdeiillfdjebdaa.fnGroups
open Go.ChangeShapes Go.WideShapes Go.ChangeAt Go.RowKit
open Go.ChangeMaps (open_string shut_string)
open Pure2 Pure6 Pure40 Pure41 Pure50 Pure51 Go.Sort
set_option linter.unusedVariables false

theorem own : ownKnob Try.prog.godebug = none := by kernel_rfl
theorem laidOut : laidOutB Try.prog = true := by kernel_rfl

/-- What the walk is told of a slice of integers that came in: it is nil, or it leads to a row of cap cells, the numbers zs. -/
def IsRow (k : IntKind) (w : World) (a : Option Addr) (len cap : Nat) (zs : List Int) : Prop :=
  (a = none ∧ len = 0 ∧ cap = 0 ∧ zs = []) ∨
  ∃ x, a = some x ∧ len ≤ cap ∧ cap ≤ maxLen ∧ zs.length = cap ∧ (∀ i, i < zs.length → w.cell? (x.add i) = some (.int k (zs.getD i 0))) ∧ ∀ n ∈ zs, (Lit.int k n).wf = true

set_option maxRecDepth 100000 in
set_option maxHeartbeats 4000000 in
theorem walk (w : World) (a0 : Option Addr) (len0 cap0 : Nat) (z0 : List Int) (w0 : IsRow .u8 w a0 len0 cap0 z0) :
    Calls Try.prog 3 #[.slice a0 len0 cap0] w fun e w' => e = .returned (.bool true) ∧ Below w.heap.size w w' := by
  obtain ⟨hl, hY⟩ := bytes_of_row w0
  generalize z0.take len0 = bs at hl hY
  have HL := Lib.hid hl; have HY := Lib.hid hY; clear hl hY w0
  have HBig := Lib.hid (lawsBig_any a0 len0 cap0 w)
  by_cases hb : 4096 < len0
  · rw [decide_eq_true hb] at HBig
    go_enter Try.func3, Try.ntmps3
    go_wp2_with fail
    refine HBig.out.mono ?_; rintro e w' ⟨rfl, rfl⟩
    go_wp2_with fail
    go_ret
    exact ⟨rfl, Below.refl _ _⟩
  · rw [decide_eq_false hb] at HBig
    have hm : len0 ≤ 4096 := by omega
    clear hb
    go_enter Try.func3, Try.ntmps3
    go_wp2_with fail
    refine HBig.out.mono ?_; rintro e w' ⟨rfl, rfl⟩
    go_wp2_with fail
    refine (specDrawGroupsOf_any a0 len0 cap0 bs w HL.out hm HY.out).mono ?_; rintro e w1 ⟨g, cg, qs, m, rfl, hL, hB⟩
    have HB1 := Lib.hid (hB)
    have L1 := Lib.hid (hL)
    clear hB hL
    obtain ⟨gs, c1, h1⟩ : ∃ gs c, groupsR qs m = (gs, c) := ⟨_, _, rfl⟩
    obtain ⟨ps, c2, h2⟩ : ∃ ps c, pairsR qs m = (ps, c) := ⟨_, _, rfl⟩
    obtain ⟨js, c3, h3⟩ : ∃ js c, joinedR qs m = (js, c) := ⟨_, _, rfl⟩
    obtain ⟨d, c4, h4⟩ : ∃ d c, dupR qs m = (d, c) := ⟨_, _, rfl⟩
    obtain ⟨rfl, rfl, rfl, hfacts⟩ := grp_facts h1 h2 h3 h4
    have hsg := groupsR_small qs m; rw [h1] at hsg; simp only at hsg
    have hsp := pairsR_small qs m; rw [h2] at hsp; simp only at hsp
    have hsj := joinedR_small qs m; rw [h3] at hsj; simp only at hsj
    have HG := Lib.hid (fun W (hL : ListIn W g cg qs) => show Calls Try.prog 15 #[.slice (some ⟨g, 0, none⟩) qs.length cg, .int .i64 m] W (SaysTab gs c4 W) from by have := implGroupsOf_any (some ⟨g, 0, none⟩) qs.length cg qs m W rfl (by have := hL.1; unfold maxLen; omega) hL.2.2.1 (smallL_fits hL.2.1); rw [h1] at this; exact this)
    have HGs := Lib.hid (fun W (hL : ListIn W g cg qs) => show Calls Try.prog 16 #[.slice (some ⟨g, 0, none⟩) qs.length cg, .int .i64 m] W (SaysTab gs c4 W) from by have := specGroupsOf_any (some ⟨g, 0, none⟩) qs.length cg qs m W rfl (by have := hL.1; unfold maxLen; omega) hL.2.2.1 (smallL_fits hL.2.1); rw [h1] at this; exact this)
    have HP := Lib.hid (fun W (hL : ListIn W g cg qs) => show Calls Try.prog 17 #[.slice (some ⟨g, 0, none⟩) qs.length cg, .int .i64 m] W (SaysTab ps c4 W) from by have := implAlikePairs_any (some ⟨g, 0, none⟩) qs.length cg qs m W rfl (by have := hL.1; unfold maxLen; omega) hL.2.2.1 (smallL_fits hL.2.1); rw [h2] at this; exact this)
    have HPs := Lib.hid (fun W (hL : ListIn W g cg qs) => show Calls Try.prog 18 #[.slice (some ⟨g, 0, none⟩) qs.length cg, .int .i64 m] W (SaysTab ps c4 W) from by have := specAlikePairs_any (some ⟨g, 0, none⟩) qs.length cg qs m W rfl (by have := hL.1; unfold maxLen; omega) hL.2.2.1 (smallL_fits hL.2.1); rw [h2] at this; exact this)
    have HJ := Lib.hid (fun W (hL : ListIn W g cg qs) => show Calls Try.prog 19 #[.slice (some ⟨g, 0, none⟩) qs.length cg, .int .i64 m] W (SaysNewP js c4 W) from by have := implJoined_any (some ⟨g, 0, none⟩) qs.length cg qs m W rfl (by have := hL.1; unfold maxLen; omega) hL.2.2.1 (smallL_fits hL.2.1); rw [h3] at this; exact this)
    have HJs := Lib.hid (fun W (hL : ListIn W g cg qs) => show Calls Try.prog 20 #[.slice (some ⟨g, 0, none⟩) qs.length cg, .int .i64 m] W (SaysNewP js c4 W) from by have := specJoined_any (some ⟨g, 0, none⟩) qs.length cg qs m W rfl (by have := hL.1; unfold maxLen; omega) hL.2.2.1 (smallL_fits hL.2.1); rw [h3] at this; exact this)
    have HD := Lib.hid (fun W (hL : ListIn W g cg qs) => show Calls Try.prog 21 #[.slice (some ⟨g, 0, none⟩) qs.length cg, .int .i64 m] W (fun e w' => e = .returned (.tuple #[.int .i64 d, .int .i64 c4]) ∧ Below W.heap.size W w') from by have := implDup_any (some ⟨g, 0, none⟩) qs.length cg qs m W rfl (by have := hL.1; unfold maxLen; omega) hL.2.2.1 (smallL_fits hL.2.1); rw [h4] at this; exact this)
    have HDs := Lib.hid (fun W (hL : ListIn W g cg qs) => show Calls Try.prog 22 #[.slice (some ⟨g, 0, none⟩) qs.length cg, .int .i64 m] W (fun e w' => e = .returned (.tuple #[.int .i64 d, .int .i64 c4]) ∧ Below W.heap.size W w') from by have := specDup_any (some ⟨g, 0, none⟩) qs.length cg qs m W rfl (by have := hL.1; unfold maxLen; omega) hL.2.2.1 (smallL_fits hL.2.1); rw [h4] at this; exact this)
    have hfa := Lib.hid hfacts; have hSG := Lib.hid hsg; have hSP := Lib.hid hsp
    clear h1 h2 h3 h4 hfacts hsg hsp
    go_wp2_with fail
    refine (HG.out w1 L1.out).mono ?_; rintro e w2 ⟨ag, cag, rg, rfl, hf, ho, hB⟩
    have HB2 := Lib.hid (HB1.out.trans (hB.mono HB1.out.size))
    have L2 := Lib.hid (L1.out.below hB)
    have G2 := Lib.hid (ownTab_reads hf ho)
    clear hB hf ho
    go_wp2_with fail
    refine (HGs.out w2 L2.out).mono ?_; rintro e w3 ⟨aS, cas, rs, rfl, hf, ho, hB⟩
    have HB3 := Lib.hid (HB2.out.trans (hB.mono HB2.out.size))
    have L3 := Lib.hid (L2.out.below hB)
    have G3 := Lib.hid (G2.out.below hB)
    have S3 := Lib.hid (ownTab_reads hf ho)
    clear hB hf ho
    go_wp2_with fail
    refine (HP.out w3 L3.out).mono ?_; rintro e w4 ⟨ap, cap1, rp, rfl, hf, ho, hB⟩
    have HB4 := Lib.hid (HB3.out.trans (hB.mono HB3.out.size))
    have L4 := Lib.hid (L3.out.below hB)
    have G4 := Lib.hid (G3.out.below hB)
    have S4 := Lib.hid (S3.out.below hB)
    have P4 := Lib.hid (ownTab_reads hf ho)
    clear hB hf ho
    go_wp2_with fail
    refine (HPs.out w4 L4.out).mono ?_; rintro e w5 ⟨aq, caq, rq, rfl, hf, ho, hB⟩
    have HB5 := Lib.hid (HB4.out.trans (hB.mono HB4.out.size))
    have L5 := Lib.hid (L4.out.below hB)
    have G5 := Lib.hid (G4.out.below hB)
    have S5 := Lib.hid (S4.out.below hB)
    have P5 := Lib.hid (P4.out.below hB)
    have Q5 := Lib.hid (ownTab_reads hf ho)
    clear hB hf ho
    go_wp2_with fail
    refine (HJ.out w5 L5.out).mono ?_; rintro e w6 ⟨aj, caj, rfl, ho, hB⟩
    have HB6 := Lib.hid (HB5.out.trans (hB.mono HB5.out.size))
    have L6 := Lib.hid (L5.out.below hB)
    have G6 := Lib.hid (G5.out.below hB)
    have S6 := Lib.hid (S5.out.below hB)
    have P6 := Lib.hid (P5.out.below hB)
    have Q6 := Lib.hid (Q5.out.below hB)
    have J6 := Lib.hid (ownQ_reads ho)
    clear hB ho
    go_wp2_with fail
    refine (HJs.out w6 L6.out).mono ?_; rintro e w7 ⟨ak, cak, rfl, ho, hB⟩
    have HB7 := Lib.hid (HB6.out.trans (hB.mono HB6.out.size))
    have L7 := Lib.hid (L6.out.below hB)
    have G7 := Lib.hid (G6.out.below hB)
    have S7 := Lib.hid (S6.out.below hB)
    have P7 := Lib.hid (P6.out.below hB)
    have Q7 := Lib.hid (Q6.out.below hB)
    have J7 := Lib.hid (J6.out.below hB)
    have K7 := Lib.hid (ownQ_reads ho)
    clear hB ho
    go_wp2_with fail
    refine (HD.out w7 L7.out).mono ?_; rintro e w8 ⟨rfl, hB⟩
    have HB8 := Lib.hid (HB7.out.trans (hB.mono HB7.out.size))
    have L8 := Lib.hid (L7.out.below hB)
    have G8 := Lib.hid (G7.out.below hB)
    have S8 := Lib.hid (S7.out.below hB)
    have P8 := Lib.hid (P7.out.below hB)
    have Q8 := Lib.hid (Q7.out.below hB)
    have J8 := Lib.hid (J7.out.below hB)
    have K8 := Lib.hid (K7.out.below hB)
    clear hB 
    go_wp2_with fail
    refine (HDs.out w8 L8.out).mono ?_; rintro e w9 ⟨rfl, hB⟩
    have HB9 := Lib.hid (HB8.out.trans (hB.mono HB8.out.size))
    have L9 := Lib.hid (L8.out.below hB)
    have G9 := Lib.hid (G8.out.below hB)
    have S9 := Lib.hid (S8.out.below hB)
    have P9 := Lib.hid (P8.out.below hB)
    have Q9 := Lib.hid (Q8.out.below hB)
    have J9 := Lib.hid (J8.out.below hB)
    have K9 := Lib.hid (K8.out.below hB)
    clear hB 
    go_wp2_with fail
    refine (specDrawLeastSafeLimit_any a0 len0 cap0 bs w9 HL.out hm (HY.out.later HB9.out)).mono ?_; rintro e w10 ⟨g2, cg2, qs2, rfl, hL, hB⟩
    have HB10 := Lib.hid (HB9.out.trans (hB.mono HB9.out.size))
    have L10 := Lib.hid (L9.out.below hB)
    have G10 := Lib.hid (G9.out.below hB)
    have S10 := Lib.hid (S9.out.below hB)
    have P10 := Lib.hid (P9.out.below hB)
    have Q10 := Lib.hid (Q9.out.below hB)
    have J10 := Lib.hid (J9.out.below hB)
    have K10 := Lib.hid (K9.out.below hB)
    have X10 := Lib.hid (hL)
    clear hB hL
    obtain ⟨s, c5, h5⟩ : ∃ s c, safeR qs2 = (s, c) := ⟨_, _, rfl⟩
    have hsf := safe_facts h5
    have HS := Lib.hid (fun W (hL : ListIn W g2 cg2 qs2) => show Calls Try.prog 24 #[.slice (some ⟨g2, 0, none⟩) qs2.length cg2] W (fun e w' => e = .returned (.tuple #[.int .i64 s, .int .i64 c5]) ∧ Below W.heap.size W w') from by have := implSafe_any (some ⟨g2, 0, none⟩) qs2.length cg2 qs2 W rfl (by have := hL.1; unfold maxLen; omega) hL.2.2.1 (smallL_fits hL.2.1) hL.2.2.2; rw [h5] at this; exact this)
    have HSs := Lib.hid (fun W (hL : ListIn W g2 cg2 qs2) => show Calls Try.prog 25 #[.slice (some ⟨g2, 0, none⟩) qs2.length cg2] W (fun e w' => e = .returned (.tuple #[.int .i64 s, .int .i64 c5]) ∧ Below W.heap.size W w') from by have := specSafe_any (some ⟨g2, 0, none⟩) qs2.length cg2 qs2 W rfl (by have := hL.1; unfold maxLen; omega) hL.2.2.1 (smallL_fits hL.2.1); rw [h5] at this; exact this)
    clear h5
    go_wp2_with fail
    refine (HS.out w10 X10.out).mono ?_; rintro e w11 ⟨rfl, hB⟩
    have HB11 := Lib.hid (HB10.out.trans (hB.mono HB10.out.size))
    have L11 := Lib.hid (L10.out.below hB)
    have G11 := Lib.hid (G10.out.below hB)
    have S11 := Lib.hid (S10.out.below hB)
    have P11 := Lib.hid (P10.out.below hB)
    have Q11 := Lib.hid (Q10.out.below hB)
    have J11 := Lib.hid (J10.out.below hB)
    have K11 := Lib.hid (K10.out.below hB)
    have X11 := Lib.hid (X10.out.below hB)
    clear hB 
    go_wp2_with fail
    refine (HSs.out w11 X11.out).mono ?_; rintro e w12 ⟨rfl, hB⟩
    have HB12 := Lib.hid (HB11.out.trans (hB.mono HB11.out.size))
    have L12 := Lib.hid (L11.out.below hB)
    have G12 := Lib.hid (G11.out.below hB)
    have S12 := Lib.hid (S11.out.below hB)
    have P12 := Lib.hid (P11.out.below hB)
    have Q12 := Lib.hid (Q11.out.below hB)
    have J12 := Lib.hid (J11.out.below hB)
    have K12 := Lib.hid (K11.out.below hB)
    have X12 := Lib.hid (X11.out.below hB)
    clear hB 
    go_wp2_with fail
    refine (likeTables_same ag aS gs.length cag cas gs w12 rfl (by have := hSG.out.1; omega) hSG.out.2.1 G12.out S12.out).mono ?_; rintro e w13 ⟨rfl, hB⟩
    have HB13 := Lib.hid (HB12.out.trans (hB.mono HB12.out.size))
    have L13 := Lib.hid (L12.out.below hB)
    have G13 := Lib.hid (G12.out.below hB)
    have S13 := Lib.hid (S12.out.below hB)
    have P13 := Lib.hid (P12.out.below hB)
    have Q13 := Lib.hid (Q12.out.below hB)
    have J13 := Lib.hid (J12.out.below hB)
    have K13 := Lib.hid (K12.out.below hB)
    have X13 := Lib.hid (X12.out.below hB)
    clear hB 
    go_wp2_with fail
    refine (likeTables_same ap aq ps.length cap1 caq ps w13 rfl (by have := hSP.out.1; omega) hSP.out.2.1 P13.out Q13.out).mono ?_; rintro e w14 ⟨rfl, hB⟩
    have HB14 := Lib.hid (HB13.out.trans (hB.mono HB13.out.size))
    have L14 := Lib.hid (L13.out.below hB)
    have G14 := Lib.hid (G13.out.below hB)
    have S14 := Lib.hid (S13.out.below hB)
    have P14 := Lib.hid (P13.out.below hB)
    have Q14 := Lib.hid (Q13.out.below hB)
    have J14 := Lib.hid (J13.out.below hB)
    have K14 := Lib.hid (K13.out.below hB)
    have X14 := Lib.hid (X13.out.below hB)
    clear hB 
    go_wp2_with fail
    refine (likePersons_same aj ak js.length caj cak js w14 rfl (by omega) J14.out K14.out).mono ?_; rintro e w15 ⟨rfl, hB⟩
    have HB15 := Lib.hid (HB14.out.trans (hB.mono HB14.out.size))
    have L15 := Lib.hid (L14.out.below hB)
    have G15 := Lib.hid (G14.out.below hB)
    have S15 := Lib.hid (S14.out.below hB)
    have P15 := Lib.hid (P14.out.below hB)
    have Q15 := Lib.hid (Q14.out.below hB)
    have J15 := Lib.hid (J14.out.below hB)
    have K15 := Lib.hid (K14.out.below hB)
    have X15 := Lib.hid (X14.out.below hB)
    clear hB 
    rcases hsf with hc5 | ⟨rfl, hpr⟩
    · have hc5b : (c5 == 0) = false := beq_eq_false_iff_ne.2 hc5
      clear hc5
      rcases hfa.out with hc | ⟨rfl, hgf⟩
      · have hcb : (c4 != 0) = true := by rw [bne_iff_ne]; exact hc
        go_wp2_with fail
        go_ret
        exact ⟨rfl, HB15.out⟩
      · obtain ⟨f1, f2, f3, f4, f5, f6, f7, f8⟩ := hgf
        have HF1 := Lib.hid f1; have HF2 := Lib.hid f2; have HF3 := Lib.hid f3; have HF4 := Lib.hid f4; have HF8 := Lib.hid f8
        have htot : total gs ≤ 12 := by omega
        clear f1 f2 f3 f4 f8
        go_wp2_with fail
        go_loopw [28, 29] (fun al c wr => ∃ t : Nat, t ≤ gs.length ∧ c = .int .i64 t ∧ al = .int .i64 (total (gs.take t) : Int) ∧ Below w15.heap.size w15 wr) (fun _ c _ => gs.length - (intOf c).toNat)
        case atStart => exact ⟨0, Nat.zero_le _, rfl, rfl, Below.refl _ _⟩
        case round =>
          obtain ⟨t, ht, rfl, rfl, hB⟩ := hrel
          have HR := Lib.hid hB; clear hB
          have htl := total_take_le gs t
          by_cases hlt : t < gs.length
          · obtain ⟨b, off, ga, gc, xs, e, hc, hx, hp⟩ := (G15.out.below HR.out).at rfl hlt
            subst e
            have hxl : xs.length ≤ 12 := HF4.out xs (List.mem_of_getElem? hp)
            have HX := Lib.hid hp; have HTS := Lib.hid (total_take_succ hp)
            clear hx hp
            go_wp2_with fail
            clear hc
            go_loopw [30] (fun c w3 => ∃ k : Nat, k ≤ ps.length ∧ c = .int .i64 k ∧ Below w15.heap.size w15 w3) (fun c _ => ps.length - (intOf c).toNat)
            case atStart => exact ⟨0, Nat.zero_le _, rfl, HR.out⟩
            case round =>
              obtain ⟨k, hk, rfl, hB⟩ := hrel
              clear HR
              have HR := Lib.hid hB; clear hB
              by_cases hlk : k < ps.length
              · obtain ⟨b', off', ga2, gc2, xs2, e, hc, hx, hp⟩ := (G15.out.below HR.out).at rfl hlt
                cases e
                obtain rfl : xs2 = xs := Option.some.inj (hp.symm.trans HX.out)
                obtain ⟨pb, poff, pa, pc, ys, e, hcp, hy, hpp⟩ := (P15.out.below HR.out).at rfl hlk
                subst e
                obtain ⟨u, v, rfl, hsame⟩ := HF8.out ys (List.mem_of_getElem? hpp)
                have huv := hsame xs2 (List.mem_of_getElem? HX.out)
                obtain ⟨qb, qoff, y0, e, hq0, _, hy0⟩ := hy.at rfl (show 0 < 2 by omega)
                subst e
                obtain ⟨qb', qoff', y1, e, hq1, _, hy1⟩ := hy.at rfl (show 1 < 2 by omega)
                cases e
                cases hy0; cases hy1
                have hcall1 := regr_call (w := wr) (fun W hW => show Calls Try.prog 28 #[.slice ga2 xs2.length gc2, .int .i64 u] W _ from (lawsHasInt_any ga2 xs2.length gc2 xs2 u W rfl (by unfold maxLen; omega) (hx.below hW)).mono (by rintro e w' ⟨rfl, rfl⟩; exact ⟨rfl, Below.refl _ _⟩))
                have hcall2 := regr_call (w := wr) (fun W hW => show Calls Try.prog 28 #[.slice ga2 xs2.length gc2, .int .i64 v] W _ from (lawsHasInt_any ga2 xs2.length gc2 xs2 v W rfl (by unfold maxLen; omega) (hx.below hW)).mono (by rintro e w' ⟨rfl, rfl⟩; exact ⟨rfl, Below.refl _ _⟩))
                rw [huv] at hcall1
                generalize hasI xs2 v = bv at hcall1 hcall2
                have k0 := cell_regrown hc; have k1 := cell_regrown hcp
                simp only [Nat.add_zero] at hq0
                have k2 := cell_regrown hq0; have k3 := cell_regrown hq1
                clear hc hcp hq0 hq1 hx hy hp hpp hsame huv
                go_wp2_with fail
                refine wp_region_quiet_below (by kernel_rfl) (by kernel_rfl) ?_
                iterate 11 (go_big_quiet_step (exact hcall1 _ _))
                iterate 12 (go_big_quiet_step (exact hcall2 _ _))
                refine wpQuiet_nil ?_
                intro _ hw'
                obtain ⟨⟨dq, osq⟩, hw''⟩ := hw'
                subst hw''
                have HR5 := Lib.hid (HR.out.trans ((below_regrown wr dq osq).mono HR.out.size))
                clear hcall1 hcall2 k0 k1 k2 k3
                generalize grow (redrawn wr dq) osq = w5 at HR5 ⊢
                go_wp2_with fail
                go_roundw
                case rel => exact ⟨k + 1, by omega, by go_num, HR5.out⟩
                case measure => simp [intOf]; omega
              · obtain rfl : k = ps.length := by omega
                go_wp2_with fail
                go_roundw
                case rel => exact ⟨t + 1, by omega, by go_num, by rw [HTS.out]; congr 1, HR.out⟩
                case measure => simp [intOf]; omega
          · obtain rfl : t = gs.length := by omega
            rw [List.take_length, HF1.out]
            have hd := HF3.out
            subst hd
            have e2 : ((js.length : Int) == (gs.length : Int)) = true := by rw [beq_iff_eq, HF2.out]
            have e4 : IntKind.i64.wrap ((qs.length : Int) - (gs.length : Int)) = (qs.length : Int) - (gs.length : Int) := IntWalk.i64_in _ (by omega)
            clear htl hlt
            go_wp2_with fail
            go_ret
            exact ⟨rfl, HB15.out.trans (HR.out.mono HB15.out.size)⟩
    · go_wp2_with fail
      refine ((show Calls Try.prog 17 #[.slice (some ⟨g2, 0, none⟩) qs2.length cg2, .int .i64 s] w15 (SaysTab [] 0 w15) from by have := implAlikePairs_any (some ⟨g2, 0, none⟩) qs2.length cg2 qs2 s w15 rfl (by have := X15.out.1; unfold maxLen; omega) X15.out.2.2.1 (smallL_fits X15.out.2.1); rw [hpr] at this; exact this)).mono ?_; rintro e w16 ⟨a9, c9, r9, rfl, _, _, hB⟩
      have HB16 := Lib.hid (HB15.out.trans (hB.mono HB15.out.size))
      have L16 := Lib.hid (L15.out.below hB)
      have G16 := Lib.hid (G15.out.below hB)
      have S16 := Lib.hid (S15.out.below hB)
      have P16 := Lib.hid (P15.out.below hB)
      have Q16 := Lib.hid (Q15.out.below hB)
      have J16 := Lib.hid (J15.out.below hB)
      have K16 := Lib.hid (K15.out.below hB)
      have X16 := Lib.hid (X15.out.below hB)
      clear hB hpr
      rcases hfa.out with hc | ⟨rfl, hgf⟩
      · have hcb : (c4 != 0) = true := by rw [bne_iff_ne]; exact hc
        go_wp2_with fail
        go_ret
        exact ⟨rfl, HB16.out⟩
      · obtain ⟨f1, f2, f3, f4, f5, f6, f7, f8⟩ := hgf
        have HF1 := Lib.hid f1; have HF2 := Lib.hid f2; have HF3 := Lib.hid f3; have HF4 := Lib.hid f4; have HF8 := Lib.hid f8
        have htot : total gs ≤ 12 := by omega
        clear f1 f2 f3 f4 f8
        go_wp2_with fail
        go_loopw [28, 29] (fun al c wr => ∃ t : Nat, t ≤ gs.length ∧ c = .int .i64 t ∧ al = .int .i64 (total (gs.take t) : Int) ∧ Below w16.heap.size w16 wr) (fun _ c _ => gs.length - (intOf c).toNat)
        case atStart => exact ⟨0, Nat.zero_le _, rfl, rfl, Below.refl _ _⟩
        case round =>
          obtain ⟨t, ht, rfl, rfl, hB⟩ := hrel
          have HR := Lib.hid hB; clear hB
          have htl := total_take_le gs t
          by_cases hlt : t < gs.length
          · obtain ⟨b, off, ga, gc, xs, e, hc, hx, hp⟩ := (G16.out.below HR.out).at rfl hlt
            subst e
            have hxl : xs.length ≤ 12 := HF4.out xs (List.mem_of_getElem? hp)
            have HX := Lib.hid hp; have HTS := Lib.hid (total_take_succ hp)
            clear hx hp
            go_wp2_with fail
            clear hc
            go_loopw [30] (fun c w3 => ∃ k : Nat, k ≤ ps.length ∧ c = .int .i64 k ∧ Below w16.heap.size w16 w3) (fun c _ => ps.length - (intOf c).toNat)
            case atStart => exact ⟨0, Nat.zero_le _, rfl, HR.out⟩
            case round =>
              obtain ⟨k, hk, rfl, hB⟩ := hrel
              clear HR
              have HR := Lib.hid hB; clear hB
              by_cases hlk : k < ps.length
              · obtain ⟨b', off', ga2, gc2, xs2, e, hc, hx, hp⟩ := (G16.out.below HR.out).at rfl hlt
                cases e
                obtain rfl : xs2 = xs := Option.some.inj (hp.symm.trans HX.out)
                obtain ⟨pb, poff, pa, pc, ys, e, hcp, hy, hpp⟩ := (P16.out.below HR.out).at rfl hlk
                subst e
                obtain ⟨u, v, rfl, hsame⟩ := HF8.out ys (List.mem_of_getElem? hpp)
                have huv := hsame xs2 (List.mem_of_getElem? HX.out)
                obtain ⟨qb, qoff, y0, e, hq0, _, hy0⟩ := hy.at rfl (show 0 < 2 by omega)
                subst e
                obtain ⟨qb', qoff', y1, e, hq1, _, hy1⟩ := hy.at rfl (show 1 < 2 by omega)
                cases e
                cases hy0; cases hy1
                have hcall1 := regr_call (w := wr) (fun W hW => show Calls Try.prog 28 #[.slice ga2 xs2.length gc2, .int .i64 u] W _ from (lawsHasInt_any ga2 xs2.length gc2 xs2 u W rfl (by unfold maxLen; omega) (hx.below hW)).mono (by rintro e w' ⟨rfl, rfl⟩; exact ⟨rfl, Below.refl _ _⟩))
                have hcall2 := regr_call (w := wr) (fun W hW => show Calls Try.prog 28 #[.slice ga2 xs2.length gc2, .int .i64 v] W _ from (lawsHasInt_any ga2 xs2.length gc2 xs2 v W rfl (by unfold maxLen; omega) (hx.below hW)).mono (by rintro e w' ⟨rfl, rfl⟩; exact ⟨rfl, Below.refl _ _⟩))
                rw [huv] at hcall1
                generalize hasI xs2 v = bv at hcall1 hcall2
                have k0 := cell_regrown hc; have k1 := cell_regrown hcp
                simp only [Nat.add_zero] at hq0
                have k2 := cell_regrown hq0; have k3 := cell_regrown hq1
                clear hc hcp hq0 hq1 hx hy hp hpp hsame huv
                go_wp2_with fail
                refine wp_region_quiet_below (by kernel_rfl) (by kernel_rfl) ?_
                iterate 11 (go_big_quiet_step (exact hcall1 _ _))
                iterate 12 (go_big_quiet_step (exact hcall2 _ _))
                refine wpQuiet_nil ?_
                intro _ hw'
                obtain ⟨⟨dq, osq⟩, hw''⟩ := hw'
                subst hw''
                have HR5 := Lib.hid (HR.out.trans ((below_regrown wr dq osq).mono HR.out.size))
                clear hcall1 hcall2 k0 k1 k2 k3
                generalize grow (redrawn wr dq) osq = w5 at HR5 ⊢
                go_wp2_with fail
                go_roundw
                case rel => exact ⟨k + 1, by omega, by go_num, HR5.out⟩
                case measure => simp [intOf]; omega
              · obtain rfl : k = ps.length := by omega
                go_wp2_with fail
                go_roundw
                case rel => exact ⟨t + 1, by omega, by go_num, by rw [HTS.out]; congr 1, HR.out⟩
                case measure => simp [intOf]; omega
          · obtain rfl : t = gs.length := by omega
            rw [List.take_length, HF1.out]
            have hd := HF3.out
            subst hd
            have e2 : ((js.length : Int) == (gs.length : Int)) = true := by rw [beq_iff_eq, HF2.out]
            have e4 : IntKind.i64.wrap ((qs.length : Int) - (gs.length : Int)) = (qs.length : Int) - (gs.length : Int) := IntWalk.i64_in _ (by omega)
            clear htl hlt
            go_wp2_with fail
            go_ret
            exact ⟨rfl, HB16.out.trans (HR.out.mono HB16.out.size)⟩

set_option maxRecDepth 100000 in
theorem lifted (os : Os) (started : os.Started) (H : Type) (enc : TypeId × Value → H) :
    ReturnsInHanded {} Try.checked os 3 .any (Rows.fnGroupsSpec.pre6 enc Try.prog Try.f3 Rows.fnGroupsRow.domain false) (Rows.fnGroupsSpec.post enc Try.prog Try.f3 false true false false) := by
  refine returnsInHanded_of_change (C := Try.checked) own started (by kernel_rfl) Try.func3
    (ChangeSpec.witness6 (enc := enc) (C := Try.checked) false ⟨#[], #[.slice none 0 0], []⟩ 8 (by kernel_rfl) (by kernel_rfl) (by kernel_rfl) (by kernel_rfl)) ?_
  intro W base args ds gs before hval0 hW hcnd _
  have hval : ∀ (j : Nat) t v, Try.f3.params[j]? = some t → args[j]? = some v → Value.okWide Try.prog W .any base t v := hval0
  have hW' := hW
  obtain ⟨p, q, hA0, hV, rfl, hfz, hnd⟩ := hW
  have hA : DataW.TrodAll enc Try.prog W 0 (fun _ => true) true Try.f3.params.toList args.toList ds p := hA0
  rw [Try.params3] at hA hval
  obtain ⟨v0, vs0, d0, ds0, p0, q0, hargs, rfl, rfl, h0, r0⟩ := trodAll_cons hA
  obtain ⟨rfl, rfl, rfl⟩ := trodAll_nil r0
  obtain rfl : args = #[v0] := by cases args; simp_all
  obtain ⟨rfl, rfl⟩ := trodVars_none hV
  obtain ⟨a0, len0, cap0, rfl⟩ := okWide_slice Try.underlying22 (hval 0 22 v0 rfl rfl)
  have k0 := h0
  have lt0 : ∀ x ∈ p0, x.block < W.heap.size := by obtain ⟨m, hm⟩ := k0; exact DataW.trod_lt m _ _ _ hm
  obtain ⟨z0, w0⟩ : ∃ zs, IsRow .u8 W a0 len0 cap0 zs := by
    obtain ⟨fuel, hf⟩ := h0
    rcases open_ints Try.underlying22 Try.underlying5 (by kernel_rfl) hf with ⟨hcs, _⟩ | ⟨x, l, c, zs, hcs, _, hl, hm, hz, _, hcell, hwz⟩
    · simp [Value.cells] at hcs
      obtain ⟨rfl, rfl, rfl⟩ := hcs
      exact ⟨[], .inl ⟨rfl, rfl, rfl, rfl⟩⟩
    · simp [Value.cells] at hcs
      obtain ⟨rfl, rfl, rfl⟩ := hcs
      exact ⟨zs, .inr ⟨_, rfl, hl, hm, by simpa using hz, hcell, hwz⟩⟩
  clear hA0 hval0
  refine (walk W a0 len0 cap0 z0 w0).mono fun e W' ⟨he, bel⟩ => ?_
  subst he
  exact ⟨_, rfl, _, _, _, [], _, [], hW', trodAll_mk1 (shut_bool Try.underlying4 _), (trodAll_cons_mk (Below.trod laidOut (by kernel_rfl) (of_decide_eq_true (by kernel_rfl)) k0 bel lt0) trodAll_mk0), rfl, bel.frame _, fun h => by cases h⟩

theorem over : Rows.fnGroupsRow.holds Try.pinned (OpenSpec.ofChange Rows.fnGroupsSpec) :=
  OpenClaim.holds_of_wide 3 Try.f3 rfl rfl rfl rfl rfl rfl rfl ⟨rfl, rfl, rfl, rfl, rfl⟩ rfl rfl rfl rfl rfl (by kernel_rfl) Try.func3 (by kernel_rfl)
    (of_decide_eq_true (by kernel_rfl)) (by unfold Func.isWrapper; first | (rw [if_pos (by decide +kernel)]; kernel_rfl) | (rw [if_neg (by decide +kernel)]; exact ⟨rfl, rfl⟩))
    (fun os started H enc _ => lifted os started H enc)

/-- The statement. -/
theorem proved : Rows.FnGroupsSaid := over
end Go.Proofs.Ytdeiillfdjebdaa.fnGroups
