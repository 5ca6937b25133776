/- Proved: for every code, laws.FnShuffles returns true and leaves its argument as it was: shuffled numbers are all numbers, and a sample is their beginning, at what is drawn. No condition. -/
import Derived.Test.YtfblkggfdmnpmaaRows
import Derived.WalkKit
import Derived.ProofKit
import Derived.OpenShut
import Derived.ShutString
import Derived.ChangeOld
import Derived.Below
import Derived.SliceStrings
import Derived.Lib.Hide
import Derived.Test.YtfblkggfdmnpmaaBig
import Derived.Test.YtfblkggfdmnpmaaIs3
import Derived.Test.YtfblkggfdmnpmaaDrawS3
import Derived.Test.YtfblkggfdmnpmaaLikeInt
namespace Go.Proofs.Ytfblkggfdmnpmaa.fnShuffles
open Go.ChangeShapes Go.WideShapes Go.ChangeAt Go.RowKit
open Go.ChangeMaps (open_string shut_string)
open Pure2 Pure6 Pure30 Pure31
set_option linter.unusedVariables false

theorem own : ownKnob Try.prog.godebug = none := by kernel_rfl
theorem laidOut : laidOutB Try.prog = true := by kernel_rfl

/-- What the walk is told of a slice of integers that came in: it is nil, or it leads to a row of cap cells, the numbers zs. -/
def IsRow (k : IntKind) (w : World) (a : Option Addr) (len cap : Nat) (zs : List Int) : Prop :=
  (a = none ∧ len = 0 ∧ cap = 0 ∧ zs = []) ∨
  ∃ x, a = some x ∧ len ≤ cap ∧ cap ≤ maxLen ∧ zs.length = cap ∧ (∀ i, i < zs.length → w.cell? (x.add i) = some (.int k (zs.getD i 0))) ∧ ∀ n ∈ zs, (Lit.int k n).wf = true

set_option maxRecDepth 100000 in
set_option maxHeartbeats 4000000 in
theorem walk (w : World) (a0 : Option Addr) (len0 cap0 : Nat) (z0 : List Int) (w0 : IsRow .u8 w a0 len0 cap0 z0) :
    Calls Try.prog 3 #[.slice a0 len0 cap0] w fun e w' => e = .returned (.bool true) ∧ Below w.heap.size w w' := by
  obtain ⟨hl, hY⟩ := bytes_of_row w0
  generalize z0.take len0 = bs at hl hY
  have HL := Lib.hid hl; have HY := Lib.hid hY; clear hl hY w0
  have HBig := Lib.hid (lawsBig_any a0 len0 cap0 w)
  by_cases hb : 4096 < len0
  · rw [decide_eq_true hb] at HBig
    go_enter Try.func3, Try.ntmps3
    go_wp2_with fail
    refine HBig.out.mono ?_; rintro e w' ⟨rfl, rfl⟩
    go_wp2_with fail
    go_ret
    exact ⟨rfl, Below.refl _ _⟩
  · rw [decide_eq_false hb] at HBig
    have hm : len0 ≤ 4096 := by omega
    clear hb
    go_enter Try.func3, Try.ntmps3
    go_wp2_with fail
    refine HBig.out.mono ?_; rintro e w' ⟨rfl, rfl⟩
    go_wp2_with fail
    refine (specDrawSampleOf_any a0 len0 cap0 bs w HL.out hm HY.out).mono ?_; rintro e w11 ⟨s, n, k, rfl, hB⟩
    have HB1 := Lib.hid (hB)
    clear hB
    obtain ⟨⟨zs, q⟩, hp⟩ : ∃ u, sampR s n k = u := ⟨_, rfl⟩
    have HF := Lib.hid (samp_facts hp); have HP := Lib.hid hp; clear hp
    have hzl := HF.out.1
    have hzm : zs.length ≤ maxLen := by unfold maxLen; omega
    go_wp2_with fail
    refine (implSampleOf_is s n k zs q w11 HP.out).mono ?_; rintro e w12 ⟨aL, cL, rfl, hO, hB⟩
    have HB2 := Lib.hid (HB1.out.trans (hB.mono HB1.out.size))
    have HL2 := Lib.hid (ownI_reads hO); clear hB hO
    go_wp2_with fail
    refine (specSampleOf_is s n k zs q w12 HP.out).mono ?_; rintro e w13 ⟨aM, cM, rfl, hO, hB⟩
    have HB3 := Lib.hid (HB2.out.trans (hB.mono HB2.out.size))
    have HL3 := Lib.hid (HL2.out.below hB)
    have HM3 := Lib.hid (ownI_reads hO); clear hB hO
    go_wp2_with fail
    refine (specDrawShuffleNumbers_any a0 len0 cap0 bs w13 HL.out hm (HY.out.later HB3.out)).mono ?_; rintro e w14 ⟨x, m, rfl, _, _, hB⟩
    have HB4 := Lib.hid (HB3.out.trans (hB.mono HB3.out.size))
    have HL4 := Lib.hid (HL3.out.below hB)
    have HM4 := Lib.hid (HM3.out.below hB)
    clear hB
    obtain ⟨⟨ys, r⟩, hp⟩ : ∃ u, shufR x m = u := ⟨_, rfl⟩
    have HF2 := Lib.hid (shuf_facts hp); have HP2 := Lib.hid hp; clear hp
    have hyl := HF2.out.1
    have hym : ys.length ≤ maxLen := by unfold maxLen; omega
    go_wp2_with fail
    refine (implShuffleNumbers_is x m ys r w14 HP2.out).mono ?_; rintro e w15 ⟨aP, cP, rfl, hO, hB⟩
    have HB5 := Lib.hid (HB4.out.trans (hB.mono HB4.out.size))
    have HL5 := Lib.hid (HL4.out.below hB)
    have HM5 := Lib.hid (HM4.out.below hB)
    have HP5 := Lib.hid (ownI_reads hO); clear hB hO
    go_wp2_with fail
    refine (specShuffleNumbers_is x m ys r w15 HP2.out).mono ?_; rintro e w16 ⟨aQ, cQ, rfl, hO, hB⟩
    have HB6 := Lib.hid (HB5.out.trans (hB.mono HB5.out.size))
    have HL6 := Lib.hid (HL5.out.below hB)
    have HM6 := Lib.hid (HM5.out.below hB)
    have HP6 := Lib.hid (HP5.out.below hB)
    have HQ6 := Lib.hid (ownI_reads hO); clear hB hO
    go_wp2_with fail
    refine (specDrawPlaceInShuffle_any a0 len0 cap0 bs w16 HL.out hm (HY.out.later HB6.out)).mono ?_; rintro e w17 ⟨y, c, z, rfl, hB⟩
    have HB7 := Lib.hid (HB6.out.trans (hB.mono HB6.out.size))
    have HL7 := Lib.hid (HL6.out.below hB)
    have HM7 := Lib.hid (HM6.out.below hB)
    have HP7 := Lib.hid (HP6.out.below hB)
    have HQ7 := Lib.hid (HQ6.out.below hB)
    clear hB
    obtain ⟨⟨p, t⟩, hp⟩ : ∃ u, placeR y c z = u := ⟨_, rfl⟩
    have HF3 := Lib.hid (place_facts hp); have HP3 := Lib.hid hp; clear hp
    go_wp2_with fail
    refine (implPlaceInShuffle_is y c z p t w17 HP3.out).mono ?_; rintro e w18 ⟨rfl, hB⟩
    have HB8 := Lib.hid (HB7.out.trans (hB.mono HB7.out.size))
    have HL8 := Lib.hid (HL7.out.below hB)
    have HM8 := Lib.hid (HM7.out.below hB)
    have HP8 := Lib.hid (HP7.out.below hB)
    have HQ8 := Lib.hid (HQ7.out.below hB)
    clear hB
    go_wp2_with fail
    refine (specPlaceInShuffle_is y c z p t w18 HP3.out).mono ?_; rintro e w19 ⟨rfl, hB⟩
    have HB9 := Lib.hid (HB8.out.trans (hB.mono HB8.out.size))
    have HL9 := Lib.hid (HL8.out.below hB)
    have HM9 := Lib.hid (HM8.out.below hB)
    have HP9 := Lib.hid (HP8.out.below hB)
    have HQ9 := Lib.hid (HQ8.out.below hB)
    clear hB
    go_wp2_with fail
    refine (likeInts_any aL aM zs.length cL zs.length cM zs zs w19 rfl rfl hzm hzm HL9.out HM9.out).mono ?_
    rintro e w' ⟨rfl, m10, rfl⟩
    rw [sameL_self]
    have hB := Go.below_drewN (Below.refl w19.heap.size w19) m10
    obtain ⟨w20, hw⟩ : ∃ u, u = w19.drewN m10 := ⟨_, rfl⟩
    rw [← hw] at hB ⊢; clear hw
    have HB10 := Lib.hid (HB9.out.trans (hB.mono HB9.out.size))
    have HL10 := Lib.hid (HL9.out.below hB)
    have HM10 := Lib.hid (HM9.out.below hB)
    have HP10 := Lib.hid (HP9.out.below hB)
    have HQ10 := Lib.hid (HQ9.out.below hB)
    clear hB
    go_wp2_with fail
    refine (likeInts_any aP aQ ys.length cP ys.length cQ ys ys w20 rfl rfl hym hym HP10.out HQ10.out).mono ?_
    rintro e w' ⟨rfl, m11, rfl⟩
    rw [sameL_self]
    have hB := Go.below_drewN (Below.refl w20.heap.size w20) m11
    obtain ⟨w21, hw⟩ : ∃ u, u = w20.drewN m11 := ⟨_, rfl⟩
    rw [← hw] at hB ⊢; clear hw
    have HB11 := Lib.hid (HB10.out.trans (hB.mono HB10.out.size))
    have HL11 := Lib.hid (HL10.out.below hB)
    have HM11 := Lib.hid (HM10.out.below hB)
    have HP11 := Lib.hid (HP10.out.below hB)
    have HQ11 := Lib.hid (HQ10.out.below hB)
    clear hB
    rcases HF3.out with ht | ⟨ht, us, f, hus, rfl, hf⟩
    · have ht0 : (t == 0) = false := beq_eq_false_iff_ne.2 ht
      have ht1 : (t != 0) = true := bne_iff_ne.2 ht
      clear ht
      rcases HF2.out.2 with hr | ⟨hr, hlen, hall⟩
      · have hr0 : (r == 0) = false := beq_eq_false_iff_ne.2 hr
        have hr1 : (r != 0) = true := bne_iff_ne.2 hr
        clear hr
        go_wp2_with fail
        go_loop [27] (fun i => i = .int .i64 0) (fun _ => 0)
        case atStart => exact rfl
        case round =>
          obtain rfl := hrel
          rcases HF.out.2 with hq | ⟨hq, l, N, K, rfl, rfl, hKN, hN, hs, rfl, hlN, hzs⟩
          · have hq0 : (q == 0) = false := beq_eq_false_iff_ne.2 hq
            have hq1 : (q != 0) = true := bne_iff_ne.2 hq
            clear hq
            go_wp2_with fail
            go_ret
            exact ⟨rfl, HB11.out⟩
          · subst hq
            have HE := Lib.hid hzs; have HLN := Lib.hid hlN; clear hzs hlN
            have HR := Lib.hid (show shufR s N = (shuf s N, 0) from (if_pos ⟨hs, by omega, by omega⟩ : shufR s N = (shuf s (N : Int).toNat, 0)))
            go_wp2_with fail
            refine (implShuffleNumbers_cap s N w21 hs hN).mono ?_; rintro e w22 ⟨aC, cC, rfl, hcap, hO, hB⟩
            have HB12 := Lib.hid (HB11.out.trans (hB.mono HB11.out.size))
            have HL12 := Lib.hid (HL11.out.below hB)
            have HP12 := Lib.hid (HP11.out.below hB)
            have HC12 := Lib.hid (ownI_reads hO); clear hB hO
            have hum : (shuf s N).length ≤ maxLen := by rw [HLN.out]; unfold maxLen; omega
            go_wp2_with fail
            refine (specShuffleNumbers_is s N (shuf s N) 0 w22 HR.out).mono ?_; rintro e w23 ⟨aE, cE, rfl, hO, hB⟩
            have HB13 := Lib.hid (HB12.out.trans (hB.mono HB12.out.size))
            have HL13 := Lib.hid (HL12.out.below hB)
            have HP13 := Lib.hid (HP12.out.below hB)
            have HC13 := Lib.hid (HC12.out.below hB)
            have HE13 := Lib.hid (ownI_reads hO); clear hB hO
            go_wp2_with fail
            refine (likeInts_any aC aE (shuf s N).length cC (shuf s N).length cE (shuf s N) (shuf s N) w23 rfl rfl hum hum HC13.out HE13.out).mono ?_
            rintro e w' ⟨rfl, m14, rfl⟩
            rw [sameL_self]
            have hB := Go.below_drewN (Below.refl w23.heap.size w23) m14
            obtain ⟨w24, hw⟩ : ∃ u, u = w23.drewN m14 := ⟨_, rfl⟩
            rw [← hw] at hB ⊢; clear hw
            have HB14 := Lib.hid (HB13.out.trans (hB.mono HB13.out.size))
            have HL14 := Lib.hid (HL13.out.below hB)
            have HP14 := Lib.hid (HP13.out.below hB)
            have HC14 := Lib.hid (HC13.out.below hB)
            have HE14 := Lib.hid (HE13.out.below hB)
            clear hB
            rw [HLN.out] at hcap ⊢
            go_wp2_with fail
            refine (likeInts_any aC aL K cC zs.length cL ((shuf s N).take K) zs w24 (by rw [List.length_take, HLN.out]; omega) rfl (by unfold maxLen; omega) hzm (ints_take HC14.out) HL14.out).mono ?_
            rintro e w' ⟨rfl, n9, rfl⟩
            rw [HE.out, sameL_self]
            go_wp2_with fail
            go_ret
            exact ⟨rfl, below_drewN HB14.out _⟩
      · subst hr
        have HA := Lib.hid hall; clear hall
        go_wp2_with fail
        go_loop [27] (fun i => ∃ j : Nat, i = .int .i64 j ∧ j ≤ ys.length) (fun i => ys.length - (intOf i).toNat)
        case atStart => exact ⟨0, rfl, Nat.zero_le _⟩
        case round =>
          obtain ⟨j, rfl, hj⟩ := hrel
          by_cases hlt : j < ys.length
          · obtain ⟨f, hf⟩ := HA.out j hlt
            have HFA := Lib.hid hf; clear hf
            have hjm : (j : Int) < m := by omega
            go_wp2_with fail
            refine (lawsHasInt_yes aP ys.length cP ys j f w21 rfl hym HP11.out HFA.out).mono ?_; rintro e w' ⟨rfl, rfl⟩
            go_wp2_with fail
            go_round
            case rel => exact ⟨j + 1, by go_num, by omega⟩
            case measure => simp [intOf]; omega
          · have hjm : m ≤ (j : Int) := by omega
            rcases HF.out.2 with hq | ⟨hq, l, N, K, rfl, rfl, hKN, hN, hs, rfl, hlN, hzs⟩
            · have hq0 : (q == 0) = false := beq_eq_false_iff_ne.2 hq
              have hq1 : (q != 0) = true := bne_iff_ne.2 hq
              clear hq
              go_wp2_with fail
              go_ret
              exact ⟨rfl, HB11.out⟩
            · subst hq
              have HE := Lib.hid hzs; have HLN := Lib.hid hlN; clear hzs hlN
              have HR := Lib.hid (show shufR s N = (shuf s N, 0) from (if_pos ⟨hs, by omega, by omega⟩ : shufR s N = (shuf s (N : Int).toNat, 0)))
              go_wp2_with fail
              refine (implShuffleNumbers_cap s N w21 hs hN).mono ?_; rintro e w22 ⟨aC, cC, rfl, hcap, hO, hB⟩
              have HB12 := Lib.hid (HB11.out.trans (hB.mono HB11.out.size))
              have HL12 := Lib.hid (HL11.out.below hB)
              have HP12 := Lib.hid (HP11.out.below hB)
              have HC12 := Lib.hid (ownI_reads hO); clear hB hO
              have hum : (shuf s N).length ≤ maxLen := by rw [HLN.out]; unfold maxLen; omega
              go_wp2_with fail
              refine (specShuffleNumbers_is s N (shuf s N) 0 w22 HR.out).mono ?_; rintro e w23 ⟨aE, cE, rfl, hO, hB⟩
              have HB13 := Lib.hid (HB12.out.trans (hB.mono HB12.out.size))
              have HL13 := Lib.hid (HL12.out.below hB)
              have HP13 := Lib.hid (HP12.out.below hB)
              have HC13 := Lib.hid (HC12.out.below hB)
              have HE13 := Lib.hid (ownI_reads hO); clear hB hO
              go_wp2_with fail
              refine (likeInts_any aC aE (shuf s N).length cC (shuf s N).length cE (shuf s N) (shuf s N) w23 rfl rfl hum hum HC13.out HE13.out).mono ?_
              rintro e w' ⟨rfl, m14, rfl⟩
              rw [sameL_self]
              have hB := Go.below_drewN (Below.refl w23.heap.size w23) m14
              obtain ⟨w24, hw⟩ : ∃ u, u = w23.drewN m14 := ⟨_, rfl⟩
              rw [← hw] at hB ⊢; clear hw
              have HB14 := Lib.hid (HB13.out.trans (hB.mono HB13.out.size))
              have HL14 := Lib.hid (HL13.out.below hB)
              have HP14 := Lib.hid (HP13.out.below hB)
              have HC14 := Lib.hid (HC13.out.below hB)
              have HE14 := Lib.hid (HE13.out.below hB)
              clear hB
              rw [HLN.out] at hcap ⊢
              go_wp2_with fail
              refine (likeInts_any aC aL K cC zs.length cL ((shuf s N).take K) zs w24 (by rw [List.length_take, HLN.out]; omega) rfl (by unfold maxLen; omega) hzm (ints_take HC14.out) HL14.out).mono ?_
              rintro e w' ⟨rfl, n9, rfl⟩
              rw [HE.out, sameL_self]
              go_wp2_with fail
              go_ret
              exact ⟨rfl, below_drewN HB14.out _⟩
    · subst ht
      have HU := Lib.hid hus; have HFZ := Lib.hid hf; clear hus hf
      have hul := (shuf_facts HU.out).1
      have hum : us.length ≤ maxLen := by unfold maxLen; omega
      go_wp2_with fail
      refine (implShuffleNumbers_is y c us 0 w21 HU.out).mono ?_; rintro e w22 ⟨aU, cU, rfl, hO, hB⟩
      have HB12 := Lib.hid (HB11.out.trans (hB.mono HB11.out.size))
      have HL12 := Lib.hid (HL11.out.below hB)
      have HP12 := Lib.hid (HP11.out.below hB)
      have HU12 := Lib.hid (ownI_reads hO); clear hB hO
      go_wp2_with fail
      refine (specShuffleNumbers_is y c us 0 w22 HU.out).mono ?_; rintro e w23 ⟨aV, cV, rfl, hO, hB⟩
      have HB13 := Lib.hid (HB12.out.trans (hB.mono HB12.out.size))
      have HL13 := Lib.hid (HL12.out.below hB)
      have HP13 := Lib.hid (HP12.out.below hB)
      have HU13 := Lib.hid (HU12.out.below hB)
      have HV13 := Lib.hid (ownI_reads hO); clear hB hO
      go_wp2_with fail
      refine (likeInts_any aU aV us.length cU us.length cV us us w23 rfl rfl hum hum HU13.out HV13.out).mono ?_
      rintro e w' ⟨rfl, m14, rfl⟩
      rw [sameL_self]
      have hB := Go.below_drewN (Below.refl w23.heap.size w23) m14
      obtain ⟨w24, hw⟩ : ∃ u, u = w23.drewN m14 := ⟨_, rfl⟩
      rw [← hw] at hB ⊢; clear hw
      have HB14 := Lib.hid (HB13.out.trans (hB.mono HB13.out.size))
      have HL14 := Lib.hid (HL13.out.below hB)
      have HP14 := Lib.hid (HP13.out.below hB)
      have HU14 := Lib.hid (HU13.out.below hB)
      have HV14 := Lib.hid (HV13.out.below hB)
      clear hB
      obtain ⟨bA, oA, zA, haA, hcA, _, hzA⟩ := HU14.out.at (len := us.length) rfl (show f < us.length from (List.getElem?_eq_some_iff.1 HFZ.out).1)
      subst haA
      obtain rfl : z = zA := by have := HFZ.out; rw [hzA] at this; exact (Option.some.inj this).symm
      have hfi : (f : Int) < (us.length : Int) := by have := (List.getElem?_eq_some_iff.1 HFZ.out).1; omega
      clear hzA
      rcases HF2.out.2 with hr | ⟨hr, hlen, hall⟩
      · have hr0 : (r == 0) = false := beq_eq_false_iff_ne.2 hr
        have hr1 : (r != 0) = true := bne_iff_ne.2 hr
        clear hr
        go_wp2_with fail
        go_loop [27] (fun i => i = .int .i64 0) (fun _ => 0)
        case atStart => exact rfl
        case round =>
          obtain rfl := hrel
          rcases HF.out.2 with hq | ⟨hq, l, N, K, rfl, rfl, hKN, hN, hs, rfl, hlN, hzs⟩
          · have hq0 : (q == 0) = false := beq_eq_false_iff_ne.2 hq
            have hq1 : (q != 0) = true := bne_iff_ne.2 hq
            clear hq
            go_wp2_with fail
            go_ret
            exact ⟨rfl, HB14.out⟩
          · subst hq
            have HE := Lib.hid hzs; have HLN := Lib.hid hlN; clear hzs hlN
            have HR := Lib.hid (show shufR s N = (shuf s N, 0) from (if_pos ⟨hs, by omega, by omega⟩ : shufR s N = (shuf s (N : Int).toNat, 0)))
            go_wp2_with fail
            refine (implShuffleNumbers_cap s N w24 hs hN).mono ?_; rintro e w25 ⟨aC, cC, rfl, hcap, hO, hB⟩
            have HB15 := Lib.hid (HB14.out.trans (hB.mono HB14.out.size))
            have HL15 := Lib.hid (HL14.out.below hB)
            have HP15 := Lib.hid (HP14.out.below hB)
            have HC15 := Lib.hid (ownI_reads hO); clear hB hO
            have hum : (shuf s N).length ≤ maxLen := by rw [HLN.out]; unfold maxLen; omega
            go_wp2_with fail
            refine (specShuffleNumbers_is s N (shuf s N) 0 w25 HR.out).mono ?_; rintro e w26 ⟨aE, cE, rfl, hO, hB⟩
            have HB16 := Lib.hid (HB15.out.trans (hB.mono HB15.out.size))
            have HL16 := Lib.hid (HL15.out.below hB)
            have HP16 := Lib.hid (HP15.out.below hB)
            have HC16 := Lib.hid (HC15.out.below hB)
            have HE16 := Lib.hid (ownI_reads hO); clear hB hO
            go_wp2_with fail
            refine (likeInts_any aC aE (shuf s N).length cC (shuf s N).length cE (shuf s N) (shuf s N) w26 rfl rfl hum hum HC16.out HE16.out).mono ?_
            rintro e w' ⟨rfl, m17, rfl⟩
            rw [sameL_self]
            have hB := Go.below_drewN (Below.refl w26.heap.size w26) m17
            obtain ⟨w27, hw⟩ : ∃ u, u = w26.drewN m17 := ⟨_, rfl⟩
            rw [← hw] at hB ⊢; clear hw
            have HB17 := Lib.hid (HB16.out.trans (hB.mono HB16.out.size))
            have HL17 := Lib.hid (HL16.out.below hB)
            have HP17 := Lib.hid (HP16.out.below hB)
            have HC17 := Lib.hid (HC16.out.below hB)
            have HE17 := Lib.hid (HE16.out.below hB)
            clear hB
            rw [HLN.out] at hcap ⊢
            go_wp2_with fail
            refine (likeInts_any aC aL K cC zs.length cL ((shuf s N).take K) zs w27 (by rw [List.length_take, HLN.out]; omega) rfl (by unfold maxLen; omega) hzm (ints_take HC17.out) HL17.out).mono ?_
            rintro e w' ⟨rfl, n9, rfl⟩
            rw [HE.out, sameL_self]
            go_wp2_with fail
            go_ret
            exact ⟨rfl, below_drewN HB17.out _⟩
      · subst hr
        have HA := Lib.hid hall; clear hall
        go_wp2_with fail
        go_loop [27] (fun i => ∃ j : Nat, i = .int .i64 j ∧ j ≤ ys.length) (fun i => ys.length - (intOf i).toNat)
        case atStart => exact ⟨0, rfl, Nat.zero_le _⟩
        case round =>
          obtain ⟨j, rfl, hj⟩ := hrel
          by_cases hlt : j < ys.length
          · obtain ⟨f, hf⟩ := HA.out j hlt
            have HFA := Lib.hid hf; clear hf
            have hjm : (j : Int) < m := by omega
            go_wp2_with fail
            refine (lawsHasInt_yes aP ys.length cP ys j f w24 rfl hym HP14.out HFA.out).mono ?_; rintro e w' ⟨rfl, rfl⟩
            go_wp2_with fail
            go_round
            case rel => exact ⟨j + 1, by go_num, by omega⟩
            case measure => simp [intOf]; omega
          · have hjm : m ≤ (j : Int) := by omega
            rcases HF.out.2 with hq | ⟨hq, l, N, K, rfl, rfl, hKN, hN, hs, rfl, hlN, hzs⟩
            · have hq0 : (q == 0) = false := beq_eq_false_iff_ne.2 hq
              have hq1 : (q != 0) = true := bne_iff_ne.2 hq
              clear hq
              go_wp2_with fail
              go_ret
              exact ⟨rfl, HB14.out⟩
            · subst hq
              have HE := Lib.hid hzs; have HLN := Lib.hid hlN; clear hzs hlN
              have HR := Lib.hid (show shufR s N = (shuf s N, 0) from (if_pos ⟨hs, by omega, by omega⟩ : shufR s N = (shuf s (N : Int).toNat, 0)))
              go_wp2_with fail
              refine (implShuffleNumbers_cap s N w24 hs hN).mono ?_; rintro e w25 ⟨aC, cC, rfl, hcap, hO, hB⟩
              have HB15 := Lib.hid (HB14.out.trans (hB.mono HB14.out.size))
              have HL15 := Lib.hid (HL14.out.below hB)
              have HP15 := Lib.hid (HP14.out.below hB)
              have HC15 := Lib.hid (ownI_reads hO); clear hB hO
              have hum : (shuf s N).length ≤ maxLen := by rw [HLN.out]; unfold maxLen; omega
              go_wp2_with fail
              refine (specShuffleNumbers_is s N (shuf s N) 0 w25 HR.out).mono ?_; rintro e w26 ⟨aE, cE, rfl, hO, hB⟩
              have HB16 := Lib.hid (HB15.out.trans (hB.mono HB15.out.size))
              have HL16 := Lib.hid (HL15.out.below hB)
              have HP16 := Lib.hid (HP15.out.below hB)
              have HC16 := Lib.hid (HC15.out.below hB)
              have HE16 := Lib.hid (ownI_reads hO); clear hB hO
              go_wp2_with fail
              refine (likeInts_any aC aE (shuf s N).length cC (shuf s N).length cE (shuf s N) (shuf s N) w26 rfl rfl hum hum HC16.out HE16.out).mono ?_
              rintro e w' ⟨rfl, m17, rfl⟩
              rw [sameL_self]
              have hB := Go.below_drewN (Below.refl w26.heap.size w26) m17
              obtain ⟨w27, hw⟩ : ∃ u, u = w26.drewN m17 := ⟨_, rfl⟩
              rw [← hw] at hB ⊢; clear hw
              have HB17 := Lib.hid (HB16.out.trans (hB.mono HB16.out.size))
              have HL17 := Lib.hid (HL16.out.below hB)
              have HP17 := Lib.hid (HP16.out.below hB)
              have HC17 := Lib.hid (HC16.out.below hB)
              have HE17 := Lib.hid (HE16.out.below hB)
              clear hB
              rw [HLN.out] at hcap ⊢
              go_wp2_with fail
              refine (likeInts_any aC aL K cC zs.length cL ((shuf s N).take K) zs w27 (by rw [List.length_take, HLN.out]; omega) rfl (by unfold maxLen; omega) hzm (ints_take HC17.out) HL17.out).mono ?_
              rintro e w' ⟨rfl, n9, rfl⟩
              rw [HE.out, sameL_self]
              go_wp2_with fail
              go_ret
              exact ⟨rfl, below_drewN HB17.out _⟩

set_option maxRecDepth 100000 in
theorem lifted (os : Os) (started : os.Started) (H : Type) (enc : TypeId × Value → H) :
    ReturnsInHanded {} Try.checked os 3 .any (Rows.fnShufflesSpec.pre6 enc Try.prog Try.f3 Rows.fnShufflesRow.domain false) (Rows.fnShufflesSpec.post enc Try.prog Try.f3 false true false false) := by
  refine returnsInHanded_of_change (C := Try.checked) own started (by kernel_rfl) Try.func3
    (ChangeSpec.witness6 (enc := enc) (C := Try.checked) false ⟨#[], #[.slice none 0 0], []⟩ 8 (by kernel_rfl) (by kernel_rfl) (by kernel_rfl) (by kernel_rfl)) ?_
  intro W base args ds gs before hval0 hW hcnd _
  have hval : ∀ (j : Nat) t v, Try.f3.params[j]? = some t → args[j]? = some v → Value.okWide Try.prog W .any base t v := hval0
  have hW' := hW
  obtain ⟨p, q, hA0, hV, rfl, hfz, hnd⟩ := hW
  have hA : DataW.TrodAll enc Try.prog W 0 (fun _ => true) true Try.f3.params.toList args.toList ds p := hA0
  rw [Try.params3] at hA hval
  obtain ⟨v0, vs0, d0, ds0, p0, q0, hargs, rfl, rfl, h0, r0⟩ := trodAll_cons hA
  obtain ⟨rfl, rfl, rfl⟩ := trodAll_nil r0
  obtain rfl : args = #[v0] := by cases args; simp_all
  obtain ⟨rfl, rfl⟩ := trodVars_none hV
  obtain ⟨a0, len0, cap0, rfl⟩ := okWide_slice Try.underlying22 (hval 0 22 v0 rfl rfl)
  have k0 := h0
  have lt0 : ∀ x ∈ p0, x.block < W.heap.size := by obtain ⟨m, hm⟩ := k0; exact DataW.trod_lt m _ _ _ hm
  obtain ⟨z0, w0⟩ : ∃ zs, IsRow .u8 W a0 len0 cap0 zs := by
    obtain ⟨fuel, hf⟩ := h0
    rcases open_ints Try.underlying22 Try.underlying5 (by kernel_rfl) hf with ⟨hcs, _⟩ | ⟨x, l, c, zs, hcs, _, hl, hm, hz, _, hcell, hwz⟩
    · simp [Value.cells] at hcs
      obtain ⟨rfl, rfl, rfl⟩ := hcs
      exact ⟨[], .inl ⟨rfl, rfl, rfl, rfl⟩⟩
    · simp [Value.cells] at hcs
      obtain ⟨rfl, rfl, rfl⟩ := hcs
      exact ⟨zs, .inr ⟨_, rfl, hl, hm, by simpa using hz, hcell, hwz⟩⟩
  clear hA0 hval0
  refine (walk W a0 len0 cap0 z0 w0).mono fun e W' ⟨he, bel⟩ => ?_
  subst he
  exact ⟨_, rfl, _, _, _, [], _, [], hW', trodAll_mk1 (shut_bool Try.underlying4 _), (trodAll_cons_mk (Below.trod laidOut (by kernel_rfl) (of_decide_eq_true (by kernel_rfl)) k0 bel lt0) trodAll_mk0), rfl, bel.frame _, fun h => by cases h⟩

theorem over : Rows.fnShufflesRow.holds Try.pinned (OpenSpec.ofChange Rows.fnShufflesSpec) :=
  OpenClaim.holds_of_wide 3 Try.f3 rfl rfl rfl rfl rfl rfl rfl ⟨rfl, rfl, rfl, rfl, rfl⟩ rfl rfl rfl rfl rfl (by kernel_rfl) Try.func3 (by kernel_rfl)
    (of_decide_eq_true (by kernel_rfl)) (by unfold Func.isWrapper; first | (rw [if_pos (by decide +kernel)]; kernel_rfl) | (rw [if_neg (by decide +kernel)]; exact ⟨rfl, rfl⟩))
    (fun os started H enc _ => lifted os started H enc)

/-- The statement. -/
theorem proved : Rows.FnShufflesSaid := over
end Go.Proofs.Ytfblkggfdmnpmaa.fnShuffles
