/- Proved: for every code, laws.FnChains returns true and leaves its argument as it was: neighbours in a chain are alike, a chain back is as long, the keeper is its own keeper and none behind the person asked for; the answers are those of their models. No condition. -/
import Derived.Test.YtdeiillfdjebdaaRows
import Derived.WalkKit
import Derived.ProofKit
import Derived.OpenShut
import Derived.ShutString
import Derived.ChangeOld
import Derived.Below
import Derived.SliceStrings
import Derived.Lib.Hide
import Derived.Test.YtdeiillfdjebdaaPure40
import Derived.Test.YtdeiillfdjebdaaPure41
import Derived.Test.YtdeiillfdjebdaaPure51
import Derived.Test.YtdeiillfdjebdaaIsPers
import Derived.Test.YtdeiillfdjebdaaArePers
import Derived.Test.YtdeiillfdjebdaaPersSlice
import Derived.Test.YtdeiillfdjebdaaBig
import Derived.Test.YtdeiillfdjebdaaCode5
import Derived.Test.YtdeiillfdjebdaaLikeInt
import Derived.Test.YtdeiillfdjebdaaTab
import Derived.Test.YtdeiillfdjebdaaTabB
import Derived.Test.YtdeiillfdjebdaaGrp5
import Derived.Test.YtdeiillfdjebdaaChain5
import Derived.Test.YtdeiillfdjebdaaTight5
import Derived.Test.YtdeiillfdjebdaaKept5
import Derived.Test.YtdeiillfdjebdaaDraw5
import Derived.Test.YtdeiillfdjebdaaHelp5
import Derived.Test.YtdeiillfdjebdaaFact5
namespace Go.Proofs.Ytdeiillfdjebdaa.fnChains
open Go.ChangeShapes Go.WideShapes Go.ChangeAt Go.RowKit
open Go.ChangeMaps (open_string shut_string)
open Pure2 Pure6 Pure40 Pure41 Pure50 Pure51 Go.Sort
set_option linter.unusedVariables false

theorem own : ownKnob Try.prog.godebug = none := by kernel_rfl
theorem laidOut : laidOutB Try.prog = true := by kernel_rfl

/-- What the walk is told of a slice of integers that came in: it is nil, or it leads to a row of cap cells, the numbers zs. -/
def IsRow (k : IntKind) (w : World) (a : Option Addr) (len cap : Nat) (zs : List Int) : Prop :=
  (a = none ∧ len = 0 ∧ cap = 0 ∧ zs = []) ∨
  ∃ x, a = some x ∧ len ≤ cap ∧ cap ≤ maxLen ∧ zs.length = cap ∧ (∀ i, i < zs.length → w.cell? (x.add i) = some (.int k (zs.getD i 0))) ∧ ∀ n ∈ zs, (Lit.int k n).wf = true

set_option maxRecDepth 100000 in
set_option maxHeartbeats 4000000 in
theorem walk (w : World) (a0 : Option Addr) (len0 cap0 : Nat) (z0 : List Int) (w0 : IsRow .u8 w a0 len0 cap0 z0) :
    Calls Try.prog 4 #[.slice a0 len0 cap0] w fun e w' => e = .returned (.bool true) ∧ Below w.heap.size w w' := by
  obtain ⟨hl, hY⟩ := bytes_of_row w0
  generalize z0.take len0 = bs at hl hY
  have HL := Lib.hid hl; have HY := Lib.hid hY; clear hl hY w0
  have HBig := Lib.hid (lawsBig_any a0 len0 cap0 w)
  by_cases hb : 4096 < len0
  · rw [decide_eq_true hb] at HBig
    go_enter Try.func4, Try.ntmps4
    go_wp2_with fail
    refine HBig.out.mono ?_; rintro e w' ⟨rfl, rfl⟩
    go_wp2_with fail
    go_ret
    exact ⟨rfl, Below.refl _ _⟩
  · rw [decide_eq_false hb] at HBig
    have hm : len0 ≤ 4096 := by omega
    clear hb
    go_enter Try.func4, Try.ntmps4
    go_wp2_with fail
    refine HBig.out.mono ?_; rintro e w' ⟨rfl, rfl⟩
    go_wp2_with fail
    refine (specDrawChainBetween_any a0 len0 cap0 bs w HL.out hm HY.out).mono ?_; rintro e w1 ⟨g, cg, qs, m, u, v, rfl, hL, hB⟩
    have HB1 := Lib.hid (hB)
    have L1 := Lib.hid (hL)
    clear hB hL
    obtain ⟨zs, c1, h1⟩ : ∃ zs c, chainR qs m u v = (zs, c) := ⟨_, _, rfl⟩
    have hfacts := chain_facts h1
    have hsz := chainR_small qs m u v; rw [h1] at hsz; simp only at hsz
    have HC := Lib.hid (fun W (hL : ListIn W g cg qs) => show Calls Try.prog 30 #[.slice (some ⟨g, 0, none⟩) qs.length cg, .int .i64 m, .int .i64 u, .int .i64 v] W (SaysNewI zs c1 W) from by have := implChain_any (some ⟨g, 0, none⟩) qs.length cg qs m u v W rfl (by have := hL.1; unfold maxLen; omega) hL.2.2.1 (smallL_fits hL.2.1); rw [h1] at this; exact this)
    have HCs := Lib.hid (fun W (hL : ListIn W g cg qs) => show Calls Try.prog 31 #[.slice (some ⟨g, 0, none⟩) qs.length cg, .int .i64 m, .int .i64 u, .int .i64 v] W (SaysNewI zs c1 W) from by have := specChain_any (some ⟨g, 0, none⟩) qs.length cg qs m u v W rfl (by have := hL.1; unfold maxLen; omega) hL.2.2.1 (smallL_fits hL.2.1); rw [h1] at this; exact this)
    have hfa := Lib.hid hfacts; clear h1 hfacts
    go_wp2_with fail
    refine (HC.out w1 L1.out).mono ?_; rintro e w2 ⟨ac, cac, rfl, ho, hB⟩
    have HB2 := Lib.hid (HB1.out.trans (hB.mono HB1.out.size))
    have L2 := Lib.hid (L1.out.below hB)
    have C2 := Lib.hid (ownI_reads ho)
    clear hB ho
    go_wp2_with fail
    refine (HCs.out w2 L2.out).mono ?_; rintro e w3 ⟨am, cam, rfl, ho, hB⟩
    have HB3 := Lib.hid (HB2.out.trans (hB.mono HB2.out.size))
    have L3 := Lib.hid (L2.out.below hB)
    have C3 := Lib.hid (C2.out.below hB)
    have M3 := Lib.hid (ownI_reads ho)
    clear hB ho
    go_wp2_with fail
    refine (specDrawKeeperOf_any a0 len0 cap0 bs w3 HL.out hm (HY.out.later HB3.out)).mono ?_; rintro e w4 ⟨g2, cg2, qs2, m2, ix, rfl, hL, _, hB⟩
    have HB4 := Lib.hid (HB3.out.trans (hB.mono HB3.out.size))
    have L4 := Lib.hid (L3.out.below hB)
    have C4 := Lib.hid (C3.out.below hB)
    have M4 := Lib.hid (M3.out.below hB)
    have X4 := Lib.hid (hL)
    clear hB hL
    obtain ⟨kp, c2, h2⟩ : ∃ k c, keeperR qs2 m2 ix = (k, c) := ⟨_, _, rfl⟩
    obtain ⟨tt, c3, h3⟩ : ∃ t c, tightR qs2 m2 ix = (t, c) := ⟨_, _, rfl⟩
    obtain rfl : c3 = c2 := by have := tight_code (qs := qs2) (m := m2) (i := ix); rw [h2, h3] at this; exact this
    have hkf := keeper_facts h2
    have HK := Lib.hid (fun W (hL : ListIn W g2 cg2 qs2) => show Calls Try.prog 33 #[.slice (some ⟨g2, 0, none⟩) qs2.length cg2, .int .i64 m2, .int .i64 ix] W (fun e w' => e = .returned (.tuple #[.int .i64 kp, .int .i64 c3]) ∧ Below W.heap.size W w') from by have := implKeeperOf5_any (some ⟨g2, 0, none⟩) qs2.length cg2 qs2 m2 ix W rfl (by have := hL.1; unfold maxLen; omega) hL.2.2.1 (smallL_fits hL.2.1); rw [h2] at this; exact this)
    have HKs := Lib.hid (fun W (hL : ListIn W g2 cg2 qs2) => show Calls Try.prog 34 #[.slice (some ⟨g2, 0, none⟩) qs2.length cg2, .int .i64 m2, .int .i64 ix] W (fun e w' => e = .returned (.tuple #[.int .i64 kp, .int .i64 c3]) ∧ Below W.heap.size W w') from by have := specKeeperOf5_any (some ⟨g2, 0, none⟩) qs2.length cg2 qs2 m2 ix W rfl (by have := hL.1; unfold maxLen; omega) hL.2.2.1 (smallL_fits hL.2.1); rw [h2] at this; exact this)
    have HT := Lib.hid (fun W (hL : ListIn W g2 cg2 qs2) => show Calls Try.prog 35 #[.slice (some ⟨g2, 0, none⟩) qs2.length cg2, .int .i64 m2, .int .i64 ix] W (fun e w' => e = .returned (.tuple #[.bool tt, .int .i64 c3]) ∧ Below W.heap.size W w') from by have := implTight_any (some ⟨g2, 0, none⟩) qs2.length cg2 qs2 m2 ix W rfl (by have := hL.1; unfold maxLen; omega) hL.2.2.1 (smallL_fits hL.2.1); rw [h3] at this; exact this)
    have HTs := Lib.hid (fun W (hL : ListIn W g2 cg2 qs2) => show Calls Try.prog 36 #[.slice (some ⟨g2, 0, none⟩) qs2.length cg2, .int .i64 m2, .int .i64 ix] W (fun e w' => e = .returned (.tuple #[.bool tt, .int .i64 c3]) ∧ Below W.heap.size W w') from by have := specTight_any (some ⟨g2, 0, none⟩) qs2.length cg2 qs2 m2 ix W rfl (by have := hL.1; unfold maxLen; omega) hL.2.2.1 (smallL_fits hL.2.1); rw [h3] at this; exact this)
    have hkfa := Lib.hid hkf; clear h2 h3 hkf
    go_wp2_with fail
    refine (HK.out w4 X4.out).mono ?_; rintro e w5 ⟨rfl, hB⟩
    have HB5 := Lib.hid (HB4.out.trans (hB.mono HB4.out.size))
    have L5 := Lib.hid (L4.out.below hB)
    have C5 := Lib.hid (C4.out.below hB)
    have M5 := Lib.hid (M4.out.below hB)
    have X5 := Lib.hid (X4.out.below hB)
    clear hB 
    go_wp2_with fail
    refine (HKs.out w5 X5.out).mono ?_; rintro e w6 ⟨rfl, hB⟩
    have HB6 := Lib.hid (HB5.out.trans (hB.mono HB5.out.size))
    have L6 := Lib.hid (L5.out.below hB)
    have C6 := Lib.hid (C5.out.below hB)
    have M6 := Lib.hid (M5.out.below hB)
    have X6 := Lib.hid (X5.out.below hB)
    clear hB 
    go_wp2_with fail
    refine (HT.out w6 X6.out).mono ?_; rintro e w7 ⟨rfl, hB⟩
    have HB7 := Lib.hid (HB6.out.trans (hB.mono HB6.out.size))
    have L7 := Lib.hid (L6.out.below hB)
    have C7 := Lib.hid (C6.out.below hB)
    have M7 := Lib.hid (M6.out.below hB)
    have X7 := Lib.hid (X6.out.below hB)
    clear hB 
    go_wp2_with fail
    refine (HTs.out w7 X7.out).mono ?_; rintro e w8 ⟨rfl, hB⟩
    have HB8 := Lib.hid (HB7.out.trans (hB.mono HB7.out.size))
    have L8 := Lib.hid (L7.out.below hB)
    have C8 := Lib.hid (C7.out.below hB)
    have M8 := Lib.hid (M7.out.below hB)
    have X8 := Lib.hid (X7.out.below hB)
    clear hB 
    go_wp2_with fail
    refine (sameB (likeInts_any ac am zs.length cac zs.length cam zs zs w8 rfl rfl (by unfold maxLen; omega) (by unfold maxLen; omega) C8.out M8.out)).mono ?_; rintro e w9 ⟨rfl, hB⟩
    have HB9 := Lib.hid (HB8.out.trans (hB.mono HB8.out.size))
    have L9 := Lib.hid (L8.out.below hB)
    have C9 := Lib.hid (C8.out.below hB)
    have M9 := Lib.hid (M8.out.below hB)
    have X9 := Lib.hid (X8.out.below hB)
    clear hB 
    rcases hkfa.out with hc5 | ⟨rfl, hki, hkk⟩
    · have hc5b : (c3 == 0) = false := beq_eq_false_iff_ne.2 hc5
      clear hc5
      rcases hfa.out with hc | ⟨rfl, hgf⟩
      · have hcb : (c1 != 0) = true := by rw [bne_iff_ne]; exact hc
        go_wp2_with fail
        go_ret
        exact ⟨rfl, HB9.out⟩
      · obtain ⟨f1, f2, f3, f4, f5, f6, f7, f8, ws, f9, f10⟩ := hgf
        have HF3 := Lib.hid f3; have HF4 := Lib.hid f4; have HF5 := Lib.hid f5; have HF6 := Lib.hid f6; have HF7 := Lib.hid f7; have HF8 := Lib.hid f8; have HF9 := Lib.hid f9; have HF10 := Lib.hid f10; clear f3 f4 f5 f6 f7 f8 f9 f10
        go_wp2_with fail
        go_loopw [24] (fun c wr => ∃ t : Nat, 1 ≤ t ∧ t ≤ zs.length ∧ c = .int .i64 t ∧ Below w9.heap.size w9 wr) (fun c _ => zs.length - (intOf c).toNat)
        case atStart => exact ⟨1, Nat.le_refl _, by omega, rfl, Below.refl _ _⟩
        case round =>
          obtain ⟨t, ht1, ht, rfl, hB⟩ := hrel
          have HR := Lib.hid hB; clear hB
          by_cases hlt : t < zs.length
          · obtain ⟨t0, rfl⟩ : ∃ t0, t = t0 + 1 := ⟨t - 1, by omega⟩
            obtain ⟨b, off, x0, e, hc0, _, hx0⟩ := (C9.out.below HR.out).at rfl (show t0 < zs.length by omega)
            subst e
            obtain ⟨b', off', x1, e, hc1, _, hx1⟩ := (C9.out.below HR.out).at rfl hlt
            cases e
            obtain ⟨n0, rfl, hn0⟩ := HF7.out t0 x0 hx0
            obtain ⟨n1, rfl, hn1⟩ := HF7.out (t0 + 1) x1 hx1
            obtain ⟨lb, loff, p, e, hcp, hp⟩ := (L9.out.below HR.out).2.2.1.at rfl hn0
            cases e
            obtain ⟨lb', loff', q, e, hcq, hq⟩ := (L9.out.below HR.out).2.2.1.at rfl hn1
            cases e
            have hpp := arePers_at HF6.out hp; have hqq := arePers_at HF6.out hq
            have HAL := Lib.hid (alike_yes hpp hqq HF5.out (HF8.out t0 n0 n1 p q hx0 hx1 hp hq))
            obtain ⟨hpf, hpl⟩ := small_fits5 (L9.out.2.1 p (List.mem_of_getElem? hp)); obtain ⟨hqf, hql⟩ := small_fits5 (L9.out.2.1 q (List.mem_of_getElem? hq))
            have hcall := regr_call (w := wr) (fun W _ => show Calls Try.prog 38 #[.agg #[.int .i64 p.num, .string p.fst, .string p.lst, .int .i64 p.born, .int .i64 p.zone], .agg #[.int .i64 q.num, .string q.fst, .string q.lst, .int .i64 q.born, .int .i64 q.zone], .int .i64 m] W (fun e w' => e = .returned (.tuple #[.bool true, .int .i64 0]) ∧ Below W.heap.size W w') from by
              have := implAreAlike_any p.num p.fst p.lst p.born p.zone q.num q.fst q.lst q.born q.zone m W hpf hpl hqf hql
              rw [show alikeP ⟨p.num, p.fst, p.lst, p.born, p.zone⟩ ⟨q.num, q.fst, q.lst, q.born, q.zone⟩ m = (true, 0) from HAL.out] at this
              exact this)
            obtain ⟨d0, d1, d2, d3, d4⟩ := hcp
            obtain ⟨g0, g1, g2', g3, g4⟩ := hcq
            have k0 := cell_regrown d0; have k1 := cell_regrown d1; have k2 := cell_regrown d2; have k3 := cell_regrown d3; have k4 := cell_regrown d4
            have l0 := cell_regrown g0; have l1 := cell_regrown g1; have l2 := cell_regrown g2'; have l3 := cell_regrown g3; have l4 := cell_regrown g4
            have kx := cell_regrown hc0; have ky := cell_regrown hc1
            simp only [Nat.zero_add] at k0 k1 k2 k3 k4 l0 l1 l2 l3 l4
            have ej : ((t0 + 1 : Nat) : Int) - 1 = (t0 : Int) := by omega
            have hlen40 := L9.out.1
            clear d0 d1 d2 d3 d4 g0 g1 g2' g3 g4 hc0 hc1 hx0 hx1 hp hq hpp hqq hpf hpl hqf hql
            go_wp2_with fail
            refine wp_region_quiet_below (by kernel_rfl) (by kernel_rfl) ?_
            iterate 22 (go_big_quiet_step (exact hcall _ _))
            refine wpQuiet_nil ?_
            intro _ hw'
            obtain ⟨⟨dq, osq⟩, hw''⟩ := hw'
            subst hw''
            have HR5 := Lib.hid (HR.out.trans ((below_regrown wr dq osq).mono HR.out.size))
            clear hcall k0 k1 k2 k3 k4 l0 l1 l2 l3 l4 kx ky
            generalize grow (redrawn wr dq) osq = w5 at HR5 ⊢
            go_wp2_with fail
            go_roundw
            case rel => exact ⟨t0 + 1 + 1, by omega, by omega, by go_num, HR5.out⟩
            case measure => simp [intOf]; omega
          · obtain rfl : t = zs.length := by omega
            have HLr := Lib.hid (L9.out.below HR.out)
            have HBC := Lib.hid (show Calls Try.prog 30 #[.slice (some ⟨g, 0, none⟩) qs.length cg, .int .i64 m, .int .i64 v, .int .i64 u] wr (SaysNewI ws 0 wr) from by have := implChain_any (some ⟨g, 0, none⟩) qs.length cg qs m v u wr rfl (by have := HLr.out.1; unfold maxLen; omega) HLr.out.2.2.1 (smallL_fits HLr.out.2.1); rw [HF9.out] at this; exact this)
            go_wp2_with fail
            refine HBC.out.mono ?_; rintro e w6 ⟨aw, caw, rfl, _, hB⟩
            rw [HF10.out]
            have HR6 := Lib.hid (HR.out.trans (hB.mono HR.out.size)); clear hB
            obtain ⟨b, off, x0, e, hc0, _, hx0⟩ := (C9.out.below HR6.out).at rfl (show 0 < zs.length by omega)
            subst e
            obtain ⟨b', off', x1, e, hc1, _, hx1⟩ := (C9.out.below HR6.out).at rfl (show zs.length - 1 < zs.length by omega)
            cases e
            obtain rfl : x0 = u := Option.some.inj (hx0.symm.trans HF3.out)
            obtain rfl : x1 = v := Option.some.inj (hx1.symm.trans HF4.out)
            simp only [Nat.add_zero] at hc0
            have ej : (zs.length : Int) - 1 = ((zs.length - 1 : Nat) : Int) := by omega
            clear hx0 hx1
            go_wp2_with fail
            go_ret
            exact ⟨rfl, HB9.out.trans (HR6.out.mono HB9.out.size)⟩
    · go_wp2_with fail
      refine ((show Calls Try.prog 33 #[.slice (some ⟨g2, 0, none⟩) qs2.length cg2, .int .i64 m2, .int .i64 kp] w9 (fun e w' => e = .returned (.tuple #[.int .i64 kp, .int .i64 0]) ∧ Below w9.heap.size w9 w') from by have := implKeeperOf5_any (some ⟨g2, 0, none⟩) qs2.length cg2 qs2 m2 kp w9 rfl (by have := X9.out.1; unfold maxLen; omega) X9.out.2.2.1 (smallL_fits X9.out.2.1); rw [hkk] at this; exact this)).mono ?_; rintro e w10 ⟨rfl, hB⟩
      have HB10 := Lib.hid (HB9.out.trans (hB.mono HB9.out.size))
      have L10 := Lib.hid (L9.out.below hB)
      have C10 := Lib.hid (C9.out.below hB)
      have M10 := Lib.hid (M9.out.below hB)
      have X10 := Lib.hid (X9.out.below hB)
      clear hB hkk
      rcases hfa.out with hc | ⟨rfl, hgf⟩
      · have hcb : (c1 != 0) = true := by rw [bne_iff_ne]; exact hc
        go_wp2_with fail
        go_ret
        exact ⟨rfl, HB10.out⟩
      · obtain ⟨f1, f2, f3, f4, f5, f6, f7, f8, ws, f9, f10⟩ := hgf
        have HF3 := Lib.hid f3; have HF4 := Lib.hid f4; have HF5 := Lib.hid f5; have HF6 := Lib.hid f6; have HF7 := Lib.hid f7; have HF8 := Lib.hid f8; have HF9 := Lib.hid f9; have HF10 := Lib.hid f10; clear f3 f4 f5 f6 f7 f8 f9 f10
        go_wp2_with fail
        go_loopw [24] (fun c wr => ∃ t : Nat, 1 ≤ t ∧ t ≤ zs.length ∧ c = .int .i64 t ∧ Below w10.heap.size w10 wr) (fun c _ => zs.length - (intOf c).toNat)
        case atStart => exact ⟨1, Nat.le_refl _, by omega, rfl, Below.refl _ _⟩
        case round =>
          obtain ⟨t, ht1, ht, rfl, hB⟩ := hrel
          have HR := Lib.hid hB; clear hB
          by_cases hlt : t < zs.length
          · obtain ⟨t0, rfl⟩ : ∃ t0, t = t0 + 1 := ⟨t - 1, by omega⟩
            obtain ⟨b, off, x0, e, hc0, _, hx0⟩ := (C10.out.below HR.out).at rfl (show t0 < zs.length by omega)
            subst e
            obtain ⟨b', off', x1, e, hc1, _, hx1⟩ := (C10.out.below HR.out).at rfl hlt
            cases e
            obtain ⟨n0, rfl, hn0⟩ := HF7.out t0 x0 hx0
            obtain ⟨n1, rfl, hn1⟩ := HF7.out (t0 + 1) x1 hx1
            obtain ⟨lb, loff, p, e, hcp, hp⟩ := (L10.out.below HR.out).2.2.1.at rfl hn0
            cases e
            obtain ⟨lb', loff', q, e, hcq, hq⟩ := (L10.out.below HR.out).2.2.1.at rfl hn1
            cases e
            have hpp := arePers_at HF6.out hp; have hqq := arePers_at HF6.out hq
            have HAL := Lib.hid (alike_yes hpp hqq HF5.out (HF8.out t0 n0 n1 p q hx0 hx1 hp hq))
            obtain ⟨hpf, hpl⟩ := small_fits5 (L10.out.2.1 p (List.mem_of_getElem? hp)); obtain ⟨hqf, hql⟩ := small_fits5 (L10.out.2.1 q (List.mem_of_getElem? hq))
            have hcall := regr_call (w := wr) (fun W _ => show Calls Try.prog 38 #[.agg #[.int .i64 p.num, .string p.fst, .string p.lst, .int .i64 p.born, .int .i64 p.zone], .agg #[.int .i64 q.num, .string q.fst, .string q.lst, .int .i64 q.born, .int .i64 q.zone], .int .i64 m] W (fun e w' => e = .returned (.tuple #[.bool true, .int .i64 0]) ∧ Below W.heap.size W w') from by
              have := implAreAlike_any p.num p.fst p.lst p.born p.zone q.num q.fst q.lst q.born q.zone m W hpf hpl hqf hql
              rw [show alikeP ⟨p.num, p.fst, p.lst, p.born, p.zone⟩ ⟨q.num, q.fst, q.lst, q.born, q.zone⟩ m = (true, 0) from HAL.out] at this
              exact this)
            obtain ⟨d0, d1, d2, d3, d4⟩ := hcp
            obtain ⟨g0, g1, g2', g3, g4⟩ := hcq
            have k0 := cell_regrown d0; have k1 := cell_regrown d1; have k2 := cell_regrown d2; have k3 := cell_regrown d3; have k4 := cell_regrown d4
            have l0 := cell_regrown g0; have l1 := cell_regrown g1; have l2 := cell_regrown g2'; have l3 := cell_regrown g3; have l4 := cell_regrown g4
            have kx := cell_regrown hc0; have ky := cell_regrown hc1
            simp only [Nat.zero_add] at k0 k1 k2 k3 k4 l0 l1 l2 l3 l4
            have ej : ((t0 + 1 : Nat) : Int) - 1 = (t0 : Int) := by omega
            have hlen40 := L10.out.1
            clear d0 d1 d2 d3 d4 g0 g1 g2' g3 g4 hc0 hc1 hx0 hx1 hp hq hpp hqq hpf hpl hqf hql
            go_wp2_with fail
            refine wp_region_quiet_below (by kernel_rfl) (by kernel_rfl) ?_
            iterate 22 (go_big_quiet_step (exact hcall _ _))
            refine wpQuiet_nil ?_
            intro _ hw'
            obtain ⟨⟨dq, osq⟩, hw''⟩ := hw'
            subst hw''
            have HR5 := Lib.hid (HR.out.trans ((below_regrown wr dq osq).mono HR.out.size))
            clear hcall k0 k1 k2 k3 k4 l0 l1 l2 l3 l4 kx ky
            generalize grow (redrawn wr dq) osq = w5 at HR5 ⊢
            go_wp2_with fail
            go_roundw
            case rel => exact ⟨t0 + 1 + 1, by omega, by omega, by go_num, HR5.out⟩
            case measure => simp [intOf]; omega
          · obtain rfl : t = zs.length := by omega
            have HLr := Lib.hid (L10.out.below HR.out)
            have HBC := Lib.hid (show Calls Try.prog 30 #[.slice (some ⟨g, 0, none⟩) qs.length cg, .int .i64 m, .int .i64 v, .int .i64 u] wr (SaysNewI ws 0 wr) from by have := implChain_any (some ⟨g, 0, none⟩) qs.length cg qs m v u wr rfl (by have := HLr.out.1; unfold maxLen; omega) HLr.out.2.2.1 (smallL_fits HLr.out.2.1); rw [HF9.out] at this; exact this)
            go_wp2_with fail
            refine HBC.out.mono ?_; rintro e w6 ⟨aw, caw, rfl, _, hB⟩
            rw [HF10.out]
            have HR6 := Lib.hid (HR.out.trans (hB.mono HR.out.size)); clear hB
            obtain ⟨b, off, x0, e, hc0, _, hx0⟩ := (C10.out.below HR6.out).at rfl (show 0 < zs.length by omega)
            subst e
            obtain ⟨b', off', x1, e, hc1, _, hx1⟩ := (C10.out.below HR6.out).at rfl (show zs.length - 1 < zs.length by omega)
            cases e
            obtain rfl : x0 = u := Option.some.inj (hx0.symm.trans HF3.out)
            obtain rfl : x1 = v := Option.some.inj (hx1.symm.trans HF4.out)
            simp only [Nat.add_zero] at hc0
            have ej : (zs.length : Int) - 1 = ((zs.length - 1 : Nat) : Int) := by omega
            clear hx0 hx1
            go_wp2_with fail
            go_ret
            exact ⟨rfl, HB10.out.trans (HR6.out.mono HB10.out.size)⟩

set_option maxRecDepth 100000 in
theorem lifted (os : Os) (started : os.Started) (H : Type) (enc : TypeId × Value → H) :
    ReturnsInHanded {} Try.checked os 4 .any (Rows.fnChainsSpec.pre6 enc Try.prog Try.f4 Rows.fnChainsRow.domain false) (Rows.fnChainsSpec.post enc Try.prog Try.f4 false true false false) := by
  refine returnsInHanded_of_change (C := Try.checked) own started (by kernel_rfl) Try.func4
    (ChangeSpec.witness6 (enc := enc) (C := Try.checked) false ⟨#[], #[.slice none 0 0], []⟩ 8 (by kernel_rfl) (by kernel_rfl) (by kernel_rfl) (by kernel_rfl)) ?_
  intro W base args ds gs before hval0 hW hcnd _
  have hval : ∀ (j : Nat) t v, Try.f4.params[j]? = some t → args[j]? = some v → Value.okWide Try.prog W .any base t v := hval0
  have hW' := hW
  obtain ⟨p, q, hA0, hV, rfl, hfz, hnd⟩ := hW
  have hA : DataW.TrodAll enc Try.prog W 0 (fun _ => true) true Try.f4.params.toList args.toList ds p := hA0
  rw [Try.params4] at hA hval
  obtain ⟨v0, vs0, d0, ds0, p0, q0, hargs, rfl, rfl, h0, r0⟩ := trodAll_cons hA
  obtain ⟨rfl, rfl, rfl⟩ := trodAll_nil r0
  obtain rfl : args = #[v0] := by cases args; simp_all
  obtain ⟨rfl, rfl⟩ := trodVars_none hV
  obtain ⟨a0, len0, cap0, rfl⟩ := okWide_slice Try.underlying22 (hval 0 22 v0 rfl rfl)
  have k0 := h0
  have lt0 : ∀ x ∈ p0, x.block < W.heap.size := by obtain ⟨m, hm⟩ := k0; exact DataW.trod_lt m _ _ _ hm
  obtain ⟨z0, w0⟩ : ∃ zs, IsRow .u8 W a0 len0 cap0 zs := by
    obtain ⟨fuel, hf⟩ := h0
    rcases open_ints Try.underlying22 Try.underlying5 (by kernel_rfl) hf with ⟨hcs, _⟩ | ⟨x, l, c, zs, hcs, _, hl, hm, hz, _, hcell, hwz⟩
    · simp [Value.cells] at hcs
      obtain ⟨rfl, rfl, rfl⟩ := hcs
      exact ⟨[], .inl ⟨rfl, rfl, rfl, rfl⟩⟩
    · simp [Value.cells] at hcs
      obtain ⟨rfl, rfl, rfl⟩ := hcs
      exact ⟨zs, .inr ⟨_, rfl, hl, hm, by simpa using hz, hcell, hwz⟩⟩
  clear hA0 hval0
  refine (walk W a0 len0 cap0 z0 w0).mono fun e W' ⟨he, bel⟩ => ?_
  subst he
  exact ⟨_, rfl, _, _, _, [], _, [], hW', trodAll_mk1 (shut_bool Try.underlying4 _), (trodAll_cons_mk (Below.trod laidOut (by kernel_rfl) (of_decide_eq_true (by kernel_rfl)) k0 bel lt0) trodAll_mk0), rfl, bel.frame _, fun h => by cases h⟩

theorem over : Rows.fnChainsRow.holds Try.pinned (OpenSpec.ofChange Rows.fnChainsSpec) :=
  OpenClaim.holds_of_wide 4 Try.f4 rfl rfl rfl rfl rfl rfl rfl ⟨rfl, rfl, rfl, rfl, rfl⟩ rfl rfl rfl rfl rfl (by kernel_rfl) Try.func4 (by kernel_rfl)
    (of_decide_eq_true (by kernel_rfl)) (by unfold Func.isWrapper; first | (rw [if_pos (by decide +kernel)]; kernel_rfl) | (rw [if_neg (by decide +kernel)]; exact ⟨rfl, rfl⟩))
    (fun os started H enc _ => lifted os started H enc)

/-- The statement. -/
theorem proved : Rows.FnChainsSaid := over
end Go.Proofs.Ytdeiillfdjebdaa.fnChains
