/- Contracts: ChainBetween, of the program and of its model. -/
import Derived.Test.YtdeiillfdjebdaaChecked
import Derived.Test.YtdeiillfdjebdaaBase
import Derived.Test.YtdeiillfdjebdaaPure41
import Derived.Test.YtdeiillfdjebdaaPure51
import Derived.Test.YtdeiillfdjebdaaPersSlice
import Derived.Test.YtdeiillfdjebdaaArePers
import Derived.Test.YtdeiillfdjebdaaLike
import Derived.Test.YtdeiillfdjebdaaCode5
import Derived.Test.YtdeiillfdjebdaaTabB
import Derived.Test.YtdeiillfdjebdaaPairs5
import Derived.Test.YtdeiillfdjebdaaSteps5
import Derived.Test.YtdeiillfdjebdaaGroups5
import Derived.Test.YtdeiillfdjebdaaLinks5
import Derived.WalkKit
import Derived.WalkSpells
import Derived.WalkLawsBesides
import Derived.Lib.Hide
import Derived.Lib.QuietBelow
import Derived.IntWalk
import Derived.Deep.OwnRows
import Derived.Deep.QuietTactic
import Derived.BigQuiet
import Derived.Outline
namespace Go.Proofs.Ytdeiillfdjebdaa
open Go.RowKit Go.Sort Pure1 Pure2 Pure40 Pure41 Pure50 Pure51

/-- the answer of ChainBetween -/
noncomputable def chainR (ps : List Pers) (m x y : Int) : List Int × Int :=
  if code5 ps m [x, y] = 0 then (if dist (adj ps m) y.toNat x.toNat < 0 then ([], 4) else (toI (chain (adj ps m) y.toNat (dist (adj ps m) y.toNat x.toNat).toNat x.toNat), 0)) else ([], code5 ps m [x, y])
/-- how far a chain has been made -/
structure Way (A : Nat → Nat → Bool) (n z : Nat) (tot : List Nat) (pre : List Nat) (x d : Nat) : Prop where
  lt : x < n
  far : dist A z x = d
  rest : pre ++ (chain A z d x).tail = tot
theorem Way.start {A : Nat → Nat → Bool} {n z x d : Nat} (hx : x < n) (hd : dist A z x = d) : Way A n z (chain A z d x) [x] x d := ⟨hx, hd, (chain_cons z d x).symm⟩
theorem Way.step {A : Nat → Nat → Bool} {n z x d : Nat} {tot pre : List Nat} (hA : ∀ i j, A i j = true → i < n ∧ j < n) (h : Way A n z tot pre x (d + 1)) : Way A n z tot (pre ++ [nxt A z x]) (nxt A z x) d := by
  obtain ⟨h1, h2, h3⟩ := h
  obtain ⟨g1, g2, _⟩ := nxt_spec (A := A) (b := z) (a := x) (d := d) (by omega)
  refine ⟨(hA _ _ g2).1, g1, ?_⟩
  rw [chain_tail] at h3
  rw [List.append_assoc]; exact h3
theorem Way.len {A : Nat → Nat → Bool} {n z x d : Nat} {tot pre : List Nat} (h : Way A n z tot pre x d) : pre.length ≤ tot.length := by
  have := congrArg List.length h.rest
  rw [List.length_append] at this; omega
theorem Way.fin {A : Nat → Nat → Bool} {n z x d : Nat} {tot pre : List Nat} (h : Way A n z tot pre x d) (hx : x = z) : pre = tot := by
  obtain ⟨h1, h2, h3⟩ := h
  subst hx
  rw [dist_self] at h2
  obtain rfl : d = 0 := by omega
  simpa [chain] using h3
theorem Way.pos {A : Nat → Nat → Bool} {n z x d : Nat} {tot pre : List Nat} (h : Way A n z tot pre x d) (hx : x ≠ z) : ∃ d', d = d' + 1 := by
  cases d with
  | zero => exact absurd (dist_zero (by rw [h.far]; rfl)) hx
  | succ d => exact ⟨d, rfl⟩
/-- two numbers in a block of their own -/
theorem ints_two (w : World) (x y : Int) : IntsAt (w.alloc (.cells #[.int .i64 x, .int .i64 y] 2)) (some ⟨w.heap.size, 0, none⟩) [x, y] := ownI_reads (zs := [x, y]) (ownI_pair (B := w.heap.size) x y (Nat.le_refl _))
theorem ownI_base {B C : Nat} {w : World} {a : Option Addr} {len : Nat} {g : Nat → Int} (h : OwnI C w a len g) (hBC : B ≤ C) : OwnI B w a len g := by
  rcases h with h | ⟨b, f, N, e, hB, h2⟩
  · exact .inl h
  · exact .inr ⟨b, f, N, e, by omega, h2⟩
theorem chainR_small (ps : List Pers) (m x y : Int) : (chainR ps m x y).1.length ≤ 100 := by
  unfold chainR
  split
  · rename_i h
    obtain ⟨hP, _, hxy⟩ := code5_zero h
    have hx := hxy x (by simp)
    have hp := arePers_len hP
    split
    · simp
    · have := dist_lt (A := adj ps m) (n := ps.length) (fun i j h => adj_lt h) (b := y.toNat) (i := x.toNat) (by omega)
      show (toI _).length ≤ 100
      rw [toI_length, chain_length]; omega
  · simp

set_option maxRecDepth 100000 in
set_option maxHeartbeats 4000000 in
theorem implChain_any (a : Option Addr) (len cap : Nat) (ps : List Pers) (m x y : Int) (w : World) (hl : ps.length = len) (hm : len ≤ maxLen) (hI : PersAt w a ps) (hF : Fits ps) :
    Calls Try.prog 30 #[.slice a len cap, .int .i64 m, .int .i64 x, .int .i64 y] w (SaysNewI (chainR ps m x y).1 (chainR ps m x y).2 w) := by
  have HB0 := Lib.hid (boxed w (.cells #[.int .i64 x, .int .i64 y] 2))
  have HE := Lib.hid (implJoiningError_any a len cap ps m (some ⟨w.heap.size, 0, none⟩) 2 2 [x, y] (w.alloc (.cells #[.int .i64 x, .int .i64 y] 2)) hl hm (hI.below HB0.out) hF rfl (by unfold maxLen; omega) (ints_two w x y))
  rcases code5_cases ps m [x, y] with h | h | h
  · obtain ⟨hP, _, hxy⟩ := code5_zero h
    have hx := hxy x (by simp); have hy := hxy y (by simp)
    have hm12 : len ≤ 12 := by have := arePers_len hP; omega
    rw [h] at HE
    rw [hl] at hx hy
    have HRR := Lib.hid (show chainR ps m x y = if dist (adj ps m) y.toNat x.toNat < 0 then ([], 4) else (toI (chain (adj ps m) y.toNat (dist (adj ps m) y.toNat x.toNat).toNat x.toNat), 0) by unfold chainR; rw [if_pos h])
    obtain ⟨u, rfl⟩ : ∃ u : Nat, x = u := ⟨x.toNat, by omega⟩
    obtain ⟨z, rfl⟩ : ∃ z : Nat, y = z := ⟨y.toNat, by omega⟩
    rw [Int.toNat_natCast, Int.toNat_natCast] at HRR
    have hu : u < len := by omega
    have hz : z < len := by omega
    have HL := Lib.hid hl; have HI := Lib.hid hI; have HP := Lib.hid hP
    have HA := Lib.hid (show ∀ i j, adj ps m i j = true → i < len ∧ j < len from fun i j h => by have := adj_lt h; omega)
    have HC := Lib.hid (fun W (hB : Below w.heap.size w W) => implLinks_any a len cap ps m z W hl (hI.below hB) hP hz)
    have hdl := dist_lt HA.out (b := z) hu
    have hdg := dist_ge (A := adj ps m) z u
    clear hl hI hF h hP hxy hx hy
    go_enter Try.func30, Try.ntmps30
    go_wp2_with fail
    refine HE.out.mono ?_; rintro e w1 ⟨rfl, hB⟩
    have HB1 := Lib.hid (HB0.out.trans (hB.mono HB0.out.size)); clear hB HE
    go_wp2_with fail
    refine (HC.out w1 HB1.out).mono ?_; rintro e w2 ⟨a1, cap1, rfl, hO, hB⟩
    have HB2 := Lib.hid (HB1.out.trans (hB.mono HB1.out.size)); have HO := Lib.hid hO; clear hB hO HC
    obtain ⟨b1, e, hc⟩ := HO.out.at hu
    subst e
    by_cases hneg : dist (adj ps m) z u < 0
    · have HN := Lib.hid (HRR.out.trans (if_pos hneg))
      generalize dist (adj ps m) z u = du at hc hneg
      go_wp2_with fail
      go_ret2
      rw [HN.out]
      exact ⟨none, 0, rfl, .inl rfl, HB2.out⟩
    · obtain ⟨d, hd⟩ : ∃ d : Nat, dist (adj ps m) z u = d := ⟨(dist (adj ps m) z u).toNat, by omega⟩
      have HN := Lib.hid (show chainR ps m u z = (toI (chain (adj ps m) z d u), 0) by rw [HRR.out, if_neg hneg, hd, Int.toNat_natCast])
      have HW0 := Lib.hid (Way.start (A := adj ps m) (n := len) hu hd)
      have HTL := Lib.hid (chain_length (A := adj ps m) z d u)
      rw [hd] at hc hdl
      clear hneg hd HRR
      generalize chain (adj ps m) z d u = tot at HN HW0 HTL
      have htl := HTL.out
      have HV0 := Lib.hid (BuildI.one (B := w2.heap.size) (w := w2) (u : Int) (Nat.le_refl _))
      have HX0 := Lib.hid (boxed w2 (.cells #[.int .i64 (u : Int)] 2))
      go_wp2_with fail
      clear hc
      go_loopw [12, 13] (fun v c wr => ∃ (pre : List Nat) (x d : Nat), c = .int .i64 x ∧ Way (adj ps m) len z tot pre x d ∧ BuildI w2.heap.size wr v (toI pre) ∧ Below w2.heap.size w2 wr) (fun _ c _ => (dist (adj ps m) z (intOf c).toNat).toNat)
      case atStart => exact ⟨[u], u, d, rfl, HW0.out, HV0.out, HX0.out⟩
      case round =>
        clear HV0 HX0 HW0
        obtain ⟨pre, x, d2, rfl, hw, hv, hB⟩ := hrel
        have HW := Lib.hid hw; have HV := Lib.hid hv; have HX := Lib.hid hB
        have hxl := hw.lt; have hfar := hw.far; have hpl := hw.len
        clear hw hv hB
        by_cases hxz : x = z
        · have HT := Lib.hid (HW.out.fin hxz)
          subst hxz
          obtain ⟨a5, cap5, rfl, _, ho5⟩ := HV.out.own
          have HO5 := Lib.hid ho5; clear ho5 hfar
          go_wp2_with fail
          go_ret2
          rw [HN.out, ← HT.out]
          exact ⟨a5, cap5, rfl, ownI_base HO5.out HB2.out.size, HB2.out.trans (HX.out.mono HB2.out.size)⟩
        · obtain ⟨d3, rfl⟩ := HW.out.pos hxz
          have HNX := Lib.hid (implNext_any a len cap ps m z x d3 (some ⟨b1, 0, none⟩) cap1 w.heap.size wr HL.out (HI.out.below (HB2.out.trans (HX.out.mono HB2.out.size))) HP.out hxl (ownI_base (HO.out.below HX.out) HB1.out.size) (by rw [hfar]; omega))
          have HW2 := Lib.hid (HW.out.step HA.out)
          have hne : ((x : Int) != (z : Int)) = true := by rw [bne_iff_ne]; omega
          have hdn : dist (adj ps m) z (nxt (adj ps m) z x) = d3 := HW2.out.far
          have hpl2 := HW2.out.len
          generalize nxt (adj ps m) z x = x2 at HNX HW2 hdn hpl2
          go_wp2_with fail
          refine HNX.out.mono ?_; rintro e w4 ⟨rfl, hB⟩
          have HX4 := Lib.hid (HX.out.trans (hB.mono HX.out.size)); have HV4 := Lib.hid (HV.out.below hB); clear hB
          have hsz4 := HX4.out.size
          have HV5 := Lib.hid (HV4.out.alloc (.cells #[.int .i64 (x2 : Int)] 2))
          have HX5 := Lib.hid (HX4.out.alloc hsz4 (.cells #[.int .i64 (x2 : Int)] 2))
          go_wp2_with (at_builtin; refine wpList_int_append rfl _ _ rfl _ _ rfl HV5.out w4.heap.size x2 rfl (cell_one _ _ _) (by rw [toI_length]; omega) (by simp; omega) ?_)
          intro v' w6 hv6 hg6
          have HV6 := Lib.hid (show BuildI w2.heap.size w6 v' (toI (pre ++ [x2])) by rw [toI_append]; exact hv6)
          have HX6 := Lib.hid (HV5.out.grew HX5.out (Nat.le_refl _) (by simp; omega) hg6)
          clear hv6 hg6 hne
          go_wp2_with fail
          go_roundw
          case rel => exact ⟨pre ++ [x2], x2, d3, rfl, HW2.out, HV6.out, HX6.out⟩
          case measure => simp only [intOf, Int.toNat_natCast]; simp [hdn, hfar]
  all_goals
    rw [show chainR ps m x y = ([], code5 ps m [x, y]) by unfold chainR; rw [if_neg (by omega)]]
    rw [h] at HE ⊢
    clear hl hm hI hF
    go_enter Try.func30, Try.ntmps30
    go_wp2_with fail
    refine HE.out.mono ?_; rintro e w1 ⟨rfl, hB⟩
    have HB := Lib.hid (HB0.out.trans (hB.mono HB0.out.size)); clear hB
    go_wp2_with fail
    go_ret2
    exact ⟨none, 0, rfl, .inl rfl, HB.out⟩

set_option maxRecDepth 100000 in
set_option maxHeartbeats 4000000 in
theorem specChain_any (a : Option Addr) (len cap : Nat) (ps : List Pers) (m x y : Int) (w : World) (hl : ps.length = len) (hm : len ≤ maxLen) (hI : PersAt w a ps) (hF : Fits ps) :
    Calls Try.prog 31 #[.slice a len cap, .int .i64 m, .int .i64 x, .int .i64 y] w (SaysNewI (chainR ps m x y).1 (chainR ps m x y).2 w) := by
  have HB0 := Lib.hid (Below.refl w.heap.size w)
  have HE := Lib.hid (specL05Code_any a len cap ps m x y w hl hm hI hF)
  rcases code5_cases ps m [x, y] with h | h | h
  · obtain ⟨hP, _, hxy⟩ := code5_zero h
    have hx := hxy x (by simp); have hy := hxy y (by simp)
    have hm12 : len ≤ 12 := by have := arePers_len hP; omega
    rw [h] at HE
    rw [hl] at hx hy
    have HRR := Lib.hid (show chainR ps m x y = if dist (adj ps m) y.toNat x.toNat < 0 then ([], 4) else (toI (chain (adj ps m) y.toNat (dist (adj ps m) y.toNat x.toNat).toNat x.toNat), 0) by unfold chainR; rw [if_pos h])
    obtain ⟨u, rfl⟩ : ∃ u : Nat, x = u := ⟨x.toNat, by omega⟩
    obtain ⟨z, rfl⟩ : ∃ z : Nat, y = z := ⟨y.toNat, by omega⟩
    rw [Int.toNat_natCast, Int.toNat_natCast] at HRR
    have hu : u < len := by omega
    have hz : z < len := by omega
    have HL := Lib.hid hl; have HI := Lib.hid hI; have HP := Lib.hid hP
    have HA := Lib.hid (show ∀ i j, adj ps m i j = true → i < len ∧ j < len from fun i j h => by have := adj_lt h; omega)
    have HC := Lib.hid (fun W (hB : Below w.heap.size w W) => specSteps_any a len cap ps m z W hl (hI.below hB) hP hz)
    have hdl := dist_lt HA.out (b := z) hu
    have hdg := dist_ge (A := adj ps m) z u
    clear hl hI hF h hP hxy hx hy
    go_enter Try.func31, Try.ntmps31
    go_wp2_with fail
    refine HE.out.mono ?_; rintro e w1 ⟨rfl, hB⟩
    have HB1 := Lib.hid (HB0.out.trans (hB.mono HB0.out.size)); clear hB HE
    go_wp2_with fail
    refine (HC.out w1 HB1.out).mono ?_; rintro e w2 ⟨a1, cap1, rfl, hO, hB⟩
    have HB2 := Lib.hid (HB1.out.trans (hB.mono HB1.out.size)); have HO := Lib.hid hO; clear hB hO HC
    obtain ⟨b1, e, hc⟩ := HO.out.at hu
    subst e
    by_cases hneg : dist (adj ps m) z u < 0
    · have HN := Lib.hid (HRR.out.trans (if_pos hneg))
      generalize dist (adj ps m) z u = du at hc hneg
      go_wp2_with fail
      go_ret2
      rw [HN.out]
      exact ⟨none, 0, rfl, .inl rfl, HB2.out⟩
    · obtain ⟨d, hd⟩ : ∃ d : Nat, dist (adj ps m) z u = d := ⟨(dist (adj ps m) z u).toNat, by omega⟩
      have HN := Lib.hid (show chainR ps m u z = (toI (chain (adj ps m) z d u), 0) by rw [HRR.out, if_neg hneg, hd, Int.toNat_natCast])
      have HW0 := Lib.hid (Way.start (A := adj ps m) (n := len) hu hd)
      have HTL := Lib.hid (chain_length (A := adj ps m) z d u)
      rw [hd] at hc hdl
      clear hneg hd HRR
      generalize chain (adj ps m) z d u = tot at HN HW0 HTL
      have htl := HTL.out
      have HV0 := Lib.hid (BuildI.one (B := w2.heap.size) (w := w2) (u : Int) (Nat.le_refl _))
      have HX0 := Lib.hid (boxed w2 (.cells #[.int .i64 (u : Int)] 2))
      go_wp2_with fail
      clear hc
      go_loopw [2, 12] (fun c v wr => ∃ (pre : List Nat) (x d : Nat), c = .int .i64 x ∧ Way (adj ps m) len z tot pre x d ∧ BuildI w2.heap.size wr v (toI pre) ∧ Below w2.heap.size w2 wr) (fun c _ _ => (dist (adj ps m) z (intOf c).toNat).toNat)
      case atStart => exact ⟨[u], u, d, rfl, HW0.out, HV0.out, HX0.out⟩
      case round =>
        clear HV0 HX0 HW0
        obtain ⟨pre, x, d2, rfl, hw, hv, hB⟩ := hrel
        have HW := Lib.hid hw; have HV := Lib.hid hv; have HX := Lib.hid hB
        have hxl := hw.lt; have hfar := hw.far; have hpl := hw.len
        clear hw hv hB
        by_cases hxz : x = z
        · have HT := Lib.hid (HW.out.fin hxz)
          subst hxz
          obtain ⟨a5, cap5, rfl, _, ho5⟩ := HV.out.own
          have HO5 := Lib.hid ho5; clear ho5 hfar
          go_wp2_with fail
          go_ret2
          rw [HN.out, ← HT.out]
          exact ⟨a5, cap5, rfl, ownI_base HO5.out HB2.out.size, HB2.out.trans (HX.out.mono HB2.out.size)⟩
        · obtain ⟨d3, rfl⟩ := HW.out.pos hxz
          have HW2 := Lib.hid (HW.out.step HA.out)
          have hne : ((x : Int) != (z : Int)) = true := by rw [bne_iff_ne]; omega
          obtain ⟨hn1, hn2, hn3⟩ := nxt_spec (A := adj ps m) (b := z) (a := x) (d := d3) (by rw [hfar]; omega)
          have hdn : dist (adj ps m) z (nxt (adj ps m) z x) = d3 := hn1
          have hpl2 := HW2.out.len
          have hyl := HW2.out.lt
          have HNX := Lib.hid (And.intro hn1 (And.intro hn2 hn3))
          have HFx := Lib.hid hfar
          clear hn1 hn2 hn3
          generalize nxt (adj ps m) z x = y at HNX HW2 hdn hpl2 hyl
          go_wp2_with fail
          go_loopw [13] (fun c w3 => ∃ k : Nat, k ≤ y ∧ c = .int .i64 k ∧ Below wr.heap.size wr w3) (fun c _ => y - (intOf c).toNat)
          case atStart => exact ⟨0, Nat.zero_le _, rfl, Below.refl _ _⟩
          case round =>
            obtain ⟨k, hk, rfl, hB⟩ := hrel
            have HX3 := Lib.hid (HX.out.trans (hB.mono HX.out.size)); have HV3 := Lib.hid (HV.out.below hB); have HBk := Lib.hid hB; clear hB
            have hkl : k < len := by omega
            obtain ⟨b2, e, hcx⟩ := (HO.out.below HX3.out).at hxl
            cases e
            obtain ⟨b2, e, hck⟩ := (HO.out.below HX3.out).at hkl
            cases e
            rw [HFx.out] at hcx
            have kx := cell_regrown hcx; have kk := cell_regrown hck
            clear hcx hck
            have he1 : ((d3 + 1 : Nat) : Int) - 1 = d3 := by omega
            have hd12 : d3 ≤ 12 := by have := dist_lt HA.out (b := z) hxl; rw [HFx.out] at this; omega
            by_cases hvk : dist (adj ps m) z k = d3
            · rw [hvk] at kk
              obtain ⟨b3, off, p, rfl, hc, hp⟩ := (HI.out.below (HB2.out.trans (HX3.out.mono HB2.out.size))).at HL.out hkl
              obtain ⟨b', off', p2, e, hc2, hq⟩ := (HI.out.below (HB2.out.trans (HX3.out.mono HB2.out.size))).at HL.out hxl
              cases e
              have hpp := arePers_at HP.out hp; have hqq := arePers_at HP.out hq
              obtain ⟨d0, d1, d2, d4, d5⟩ := hc
              obtain ⟨g0, g1, g2, g3, g4⟩ := hc2
              have k0 := cell_regrown d0; have k1 := cell_regrown d1; have k2 := cell_regrown d2; have k3 := cell_regrown d4; have k4 := cell_regrown d5
              have l0 := cell_regrown g0; have l1 := cell_regrown g1; have l2 := cell_regrown g2; have l3 := cell_regrown g3; have l4 := cell_regrown g4
              clear d0 d1 d2 d4 d5 g0 g1 g2 g3 g4
              have hcall := regr_call (w := wr) (fun W _ => show Calls Try.prog 59 #[.agg #[.int .i64 p.num, .string p.fst, .string p.lst, .int .i64 p.born, .int .i64 p.zone], .agg #[.int .i64 p2.num, .string p2.fst, .string p2.lst, .int .i64 p2.born, .int .i64 p2.zone]] W _ from specLike_any p.num p.fst p.lst p.born p.zone p2.num p2.fst p2.lst p2.born p2.zone W hpp hqq)
              have heta : likeP ⟨p.num, p.fst, p.lst, p.born, p.zone⟩ ⟨p2.num, p2.fst, p2.lst, p2.born, p2.zone⟩ = likeP p p2 := rfl
              rw [heta] at hcall
              clear heta hpp hqq
              cases hd : decide (m ≤ likeP p p2)
              · have hky : k ≠ y := fun e => by
                  have h1 := HNX.out.2.1
                  rw [← e, adj_at hp hq, hd] at h1; cases h1
                have hd2 : ¬ m ≤ likeP p p2 := of_decide_eq_false hd
                have hd3 : decide (likeP p p2 < m) = true := decide_eq_true (by omega)
                clear hp hq hd
                generalize likeP p p2 = LL at hcall hd2 hd3
                go_wp2_with fail
                refine wp_region_quiet_below (by kernel_rfl) (by kernel_rfl) ?_
                iterate 23 (go_big_quiet_step (exact hcall _ _))
                refine wpQuiet_nil ?_
                intro _ hw'
                obtain ⟨⟨dq, osq⟩, hw''⟩ := hw'
                subst hw''
                have HB5 := Lib.hid (HBk.out.trans ((below_regrown wr dq osq).mono HBk.out.size))
                clear hcall k0 k1 k2 k3 k4 l0 l1 l2 l3 l4 kx kk
                generalize grow (redrawn wr dq) osq = w5 at HB5 ⊢
                go_wp2_with fail
                go_roundw
                case rel => exact ⟨k + 1, by omega, by go_num, HB5.out⟩
                case measure => simp [intOf]; omega
              · have hky : k = y := Classical.byContradiction fun h => HNX.out.2.2 k (by omega) ⟨hvk, by rw [adj_at hp hq]; exact hd⟩
                have hd2 : m ≤ likeP p p2 := of_decide_eq_true hd
                have hd3 : decide (likeP p p2 < m) = false := decide_eq_false (by omega)
                clear hp hq hd
                generalize likeP p p2 = LL at hcall hd2 hd3
                subst hky
                go_wp2_with fail
                refine wp_region_quiet_below (by kernel_rfl) (by kernel_rfl) ?_
                iterate 23 (go_big_quiet_step (exact hcall _ _))
                refine wpQuiet_nil ?_
                intro _ hw'
                obtain ⟨⟨dq, osq⟩, hw''⟩ := hw'
                subst hw''
                have hb5 := below_regrown wr dq osq
                have HX4 := Lib.hid (HX3.out.trans (hb5.mono HX3.out.size)); have HV4 := Lib.hid (HV3.out.below hb5)
                clear hcall k0 k1 k2 k3 k4 l0 l1 l2 l3 l4 kx kk hb5
                generalize grow (redrawn wr dq) osq = w4 at HX4 HV4 ⊢
                have hsz4 := HX4.out.size
                have HV5 := Lib.hid (HV4.out.alloc (.cells #[.int .i64 (k : Int)] 2))
                have HX5 := Lib.hid (HX4.out.alloc hsz4 (.cells #[.int .i64 (k : Int)] 2))
                go_wp2_with (at_builtin; refine wpList_int_append rfl _ _ rfl _ _ rfl HV5.out w4.heap.size k rfl (cell_one _ _ _) (by rw [toI_length]; omega) (by simp; omega) ?_)
                intro v' w6 hv6 hg6
                have HV6 := Lib.hid (show BuildI w2.heap.size w6 v' (toI (pre ++ [k])) by rw [toI_append]; exact hv6)
                have HX6 := Lib.hid (HV5.out.grew HX5.out (Nat.le_refl _) (by simp; omega) hg6)
                clear hv6 hg6 hne
                go_wp2_with fail
                go_roundw
                case rel => exact ⟨pre ++ [k], k, d3, rfl, HW2.out, HV6.out, HX6.out⟩
                case measure => simp only [intOf, Int.toNat_natCast]; simp [hdn, HFx.out]
            · have hky : k ≠ y := fun e => hvk (by rw [e]; exact HNX.out.1)
              have hnb : (dist (adj ps m) z k != (d3 : Int)) = true := by rw [bne_iff_ne]; exact hvk
              clear hvk
              generalize dist (adj ps m) z k = du at kk hnb
              go_wp2_with fail
              refine wp_region_quiet_below (by kernel_rfl) (by kernel_rfl) ?_
              iterate 23 (go_big_quiet_step (fail))
              refine wpQuiet_nil ?_
              intro _ hw'
              obtain ⟨⟨dq, osq⟩, hw''⟩ := hw'
              subst hw''
              have HB5 := Lib.hid (HBk.out.trans ((below_regrown wr dq osq).mono HBk.out.size))
              clear kx kk
              generalize grow (redrawn wr dq) osq = w5 at HB5 ⊢
              go_wp2_with fail
              go_roundw
              case rel => exact ⟨k + 1, by omega, by go_num, HB5.out⟩
              case measure => simp [intOf]; omega
  all_goals
    rw [show chainR ps m x y = ([], code5 ps m [x, y]) by unfold chainR; rw [if_neg (by omega)]]
    rw [h] at HE ⊢
    clear hl hm hI hF
    go_enter Try.func31, Try.ntmps31
    go_wp2_with fail
    refine HE.out.mono ?_; rintro e w1 ⟨rfl, hB⟩
    have HB := Lib.hid (HB0.out.trans (hB.mono HB0.out.size)); clear hB
    go_wp2_with fail
    go_ret2
    exact ⟨none, 0, rfl, .inl rfl, HB.out⟩

end Go.Proofs.Ytdeiillfdjebdaa
