/- Contracts of chapter 8's model: its helpers, pools, who is left. -/
import Derived.Test.YtjnicmlomjppnaaGreatDoorChecked
import Derived.Test.YtjnicmlomjppnaaGreatDoorBase0
import Derived.Test.YtjnicmlomjppnaaGreatDoorInfo
import Derived.Test.YtjnicmlomjppnaaGreatDoorIntL
import Derived.Test.YtjnicmlomjppnaaGreatDoorBuildI
import Derived.Test.YtjnicmlomjppnaaGreatDoorBuild8
import Derived.Test.YtjnicmlomjppnaaGreatDoorRowV
import Derived.Test.YtjnicmlomjppnaaGreatDoorPoolA
import Derived.WalkKit
import Derived.WalkSpells
import Derived.WalkLawsBesides
import Derived.Lib.Hide
import Derived.Lib.QuietBelow
import Derived.IntWalk
import Derived.Deep.QuietTactic
import Derived.BigQuiet
import Derived.Outline
namespace Go.Proofs.YtjnicmlomjppnaaGreatDoor
open Go.RowKit Pure1 Pure2 Pure30 Pure40 Pure60 Pure80 Rec

theorem specIn8 (n a b : Int) (w : World) :
    Calls Tryz.prog 42 #[.int .i64 n, .int .i64 a, .int .i64 b] w fun e w' => e = .returned (.bool (inR n a b)) ∧ w' = w := by
  by_cases h1 : a ≤ n
  · go_enter Tryz.func42, Tryz.ntmps42
    go_wp2
    go_ret
    exact ⟨ret_bool' (by simp [inR, h1]), rfl⟩
  · have h3 : decide (a ≤ n) = false := decide_eq_false h1
    have h1' : n < a := by omega
    go_enter Tryz.func42, Tryz.ntmps42
    go_wp2
    go_ret
    exact ⟨ret_bool' (by simp only [inR, h3, Bool.false_and]), rfl⟩
theorem specIs8 (s : Int) (w : World) :
    Calls Tryz.prog 44 #[.int .i64 s] w fun e w' => e = .returned (.bool (isState s)) ∧ w' = w := by
  have HC := Lib.hid (specIn8 s 1 2147483646 w)
  have HE := Lib.hid (show inR s 1 2147483646 = isState s from rfl)
  generalize inR s 1 2147483646 = v at HC HE
  go_enter Tryz.func44, Tryz.ntmps44
  go_wp2_with fail
  refine HC.out.mono ?_; rintro e w1 ⟨rfl, rfl⟩
  go_wp2_with fail
  go_ret
  exact ⟨ret_bool' HE.out, rfl⟩
theorem specNext8 (s : Int) (w : World) (h : 0 ≤ s ∧ s ≤ 2147483647) :
    Calls Tryz.prog 84 #[.int .i64 s] w fun e w' => e = .returned (.int .i64 (nx s)) ∧ w' = w := by
  have h1 : 0 ≤ s * 48271 ∧ s * 48271 ≤ 200000000000000 := by omega
  have HE := Lib.hid (show s * 48271 % 2147483647 = nx s from rfl)
  have h2 := Int.emod_nonneg (s * 48271) (show (2147483647 : Int) ≠ 0 by omega)
  go_enter Tryz.func84, Tryz.ntmps84
  go_wp2
  go_ret
  exact ⟨ret_i64 HE.out, rfl⟩
theorem mem_at {zs : List Int} {k : Nat} {x : Int} (h : zs[k]? = some x) : mem zs x = true := decide_eq_true (List.mem_of_getElem? h)
theorem mem_end {zs : List Int} {k : Nat} {x : Int} (h : ∀ i, i < k → zs[i]? ≠ some x) (hk : zs.length ≤ k) : mem zs x = false := decide_eq_false fun hm => by
  obtain ⟨i, hi⟩ := List.mem_iff_getElem?.1 hm
  exact h i (by have := (List.getElem?_eq_some_iff.1 hi).1; omega) hi
theorem not_next8 {zs : List Int} {k : Nat} {x y : Int} (h : ∀ i, i < k → zs[i]? ≠ some x) (hy : zs[k]? = some y) (hn : y ≠ x) : ∀ i, i < k + 1 → zs[i]? ≠ some x := by
  intro i hi e
  by_cases e2 : i = k
  · subst e2; rw [hy] at e; exact hn (Option.some.inj e)
  · exact h i (by omega) e

set_option maxHeartbeats 400000 in
theorem specHas8 (a : Option Addr) (len cap : Nat) (zs : List Int) (x : Int) (w : World) (hI : IntsIn w a len zs) :
    Calls Tryz.prog 43 #[.slice a len cap, .int .i64 x] w fun e w' => e = .returned (.bool (mem zs x)) ∧ w' = w := by
  obtain ⟨hl, hm, h⟩ := hI
  unfold maxLen at hm
  have HL := Lib.hid hl; have HI := Lib.hid h; clear hl h
  go_enter Tryz.func43, Tryz.ntmps43
  go_wp2
  go_loop [5] (fun i => ∃ j : Nat, j ≤ len ∧ i = .int .i64 j ∧ ∀ k, k < j → zs[k]? ≠ some x) (fun i => len - (intOf i).toNat)
  case atStart => exact ⟨0, Nat.zero_le _, rfl, fun k hk => by omega⟩
  case round =>
    obtain ⟨j, hj, rfl, hno⟩ := hrel
    have HN := Lib.hid hno; clear hno
    by_cases hlt : j < len
    · obtain ⟨b, off, y, ha, hc, ht, hy⟩ := HI.out.at HL.out hlt
      subst ha
      by_cases hyx : y = x
      · subst hyx
        have HT := Lib.hid (mem_at hy)
        clear ht hy
        go_wp2
        go_ret
        exact ⟨ret_bool' HT.out.symm, rfl⟩
      · have hb : (y == x) = false := beq_eq_false_iff_ne.2 hyx
        have HX := Lib.hid (not_next8 HN.out hy hyx)
        clear ht hy hyx
        go_wp2
        go_round
        case rel => exact ⟨j + 1, by omega, by go_num, HX.out⟩
        case measure => simp [intOf]; omega
    · have HT := Lib.hid (mem_end HN.out (by rw [HL.out]; omega))
      go_wp2
      go_ret
      exact ⟨ret_bool' HT.out.symm, rfl⟩

set_option maxHeartbeats 1000000 in
theorem specOwn8 (a : Option Addr) (len cap : Nat) (zs : List Int) (w : World) (hI : IntsIn w a len zs) (hlen : len ≤ 1048576) (hn : a = none → len = 0 ∧ cap = 0) :
    Calls Tryz.prog 82 #[.slice a len cap] w (NewB zs w) := by
  have HE := Lib.hid (BuildI.empty (B := w.heap.size) (w := w) (Nat.le_refl _))
  have HI := Lib.hid (hI.below (boxed w (.cells #[] 2)))
  have HB := Lib.hid (boxed w (.cells #[] 2))
  have HN := Lib.hid hn
  clear hI hn
  go_enter Tryz.func82, Tryz.ntmps82
  go_wp2_with (at_builtin; refine wpList_ints_append (B := w.heap.size) rfl _ _ rfl _ _ rfl HE.out _ _ _ zs rfl HI.out.1 HI.out.2.2 HN.out ?c1 ?c2 ?_)
  case c1 => have := HI.out.1; simp; omega
  case c2 => simp
  intro v' w' h1 h2 _
  have HV := Lib.hid h1
  have HB2 := Lib.hid (HE.out.grew HB.out (Nat.le_refl _) (by simp) h2)
  clear h1 h2
  go_wp2_with fail
  go_ret
  exact ⟨_, rfl, by simpa using HV.out, HB2.out⟩

set_option maxRecDepth 100000 in
set_option maxHeartbeats 2000000 in
theorem specLeft8_any (a0 : Option Addr) (l0 c0 : Nat) (a1 : Option Addr) (l1 c1 : Nat) (p : PoolV) (w : World) (hI : PoolV.In w a0 l0 a1 l1 p) (hs : l0 ≤ 1000000) :
    Calls Tryz.prog 83 #[.agg #[.slice a0 l0 c0, .slice a1 l1 c1, .int .i64 p.state]] w (NewB (leftL p.nums p.drawn) w) := by
  have HW := Lib.hid (boxes2 w (.cells #[.slice a0 l0 c0, .slice a1 l1 c1, .int .i64 p.state] 26) (.cells #[] 2))
  have HX := Lib.hid ((PoolV.boxed w a0 l0 c0 a1 l1 c1 p 26).below (boxed _ (.cells #[] 2)))
  have HE := Lib.hid (BuildI.empty (B := w.heap.size + 1) (w := w.alloc (.cells #[.slice a0 l0 c0, .slice a1 l1 c1, .int .i64 p.state] 26)) (by simp))
  have HI := Lib.hid hI; clear hI
  have hm0 := HI.out.1.2.1
  unfold maxLen at hm0
  have hsz : w.heap.size < ((w.alloc (.cells #[.slice a0 l0 c0, .slice a1 l1 c1, .int .i64 p.state] 26)).alloc (.cells #[] 2)).heap.size := by simp; omega
  go_enter Tryz.func83, Tryz.ntmps83
  go_wp2
  go_loopw [3, 4] (fun v i wr => ∃ k : Nat, k ≤ l0 ∧ i = .int .i64 k ∧ BuildI (w.heap.size + 1) wr v ((p.nums.take k).filter fun x => !mem p.drawn x) ∧ Below w.heap.size w wr ∧ PoolV.Box wr w.heap.size a0 l0 c0 a1 l1 c1 p ∧ w.heap.size < wr.heap.size) (fun _ i _ => l0 - (intOf i).toNat)
  case atStart => exact ⟨0, Nat.zero_le _, rfl, by simpa using HE.out, HW.out, HX.out, hsz⟩
  case round =>
    obtain ⟨k, hk, rfl, ho, hB, hx, hs2⟩ := hrel
    obtain ⟨av, cv, rfl, _⟩ := ho.slice
    have HO := Lib.hid ho; have HB := Lib.hid hB; have HX2 := Lib.hid hx; clear ho hB hx HE HX HW
    obtain ⟨x0, x1, x2⟩ := HX2.out
    by_cases hlt : k < l0
    · obtain ⟨b, off, y, rfl, hc, _, hy⟩ := (HI.out.1.2.2.below HB.out).at HI.out.1.1 hlt
      have HC := Lib.hid (fun W (h : Below wr.heap.size wr W) => specHas8 a1 l1 c1 p.drawn y W ((HI.out.2.below HB.out).below h))
      have HN := Lib.hid (filter_take_snoc (fun x => !mem p.drawn x) hy)
      have hzl : ((p.nums.take k).filter fun x => !mem p.drawn x).length ≤ 1000000 := by
        refine Nat.le_trans (List.length_filter_le _ _) ?_
        rw [List.length_take]; have := HI.out.1.1; omega
      generalize (p.nums.take k).filter (fun x => !mem p.drawn x) = zs at HO HN hzl ⊢
      clear hy
      cases hv : mem p.drawn y
      · rw [hv] at HC HN
        clear hv
        go_wp2
        go_quiet ((go_at_call 43; exact Calls.quiet_of_same (HC.out _ (Go.below_drewN (Below.refl _ _) _))))
        go_wp2_with (at_builtin; refine wpList_int_append (B := w.heap.size + 1) rfl _ _ rfl _ _ rfl ((HO.out.below (Go.below_drewN (Below.refl _ _) _)).alloc _) _ y rfl (BuildI.lit1 _ _ _) (by omega) (by simp; omega) ?_)
        intro v' w' h1 h2
        have hdr : Below wr.heap.size wr (wr.drewN nq) := Go.below_drewN (Below.refl _ _) _
        have hb3 := (HB.out.trans (hdr.mono HB.out.size)).alloc (by simpa using HB.out.size) (.cells #[.int .i64 y] 2)
        have ho3 := (HO.out.below hdr).alloc (.cells #[.int .i64 y] 2)
        have hx3 := (HX2.out.below hdr).below (boxed (wr.drewN nq) (.cells #[.int .i64 y] 2))
        have HV := Lib.hid h1
        have HB3 := Lib.hid (ho3.grew hb3 (Nat.le_succ _) (by simp; omega) h2)
        have HX3 := Lib.hid (hx3.grown h2 (fun q hq => by have := (ho3.lt q hq).1; omega))
        have hs3 : w.heap.size < w'.heap.size := Nat.lt_of_lt_of_le (by simp; omega) h2.size
        clear h1 h2 hdr hb3 ho3 hx3
        go_wp2
        go_roundw
        case rel => exact ⟨k + 1, by omega, by go_num, by rw [HN.out]; simpa using HV.out, HB3.out, HX3.out, hs3⟩
        case measure => simp [intOf]; omega
      · rw [hv] at HC HN
        clear hv
        go_wp2
        go_quiet ((go_at_call 43; exact Calls.quiet_of_same (HC.out _ (Go.below_drewN (Below.refl _ _) _))))
        go_wp2
        go_roundw
        case rel => exact ⟨k + 1, by omega, by go_num, by rw [HN.out]; simpa using HO.out.below (Go.below_drewN (Below.refl _ _) _), Go.below_drewN HB.out _, HX2.out.below (Go.below_drewN (Below.refl _ _) _), by simpa using hs2⟩
        case measure => simp [intOf]; omega
    · have HE := Lib.hid (show leftL p.nums p.drawn = (p.nums.take k).filter fun x => !mem p.drawn x by unfold leftL; rw [List.take_of_length_le (by rw [HI.out.1.1]; omega)])
      go_wp2
      go_ret
      rw [HE.out]
      exact ⟨_, rfl, HO.out.base (by omega), HB.out⟩

theorem ints_two8 {w : World} {a : Option Addr} {zs : List Int} {j l : Nat} (h : IntsIn w a l zs) (hj : j + 1 < l) :
    ∃ b off x y, a = some ⟨b, off, none⟩ ∧ w.cell? ⟨b, off + j, none⟩ = some (.int .i64 x) ∧ w.cell? ⟨b, off + (j + 1), none⟩ = some (.int .i64 y) ∧ zs[j]? = some x ∧ zs[j + 1]? = some y := by
  obtain ⟨b, off, x, ha, hc, _, hx⟩ := h.2.2.at h.1 (show j < l by omega)
  obtain ⟨b', off', y, ha', hc', _, hy⟩ := h.2.2.at h.1 hj
  rw [ha] at ha'
  cases ha'
  exact ⟨b, off, x, y, ha, hc, hc', hx, hy⟩
theorem IntsIn.take {w : World} {a : Option Addr} {l : Nat} {zs : List Int} (h : IntsIn w a l zs) {k : Nat} (hk : k ≤ l) : IntsIn w a k (zs.take k) := by
  refine ⟨by rw [List.length_take, h.1]; omega, by have := h.2.1; omega, ?_⟩
  rcases h.2.2 with h0 | ⟨b, off, rfl, hc⟩
  · exact .inl (by rw [h0]; simp)
  · refine .inr ⟨b, off, rfl, fun i x hx => hc i x ?_⟩
    rw [List.getElem?_take] at hx
    split at hx
    · exact hx
    · cases hx
theorem inR_yes {n a b : Int} (h : inR n a b = true) : a ≤ n ∧ n ≤ b := by unfold inR at h; simpa using h
theorem inR_no {n a b : Int} (h : inR n a b = false) : ¬ (a ≤ n ∧ n ≤ b) := by unfold inR at h; intro hh; rw [decide_eq_true hh.1, decide_eq_true hh.2] at h; cases h
theorem specIn8_same (n a b : Int) (r : Bool) (w : World) (h : inR n a b = r) :
    Calls Tryz.prog 42 #[.int .i64 n, .int .i64 a, .int .i64 b] w fun e w' => e = .returned (.bool r) ∧ w' = w := by
  rw [← h]; exact specIn8 n a b w

/-- a Boolean is returned; nothing that was there has turned -/
def SaysP (b : Bool) (w : World) (e : Ending) (w' : World) : Prop := e = .returned (.bool b) ∧ Below w.heap.size w w'

set_option maxRecDepth 100000 in
set_option maxHeartbeats 8000000 in
theorem specIsPool8_any (a0 : Option Addr) (l0 c0 : Nat) (a1 : Option Addr) (l1 c1 : Nat) (p : PoolV) (w : World) (hI : PoolV.In w a0 l0 a1 l1 p) (hc1 : l1 ≤ c1) :
    Calls Tryz.prog 18 #[.agg #[.slice a0 l0 c0, .slice a1 l1 c1, .int .i64 p.state]] w (SaysP (isPool p) w) := by
  have HW := Lib.hid (boxed w (.cells #[.slice a0 l0 c0, .slice a1 l1 c1, .int .i64 p.state] 26))
  have HX := Lib.hid (PoolV.boxed w a0 l0 c0 a1 l1 c1 p 26)
  have hm0 := hI.1.2.1
  have hm1 := hI.2.2.1
  have HI := Lib.hid hI; clear hI
  unfold maxLen at hm0 hm1
  go_enter Tryz.func18, Tryz.ntmps18
  go_wp2
  go_loopw [3] (fun i wr => ∃ k : Nat, k ≤ l0 ∧ i = .int .i64 k ∧ RisesTo 1 1000000 p.nums k ∧ Below w.heap.size w wr ∧ PoolV.Box wr w.heap.size a0 l0 c0 a1 l1 c1 p) (fun i _ => l0 - (intOf i).toNat)
  case atStart => exact ⟨0, Nat.zero_le _, rfl, risesTo_zero _ _ _, HW.out, HX.out⟩
  case round =>
    obtain ⟨k, hk, rfl, hto, hB, hx⟩ := hrel
    have HT := Lib.hid hto; have HB := Lib.hid hB; have HX2 := Lib.hid hx; clear hto hB hx HX HW
    obtain ⟨x0, x1, x2⟩ := HX2.out
    by_cases hlt : k < l0
    · by_cases h0 : 0 < k
      · obtain ⟨j, rfl⟩ : ∃ j, k = j + 1 := ⟨k - 1, by omega⟩
        obtain ⟨b, off, x, y, rfl, hc, hc', hx, hy⟩ := ints_two8 (HI.out.1.below HB.out) hlt
        have HA := Lib.hid hx; have HY := Lib.hid hy; clear hx hy
        have q1 : IntKind.i64.wrap ((j : Int) + 1 - 1) = (j : Int) := by rw [IntWalk.i64_in _ (by omega)]; omega
        have q2 : ((j : Int) + 1 - 1) = (j : Int) := by omega
        cases hd : inR y 1 1000000 with
        | true =>
          by_cases hyx : y ≤ x
          · have HN := Lib.hid (pool_down HA.out HY.out hyx)
            have HD := Lib.hid hd; clear hd
            go_wp2
            go_quiet ((go_at_call 42; exact Calls.quiet_of_same (specIn8_same y 1 1000000 true _ HD.out)))
            go_wp2
            go_ret
            exact ⟨ret_bool' HN.out.symm, Go.below_drewN HB.out _⟩
          · have HN := Lib.hid (risesTo_next HT.out HA.out HY.out (inR_yes hd) hyx)
            have HD := Lib.hid hd; clear hd
            go_wp2
            go_quiet ((go_at_call 42; exact Calls.quiet_of_same (specIn8_same y 1 1000000 true _ HD.out)))
            go_wp2
            go_roundw
            case rel => exact ⟨j + 1 + 1, by omega, by go_num, HN.out, Go.below_drewN HB.out _, HX2.out.below (Go.below_drewN (Below.refl _ _) _)⟩
            case measure => simp [intOf]; omega
        | false =>
          have HN := Lib.hid (pool_out HY.out (inR_no hd))
          have HD := Lib.hid hd; clear hd
          go_wp2
          go_quiet ((go_at_call 42; exact Calls.quiet_of_same (specIn8_same y 1 1000000 false _ HD.out)))
          go_wp2
          go_ret
          exact ⟨ret_bool' HN.out.symm, Go.below_drewN HB.out _⟩
      · obtain rfl : k = 0 := by omega
        obtain ⟨b, off, y, rfl, hc, _, hy⟩ := (HI.out.1.2.2.below HB.out).at HI.out.1.1 hlt
        rw [Nat.add_zero] at hc
        have HY := Lib.hid hy; clear hy
        cases hd : inR y 1 1000000 with
        | true =>
          have HN := Lib.hid (risesTo_first HY.out (inR_yes hd))
          have HD := Lib.hid hd; clear hd
          go_wp2
          go_quiet ((go_at_call 42; exact Calls.quiet_of_same (specIn8_same y 1 1000000 true _ HD.out)))
          go_wp2
          go_roundw
          case rel => exact ⟨1, by omega, by go_num, HN.out, Go.below_drewN HB.out _, HX2.out.below (Go.below_drewN (Below.refl _ _) _)⟩
          case measure => simp [intOf]; omega
        | false =>
          have HN := Lib.hid (pool_out HY.out (inR_no hd))
          have HD := Lib.hid hd; clear hd
          go_wp2
          go_quiet ((go_at_call 42; exact Calls.quiet_of_same (specIn8_same y 1 1000000 false _ HD.out)))
          go_wp2
          go_ret
          exact ⟨ret_bool' HN.out.symm, Go.below_drewN HB.out _⟩
    · have HR := Lib.hid (show p.nums.length ≤ k by rw [HI.out.1.1]; omega)
      go_wp2
      clear x0 x1 x2
      go_loopw [4] (fun i wr => ∃ j : Nat, j ≤ l1 ∧ i = .int .i64 j ∧ DrawnTo p.nums p.drawn j ∧ Below w.heap.size w wr ∧ PoolV.Box wr w.heap.size a0 l0 c0 a1 l1 c1 p) (fun i _ => l1 - (intOf i).toNat)
      case atStart => exact ⟨0, Nat.zero_le _, rfl, drawnTo_zero _ _, HB.out, HX2.out⟩
      case round =>
        obtain ⟨j, hj, rfl, hto, hB, hx⟩ := hrel
        have HD := Lib.hid hto; have HB3 := Lib.hid hB; have HX3 := Lib.hid hx; clear hto hB hx HX2 HB
        obtain ⟨x0, x1, x2⟩ := HX3.out
        by_cases hlt : j < l1
        · obtain ⟨b, off, y, rfl, hc, _, hy⟩ := (HI.out.2.2.2.below HB3.out).at HI.out.2.1 hlt
          have HY := Lib.hid hy
          clear hy
          have H1 := Lib.hid (fun W (h : Below wr.heap.size wr W) => specHas8 a0 l0 c0 p.nums y W ((HI.out.1.below HB3.out).below h))
          have H2 := Lib.hid (fun W (h : Below wr.heap.size wr W) => specHas8 (some ⟨b, off, none⟩) j c1 (p.drawn.take j) y W (((HI.out.2.take hj).below HB3.out).below h))
          have hjc : j ≤ c1 := by omega
          cases hv : mem p.nums y with
          | false =>
            rw [hv] at H1
            have HN := Lib.hid (pool_none HY.out hv)
            clear hv
            go_wp2
            go_quiet ((go_at_call 43; exact Calls.quiet_of_same (H1.out _ (Go.below_drewN (Below.refl _ _) _))))
            go_wp2
            go_ret
            exact ⟨ret_bool' HN.out.symm, Go.below_drewN HB3.out _⟩
          | true =>
            rw [hv] at H1
            cases hu : mem (p.drawn.take j) y with
            | true =>
              rw [hu] at H2
              have HN := Lib.hid (pool_twice HY.out hu)
              clear hv hu
              go_wp2
              refine wp_region_quiet_lit (by kernel_rfl) (by kernel_rfl) ?_
              iterate 7 (quiet_step (fail))
              quiet_step ((go_at_call 43; exact Calls.quiet_of_same (H1.out _ (Go.below_drewN (Below.refl _ _) _))))
              iterate 11 (quiet_step (fail))
              quiet_step ((go_at_call 43; exact Calls.quiet_of_same (H2.out _ (Go.below_drewN (Below.refl _ _) _))))
              quiet_step (fail)
              refine wpQuiet_nil ?_
              rintro _ ⟨nq, rfl⟩
              go_wp2
              go_ret
              exact ⟨ret_bool' HN.out.symm, Go.below_drewN HB3.out _⟩
            | false =>
              rw [hu] at H2
              have HN := Lib.hid (drawnTo_step HD.out HY.out hv hu)
              clear hv hu
              go_wp2
              refine wp_region_quiet_lit (by kernel_rfl) (by kernel_rfl) ?_
              iterate 7 (quiet_step (fail))
              quiet_step ((go_at_call 43; exact Calls.quiet_of_same (H1.out _ (Go.below_drewN (Below.refl _ _) _))))
              iterate 11 (quiet_step (fail))
              quiet_step ((go_at_call 43; exact Calls.quiet_of_same (H2.out _ (Go.below_drewN (Below.refl _ _) _))))
              quiet_step (fail)
              refine wpQuiet_nil ?_
              rintro _ ⟨nq, rfl⟩
              go_wp2
              go_roundw
              case rel => exact ⟨j + 1, by omega, by go_num, HN.out, Go.below_drewN HB3.out _, HX3.out.below (Go.below_drewN (Below.refl _ _) _)⟩
              case measure => simp [intOf]; omega
        · have HE := Lib.hid (pool_end HT.out HR.out HD.out (by rw [HI.out.2.1]; omega))
          have HS := Lib.hid (fun W => specIs8 p.state W)
          have h60 : (p.nums.length : Int) = l0 := by have := HI.out.1.1; omega
          have HL := Lib.hid h60
          clear h60
          by_cases hl : l0 ≤ 60
          · have HF := Lib.hid (show isPool p = isState p.state by rw [HE.out, decide_eq_true (by have := HL.out; omega), Bool.true_and])
            go_wp2_with fail
            refine (HS.out _).mono ?_; rintro e w3 ⟨rfl, rfl⟩
            go_wp2_with fail
            go_ret
            exact ⟨ret_bool' HF.out.symm, HB3.out⟩
          · have HF := Lib.hid (show isPool p = false by rw [HE.out, decide_eq_false (by have := HL.out; omega), Bool.false_and])
            go_wp2_with fail
            go_ret
            exact ⟨ret_bool' HF.out.symm, HB3.out⟩
end Go.Proofs.YtjnicmlomjppnaaGreatDoor
