/- Contracts of chapter 8's model: putting back. -/
import Derived.Test.YtmpopfcnjgcncaaChecked
import Derived.Test.YtmpopfcnjgcncaaBase
import Derived.Test.YtmpopfcnjgcncaaInfo
import Derived.Test.YtmpopfcnjgcncaaMarkI
import Derived.Test.YtmpopfcnjgcncaaPure30
import Derived.Test.YtmpopfcnjgcncaaPure60
import Derived.Test.YtmpopfcnjgcncaaPure40
import Derived.Test.YtmpopfcnjgcncaaPure80
import Derived.Test.YtmpopfcnjgcncaaIntL
import Derived.Test.YtmpopfcnjgcncaaBuildI
import Derived.Test.YtmpopfcnjgcncaaBuild8
import Derived.Test.YtmpopfcnjgcncaaRowV
import Derived.Test.YtmpopfcnjgcncaaPoolA
import Derived.Test.YtmpopfcnjgcncaaSpec80
import Derived.Test.YtmpopfcnjgcncaaSpec81
import Derived.Test.YtmpopfcnjgcncaaSpec82
import Derived.Test.YtmpopfcnjgcncaaSpec83
import Derived.Test.YtmpopfcnjgcncaaSpec84
import Derived.Test.YtmpopfcnjgcncaaSpec85
import Derived.WalkKit
import Derived.WalkSpells
import Derived.WalkLawsBesides
import Derived.Lib.Hide
import Derived.Lib.QuietBelow
import Derived.IntWalk
import Derived.Deep.QuietTactic
import Derived.Deep.RegionHeld3
import Derived.BigQuiet
import Derived.Outline
namespace Go.Proofs.Ytmpopfcnjgcncaa
open Go.RowKit Pure1 Pure2 Pure30 Pure40 Pure60 Pure80 Rec

/-- the first k are among ds -/
def AmongTo (ds bs : List Int) (k : Nat) : Prop := ∀ (i : Nat) x, i < k → bs[i]? = some x → mem ds x = true
/-- the first k are told once each -/
def OnceTo (bs : List Int) (k : Nat) : Prop := ∀ (i : Nat) x, i < k → bs[i]? = some x → mem (bs.take i) x = false
theorem amongTo_step {ds bs : List Int} {k : Nat} {x : Int} (h : AmongTo ds bs k) (hx : bs[k]? = some x) (hm : mem ds x = true) : AmongTo ds bs (k + 1) := by
  intro i y hi hy
  by_cases e : i = k
  · subst e; rw [hx] at hy; cases hy; exact hm
  · exact h i y (by omega) hy
theorem onceTo_step {bs : List Int} {k : Nat} {x : Int} (h : OnceTo bs k) (hx : bs[k]? = some x) (hm : mem (bs.take k) x = false) : OnceTo bs (k + 1) := by
  intro i y hi hy
  by_cases e : i = k
  · subst e; rw [hx] at hy; cases hy; exact hm
  · exact h i y (by omega) hy
theorem among_all {ds bs : List Int} {k : Nat} (h : AmongTo ds bs k) (hk : bs.length ≤ k) : bs.all (mem ds) = true := by
  rw [List.all_eq_true]
  intro x hx
  obtain ⟨i, hi⟩ := List.mem_iff_getElem?.1 hx
  exact h i x (by have := (List.getElem?_eq_some_iff.1 hi).1; omega) hi
theorem once_nodup {bs : List Int} {k : Nat} (h : OnceTo bs k) (hk : bs.length ≤ k) : bs.Nodup :=
  drawn_nodup (ns := bs) (fun i x hi hx => ⟨List.mem_of_getElem? hx, (mem_no _ _).1 (h i x (by omega) hx)⟩)
theorem not_once {bs : List Int} {k : Nat} {x : Int} (hx : bs[k]? = some x) (hm : mem (bs.take k) x = true) : ¬ bs.Nodup := by
  intro hn
  exact (drawn_of hn (fun y hy => hy) k x (List.getElem?_eq_some_iff.1 hx).1 hx).2 ((mem_iff _ _).1 hm)
theorem putC_none {p : PoolV} {bs : List Int} {k : Nat} {x : Int} (hp : isPool p = true) (hx : bs[k]? = some x) (hm : mem p.drawn x = false) : putC p bs = 4 := by
  unfold putC
  rw [if_pos hp, if_neg]
  intro h
  have := List.all_eq_true.1 h x (List.mem_of_getElem? hx)
  rw [hm] at this; cases this
theorem putC_twice {p : PoolV} {bs : List Int} {k : Nat} {x : Int} (hp : isPool p = true) (ha : bs.all (mem p.drawn) = true) (hx : bs[k]? = some x) (hm : mem (bs.take k) x = true) : putC p bs = 5 := by
  unfold putC
  rw [if_pos hp, if_pos ha, if_neg (not_once hx hm)]
theorem putC_ok {p : PoolV} {bs : List Int} (hp : isPool p = true) (ha : bs.all (mem p.drawn) = true) (hn : bs.Nodup) : putC p bs = 0 := by
  unfold putC
  rw [if_pos hp, if_pos ha, if_pos hn]

set_option maxRecDepth 100000 in
set_option maxHeartbeats 8000000 in
theorem specPut8_any (a0 : Option Addr) (l0 c0 : Nat) (a1 : Option Addr) (l1 c1 : Nat) (p : PoolV) (a2 : Option Addr) (l2 c2 : Nat) (bs : List Int) (w : World) (hI : PoolV.In w a0 l0 a1 l1 p) (hJ : IntsIn w a2 l2 bs) (hc1 : l1 ≤ c1) (hc2 : l2 ≤ c2) (hn0 : a0 = none → l0 = 0 ∧ c0 = 0) :
    Calls Try.prog 24 #[.agg #[.slice a0 l0 c0, .slice a1 l1 c1, .int .i64 p.state], .slice a2 l2 c2] w (SaysPool (putR p bs).1 (putR p bs).2 w) := by
  have hw1 : (w.alloc (.cells #[.slice a0 l0 c0, .slice a1 l1 c1, .int .i64 p.state] 26)).heap.size = w.heap.size + 1 := by simp
  have HW := Lib.hid (boxes2 w (.cells #[.slice a0 l0 c0, .slice a1 l1 c1, .int .i64 p.state] 26) (.cells #[.slice none 0 0, .slice none 0 0, .int .i64 0] 26))
  have HX := Lib.hid ((PoolV.boxed w a0 l0 c0 a1 l1 c1 p 26).below (boxed _ (.cells #[.slice none 0 0, .slice none 0 0, .int .i64 0] 26)))
  have hrow := rowV_box (w.alloc (.cells #[.slice a0 l0 c0, .slice a1 l1 c1, .int .i64 p.state] 26)) 26 [.slice none 0 0, .slice none 0 0, .int .i64 0]
  rw [hw1] at hrow
  have HP := Lib.hid hrow
  have HI := Lib.hid hI
  have HJ := Lib.hid hJ
  have hm0 := hI.1.2.1
  have hm1 := hI.2.2.1
  have hm2 := hJ.2.1
  unfold maxLen at hm0 hm1 hm2
  have HC := Lib.hid (specIsPool8_any a0 l0 c0 a1 l1 c1 p ((w.alloc (.cells #[.slice a0 l0 c0, .slice a1 l1 c1, .int .i64 p.state] 26)).alloc (.cells #[.slice none 0 0, .slice none 0 0, .int .i64 0] 26)) (hI.below HW.out) hc1)
  have HE := Lib.hid (show putR p bs = if putC p bs = 0 then (⟨p.nums, leftL p.drawn bs, p.state⟩, 0) else (zeroP, putC p bs) from rfl)
  have hsz : ((w.alloc (.cells #[.slice a0 l0 c0, .slice a1 l1 c1, .int .i64 p.state] 26)).alloc (.cells #[.slice none 0 0, .slice none 0 0, .int .i64 0] 26)).heap.size = w.heap.size + 1 + 1 := by simp
  have HN0 := Lib.hid hn0
  clear hrow hI hJ hw1 hn0
  generalize putR p bs = r at HE ⊢
  go_enter Try.func24, Try.ntmps24
  obtain ⟨x0, x1, x2⟩ := HX.out
  go_wp2_with fail
  generalize (w.alloc (.cells #[.slice a0 l0 c0, .slice a1 l1 c1, .int .i64 p.state] 26)).alloc (.cells #[.slice none 0 0, .slice none 0 0, .int .i64 0] 26) = w0 at HW HX HP HC hsz x0 x1 x2 ⊢
  cases hp : isPool p with
  | false =>
    have HF := Lib.hid (show r = (zeroP, 1) by rw [HE.out]; unfold putC; rw [hp]; rfl)
    rw [hp] at HC
    clear hp HE
    refine HC.out.mono ?_; rintro e w1 ⟨rfl, hB⟩
    have HB := Lib.hid (HW.out.trans (hB.mono (by omega)))
    have HP1 := Lib.hid (HP.out.below hB)
    clear hB x0 x1 x2 HX HP HW HC hsz
    have p0 := HP1.out.cell (show _[0]? = some _ from rfl); have p1 := HP1.out.cell (show _[1]? = some _ from rfl); have p2 := HP1.out.cell (show _[2]? = some _ from rfl)
    have g0 := HP1.out.frozen 0; have g1 := HP1.out.frozen 1; have g2 := HP1.out.frozen 2
    go_wp2_with fail
    (try simp only [Exit.inBlock, Exit.then])
    refine bodyPost_ret (v := .tuple #[.agg #[.slice none 0 0, .slice none 0 0, .int .i64 0], .int .i64 1]) ?_ rfl ?_
    · rw [Rec.results_cell_tmp rfl]
      go_simp
    · rw [HF.out]
      exact ⟨_, _, rfl, BuildI.nil _ _, BuildI.nil _ _, none_apartV _, ((HB.out.setCell (Nat.le_succ _) _).setCell (Nat.le_succ _) _).setCell (Nat.le_succ _) _⟩
  | true =>
    have HPP := Lib.hid hp
    have hl60 : l0 ≤ 60 := by have h1 := pool_len hp; have h2 := HI.out.1.1; omega
    have hl61 : l1 ≤ 60 := by have h1 := pool_len hp; have h2 := HI.out.2.1; have h3 := pool_dlen hp; have h4 := HI.out.1.1; omega
    rw [hp] at HC
    clear hp
    refine HC.out.mono ?_; rintro e w1 ⟨rfl, hB⟩
    have HB1 := Lib.hid (HW.out.trans (hB.mono (by omega)))
    have HX1 := Lib.hid (HX.out.below hB); have HP1 := Lib.hid (HP.out.below hB)
    have hs1 : w.heap.size + 1 + 1 ≤ w1.heap.size := by rw [← hsz]; exact hB.size
    clear hB x0 x1 x2 HX HP HW HC hsz
    go_wp2
    go_loopw [6] (fun i wr => ∃ k : Nat, k ≤ l2 ∧ i = .int .i64 k ∧ AmongTo p.drawn bs k ∧ Below w.heap.size w wr ∧ PoolV.Box wr w.heap.size a0 l0 c0 a1 l1 c1 p ∧ RowV (w.heap.size + 1) wr 26 [.slice none 0 0, .slice none 0 0, .int .i64 0] ∧ w.heap.size + 1 + 1 ≤ wr.heap.size) (fun i _ => l2 - (intOf i).toNat)
    case atStart => exact ⟨0, Nat.zero_le _, rfl, fun i x hi => by omega, HB1.out, HX1.out, HP1.out, hs1⟩
    case round =>
      obtain ⟨k, hk, rfl, hT, hB, hX, hP, hs⟩ := hrel
      have HT := Lib.hid hT; have HB := Lib.hid hB; have HX := Lib.hid hX; have HP := Lib.hid hP
      clear hT hB hX hP HB1 HX1 HP1 hs1
      obtain ⟨x0, x1, x2⟩ := HX.out
      by_cases hlt : k < l2
      · obtain ⟨b, off, y, rfl, hc, _, hy⟩ := (HJ.out.2.2.below HB.out).at HJ.out.1 hlt
        have HY := Lib.hid hy; clear hy
        have HQ := Lib.hid (fun W (h : Below wr.heap.size wr W) => specHas8 a1 l1 c1 p.drawn y W ((HI.out.2.below HB.out).below h))
        cases hv : mem p.drawn y with
        | false =>
          have HF := Lib.hid (show r = (zeroP, 4) by rw [HE.out, putC_none HPP.out HY.out hv]; rfl)
          rw [hv] at HQ
          clear hv HE
          go_wp2
          go_quiet ((go_at_call 65; exact Calls.quiet_of_same (HQ.out _ (Go.below_drewN (Below.refl _ _) _))))
          have HPd := Lib.hid (HP.out.below (Go.below_drewN (Below.refl _ _) nq))
          clear x0 x1 x2
          have p0 := HPd.out.cell (show _[0]? = some _ from rfl); have p1 := HPd.out.cell (show _[1]? = some _ from rfl); have p2 := HPd.out.cell (show _[2]? = some _ from rfl)
          have g0 := HPd.out.frozen 0; have g1 := HPd.out.frozen 1; have g2 := HPd.out.frozen 2
          go_wp2_with fail
          (try simp only [Exit.inBlock, Exit.then])
          refine bodyPost_ret (v := .tuple #[.agg #[.slice none 0 0, .slice none 0 0, .int .i64 0], .int .i64 4]) ?_ rfl ?_
          · rw [Rec.results_cell_tmp rfl]
            go_simp
          · rw [HF.out]
            exact ⟨_, _, rfl, BuildI.nil _ _, BuildI.nil _ _, none_apartV _, (((Go.below_drewN HB.out nq).setCell (Nat.le_succ _) _).setCell (Nat.le_succ _) _).setCell (Nat.le_succ _) _⟩
        | true =>
          have HT2 := Lib.hid (amongTo_step HT.out HY.out hv)
          rw [hv] at HQ
          clear hv
          go_wp2
          go_quiet ((go_at_call 65; exact Calls.quiet_of_same (HQ.out _ (Go.below_drewN (Below.refl _ _) _))))
          go_wp2
          go_roundw
          case rel => exact ⟨k + 1, by omega, by go_num, HT2.out, Go.below_drewN HB.out _, HX.out.below (Go.below_drewN (Below.refl _ _) _), HP.out.below (Go.below_drewN (Below.refl _ _) _), by simpa using hs⟩
          case measure => simp [intOf]; omega
      · have HA := Lib.hid (among_all HT.out (by rw [HJ.out.1]; omega))
        clear x0 x1 x2
        go_wp2
        go_loopw [7] (fun i wr => ∃ k : Nat, k ≤ l2 ∧ i = .int .i64 k ∧ OnceTo bs k ∧ Below w.heap.size w wr ∧ PoolV.Box wr w.heap.size a0 l0 c0 a1 l1 c1 p ∧ RowV (w.heap.size + 1) wr 26 [.slice none 0 0, .slice none 0 0, .int .i64 0] ∧ w.heap.size + 1 + 1 ≤ wr.heap.size) (fun i _ => l2 - (intOf i).toNat)
        case atStart => exact ⟨0, Nat.zero_le _, rfl, fun i x hi => by omega, HB.out, HX.out, HP.out, hs⟩
        case round =>
          clear hlt hk hs
          obtain ⟨k, hk, rfl, hT, hB, hX, hP, hs⟩ := hrel
          have HO := Lib.hid hT; have HB2 := Lib.hid hB; have HX2 := Lib.hid hX; have HP2 := Lib.hid hP
          clear hT hB hX hP HB HX HP
          by_cases hlt : k < l2
          · obtain ⟨b, off, y, rfl, hc, _, hy⟩ := (HJ.out.2.2.below HB2.out).at HJ.out.1 hlt
            have HY := Lib.hid hy; clear hy
            have HQ := Lib.hid (fun W (h : Below wr.heap.size wr W) => specHas8 (some ⟨b, off, none⟩) k c2 (bs.take k) y W (((HJ.out.take hk).below HB2.out).below h))
            have hkc : k ≤ c2 := by omega
            cases hv : mem (bs.take k) y with
            | true =>
              have HF := Lib.hid (show r = (zeroP, 5) by rw [HE.out, putC_twice HPP.out HA.out HY.out hv]; rfl)
              rw [hv] at HQ
              clear hv HE
              go_wp2
              go_quiet ((go_at_call 65; exact Calls.quiet_of_same (HQ.out _ (Go.below_drewN (Below.refl _ _) _))))
              have HPd := Lib.hid (HP2.out.below (Go.below_drewN (Below.refl _ _) nq))
              have p0 := HPd.out.cell (show _[0]? = some _ from rfl); have p1 := HPd.out.cell (show _[1]? = some _ from rfl); have p2 := HPd.out.cell (show _[2]? = some _ from rfl)
              have g0 := HPd.out.frozen 0; have g1 := HPd.out.frozen 1; have g2 := HPd.out.frozen 2
              go_wp2_with fail
              (try simp only [Exit.inBlock, Exit.then])
              refine bodyPost_ret (v := .tuple #[.agg #[.slice none 0 0, .slice none 0 0, .int .i64 0], .int .i64 5]) ?_ rfl ?_
              · rw [Rec.results_cell_tmp rfl]
                go_simp
              · rw [HF.out]
                exact ⟨_, _, rfl, BuildI.nil _ _, BuildI.nil _ _, none_apartV _, (((Go.below_drewN HB2.out nq).setCell (Nat.le_succ _) _).setCell (Nat.le_succ _) _).setCell (Nat.le_succ _) _⟩
            | false =>
              have HT2 := Lib.hid (onceTo_step HO.out HY.out hv)
              rw [hv] at HQ
              clear hv
              go_wp2
              go_quiet ((go_at_call 65; exact Calls.quiet_of_same (HQ.out _ (Go.below_drewN (Below.refl _ _) _))))
              go_wp2
              go_roundw
              case rel => exact ⟨k + 1, by omega, by go_num, HT2.out, Go.below_drewN HB2.out _, HX2.out.below (Go.below_drewN (Below.refl _ _) _), HP2.out.below (Go.below_drewN (Below.refl _ _) _), by simpa using hs⟩
              case measure => simp [intOf]; omega
          · have HF := Lib.hid (show r = (⟨p.nums, leftL p.drawn bs, p.state⟩, 0) by rw [HE.out, putC_ok HPP.out HA.out (once_nodup HO.out (by rw [HJ.out.1]; omega))]; rfl)
            clear HE HO HA
            have HBL := Lib.hid (BuildI.empty (B := w.heap.size + 1 + 1) (w := wr) hs)
            have hal := boxed wr (.cells #[] 2)
            have HB3 := Lib.hid (HB2.out.trans (hal.mono HB2.out.size)); have HX3 := Lib.hid (HX2.out.below hal); have HP3 := Lib.hid (HP2.out.below hal)
            clear hal HB2 HX2 HP2
            go_wp2
            go_loopw [8, 9] (fun v i wq => ∃ k : Nat, k ≤ l1 ∧ i = .int .i64 k ∧ BuildI (w.heap.size + 1 + 1) wq v ((p.drawn.take k).filter fun x => !mem bs x) ∧ Below w.heap.size w wq ∧ PoolV.Box wq w.heap.size a0 l0 c0 a1 l1 c1 p ∧ RowV (w.heap.size + 1) wq 26 [.slice none 0 0, .slice none 0 0, .int .i64 0] ∧ w.heap.size + 1 + 1 ≤ wq.heap.size) (fun _ i _ => l1 - (intOf i).toNat)
            case atStart => exact ⟨0, Nat.zero_le _, rfl, by simpa using HBL.out, HB3.out, HX3.out, HP3.out, by simp; omega⟩
            case round =>
              clear hs hlt hk
              obtain ⟨k, hk, rfl, ho, hB, hX, hP, hs⟩ := hrel
              obtain ⟨av, cv, rfl, _⟩ := ho.slice
              have HO := Lib.hid ho; have HB := Lib.hid hB; have HX := Lib.hid hX; have HP := Lib.hid hP
              clear ho hB hX hP HBL HB3 HX3 HP3
              obtain ⟨x0, x1, x2⟩ := HX.out
              by_cases hlt : k < l1
              · obtain ⟨b, off, y, rfl, hc, _, hy⟩ := (HI.out.2.2.2.below HB.out).at HI.out.2.1 hlt
                have HQ := Lib.hid (specHas8 a2 l2 c2 bs y wr (HJ.out.below HB.out))
                have HN := Lib.hid (filter_take_snoc (fun x => !mem bs x) hy)
                have hzl : ((p.drawn.take k).filter fun x => !mem bs x).length ≤ 1000000 := by
                  refine Nat.le_trans (List.length_filter_le _ _) ?_
                  rw [List.length_take]; have := HI.out.2.1; omega
                generalize (p.drawn.take k).filter (fun x => !mem bs x) = zs at HO HN hzl ⊢
                clear hy
                cases hv : mem bs y
                · rw [hv] at HQ HN
                  clear hv
                  go_wp2_with fail
                  refine HQ.out.mono ?_; rintro e w5 ⟨rfl, rfl⟩
                  go_wp2_with (at_builtin; refine wpList_int_append (B := w.heap.size + 1 + 1) rfl _ _ rfl _ _ rfl (HO.out.alloc _) _ y rfl (BuildI.lit1 _ _ _) (by omega) (by simp; omega) ?_)
                  intro v' w' h1 h2
                  have hal := boxed w5 (.cells #[.int .i64 y] 2)
                  have ho3 := HO.out.below hal
                  have HV := Lib.hid h1
                  have HB3 := Lib.hid (ho3.grew (HB.out.trans (hal.mono HB.out.size)) (by omega) (by simp; omega) h2)
                  have HX3 := Lib.hid ((HX.out.below hal).grown h2 (fun q hq => by have := (ho3.lt q hq).1; omega))
                  have HP3 := Lib.hid ((HP.out.below hal).grown h2 (fun q hq => by have := (ho3.lt q hq).1; omega))
                  have hs3 : w.heap.size + 1 + 1 ≤ w'.heap.size := Nat.le_trans (by simp; omega) h2.size
                  clear h1 h2 hal ho3
                  go_wp2
                  go_roundw
                  case rel => exact ⟨k + 1, by omega, by go_num, by rw [HN.out]; simpa using HV.out, HB3.out, HX3.out, HP3.out, hs3⟩
                  case measure => simp [intOf]; omega
                · rw [hv] at HQ HN
                  clear hv
                  go_wp2_with fail
                  refine HQ.out.mono ?_; rintro e w5 ⟨rfl, rfl⟩
                  go_wp2_with fail
                  go_roundw
                  case rel => exact ⟨k + 1, by omega, by go_num, by rw [HN.out]; simpa using HO.out, HB.out, HX.out, HP.out, hs⟩
                  case measure => simp [intOf]; omega
              · have HL := Lib.hid (show leftL p.drawn bs = (p.drawn.take k).filter fun x => !mem bs x by unfold leftL; rw [List.take_of_length_le (by rw [HI.out.2.1]; omega)])
                generalize (p.drawn.take k).filter (fun x => !mem bs x) = zs at HO HL ⊢
                go_wp2
                clear x0 x1 x2
                have hdr := Below.drew (Below.refl wr.heap.size wr)
                have HdX := Lib.hid (HX.out.below hdr)
                have HdP := Lib.hid (HP.out.below hdr)
                have HQ := Lib.hid (specOwn8 a0 l0 c0 p.nums wr.drew ((HI.out.1.below HB.out).below hdr) (by omega) HN0.out)
                go_region_held3 (fun W => W.cell? ⟨w.heap.size, 0, none⟩ = some (.slice a0 l0 c0) ∧ W.cell? ⟨w.heap.size, 2, none⟩ = some (.int .i64 p.state)) (first | exact ⟨HdX.out.1, HdX.out.2.2⟩ | exact ⟨(HdX.out.below hBq).1, (HdX.out.below hBq).2.2⟩ | (have hbb := (HdX.out.below hBq); obtain ⟨k0, k1, k2⟩ := hbb; go_simp)) ((go_at_call 60; refine HQ.out.mono ?_; rintro e w5 ⟨vn, rfl, hon, hBq⟩; obtain ⟨an, cn, rfl, _⟩ := hon.slice; have p0 := (HdP.out.below hBq).cell (show _[0]? = some _ from rfl); have p1 := (HdP.out.below hBq).cell (show _[1]? = some _ from rfl); have p2 := (HdP.out.below hBq).cell (show _[2]? = some _ from rfl); have g0 := (HdP.out.below hBq).frozen 0; have g1 := (HdP.out.below hBq).frozen 1; have g2 := (HdP.out.below hBq).frozen 2))
                have hall : Below wr.heap.size wr w5 := hdr.trans hBq
                have H0 := Lib.hid (hon.base (show w.heap.size + 1 + 1 ≤ wr.drew.heap.size from hs))
                have HA := Lib.hid (apartV_later HO.out hon (Nat.le_refl _)).symm
                have HO5 := Lib.hid (HO.out.below hall)
                have HB5 := Lib.hid (HB.out.trans (hall.mono HB.out.size))
                clear hall hon hdr hBq HdX HdP HQ
                go_wp2_with fail
                (try simp only [Exit.inBlock, Exit.then])
                refine bodyPost_ret (v := .tuple #[.agg #[.slice an p.nums.length cn, .slice av zs.length cv, .int .i64 p.state], .int .i64 0]) ?_ rfl ?_
                · rw [Rec.results_cell_tmp rfl]
                  go_simp
                · have hb : w.heap.size ≤ w.heap.size + 1 + 1 := by omega
                  have hl : w.heap.size + 1 < w.heap.size + 1 + 1 := Nat.lt_succ_self _
                  rw [HF.out]
                  refine ⟨_, _, rfl, (((H0.out.stored hl _).stored hl _).stored hl _).base hb, ?_, HA.out, ((HB5.out.setCell (Nat.le_succ _) _).setCell (Nat.le_succ _) _).setCell (Nat.le_succ _) _⟩
                  show BuildI _ _ _ (leftL p.drawn bs)
                  rw [HL.out]
                  exact (((HO5.out.stored hl _).stored hl _).stored hl _).base hb
end Go.Proofs.Ytmpopfcnjgcncaa
