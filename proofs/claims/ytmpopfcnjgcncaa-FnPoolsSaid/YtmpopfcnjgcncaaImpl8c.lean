/- Contracts of the program's chapter 8: a pool's copy, the numbers that are left. -/
import Derived.Test.YtmpopfcnjgcncaaChecked
import Derived.Test.YtmpopfcnjgcncaaBase
import Derived.Test.YtmpopfcnjgcncaaInfo
import Derived.Test.YtmpopfcnjgcncaaMarkI
import Derived.Test.YtmpopfcnjgcncaaPure40
import Derived.Test.YtmpopfcnjgcncaaPure80
import Derived.Test.YtmpopfcnjgcncaaPure83
import Derived.Test.YtmpopfcnjgcncaaIntL
import Derived.Test.YtmpopfcnjgcncaaBuildI
import Derived.Test.YtmpopfcnjgcncaaBuild8
import Derived.Test.YtmpopfcnjgcncaaRowV
import Derived.Test.YtmpopfcnjgcncaaPoolA
import Derived.Test.YtmpopfcnjgcncaaSpec80
import Derived.Test.YtmpopfcnjgcncaaImpl8a
import Derived.Test.YtmpopfcnjgcncaaWith8
import Derived.WalkKit
import Derived.WalkSpells
import Derived.WalkLawsBesides
import Derived.Lib.Hide
import Derived.Lib.QuietBelow
import Derived.IntWalk
import Derived.Deep.QuietTactic
import Derived.Deep.RegionHeld3
import Derived.Deep.OwnRows
import Derived.BigQuiet
import Derived.Outline
namespace Go.Proofs.Ytmpopfcnjgcncaa
open Go.RowKit Pure1 Pure2 Pure30 Pure40 Pure60 Pure80 Pure83 Rec

/-- a pool of our own is returned; nothing that was there has turned -/
def SaysCopy (q : PoolV) (w : World) (e : Ending) (w' : World) : Prop :=
  ∃ v0 v1, e = .returned (.agg #[v0, v1, .int .i64 q.state]) ∧ BuildI w.heap.size w' v0 q.nums ∧ BuildI w.heap.size w' v1 q.drawn ∧ ApartV v0 v1 ∧ Below w.heap.size w w'

set_option maxRecDepth 100000 in
set_option maxHeartbeats 4000000 in
theorem implCopied8 (a0 : Option Addr) (l0 c0 : Nat) (a1 : Option Addr) (l1 c1 : Nat) (p : PoolV) (w : World) (hI : PoolV.In w a0 l0 a1 l1 p) (hl0 : l0 ≤ 1000000000) (hl1 : l1 ≤ 1000000000) (hn0 : a0 = none → l0 = 0 ∧ c0 = 0) (hn1 : a1 = none → l1 = 0 ∧ c1 = 0) :
    Calls Try.prog 59 #[.agg #[.slice a0 l0 c0, .slice a1 l1 c1, .int .i64 p.state]] w (SaysCopy p w) := by
  have hw1 : (w.alloc (.cells #[.slice a0 l0 c0, .slice a1 l1 c1, .int .i64 p.state] 26)).heap.size = w.heap.size + 1 := by simp
  have HW := Lib.hid (boxes2 w (.cells #[.slice a0 l0 c0, .slice a1 l1 c1, .int .i64 p.state] 26) (.cells #[.slice none 0 0, .slice none 0 0, .int .i64 0] 26))
  have HX := Lib.hid ((PoolV.boxed w a0 l0 c0 a1 l1 c1 p 26).below (boxed _ (.cells #[.slice none 0 0, .slice none 0 0, .int .i64 0] 26)))
  have hrow := rowV_box (w.alloc (.cells #[.slice a0 l0 c0, .slice a1 l1 c1, .int .i64 p.state] 26)) 26 [.slice none 0 0, .slice none 0 0, .int .i64 0]
  rw [hw1] at hrow
  have HP := Lib.hid hrow
  have HI := Lib.hid hI
  have hsz : ((w.alloc (.cells #[.slice a0 l0 c0, .slice a1 l1 c1, .int .i64 p.state] 26)).alloc (.cells #[.slice none 0 0, .slice none 0 0, .int .i64 0] 26)).heap.size = w.heap.size + 1 + 1 := by simp
  have HN0 := Lib.hid hn0; have HN1 := Lib.hid hn1
  clear hrow hI hw1 hn0 hn1
  go_enter Try.func59, Try.ntmps59
  go_wp2_with fail
  generalize (w.alloc (.cells #[.slice a0 l0 c0, .slice a1 l1 c1, .int .i64 p.state] 26)).alloc (.cells #[.slice none 0 0, .slice none 0 0, .int .i64 0] 26) = w0 at HW HX HP hsz ⊢
  have hdr := Below.drew (Below.refl w0.heap.size w0)
  have HdX := Lib.hid (HX.out.below hdr)
  have HdP := Lib.hid (HP.out.below hdr)
  have HdI := Lib.hid ((HI.out.below HW.out).below hdr)
  have HC1 := Lib.hid (implClone8 a0 l0 c0 p.nums w0.drew HdI.out.1 hl0 HN0.out)
  have HC2 := Lib.hid (fun (W : World) (h : Below w0.drew.heap.size w0.drew W) => implClone8 a1 l1 c1 p.drawn W (HdI.out.2.below h) hl1 HN1.out)
  go_region_held3 (fun W => W.cell? ⟨w.heap.size, 0, none⟩ = some (.slice a0 l0 c0) ∧ W.cell? ⟨w.heap.size, 1, none⟩ = some (.slice a1 l1 c1) ∧ W.cell? ⟨w.heap.size, 2, none⟩ = some (.int .i64 p.state)) (first | exact HdX.out | exact HdX.out.below hBa | exact (HdX.out.below hBa).below hBb | (have hbb := ((HdX.out.below hBa).below hBb); obtain ⟨k0, k1, k2⟩ := hbb; go_simp)) (first | (go_at_call 51; refine (HC2.out v1 hBa).mono ?_; rintro e v2 ⟨vb, rfl, hob, hBb⟩; obtain ⟨ab, cb, rfl, _⟩ := hob.slice; have hall := (hBa.trans (hBb.mono hBa.size)); have p0 := (HdP.out.below hall).cell (show _[0]? = some _ from rfl); have p1 := (HdP.out.below hall).cell (show _[1]? = some _ from rfl); have p2 := (HdP.out.below hall).cell (show _[2]? = some _ from rfl); have g0 := (HdP.out.below hall).frozen 0; have g1 := (HdP.out.below hall).frozen 1; have g2 := (HdP.out.below hall).frozen 2) | (go_at_call 51; refine HC1.out.mono ?_; rintro e v1 ⟨va, rfl, hoa, hBa⟩; obtain ⟨aa, ca, rfl, _⟩ := hoa.slice))
  have hd : w0.drew.heap.size = w0.heap.size := rfl
  have hoa2 := hoa.below hBb
  have HA := Lib.hid (apartV_later hoa hob (Nat.le_refl _))
  have HOA := Lib.hid (hoa2.base (show w.heap.size + 1 + 1 ≤ w0.drew.heap.size by omega))
  have HOB := Lib.hid (hob.base (show w.heap.size + 1 + 1 ≤ v1.heap.size by have := hBa.size; omega))
  have HB5 := Lib.hid (HW.out.trans ((hdr.trans hall).mono HW.out.size))
  clear hall hoa hob hoa2 hdr hBa hBb HdX HdP HdI HC1 HC2
  go_wp2_with fail
  (try simp only [Exit.inBlock, Exit.then])
  refine bodyPost_ret (v := .agg #[.slice aa p.nums.length ca, .slice ab p.drawn.length cb, .int .i64 p.state]) ?_ rfl ?_
  · rw [Rec.results_cell1 rfl]
    go_simp
  · have hb : w.heap.size ≤ w.heap.size + 1 + 1 := by omega
    have hl : w.heap.size + 1 < w.heap.size + 1 + 1 := Nat.lt_succ_self _
    exact ⟨_, _, rfl, (((HOA.out.stored hl _).stored hl _).stored hl _).base hb, (((HOB.out.stored hl _).stored hl _).stored hl _).base hb, HA.out, ((HB5.out.setCell (Nat.le_succ _) _).setCell (Nat.le_succ _) _).setCell (Nat.le_succ _) _⟩

set_option maxRecDepth 100000 in
set_option maxHeartbeats 4000000 in
theorem implLeft8 (a0 : Option Addr) (l0 c0 : Nat) (a1 : Option Addr) (l1 c1 : Nat) (p : PoolV) (w : World) (hI : PoolV.In w a0 l0 a1 l1 p) (hp : isPool p = true) (hn0 : a0 = none → l0 = 0 ∧ c0 = 0) :
    Calls Try.prog 68 #[.agg #[.slice a0 l0 c0, .slice a1 l1 c1, .int .i64 p.state]] w (NewB (leftL p.nums p.drawn) w) := by
  have hl60 : l0 ≤ 60 := by have h1 := pool_len hp; have h2 := hI.1.1; omega
  have hl61 : l1 ≤ 60 := by have h1 := pool_len hp; have h2 := hI.2.1; have h3 := pool_dlen hp; omega
  have HW := Lib.hid (boxed w (.cells #[.slice a0 l0 c0, .slice a1 l1 c1, .int .i64 p.state] 26))
  have HX := Lib.hid (PoolV.boxed w a0 l0 c0 a1 l1 c1 p 26)
  have HI := Lib.hid (hI.below HW.out)
  have HH := Lib.hid hp
  have HC := Lib.hid (implClone8 a0 l0 c0 p.nums _ HI.out.1 (by omega) hn0)
  clear hI hp hn0
  obtain ⟨x0, x1, x2⟩ := HX.out
  go_enter Try.func68, Try.ntmps68
  go_wp2_with fail
  refine HC.out.mono ?_; rintro e w1 ⟨v, rfl, ho, hB⟩
  have HI1 := Lib.hid (HI.out.2.below hB)
  have HO0 := Lib.hid (ho.base HW.out.size)
  have HB0 := Lib.hid (HW.out.trans (hB.mono HW.out.size))
  have x11 := cell_later hB x1
  clear ho hB x0 x1 x2 HX HI HC
  go_wp2_with fail
  go_loopw [3, 5, 12] (fun v _ i wr => ∃ k : Nat, k ≤ l1 ∧ i = .int .i64 k ∧ BuildI w.heap.size wr v (leftL p.nums (p.drawn.take k)) ∧ Below w.heap.size w wr ∧ Below w1.heap.size w1 wr) (fun _ _ i _ => l1 - (intOf i).toNat)
  case atStart => exact ⟨0, Nat.zero_le _, rfl, by rw [take_zero_left]; exact HO0.out, HB0.out, Below.refl _ _⟩
  case round =>
    obtain ⟨k, hk, rfl, ho, hB, hB1⟩ := hrel
    have HO := Lib.hid ho; have HB := Lib.hid hB; have HB1 := Lib.hid hB1; clear ho hB hB1 HO0 HB0
    have hdl := HI1.out.1
    by_cases hlt : k < l1
    · obtain ⟨b, off, y, rfl, hc, _, hy⟩ := (HI1.out.2.2.below HB1.out).at HI1.out.1 hlt
      have hlen := leftL_take_len (pool_nodup HH.out) (pool_dnodup HH.out) (pool_sub HH.out) (show k ≤ p.drawn.length by omega)
      have hpl := pool_len HH.out
      have hmem := leftL_has (pool_dnodup HH.out) (pool_sub HH.out) hy
      have HN := Lib.hid (fun (j : Nat) (hj : (leftL p.nums (p.drawn.take k))[j]? = some y) => leftL_take (pool_nodup HH.out) hy hj)
      generalize leftL p.nums (p.drawn.take k) = zs at HO HN hlen hmem
      obtain ⟨m, hm⟩ : ∃ m, zs.length = m + 1 := by
        cases zs with
        | nil => cases hmem
        | cons a r => exact ⟨_, rfl⟩
      obtain ⟨av, cv, rfl, hat⟩ := HO.out.slice
      have hcap := HO.out.lencap.2
      rw [hm] at hcap
      have HZ := Lib.hid (show IntsIn wr av (m + 1) zs from ⟨hm, by unfold maxLen; omega, hat⟩)
      have HC1 := Lib.hid (implIndex8 av (m + 1) cv zs y wr HZ.out)
      have hm60 : m ≤ 60 := by omega
      have HM := Lib.hid hmem
      rw [hm]
      clear hlen hmem hat hy hm hdl hpl
      go_wp2_with fail
      refine HC1.out.mono ?_; rintro e w2 ⟨⟨n, rfl, hf⟩, rfl⟩
      obtain ⟨j, hj, rfl⟩ := firstOf_mem hf HM.out
      have hjm : j ≤ m := by have h1 := (List.getElem?_eq_some_iff.1 hj).1; have h2 := HZ.out.1; omega
      have HC2 := Lib.hid (implWithout8 av m cv j zs w2 HZ.out (by omega) hjm hcap)
      have HE := Lib.hid (HN.out j hj)
      clear hf hj
      go_wp2_with fail
      refine HC2.out.mono ?_; rintro e w3 ⟨v3, rfl, ho3, hB3⟩
      have HO3 := Lib.hid (ho3.base HB.out.size); have HB3 := Lib.hid (HB.out.trans (hB3.mono HB.out.size)); have HB4 := Lib.hid (HB1.out.trans (hB3.mono HB1.out.size))
      clear ho3 hB3 hc
      obtain ⟨a3, c3, rfl, _⟩ := HO3.out.slice
      go_wp2
      go_roundw
      case rel => exact ⟨k + 1, by omega, by go_num, by rw [← HE.out]; exact HO3.out, HB3.out, HB4.out⟩
      case measure => simp [intOf]; omega
    · have HE := Lib.hid (take_all_left p.nums p.drawn (k := k) (by omega))
      obtain ⟨av, cv, rfl, _⟩ := HO.out.slice
      go_wp2
      go_ret
      rw [← HE.out]
      exact ⟨_, rfl, HO.out, HB.out⟩
end Go.Proofs.Ytmpopfcnjgcncaa
