/- Merged: the texts Next Pick Pure85 Pure84 Facts Facts2 Facts3 With8 Impl8c Take8 Stat8, in their order. -/
import Derived.Test.YtjnicmlomjppnaaGreatDoorChecked
import Derived.Test.YtjnicmlomjppnaaGreatDoorBase0
import Derived.WalkKit
import Derived.WalkSpells
import Derived.WalkLawsBesides
import Derived.Lib.Hide
import Derived.IntWalk
import Derived.Deep.QuietTactic
import Derived.BigQuiet
import Derived.Outline
import Derived.Test.YtjnicmlomjppnaaGreatDoorPure83
import Derived.Test.YtjnicmlomjppnaaGreatDoorMidC
import Derived.Orders
import Derived.OrdersIn
import Derived.OwnWalkIn
import Derived.Test.YtjnicmlomjppnaaGreatDoorInfo
import Derived.Test.YtjnicmlomjppnaaGreatDoorIntL
import Derived.Test.YtjnicmlomjppnaaGreatDoorBuildI
import Derived.Test.YtjnicmlomjppnaaGreatDoorBuild8
import Derived.Test.YtjnicmlomjppnaaGreatDoorRowV
import Derived.Laws.CopyOwn
import Derived.Laws.OwnMore
import Derived.Deep.RegionLaw
import Derived.Deep.OwnRows
import Derived.Test.YtjnicmlomjppnaaGreatDoorPoolA
import Derived.Test.YtjnicmlomjppnaaGreatDoorSpec80
import Derived.Test.YtjnicmlomjppnaaGreatDoorImpl8a
import Derived.Lib.QuietBelow
import Derived.Deep.RegionHeld3
import Derived.RangeFuncNested
import Derived.RangeFuncBound
import Derived.RangeFuncCalls
import Derived.RangeFuncLeaves
import Derived.RangeFuncFrom
import Derived.Shelf.Abstract
import Derived.Shelf.RegionOpen
import Derived.TacticsInMore
import Derived.LoopNIn
import Derived.LoopIn
/- Contract: spec.l01Next hands out a number below n. -/
namespace Go.Proofs.YtjnicmlomjppnaaGreatDoor
open Go.RowKit Pure2 Pure6

theorem ret_i64' {a b : Int} (h : a = b) : Ending.returned (.int .i64 a) = .returned (.int .i64 b) := by rw [h]

set_option maxRecDepth 100000 in
set_option maxHeartbeats 1000000 in
theorem specNext_any (B b : Nat) (n : Int) (w : World) (hn : n ≤ 4611686018427387904) (h : Src B 58 w b) :
    Calls Tryz.prog 21 #[.pointer (some ⟨b, 0, none⟩), .int .i64 n] w (Drawn B 58 b n w) := by
  by_cases hn1 : n ≤ 1
  · have H := Lib.hid h; clear h
    go_enter Tryz.func21, Tryz.ntmps21
    go_wp2
    go_ret
    exact ⟨0, rfl, fun h => by omega, fun _ => rfl, H.out, grown_refl _ _⟩
  · have hn2 : 1 < n := by omega
    have hBw : B ≤ w.heap.size := Nat.le_trans h.base (Nat.le_of_lt h.lt)
    obtain ⟨a, cap, bs, k, seed, hBb, hh, hk, hbl, hs0, hs1, hby⟩ := h
    obtain ⟨c0, c1, c2, f0, f1, f2⟩ := src_cells hh
    have HH := Lib.hid hh; have HY := Lib.hid hby; clear hh hby hn1
    obtain ⟨len, hlen⟩ : ∃ len, len = bs.length := ⟨_, rfl⟩
    rw [← hlen] at c0 hk hbl
    have HL := Lib.hid hlen; clear hlen
    have hx0 : 0 ≤ (seed * 48271 + 29) % 2147483647 := by omega
    have hx1 : (seed * 48271 + 29) % 2147483647 < 2147483647 := by omega
    by_cases hlt : k < len
    · obtain ⟨ba, off, y, ha, hbB, hcy, hy0, hy1⟩ := HY.out.at HL.out.symm hlt
      subst ha
      have hbne : b ≠ ba := by omega
      have q1 : IntKind.i64.wrap ((seed * 48271 + 29) % 2147483647 / 31 + y) = (seed * 48271 + 29) % 2147483647 / 31 + y := IntWalk.i64_in _ (by omega)
      have q2 : IntKind.i64.wrap ((k : Int) + 1 - 1) = (k : Int) := by rw [IntWalk.i64_in _ (by omega)]; omega
      have q3 : (k : Int) + 1 - 1 = (k : Int) := by omega
      have hb0 : 0 ≤ (seed * 48271 + 29) % 2147483647 / 31 + y := by omega
      have hb1 : (seed * 48271 + 29) % 2147483647 / 31 + y ≤ 9223372036854775807 := by omega
      have hm := Int.emod_nonneg ((seed * 48271 + 29) % 2147483647 / 31 + y) (show n ≠ 0 by omega)
      have hm' := Int.emod_lt_of_pos ((seed * 48271 + 29) % 2147483647 / 31 + y) (show 0 < n by omega)
      have hy := Int.emod_nonneg y (show n ≠ 0 by omega)
      have hy' := Int.emod_lt_of_pos y (show 0 < n by omega)
      by_cases h256 : n ≤ 256
      · by_cases hev : ((k : Int) + 1) % 2 = 0
        · have hev' : (((k : Int) + 1) % 2 == 0) = true := beq_iff_eq.2 hev
          clear hev
          go_enter Tryz.func21, Tryz.ntmps21
          go_wp2
          go_quiet (fail)
          go_wp2
          go_quiet (fail)
          go_wp2
          go_quiet (fail)
          go_wp2
          go_ret
          exact drawn_one hBb hBw HH.out HL.out hlt hbl hx0 hx1 HY.out hn2 hy hy' _ _
        · have hev' : (((k : Int) + 1) % 2 == 0) = false := beq_eq_false_iff_ne.2 hev
          clear hev
          go_enter Tryz.func21, Tryz.ntmps21
          go_wp2
          go_quiet (fail)
          go_wp2
          go_quiet (fail)
          go_wp2
          go_ret
          exact drawn_one hBb hBw HH.out HL.out hlt hbl hx0 hx1 HY.out hn2 hm hm' _ 0
      · go_enter Tryz.func21, Tryz.ntmps21
        go_wp2
        go_quiet (fail)
        go_wp2
        go_quiet (fail)
        go_wp2
        go_ret
        exact drawn_one hBb hBw HH.out HL.out hlt hbl hx0 hx1 HY.out hn2 hm hm' _ 0
    · have hm := Int.emod_nonneg ((seed * 48271 + 29) % 2147483647 / 31) (show n ≠ 0 by omega)
      have hm' := Int.emod_lt_of_pos ((seed * 48271 + 29) % 2147483647 / 31) (show 0 < n by omega)
      go_enter Tryz.func21, Tryz.ntmps21
      go_wp2
      go_quiet (fail)
      go_wp2
      go_ret
      exact drawn_none hBb hBw HH.out HL.out hk hbl hx0 hx1 HY.out hn2 hm hm' _

end Go.Proofs.YtjnicmlomjppnaaGreatDoor
/- Contract: spec.l01Pick hands out one of some numbers. -/
namespace Go.Proofs.YtjnicmlomjppnaaGreatDoor
open Go.RowKit Pure2 Pure6

/-- one of the numbers zs is handed out -/
def Picked (B : Nat) (b : Nat) (zs : List Int) (w : World) (e : Ending) (w' : World) : Prop :=
  ∃ x, e = .returned (.int .i64 x) ∧ x ∈ zs ∧ Src B 58 w' b ∧ w.grownBy w' (some b)

set_option maxHeartbeats 400000 in
theorem specPick_any (B b ba : Nat) (zs : List Int) (len cap : Nat) (w : World) (hl : zs.length = len) (h0 : 0 < len) (hm : len ≤ 1000) (h : Src B 58 w b) (hne : ba ≠ b)
    (hz : ∀ i x, zs[i]? = some x → w.cell? ⟨ba, i, none⟩ = some (.int .i64 x)) :
    Calls Tryz.prog 35 #[.pointer (some ⟨b, 0, none⟩), .slice (some ⟨ba, 0, none⟩) len cap] w (Picked B b zs w) := by
  have HC := Lib.hid (specNext_any B b len w (by omega) h)
  have HL := Lib.hid hl; have HZ := Lib.hid hz; clear hl h hz
  go_enter Tryz.func35, Tryz.ntmps35
  go_wp2_with fail
  refine HC.out.mono ?_; rintro e w1 ⟨x, rfl, hx1, hx2, hS, hg⟩
  obtain ⟨n, rfl, hn⟩ : ∃ n : Nat, x = n ∧ n < len := by
    by_cases h1 : 1 < len
    · have := hx1 (by omega); exact ⟨x.toNat, by omega, by omega⟩
    · have := hx2 (by omega); exact ⟨0, by omega, by omega⟩
  obtain ⟨y, hy⟩ : ∃ y, zs[n]? = some y := ⟨_, List.getElem?_eq_getElem (by rw [HL.out]; exact hn)⟩
  have hc := hg.cell (HZ.out n y hy) (by intro e; cases e; exact hne rfl)
  have HX := Lib.hid (List.mem_of_getElem? hy)
  have HS := Lib.hid hS; have HG := Lib.hid hg
  clear hx1 hx2 hS hg hy
  go_wp2_with fail
  go_ret
  exact ⟨y, rfl, HX.out, HS.out, HG.out⟩

end Go.Proofs.YtjnicmlomjppnaaGreatDoor
/- Plain facts on pools that are drawn: numbers that rise below a number. No program is imported here. -/
namespace Go.Proofs.YtjnicmlomjppnaaGreatDoor.Pure85
open Go.RowKit Pure2 Pure30 Pure60 Pure80

/-- numbers from 1 on, strictly increasing, all below x -/
def RiseBelow (zs : List Int) (x : Int) : Prop := (∀ (i : Nat) y, zs[i]? = some y → 1 ≤ y ∧ y < x) ∧ ∀ (i : Nat) y z, zs[i]? = some y → zs[i + 1]? = some z → y < z
theorem riseBelow_nil (x : Int) : RiseBelow [] x := ⟨fun i y h => by simp at h, fun i y z h => by simp at h⟩
theorem riseBelow_step {zs : List Int} {x x' : Int} (h : RiseBelow zs x) (hx : 1 ≤ x) (hlt : x < x') : RiseBelow (zs ++ [x]) x' := by
  have hat : ∀ (i : Nat) y, (zs ++ [x])[i]? = some y → (i < zs.length ∧ zs[i]? = some y) ∨ (i = zs.length ∧ y = x) := fun i y hy => by
    rw [List.getElem?_append] at hy
    split at hy
    · exact .inl ⟨by assumption, hy⟩
    · have hi := (List.getElem?_eq_some_iff.1 hy).1
      simp at hi
      have e : i - zs.length = 0 := by omega
      rw [e] at hy
      exact .inr ⟨by omega, by simpa using hy.symm⟩
  refine ⟨fun i y hy => ?_, fun i y z hy hz => ?_⟩
  · rcases hat i y hy with ⟨_, h1⟩ | ⟨_, rfl⟩
    · have := h.1 i y h1; omega
    · omega
  · rcases hat (i + 1) z hz with ⟨hi, h1⟩ | ⟨hi, rfl⟩
    · rcases hat i y hy with ⟨_, h2⟩ | ⟨h2, _⟩
      · exact h.2 i y z h2 h1
      · omega
    · rcases hat i y hy with ⟨_, h2⟩ | ⟨h2, _⟩
      · exact (h.1 i y h2).2
      · omega
theorem riseBelow_rises {zs : List Int} {x : Int} (h : RiseBelow zs x) (hx : x ≤ 1000001) (hl : zs.length ≤ 60) : Rises 60 1 1000000 zs :=
  ⟨fun i y hy => by have := h.1 i y hy; omega, h.2, hl⟩
theorem riseBelow_pool {zs : List Int} {x s : Int} (h : RiseBelow zs x) (hx : x ≤ 1000001) (hl : zs.length ≤ 60) (hs : 1 ≤ s ∧ s ≤ 2147483646) : isPool ⟨zs, [], s⟩ = true :=
  (isPool_iff _).2 ⟨riseBelow_rises h hx hl, fun i y hi => by simp at hi, (isState_iff s).2 hs⟩
theorem fresh_code {zs : List Int} {s x : Int} (h : isPool ⟨zs, [], s⟩ = true) (h0 : 0 ≤ x) (hx : x ≤ zs.length) : takeC ⟨zs, [], s⟩ x = 0 := by
  unfold takeC
  rw [if_pos h, if_neg (by omega), if_neg (by simp; omega)]
/-- a draw from a fresh pool -/
theorem fresh_take {zs : List Int} {s x : Int} (h : isPool ⟨zs, [], s⟩ = true) (h0 : 0 ≤ x) (hx : x ≤ zs.length) : takeR ⟨zs, [], s⟩ x = (drawP ⟨zs, [], s⟩ x, outN zs [] s x.toNat, 0) ∧ isPool (drawP ⟨zs, [], s⟩ x) = true := by
  have hc : takeC ⟨zs, [], s⟩ x = 0 := by
    unfold takeC
    rw [if_pos h, if_neg (by omega), if_neg (by simp; omega)]
  refine ⟨?_, take_pool hc⟩
  unfold takeR
  rw [if_pos hc]
end Go.Proofs.YtjnicmlomjppnaaGreatDoor.Pure85
/- Plain facts on pools: draws along states that come one after the other. No program is imported here. -/
namespace Go.Proofs.YtjnicmlomjppnaaGreatDoor.Pure84
open Go.RowKit Pure2 Pure30 Pure31 Pure60 Pure80 Pure83

/-- one draw in the state with the index i behind s -/
def drawS (ns : List Int) (s : Int) (d : List Int × Int) (i : Nat) : List Int × Int := (d.1 ++ [pick ns d.1 (nxs s (i + 1))], nxs s (i + 1))
/-- draws in some states, in whatever order they come -/
def drawF (ns : List Int) (s : Int) (d : List Int × Int) (l : List Nat) : List Int × Int := l.foldl (drawS ns s) d
theorem drawF_nil (ns : List Int) (s : Int) (d : List Int × Int) : drawF ns s d [] = d := rfl
theorem drawF_snoc (ns : List Int) (s : Int) (d : List Int × Int) (l : List Nat) (i : Nat) : drawF ns s d (l ++ [i]) = drawS ns s (drawF ns s d l) i := by
  unfold drawF; rw [List.foldl_append]; rfl
theorem drawN_state_nxs (ns ds : List Int) (s : Int) (j : Nat) : (drawN ns ds s j).2 = nxs s j := by
  induction j with
  | zero => rfl
  | succ j ih => rw [drawN, nxs_succ, ih]
theorem drawF_range (ns ds : List Int) (s : Int) (j : Nat) : drawF ns s (ds, s) (List.range j) = drawN ns ds s j := by
  induction j with
  | zero => rfl
  | succ j ih => rw [List.range_succ, drawF_snoc, ih, drawS, drawN, nxs_succ, drawN_state_nxs]
/-- of numbers told apart, each of the pool: what is drawn so is such again -/
structure Good (ns : List Int) (n : Nat) (d : List Int × Int) : Prop where
  nodup : d.1.Nodup
  sub : ∀ x ∈ d.1, x ∈ ns
  len : d.1.length = n
  state : 1 ≤ d.2 ∧ d.2 ≤ 2147483646
theorem Good.left {ns : List Int} {n : Nat} {d : List Int × Int} (h : Good ns n d) (h1 : ns.Nodup) : (leftL ns d.1).length + n = ns.length := by
  have := leftL_length h1 h.nodup h.sub
  rw [h.len] at this; exact this
theorem Good.step {ns : List Int} {n : Nat} {d : List Int × Int} {s : Int} (h : Good ns n d) (h1 : ns.Nodup) (hs : 1 ≤ s ∧ s ≤ 2147483646) (hn : n < ns.length) (i : Nat) : Good ns (n + 1) (drawS ns s d i) := by
  have hl := h.left h1
  have ht := nxs_state hs (i + 1)
  have hp := pick_mem (ns := ns) (ds := d.1) ht (by omega)
  refine ⟨?_, ?_, ?_, ht⟩
  · show (d.1 ++ [pick ns d.1 (nxs s (i + 1))]).Nodup
    rw [List.nodup_append]
    refine ⟨h.nodup, by simp, ?_⟩
    intro a ha b hb e
    rw [List.mem_singleton] at hb
    subst hb e
    exact hp.2 ha
  · intro x hx
    have hx' : x ∈ d.1 ++ [pick ns d.1 (nxs s (i + 1))] := hx
    rw [List.mem_append, List.mem_singleton] at hx'
    rcases hx' with hx' | rfl
    · exact h.sub x hx'
    · exact hp.1
  · show (d.1 ++ [pick ns d.1 (nxs s (i + 1))]).length = n + 1
    rw [List.length_append, h.len]; rfl
theorem good_start {p : PoolV} (h : isPool p = true) : Good p.nums p.drawn.length (p.drawn, p.state) := ⟨pool_dnodup h, pool_sub h, rfl, pool_state h⟩
theorem drawF_good {p : PoolV} (h : isPool p = true) : ∀ (l : List Nat), p.drawn.length + l.length ≤ p.nums.length → Good p.nums (p.drawn.length + l.length) (drawF p.nums p.state (p.drawn, p.state) l) := by
  intro l
  generalize hr : l.reverse = r
  induction r generalizing l with
  | nil =>
    have e : l = [] := by simpa using hr
    subst e
    intro _
    exact good_start h
  | cons i r ih =>
    have e : l = r.reverse ++ [i] := by rw [← List.reverse_reverse l, hr, List.reverse_cons]
    subst e
    intro hl
    rw [List.length_append, List.length_singleton] at hl ⊢
    rw [drawF_snoc]
    exact (ih r.reverse (by simp) (by omega)).step (pool_nodup h) (pool_state h) (by omega) i
end Go.Proofs.YtjnicmlomjppnaaGreatDoor.Pure84
/- A region that draws its order, told by facts: of each operation that has been carried out, one fact on what it yielded; each operation may be carried out wherever the facts of those that it waits for hold. No program is named here. -/
namespace Go.Proofs.YtjnicmlomjppnaaGreatDoor
open Go.RowKit

theorem mem_ready' {md : Region.Mode} {ops : Array Oper} {L : Array Bool} {i : Nat} : i ∈ Region.ready md ops L ↔ i < ops.size ∧ L.getD i true = false ∧ ∃ o, ops[i]? = some o ∧ ∀ e ∈ o.after, Region.binds md e = true → L.getD e.on false = true := by
  simp only [Region.ready, List.mem_filter, List.mem_range, Bool.and_eq_true, Bool.not_eq_true']
  constructor
  · rintro ⟨h1, h2, h3⟩
    refine ⟨h1, h2, ops[i], Array.getElem?_eq_getElem h1, fun e he hb => ?_⟩
    rw [Array.getElem?_eq_getElem h1] at h3
    simp only [Option.map_some, Option.getD_some] at h3
    have := Array.all_eq_true_iff_forall_mem.1 h3 e he
    rw [hb] at this
    simpa using this
  · rintro ⟨h1, h2, o, ho, h3⟩
    refine ⟨h1, h2, ?_⟩
    rw [ho]
    simp only [Option.map_some, Option.getD_some]
    refine Array.all_eq_true_iff_forall_mem.2 (fun e he => ?_)
    cases hb : Region.binds md e
    · rfl
    · simpa using h3 e he hb

/-- how many have not been carried out -/
def left (n : Nat) (L : Array Bool) : Nat := (List.range n).countP (fun i => !L.getD i false)
theorem left_set {n : Nat} {L : Array Bool} {i : Nat} (hs : L.size = n) (hi : i < n) (h : L.getD i true = false) : left n (L.setIfInBounds i true) < left n L := by
  have hi' : i < L.size := by omega
  have hg : ∀ j, (L.setIfInBounds i true).getD j false = if j = i then true else L.getD j false := by
    intro j
    by_cases e : j = i
    · subst e; simp [hi']
    · rw [if_neg e]
      simp only [Array.getD_eq_getD_getElem?, Array.getElem?_setIfInBounds]
      rw [if_neg (fun h => e h.symm)]
  have hLi : L.getD i false = false := by
    simp only [Array.getD_eq_getD_getElem?, Array.getElem?_eq_getElem hi', Option.getD_some] at h ⊢; exact h
  unfold left
  have hmem : i ∈ List.range n := List.mem_range.2 hi
  have key : ∀ l : List Nat, (l.countP fun j => !(L.setIfInBounds i true).getD j false) ≤ (l.countP fun j => !L.getD j false) ∧ (i ∈ l → (l.countP fun j => !(L.setIfInBounds i true).getD j false) < (l.countP fun j => !L.getD j false)) := by
    intro l
    induction l with
    | nil => simp
    | cons x r ih =>
      simp only [List.countP_cons, hg x]
      by_cases e : x = i
      · subst e
        rw [if_pos rfl, hLi]
        simp only [Bool.not_true, Bool.not_false, if_true]
        exact ⟨by have := ih.1; simp only [Bool.false_eq_true, if_false]; omega, fun _ => by have := ih.1; simp only [Bool.false_eq_true, if_false]; omega⟩
      · rw [if_neg e]
        refine ⟨by have := ih.1; omega, fun hm => ?_⟩
        rcases List.mem_cons.1 hm with rfl | hm
        · exact absurd rfl e
        · have := ih.2 hm; omega
  exact (key _).2 hmem
theorem left_zero {n : Nat} {L : Array Bool} (h : left n L = 0) : ∀ i, i < n → L.getD i false = true := by
  intro i hi
  unfold left at h
  rw [List.countP_eq_zero] at h
  have := h i (List.mem_range.2 hi)
  simpa using this

section
variable {P : Program} {ops : Array Oper} {Q : Exit → Act → World → Prop}

theorem ready_nil {md : Region.Mode} {n : Nat} (hn : ops.size = n) (hlex : ∀ (i : Nat) (o : Oper), ops[i]? = some o → ∀ e ∈ o.after, Region.binds md e = true → e.on < i) {L : Array Bool} (hs : L.size = n) (h : Region.ready md ops L = []) :
    ∀ i, i < n → L.getD i false = true := by
  intro i
  induction i using Nat.strongRecOn with
  | _ i ih =>
    intro hi
    cases hL : L.getD i false
    · exfalso
      have : i ∈ Region.ready md ops L := mem_ready'.2 ⟨by omega, by
        simp only [Array.getD_eq_getD_getElem?, Array.getElem?_eq_getElem (show i < L.size by omega), Option.getD_some] at hL ⊢; exact hL,
        ops[i]'(by omega), Array.getElem?_eq_getElem (by omega), fun e he hb => ih e.on (hlex i _ (Array.getElem?_eq_getElem (by omega)) e he hb) (by have := hlex i _ (Array.getElem?_eq_getElem (by omega)) e he hb; omega)⟩
      rw [h] at this; cases this
    · rfl

theorem wpAny_inv {n : Nat} (hn : ops.size = n) (hlex : ∀ (i : Nat) (o : Oper), ops[i]? = some o → ∀ e ∈ o.after, Region.binds .any e = true → e.on < i)
    (Inv : Array Bool → Act → World → Prop)
    (step : ∀ L a w i o, Inv L a w → L.size = n → ops[i]? = some o → L.getD i true = false → (∀ e ∈ o.after, Region.binds .any e = true → L.getD e.on false = true) →
      ∀ K : Act → World → Prop, (∀ a' w', Inv (L.setIfInBounds i true) a' w' → K a' w') → wpOp P ops Q i K a w)
    (done : ∀ L a w, Inv L a w → (∀ i, i < n → L.getD i false = true) → Q .normal a w) :
    ∀ fuel L a w, Inv L a w → L.size = n → left n L ≤ fuel → wpAny P .any ops Q fuel L a w := by
  intro fuel
  induction fuel with
  | zero =>
    intro L a w hI hs hl
    have hall := left_zero (n := n) (L := L) (by omega)
    refine ⟨?_, done L a w hI hall⟩
    rw [List.eq_nil_iff_forall_not_mem]
    intro i hi
    obtain ⟨h1, h2, _⟩ := mem_ready'.1 hi
    have := hall i (by omega)
    simp only [Array.getD_eq_getD_getElem?, Array.getElem?_eq_getElem (show i < L.size by omega), Option.getD_some] at h2 this
    rw [h2] at this; cases this
  | succ fuel ih =>
    intro L a w hI hs hl
    refine ⟨fun hr => done L a w hI (ready_nil hn hlex hs hr), fun i hi => ?_⟩
    obtain ⟨h1, h2, o, ho, h3⟩ := mem_ready'.1 hi
    refine step L a w i o hI hs ho h2 h3 _ (fun a' w' hI' => ih _ _ _ hI' (by simpa using hs) ?_)
    have := left_set (n := n) hs (by omega) h2
    omega

/-- what an operation that has been carried out left in its slot -/
def slotv (o : Oper) (a : Act) : Value := match o.dst with | some d => a.eval (.tmp d) | none => undef
theorem eval_put_same {a : Act} {d : Nat} {v : Value} (h : d < a.tmps.size) : (a.put (some d) v).eval (.tmp d) = v := by
  simp [Act.put, Act.eval, h]
theorem eval_put_other {a : Act} {d t : Nat} {v : Value} (h : t ≠ d) : (a.put (some d) v).eval (.tmp t) = a.eval (.tmp t) := by
  simp only [Act.put, Act.eval, Array.getD_eq_getD_getElem?, Array.getElem?_setIfInBounds]
  rw [if_neg (fun e => h e.symm)]
theorem put_none {a : Act} {v : Value} : a.put none v = a := rfl
theorem size_put {a : Act} {d : Option Nat} {v : Value} : (a.put d v).tmps.size = a.tmps.size := by
  cases d <;> simp [Act.put]

/-- each operation that waits for none but earlier ones; no slot is written twice; each slot lies in the frame -/
def lexOk (ops : Array Oper) : Bool := (List.range ops.size).all fun i => match ops[i]? with | some o => o.after.all (fun e => !Region.binds .any e || decide (e.on < i)) && o.guard.isNone | none => true
def dstOk (ops : Array Oper) (sz : Nat) (old : List Nat) : Bool := (List.range ops.size).all fun i => match ops[i]? with
  | some o => (match o.dst with
    | some d => decide (d < sz) && !old.contains d && (List.range ops.size).all (fun j => j == i || (match ops[j]? with | some q => q.dst != some d | none => true))
    | none => true)
  | none => true
theorem lexOk_on (h : lexOk ops = true) {i : Nat} {o : Oper} (ho : ops[i]? = some o) : (∀ e ∈ o.after, Region.binds .any e = true → e.on < i) ∧ o.guard = none := by
  have hi : i < ops.size := (Array.getElem?_eq_some_iff.1 ho).1
  have := List.all_eq_true.1 h i (List.mem_range.2 hi)
  simp only [ho, Bool.and_eq_true, Option.isNone_iff_eq_none] at this
  refine ⟨fun e he hb => ?_, this.2⟩
  have h2 := Array.all_eq_true_iff_forall_mem.1 this.1 e he
  rw [hb] at h2
  simpa using h2
theorem dstOk_on {sz : Nat} {old : List Nat} (h : dstOk ops sz old = true) {i d : Nat} {o : Oper} (ho : ops[i]? = some o) (hd : o.dst = some d) :
    d < sz ∧ (∀ t ∈ old, t ≠ d) ∧ ∀ j q, ops[j]? = some q → j ≠ i → q.dst ≠ some d := by
  have hi : i < ops.size := (Array.getElem?_eq_some_iff.1 ho).1
  have := List.all_eq_true.1 h i (List.mem_range.2 hi)
  simp only [ho, hd, Bool.and_eq_true, decide_eq_true_eq, List.all_eq_true, List.mem_range, Bool.not_eq_true'] at this
  refine ⟨this.1.1, fun t ht e => ?_, fun j q hq hne hqd => ?_⟩
  · subst e
    have h2 := this.1.2
    rw [List.contains_eq_mem] at h2
    simp [ht] at h2
  · have h3 := this.2 j (Array.getElem?_eq_some_iff.1 hq).1
    rw [hq] at h3
    simp [hne, hqd] at h3

/-- what an operation's run comes to, told of the value that it leaves and of the world -/
def stepTo (P : Program) (r : Result Next) (K : Value → World → Prop) : Prop :=
  match r with
  | .ok (.value v) w' => K v w'
  | .ok .skip w' => K undef w'
  | .ok (.enter f args) w' => Calls P f args w' (fun e w'' => ∃ v, e = .returned v ∧ K v w'')
  | _ => False
theorem wp_of_step {o : Oper} {a : Act} {w : World} {K : Act → World → Prop} (h : stepTo P ((execOp a.eval o).run P w) (fun v w' => K (a.put o.dst v) w')) : o.wp P a w K Q := by
  unfold Oper.wp
  generalize (execOp a.eval o).run P w = r at h ⊢
  cases r with
  | ok n w' =>
    cases n <;> simp only [stepTo] at h <;> try exact h.elim
    · exact h
    · exact h
    · exact h.mono fun e w'' ⟨v, he, hK⟩ => by subst he; exact hK
  | halt x w' => exact h.elim
theorem stepTo_mono {r : Result Next} {K K' : Value → World → Prop} (h : ∀ v w, K v w → K' v w) (hs : stepTo P r K) : stepTo P r K' := by
  cases r with
  | ok n w' =>
    cases n <;> simp only [stepTo] at hs ⊢ <;> first | exact h _ _ hs | exact hs.mono fun e w'' ⟨v, he, hK⟩ => ⟨v, he, h _ _ hK⟩ | exact hs
  | halt x w' => exact hs
theorem stepTo_gen {r : Result Next} {K : Value → World → Prop} (h : ∀ K', (∀ v w, K v w → K' v w) → stepTo P r K') : stepTo P r K := h K (fun _ _ h => h)
/-- what an operation that has been carried out left, where slots are told by ev -/
def slotE (o : Oper) (ev : Operand → Value) : Value := match o.dst with | some d => ev (.tmp d) | none => undef

/-- A REGION TOLD BY FACTS. base: slots that were there; G: what always holds of the world; R: how the world may turn; fact i: what operation i leaves. -/
theorem wp_region_facts {id sz : Nat} {a0 : Act} {w0 : World} (old : List Nat) (hm : P.follows .mixedOrders = true) (hlex : lexOk ops = true) (hdst : dstOk ops sz old = true)
    (G : World → Prop) (R : World → World → Prop) (fact : Nat → Value → World → Prop)
    (hsz : a0.tmps.size = sz) (hG : G { w0 with drawn := w0.drawn + 1 })
    (mono : ∀ j v w w', fact j v w → R w w' → fact j v w')
    (step : ∀ i o, ops[i]? = some o → ∀ (ev : Operand → Value) w, (∀ v, ev (.const v) = v) → (∀ f, ev (.func f) = .func (.func f) #[] #[]) → (∀ t ∈ old, ev (.tmp t) = a0.eval (.tmp t)) → G w → (∀ e ∈ o.after, Region.binds .any e = true → ∀ oj, ops[e.on]? = some oj → fact e.on (slotE oj ev) w) →
      stepTo P ((execOp ev o).run P w) (fun v w' => G w' ∧ R w w' ∧ (o.dst = none → v = undef) ∧ fact i v w'))
    (done : ∀ a w, (∀ t ∈ old, a.eval (.tmp t) = a0.eval (.tmp t)) → a.tmps.size = sz → a.defers = a0.defers → G w → (∀ j o, ops[j]? = some o → fact j (slotv o a) w) → Q .normal a w) :
    (Code.region id ops true).wp P Q a0 w0 := by
  refine wp_region_any hm (wpAny_inv rfl (fun i o ho => (lexOk_on hlex ho).1) (fun L a w => (∀ t ∈ old, a.eval (.tmp t) = a0.eval (.tmp t)) ∧ a.tmps.size = sz ∧ a.defers = a0.defers ∧ G w ∧ ∀ j o, ops[j]? = some o → L.getD j false = true → fact j (slotv o a) w) ?_ ?_ _ _ _ _ ?_ (by simp) ?_)
  · intro L a w i o ⟨hb, hs, hdf, hGw, hf⟩ hLs ho hLi hdep K hK
    have hi : i < ops.size := (Array.getElem?_eq_some_iff.1 ho).1
    unfold wpOp
    rw [ho]
    simp only [Region.wanted, (lexOk_on hlex ho).2]
    refine .inl (wp_of_step (stepTo_mono ?_ (step i o ho a.eval w (fun _ => rfl) (fun _ => rfl) hb hGw (fun e he hbn oj hoj => hf e.on oj hoj (hdep e he hbn)))))
    rintro v w' ⟨hG', hR, hv, hfi⟩
    refine hK _ _ ⟨?_, ?_, ?_, hG', ?_⟩
    · intro t ht
      cases hd : o.dst with
      | none => rw [put_none]; exact hb t ht
      | some d => rw [eval_put_other ((dstOk_on hdst ho hd).2.1 t ht)]; exact hb t ht
    · rw [size_put]; exact hs
    · cases hd : o.dst <;> exact hdf
    · intro j q hq hLj
      by_cases e : j = i
      · subst e
        obtain rfl : q = o := Option.some.inj (hq.symm.trans ho)
        cases hd : q.dst with
        | none => simp only [slotv, hd]; have := hv hd; subst this; exact hfi
        | some d => simp only [slotv, hd]; rw [eval_put_same (by rw [hs]; exact (dstOk_on hdst ho hd).1)]; exact hfi
      · have hLj' : L.getD j false = true := by
          simp only [Array.getD_eq_getD_getElem?, Array.getElem?_setIfInBounds] at hLj
          rw [if_neg (fun h => e h.symm)] at hLj
          simpa using hLj
        have h1 := mono j _ w w' (hf j q hq hLj') hR
        have hsl : slotv q (a.put o.dst v) = slotv q a := by
          cases hd : o.dst with
          | none => rw [put_none]
          | some d =>
            cases hq2 : q.dst with
            | none => simp [slotv, hq2]
            | some d' => simp only [slotv, hq2]; exact eval_put_other (fun e2 => (dstOk_on hdst ho hd).2.2 j q hq e (by rw [hq2, e2]))
        rw [hsl]; exact h1
  · intro L a w ⟨hb, hs, hdf, hGw, hf⟩ hall
    exact done a w hb hs hdf hGw (fun j o ho => hf j o ho (hall j (Array.getElem?_eq_some_iff.1 ho).1))
  · refine ⟨fun _ _ => rfl, hsz, rfl, hG, fun j o _ h => ?_⟩
    rw [show (Array.replicate ops.size false).getD j false = false from by simp only [Array.getD_eq_getD_getElem?, Array.getElem?_replicate]; split <;> rfl] at h
    cases h
  · unfold left
    exact Nat.le_trans List.countP_le_length (by simp)
end

end Go.Proofs.YtjnicmlomjppnaaGreatDoor
/- A region that draws its order, told by facts, as in Facts; here a fact may be dropped once its only consumer has been carried out, and how the world may turn depends on the operation. No program is named here. -/
namespace Go.Proofs.YtjnicmlomjppnaaGreatDoor
open Go.RowKit

section
variable {P : Program} {ops : Array Oper} {Q : Exit → Act → World → Prop}

/-- i waits for c, by at most so many steps -/
def reach (ops : Array Oper) : Nat → Nat → Nat → Bool
  | 0, _, _ => false
  | f + 1, c, i => match ops[i]? with
    | some o => o.after.any fun e => Region.binds .any e && (e.on == c || reach ops f c e.on)
    | none => false
def Closed (ops : Array Oper) (L : Array Bool) : Prop := ∀ j o, ops[j]? = some o → L.getD j false = true → ∀ e ∈ o.after, Region.binds .any e = true → L.getD e.on false = true
theorem reach_done {L : Array Bool} (hc : Closed ops L) : ∀ f c i, reach ops f c i = true → L.getD i false = true → L.getD c false = true := by
  intro f
  induction f with
  | zero => intro c i h; simp [reach] at h
  | succ f ih =>
    intro c i h hL
    simp only [reach] at h
    cases ho : ops[i]? with
    | none => rw [ho] at h; cases h
    | some o =>
      rw [ho] at h
      obtain ⟨e, he, hb⟩ := Array.any_eq_true'.1 h
      simp only [Bool.and_eq_true, Bool.or_eq_true, beq_iff_eq] at hb
      have hL2 := hc i o ho hL e he hb.1
      rcases hb.2 with rfl | hr
      · exact hL2
      · exact ih c e.on hr hL2
/-- what need not be kept when i is carried out -/
def keepOk (ops : Array Oper) (gone : Nat → Option Nat) (keep : Nat → Nat → Bool) : Bool :=
  (List.range ops.size).all fun i => (List.range ops.size).all fun j => keep i j || j == i || reach ops 4 i j || (match gone j with | some c => c == i || reach ops 4 c i | none => false)
/-- is a value handed on? -/
def isData (e : Edge) : Bool := match e.ground with | .data => true | _ => false
def goneOk (ops : Array Oper) (gone : Nat → Option Nat) : Bool :=
  (List.range ops.size).all fun i => match ops[i]? with | some o => o.after.all (fun e => !Region.binds .any e || !isData e || gone e.on == none || gone e.on == some i) | none => true

theorem getD_set {L : Array Bool} {i j : Nat} (hi : i < L.size) : (L.setIfInBounds i true).getD j false = if j = i then true else L.getD j false := by
  by_cases e : j = i
  · subst e; simp [hi]
  · rw [if_neg e]
    simp only [Array.getD_eq_getD_getElem?, Array.getElem?_setIfInBounds]
    rw [if_neg (fun h => e h.symm)]

/-- A REGION TOLD BY FACTS that may be dropped. -/
theorem wp_region_facts2 {id sz : Nat} {a0 : Act} {w0 : World} (old : List Nat) (hm : P.follows .mixedOrders = true) (hlex : lexOk ops = true) (hdst : dstOk ops sz old = true)
    (gone : Nat → Option Nat) (keep : Nat → Nat → Bool) (hgo : goneOk ops gone = true) (hke : keepOk ops gone keep = true)
    (G : World → Prop) (R : Nat → World → World → Prop) (fact : Nat → Value → World → Prop)
    (hsz : a0.tmps.size = sz) (hG : G { w0 with drawn := w0.drawn + 1 })
    (mono : ∀ i j v w w', i < ops.size → j < ops.size → keep i j = true → fact j v w → R i w w' → fact j v w')
    (step : ∀ i o, ops[i]? = some o → ∀ (ev : Operand → Value) w, (∀ v, ev (.const v) = v) → (∀ f, ev (.func f) = .func (.func f) #[] #[]) → (∀ t ∈ old, ev (.tmp t) = a0.eval (.tmp t)) → G w → (∀ e ∈ o.after, Region.binds .any e = true → isData e = true → ∀ oj, ops[e.on]? = some oj → fact e.on (slotE oj ev) w) →
      stepTo P ((execOp ev o).run P w) (fun v w' => G w' ∧ R i w w' ∧ (o.dst = none → v = undef) ∧ fact i v w'))
    (done : ∀ a w, (∀ t ∈ old, a.eval (.tmp t) = a0.eval (.tmp t)) → a.tmps.size = sz → a.defers = a0.defers → G w → (∀ j o, ops[j]? = some o → gone j = none → fact j (slotv o a) w) → Q .normal a w) :
    (Code.region id ops true).wp P Q a0 w0 := by
  refine wp_region_any hm (wpAny_inv rfl (fun i o ho => (lexOk_on hlex ho).1) (fun L a w => (∀ t ∈ old, a.eval (.tmp t) = a0.eval (.tmp t)) ∧ a.tmps.size = sz ∧ a.defers = a0.defers ∧ G w ∧ Closed ops L ∧ ∀ j o, ops[j]? = some o → L.getD j false = true → (∀ c, gone j = some c → L.getD c false = false) → fact j (slotv o a) w) ?_ ?_ _ _ _ _ ?_ (by simp) ?_)
  · intro L a w i o ⟨hb, hs, hdf, hGw, hcl, hf⟩ hLs ho hLi hdep K hK
    have hi : i < ops.size := (Array.getElem?_eq_some_iff.1 ho).1
    have hiL : i < L.size := by omega
    have hLi' : L.getD i false = false := by
      simp only [Array.getD_eq_getD_getElem?, Array.getElem?_eq_getElem hiL, Option.getD_some] at hLi ⊢; exact hLi
    have hcl' : Closed ops (L.setIfInBounds i true) := by
      intro j q hq hLj e he hbn
      rw [getD_set hiL] at hLj ⊢
      by_cases e1 : e.on = i
      · rw [if_pos e1]
      · rw [if_neg e1]
        by_cases e2 : j = i
        · subst e2
          obtain rfl : q = o := Option.some.inj (hq.symm.trans ho)
          exact hdep e he hbn
        · rw [if_neg e2] at hLj; exact hcl j q hq hLj e he hbn
    unfold wpOp
    rw [ho]
    simp only [Region.wanted, (lexOk_on hlex ho).2]
    refine .inl (wp_of_step (stepTo_mono ?_ (step i o ho a.eval w (fun _ => rfl) (fun _ => rfl) hb hGw (fun e he hbn hdt oj hoj => hf e.on oj hoj (hdep e he hbn) (fun c hc => ?_)))))
    · rintro v w' ⟨hG', hR, hv, hfi⟩
      refine hK _ _ ⟨?_, ?_, ?_, hG', hcl', ?_⟩
      · intro t ht
        cases hd : o.dst with
        | none => rw [put_none]; exact hb t ht
        | some d => rw [eval_put_other ((dstOk_on hdst ho hd).2.1 t ht)]; exact hb t ht
      · rw [size_put]; exact hs
      · cases hd : o.dst <;> exact hdf
      · intro j q hq hLj hgj
        by_cases e : j = i
        · subst e
          obtain rfl : q = o := Option.some.inj (hq.symm.trans ho)
          cases hd : q.dst with
          | none => simp only [slotv, hd]; have := hv hd; subst this; exact hfi
          | some d => simp only [slotv, hd]; rw [eval_put_same (by rw [hs]; exact (dstOk_on hdst ho hd).1)]; exact hfi
        · have hj : j < ops.size := (Array.getElem?_eq_some_iff.1 hq).1
          have hLj' : L.getD j false = true := by
            rw [getD_set hiL, if_neg e] at hLj; exact hLj
          have hgj' : ∀ c, gone j = some c → L.getD c false = false := fun c hc => by
            have := hgj c hc
            rw [getD_set hiL] at this
            by_cases e3 : c = i
            · rw [if_pos e3] at this; cases this
            · rw [if_neg e3] at this; exact this
          have hkp : keep i j = true := by
            have h0 := List.all_eq_true.1 (List.all_eq_true.1 hke i (List.mem_range.2 hi)) j (List.mem_range.2 hj)
            simp only [Bool.or_eq_true, beq_iff_eq] at h0
            rcases h0 with ((h0 | h0) | h0) | h0
            · exact h0
            · exact absurd h0 e
            · have := reach_done hcl _ _ _ h0 hLj'; rw [hLi'] at this; cases this
            · exfalso
              cases hg : gone j with
              | none => rw [hg] at h0; cases h0
              | some c =>
                rw [hg] at h0
                simp only [Bool.or_eq_true, beq_iff_eq] at h0
                have h1 := hgj c hg
                rcases h0 with rfl | h0
                · rw [getD_set hiL, if_pos rfl] at h1; cases h1
                · have h2 := reach_done hcl' _ _ _ h0 (by rw [getD_set hiL, if_pos rfl]); rw [h1] at h2; cases h2
          have h1 := mono i j _ w w' hi hj hkp (hf j q hq hLj' hgj') hR
          have hsl : slotv q (a.put o.dst v) = slotv q a := by
            cases hd : o.dst with
            | none => rw [put_none]
            | some d =>
              cases hq2 : q.dst with
              | none => simp [slotv, hq2]
              | some d' => simp only [slotv, hq2]; exact eval_put_other (fun e2 => (dstOk_on hdst ho hd).2.2 j q hq e (by rw [hq2, e2]))
          rw [hsl]; exact h1
    · have h0 := List.all_eq_true.1 hgo i (List.mem_range.2 hi)
      rw [ho] at h0
      have h1 := Array.all_eq_true_iff_forall_mem.1 h0 e he
      rw [hbn, hc, hdt] at h1
      have h2 : c = i := by simpa using h1
      rw [h2]; exact hLi'
  · intro L a w ⟨hb, hs, hdf, hGw, _, hf⟩ hall
    exact done a w hb hs hdf hGw (fun j o ho hg => hf j o ho (hall j (Array.getElem?_eq_some_iff.1 ho).1) (fun c hc => by rw [hg] at hc; cases hc))
  · have h0 : ∀ j, (Array.replicate ops.size false).getD j false = false := fun j => by
      simp only [Array.getD_eq_getD_getElem?, Array.getElem?_replicate]; split <;> rfl
    refine ⟨fun _ _ => rfl, hsz, rfl, hG, fun j o _ h => ?_, fun j o _ h => ?_⟩
    · rw [h0] at h; cases h
    · rw [h0] at h; cases h
  · unfold left
    exact Nat.le_trans List.countP_le_length (by simp)
end

end Go.Proofs.YtjnicmlomjppnaaGreatDoor
/- A region that draws its order, inside a fence, told by facts, as in Facts2; here a fact may also speak of slots that its operation waits for. No program is named here. -/
namespace Go.Proofs.YtjnicmlomjppnaaGreatDoor
open Go.RowKit

section
variable {F : Fence} {n : Nat} {P : Program} {ops : Array Oper} {Q : Exit → Act → World → Prop}

theorem wpAnyIn_inv {N : Nat} (hn : ops.size = N) (hlex : ∀ (i : Nat) (o : Oper), ops[i]? = some o → ∀ e ∈ o.after, Region.binds .any e = true → e.on < i)
    (Inv : Array Bool → Act → World → Prop)
    (step : ∀ L a w i o, Inv L a w → L.size = N → ops[i]? = some o → L.getD i true = false → (∀ e ∈ o.after, Region.binds .any e = true → L.getD e.on false = true) →
      ∀ K : Act → World → Prop, (∀ a' w', Inv (L.setIfInBounds i true) a' w' → K a' w') → wpOpIn F n P ops Q i K a w)
    (done : ∀ L a w, Inv L a w → (∀ i, i < N → L.getD i false = true) → Q .normal a w) :
    ∀ fuel L a w, Inv L a w → L.size = N → left N L ≤ fuel → wpAnyIn F n P .any ops Q fuel L a w := by
  intro fuel
  induction fuel with
  | zero =>
    intro L a w hI hs hl
    have hall := left_zero (n := N) (L := L) (by omega)
    refine ⟨?_, done L a w hI hall⟩
    rw [List.eq_nil_iff_forall_not_mem]
    intro i hi
    obtain ⟨h1, h2, _⟩ := mem_ready'.1 hi
    have := hall i (by omega)
    simp only [Array.getD_eq_getD_getElem?, Array.getElem?_eq_getElem (show i < L.size by omega), Option.getD_some] at h2 this
    rw [h2] at this; cases this
  | succ fuel ih =>
    intro L a w hI hs hl
    refine ⟨fun hr => done L a w hI (ready_nil hn hlex hs hr), fun i hi => ?_⟩
    obtain ⟨h1, h2, o, ho, h3⟩ := mem_ready'.1 hi
    refine step L a w i o hI hs ho h2 h3 _ (fun a' w' hI' => ih _ _ _ hI' (by simpa using hs) ?_)
    have := left_set (n := N) hs (by omega) h2
    omega

/-- what an operation's run comes to inside a fence -/
def stepIn (F : Fence) (n : Nat) (P : Program) (r : Result Next) (K : Value → World → Prop) : Prop :=
  match r with
  | .ok (.value v) w' => K v w'
  | .ok .skip w' => K undef w'
  | .ok (.enter f args) w' => (F.depth.isSome = true → 1 ≤ n) ∧ CallsIn F (n - 1) P f args w' (fun e w'' => ∃ v, e = .returned v ∧ K v w'')
  | _ => False
theorem wpIn_of_step {o : Oper} {a : Act} {w : World} {K : Act → World → Prop} (hF : ∀ f, F.fn f) (hnd : ∀ c, o.op ≠ .defer c) (h : stepIn F n P ((execOp a.eval o).run P w) (fun v w' => K (a.put o.dst v) w')) : o.wpIn F n P a w K Q := by
  refine ⟨fun f _ => hF f, ?_⟩
  rw [Oper.semAt_plain F _ _ hnd]
  generalize (execOp a.eval o).run P w = r at h ⊢
  cases r with
  | ok m w' =>
    cases m <;> simp only [stepIn] at h <;> try exact h.elim
    · exact h
    · exact h
    · exact ⟨h.1, h.2.mono fun e w'' ⟨v, he, hK⟩ => by subst he; exact hK⟩
  | halt x w' => exact h.elim
theorem stepIn_mono {r : Result Next} {K K' : Value → World → Prop} (h : ∀ v w, K v w → K' v w) (hs : stepIn F n P r K) : stepIn F n P r K' := by
  cases r with
  | ok m w' =>
    cases m <;> simp only [stepIn] at hs ⊢ <;> first | exact h _ _ hs | exact ⟨hs.1, hs.2.mono fun e w'' ⟨v, he, hK⟩ => ⟨v, he, h _ _ hK⟩⟩ | exact hs
  | halt x w' => exact hs
theorem stepIn_gen {r : Result Next} {K : Value → World → Prop} (h : ∀ K', (∀ v w, K v w → K' v w) → stepIn F n P r K') : stepIn F n P r K := h K (fun _ _ h => h)
/-- no operation is deferred -/
def plainOk (ops : Array Oper) : Bool := ops.all fun o => match o.op with | .defer _ => false | _ => true
theorem plainOk_on (h : plainOk ops = true) {i : Nat} {o : Oper} (ho : ops[i]? = some o) : ∀ c, o.op ≠ .defer c := by
  intro c hc
  have h1 := Array.all_eq_true_iff_forall_mem.1 h o (Array.mem_of_getElem? ho)
  rw [hc] at h1; cases h1
/-- a fact speaks of slots that its operation waits for -/
def depsOk (ops : Array Oper) (deps : Nat → List Nat) : Bool := (List.range ops.size).all fun i => match ops[i]? with
  | some o => (deps i).all fun t => o.after.any fun e => Region.binds .any e && (match ops[e.on]? with | some q => q.dst == some t | none => false)
  | none => true
theorem depsOk_on {deps : Nat → List Nat} (h : depsOk ops deps = true) {i t : Nat} {o : Oper} (ho : ops[i]? = some o) (ht : t ∈ deps i) : ∃ e ∈ o.after, Region.binds .any e = true ∧ ∃ q, ops[e.on]? = some q ∧ q.dst = some t := by
  have h0 := List.all_eq_true.1 h i (List.mem_range.2 (Array.getElem?_eq_some_iff.1 ho).1)
  rw [ho] at h0
  obtain ⟨e, he, hb⟩ := Array.any_eq_true'.1 (List.all_eq_true.1 h0 t ht)
  rw [Bool.and_eq_true] at hb
  refine ⟨e, he, hb.1, ?_⟩
  cases hq : ops[e.on]? with
  | none => rw [hq] at hb; cases hb.2
  | some q => rw [hq] at hb; exact ⟨q, rfl, by simpa using hb.2⟩

/-- each operation stands ahead of one of them, or behind it -/
def pivotOk (ops : Array Oper) (piv : Nat) (aft : Nat → Bool) : Bool := decide (piv < ops.size) && !aft piv && (List.range ops.size).all fun i => i == piv || (if aft i then reach ops 4 piv i else reach ops 4 i piv)
theorem pivotOk_lt {piv : Nat} {aft : Nat → Bool} (h : pivotOk ops piv aft = true) : piv < ops.size ∧ aft piv = false := by
  unfold pivotOk at h; rw [Bool.and_eq_true, Bool.and_eq_true, decide_eq_true_iff, Bool.not_eq_true'] at h; exact h.1
theorem pivotOk_on {piv i : Nat} {aft : Nat → Bool} (h : pivotOk ops piv aft = true) (hi : i < ops.size) (hne : i ≠ piv) : (aft i = true → reach ops 4 piv i = true) ∧ (aft i = false → reach ops 4 i piv = true) := by
  unfold pivotOk at h; rw [Bool.and_eq_true] at h
  have h1 := List.all_eq_true.1 h.2 i (List.mem_range.2 hi)
  rw [Bool.or_eq_true] at h1
  rcases h1 with h1 | h1
  · exact absurd (by simpa using h1) hne
  · refine ⟨fun ha => ?_, fun ha => ?_⟩
    · rw [ha] at h1; simpa using h1
    · rw [ha] at h1; simpa using h1

/-- A REGION IN A FENCE, TOLD BY FACTS that may be dropped and may speak of slots. -/
theorem wpIn_region_facts3 {id sz : Nat} {a0 : Act} {w0 : World} (hF : ∀ f, F.fn f) (old : List Nat) (hm : P.follows .mixedOrders = true) (hlex : lexOk ops = true) (hpl : plainOk ops = true) (hdst : dstOk ops sz old = true)
    (gone : Nat → Option Nat) (keep : Nat → Nat → Bool) (hgo : goneOk ops gone = true) (hke : keepOk ops gone keep = true) (deps : Nat → List Nat) (hdp : depsOk ops deps = true) (piv : Nat) (aft : Nat → Bool) (hpv : pivotOk ops piv aft = true)
    (G0 G1 : World → Prop) (R : Nat → World → World → Prop) (fact : Nat → Value → (Operand → Value) → World → Prop)
    (hsz : a0.tmps.size = sz) (hG : G0 { w0 with drawn := w0.drawn + 1 })
    (stab : ∀ j v ev ev' w, (∀ t ∈ deps j, ev (.tmp t) = ev' (.tmp t)) → fact j v ev w → fact j v ev' w)
    (mono : ∀ i j v ev w w', i < ops.size → j < ops.size → keep i j = true → fact j v ev w → R i w w' → fact j v ev w')
    (step : ∀ i o, ops[i]? = some o → ∀ (ev : Operand → Value) w, (∀ v, ev (.const v) = v) → (∀ f, ev (.func f) = .func (.func f) #[] #[]) → (∀ t ∈ old, ev (.tmp t) = a0.eval (.tmp t)) → (if aft i = true then G1 w else G0 w) → (∀ e ∈ o.after, Region.binds .any e = true → isData e = true ∨ gone e.on = none → ∀ oj, ops[e.on]? = some oj → fact e.on (slotE oj ev) ev w) →
      stepIn F n P ((execOp ev o).run P w) (fun v w' => (if i = piv ∨ aft i = true then G1 w' else G0 w') ∧ R i w w' ∧ (o.dst = none → v = undef) ∧ fact i v ev w'))
    (done : ∀ a w, (∀ t ∈ old, a.eval (.tmp t) = a0.eval (.tmp t)) → a.tmps.size = sz → a.defers = a0.defers → G1 w → (∀ j o, ops[j]? = some o → gone j = none → fact j (slotv o a) a.eval w) → Q .normal a w) :
    (Code.region id ops true).wpIn F n P Q a0 w0 := by
  refine wpIn_region_any hm (wpAnyIn_inv rfl (fun i o ho => (lexOk_on hlex ho).1) (fun L a w => (∀ t ∈ old, a.eval (.tmp t) = a0.eval (.tmp t)) ∧ a.tmps.size = sz ∧ a.defers = a0.defers ∧ (if L.getD piv false = true then G1 w else G0 w) ∧ Closed ops L ∧ ∀ j o, ops[j]? = some o → L.getD j false = true → (∀ c, gone j = some c → L.getD c false = false) → fact j (slotv o a) a.eval w) ?_ ?_ _ _ _ _ ?_ (by simp) ?_)
  · intro L a w i o ⟨hb, hs, hdf, hGw, hcl, hf⟩ hLs ho hLi hdep K hK
    have hi : i < ops.size := (Array.getElem?_eq_some_iff.1 ho).1
    have hiL : i < L.size := by omega
    have hLi' : L.getD i false = false := by
      simp only [Array.getD_eq_getD_getElem?, Array.getElem?_eq_getElem hiL, Option.getD_some] at hLi ⊢; exact hLi
    have hpa : L.getD piv false = aft i := by
      by_cases e : i = piv
      · rw [← e, hLi', e, (pivotOk_lt hpv).2]
      · obtain ⟨h1, h2⟩ := pivotOk_on hpv hi e
        cases ha : aft i with
        | true =>
          have h3 := h1 ha
          cases hll : L.getD piv false with
          | true => rfl
          | false =>
            exfalso
            -- i waits for the pivot: what i waits for has been carried out
            have h4 : ∀ f c k, reach ops f c k = true → (∀ q, ops[k]? = some q → ∀ e ∈ q.after, Region.binds .any e = true → L.getD e.on false = true) → L.getD c false = true := by
              intro f c k hr hk
              cases f with
              | zero => simp [reach] at hr
              | succ f =>
                simp only [reach] at hr
                cases hq : ops[k]? with
                | none => rw [hq] at hr; cases hr
                | some q =>
                  rw [hq] at hr
                  obtain ⟨e, he, hb⟩ := Array.any_eq_true'.1 hr
                  simp only [Bool.and_eq_true, Bool.or_eq_true, beq_iff_eq] at hb
                  have hL2 := hk q hq e he hb.1
                  rcases hb.2 with rfl | hr2
                  · exact hL2
                  · exact reach_done hcl _ _ _ hr2 hL2
            have h5 := h4 _ _ _ h3 (fun q hq e he hbn => by
              obtain rfl : q = o := Option.some.inj (hq.symm.trans ho)
              exact hdep e he hbn)
            rw [hll] at h5; cases h5
        | false =>
          cases hll : L.getD piv false with
          | false => rfl
          | true => have := reach_done hcl _ _ _ (h2 ha) hll; rw [hLi'] at this; cases this
    rw [hpa] at hGw
    have hcl' : Closed ops (L.setIfInBounds i true) := by
      intro j q hq hLj e he hbn
      rw [getD_set hiL] at hLj ⊢
      by_cases e1 : e.on = i
      · rw [if_pos e1]
      · rw [if_neg e1]
        by_cases e2 : j = i
        · subst e2
          obtain rfl : q = o := Option.some.inj (hq.symm.trans ho)
          exact hdep e he hbn
        · rw [if_neg e2] at hLj; exact hcl j q hq hLj e he hbn
    unfold wpOpIn
    rw [ho]
    simp only [Region.wanted, (lexOk_on hlex ho).2]
    rw [if_pos trivial]
    have hput : ∀ (d' : Option Nat), d' = o.dst → ∀ v (j : Nat) (q : Oper), ops[j]? = some q → (j = i ∨ L.getD j false = true) → ∀ t ∈ deps j, (a.put d' v).eval (.tmp t) = a.eval (.tmp t) := by
      intro d' hd' v j q hq hjd t ht
      subst hd'
      obtain ⟨e, he, hbn, q2, hq2, hdq⟩ := depsOk_on hdp hq ht
      have hdone : L.getD e.on false = true := by
        rcases hjd with rfl | hjd
        · obtain rfl : q = o := Option.some.inj (hq.symm.trans ho)
          exact hdep e he hbn
        · exact hcl j q hq hjd e he hbn
      have hne : e.on ≠ i := fun e1 => by rw [e1, hLi'] at hdone; cases hdone
      cases hd : o.dst with
      | none => rw [put_none]
      | some d => exact eval_put_other (fun e2 => (dstOk_on hdst ho hd).2.2 e.on q2 hq2 hne (by rw [hdq, e2]))
    refine wpIn_of_step hF (plainOk_on hpl ho) (stepIn_mono ?_ (step i o ho a.eval w (fun _ => rfl) (fun _ => rfl) hb hGw (fun e he hbn hdt oj hoj => hf e.on oj hoj (hdep e he hbn) (fun c hc => ?_))))
    · rintro v w' ⟨hG', hR, hv, hfi⟩
      refine hK _ _ ⟨?_, ?_, ?_, ?_, hcl', ?_⟩
      · intro t ht
        cases hd : o.dst with
        | none => rw [put_none]; exact hb t ht
        | some d => rw [eval_put_other ((dstOk_on hdst ho hd).2.1 t ht)]; exact hb t ht
      · rw [size_put]; exact hs
      · cases hd : o.dst <;> exact hdf
      · rw [getD_set hiL]
        by_cases e : piv = i
        · rw [if_pos e, if_pos rfl]; rw [if_pos (.inl e.symm)] at hG'; exact hG'
        · rw [if_neg e, hpa]
          cases ha : aft i with
          | true => rw [if_pos (.inr ha)] at hG'; rw [if_pos rfl]; exact hG'
          | false => rw [if_neg (fun h => h.elim (fun h => e h.symm) (fun h => by rw [ha] at h; cases h))] at hG'; rw [if_neg (by simp)]; exact hG'
      · intro j q hq hLj hgj
        by_cases e : j = i
        · subst e
          obtain rfl : q = o := Option.some.inj (hq.symm.trans ho)
          cases hd : q.dst with
          | none => simp only [slotv, hd]; have := hv hd; subst this; exact hfi
          | some d =>
            have h5 := stab j v a.eval (a.put (some d) v).eval w' (fun t ht => (hput (some d) hd.symm v j q hq (.inl rfl) t ht).symm) hfi
            simp only [slotv, hd]; rw [eval_put_same (by rw [hs]; exact (dstOk_on hdst ho hd).1)]; exact h5
        · have hj : j < ops.size := (Array.getElem?_eq_some_iff.1 hq).1
          have hLj' : L.getD j false = true := by
            rw [getD_set hiL, if_neg e] at hLj; exact hLj
          have hgj' : ∀ c, gone j = some c → L.getD c false = false := fun c hc => by
            have := hgj c hc
            rw [getD_set hiL] at this
            by_cases e3 : c = i
            · rw [if_pos e3] at this; cases this
            · rw [if_neg e3] at this; exact this
          have hkp : keep i j = true := by
            have h0 := List.all_eq_true.1 (List.all_eq_true.1 hke i (List.mem_range.2 hi)) j (List.mem_range.2 hj)
            simp only [Bool.or_eq_true, beq_iff_eq] at h0
            rcases h0 with ((h0 | h0) | h0) | h0
            · exact h0
            · exact absurd h0 e
            · have := reach_done hcl _ _ _ h0 hLj'; rw [hLi'] at this; cases this
            · exfalso
              cases hg : gone j with
              | none => rw [hg] at h0; cases h0
              | some c =>
                rw [hg] at h0
                simp only [Bool.or_eq_true, beq_iff_eq] at h0
                have h1 := hgj c hg
                rcases h0 with rfl | h0
                · rw [getD_set hiL, if_pos rfl] at h1; cases h1
                · have h2 := reach_done hcl' _ _ _ h0 (by rw [getD_set hiL, if_pos rfl]); rw [h1] at h2; cases h2
          have h1 := stab j _ _ (a.put o.dst v).eval _ (fun t ht => (hput o.dst rfl v j q hq (.inr hLj') t ht).symm) (mono i j _ _ w w' hi hj hkp (hf j q hq hLj' hgj') hR)
          have hsl : slotv q (a.put o.dst v) = slotv q a := by
            cases hd : o.dst with
            | none => rw [put_none]
            | some d =>
              cases hq2 : q.dst with
              | none => simp [slotv, hq2]
              | some d' => simp only [slotv, hq2]; exact eval_put_other (fun e2 => (dstOk_on hdst ho hd).2.2 j q hq e (by rw [hq2, e2]))
          rw [hsl]; exact h1
    · rcases hdt with hdt | hdt
      case inr => rw [hdt] at hc; cases hc
      have h0 := List.all_eq_true.1 hgo i (List.mem_range.2 hi)
      rw [ho] at h0
      have h1 := Array.all_eq_true_iff_forall_mem.1 h0 e he
      rw [hbn, hc, hdt] at h1
      have h2 : c = i := by simpa using h1
      rw [h2]; exact hLi'
  · intro L a w ⟨hb, hs, hdf, hGw, _, hf⟩ hall
    rw [hall piv (pivotOk_lt hpv).1, if_pos rfl] at hGw
    exact done a w hb hs hdf hGw (fun j o ho hg => hf j o ho (hall j (Array.getElem?_eq_some_iff.1 ho).1) (fun c hc => by rw [hg] at hc; cases hc))
  · have h0 : ∀ j, (Array.replicate ops.size false).getD j false = false := fun j => by
      simp only [Array.getD_eq_getD_getElem?, Array.getElem?_replicate]; split <;> rfl
    refine ⟨fun _ _ => rfl, hsz, rfl, by rw [h0, if_neg (by simp)]; exact hG, fun j o _ h => ?_, fun j o _ h => ?_⟩
    · rw [h0] at h; cases h
    · rw [h0] at h; cases h
  · unfold left
    exact Nat.le_trans List.countP_le_length (by simp)
end

end Go.Proofs.YtjnicmlomjppnaaGreatDoor
/- Contract: impl.without returns a list without the number at a place, in new memory. -/
namespace Go.Proofs.YtjnicmlomjppnaaGreatDoor
open Go.RowKit Pure1 Pure2 Pure40 Pure83

theorem splice_erase {zs : List Int} {m k : Nat} (hl : zs.length = m + 1) (hk : k ≤ m) (L : List Value) (hL : L.length = m) :
    splice (splice L 0 ((zs.take k).map (Value.int .i64))) k ((zs.drop (k + 1)).map (Value.int .i64)) = (zs.eraseIdx k).map (Value.int .i64) := by
  have h1 : ((zs.take k).map (Value.int .i64)).length = k := by simp; omega
  have h2 : ((zs.drop (k + 1)).map (Value.int .i64)).length = m - k := by simp; omega
  generalize hA : (zs.take k).map (Value.int .i64) = A at h1
  generalize hB : (zs.drop (k + 1)).map (Value.int .i64) = B at h2
  have h3 : (zs.eraseIdx k).map (Value.int .i64) = A ++ B := by rw [List.eraseIdx_eq_take_drop_succ, List.map_append, hA, hB]
  rw [h3]
  unfold splice
  rw [List.take_zero, List.nil_append, Nat.zero_add, h1]
  rw [List.take_append_of_le_length (by omega), List.take_of_length_le (by omega), List.drop_append, List.drop_of_length_le (by omega), List.nil_append, List.drop_drop, List.drop_of_length_le (by rw [hL]; omega), List.append_nil]
theorem made_toArray (m : Nat) : madeCells #[Value.int .i64 0] m = (List.replicate m (Value.int .i64 0)).toArray := by
  rw [← toList_madeCells_one]
theorem build_of_row {B g : Nat} {w : World} {cs : List Value} {zs : List Int} (hh : w.heap[g]? = some (.cells cs.toArray 2 (0, 0))) (hB : B ≤ g) (hcs : cs = zs.map (Value.int .i64)) (hm : zs.length ≤ maxLen) :
    BuildI B w (.slice (some ⟨g, 0, none⟩) zs.length zs.length) zs := by
  subst hcs
  exact ⟨by simp, .inr ⟨g, zs.length, _, rfl, hB, hh, Nat.le_refl _, hm, by simp, by rw [Nat.mul_one]; exact List.take_of_length_le (by simp)⟩⟩
theorem run_info1 : (Tryz.prog.info? 2).map (·.size) = some 1 := by
  obtain ⟨i0, hi, hz0, hz1, hz2⟩ := info_parts Tryz.info_i64
  rw [hi, ← hz1]; rfl

end Go.Proofs.YtjnicmlomjppnaaGreatDoor
/- Contracts of the program's chapter 8: a pool's copy, the numbers that are left. -/
namespace Go.Proofs.YtjnicmlomjppnaaGreatDoor
open Go.RowKit Pure1 Pure2 Pure30 Pure40 Pure60 Pure80 Pure83 Rec

/-- a pool of our own is returned; nothing that was there has turned -/
def SaysCopy (q : PoolV) (w : World) (e : Ending) (w' : World) : Prop :=
  ∃ v0 v1, e = .returned (.agg #[v0, v1, .int .i64 q.state]) ∧ BuildI w.heap.size w' v0 q.nums ∧ BuildI w.heap.size w' v1 q.drawn ∧ ApartV v0 v1 ∧ Below w.heap.size w w'

end Go.Proofs.YtjnicmlomjppnaaGreatDoor
/- Contract: (impl.Pool).afterDraws returns the pool after draws, in new memory. -/
namespace Go.Proofs.YtjnicmlomjppnaaGreatDoor
open Go.RowKit Go.Shelf Pure1 Pure2 Pure30 Pure31 Pure40 Pure60 Pure80 Pure83 Pure84 Rec

/-- a list of our own lies in no row of another type -/
theorem build_ne {B g : Nat} {w : World} {v : Value} {zs : List Int} {T : TypeId} {vs : List Value} (h : BuildI B w v zs) (hr : RowV g w T vs) (hT : T ≠ 2) : v.ownBlock ≠ some g := by
  intro e
  obtain ⟨f, ⟨cur, hg, _⟩, _⟩ := hr
  rcases h.2 with ⟨rfl, _⟩ | ⟨k, cap, c, rfl, hB, hh, rest⟩
  · cases e
  · cases e; rw [hg] at hh; cases hh; exact hT rfl
theorem row_ne {g g' : Nat} {w : World} {T T' : TypeId} {vs vs' : List Value} (h : RowV g w T vs) (h' : RowV g' w T' vs') (hT : T ≠ T') : g ≠ g' := by
  rintro rfl
  obtain ⟨f, ⟨cur, hg, _⟩, _⟩ := h
  obtain ⟨f', ⟨cur', hg', _⟩, _⟩ := h'
  rw [hg] at hg'; cases hg'; exact hT rfl
theorem keepsOthers_below {W W' : World} (h : Below W.heap.size W W') : KeepsOthers W W' := ⟨h.size, fun k o hk _ => (h.block k (Array.getElem?_eq_some_iff.1 hk).1).trans hk⟩

/-- how the world turns while a row of some type is written -/
def Turn1 (B : Nat) (T : TypeId) (n : Nat) (w w' : World) : Prop := ∃ g vs vs', B ≤ g ∧ RowV g w T vs ∧ vs.length = n ∧ RowV g w' T vs' ∧ vs'.length = n ∧ w.grownBy w' (some g)
/-- .. by an operation of afterDraws' first region -/
def TurnA (B : Nat) (i : Nat) (w w' : World) : Prop := if i = 6 then Turn1 B 26 3 w w' else if i = 7 then Turn1 B 24 1 w w' else Below w.heap.size w w'
theorem turnA_build {B C i : Nat} {w w' : World} {v : Value} {zs : List Int} (h : BuildI C w v zs) (ht : TurnA B i w w') : BuildI C w' v zs := by
  unfold TurnA at ht
  split at ht
  · obtain ⟨g, vs, vs', hB, hr, hn, hr', hn', hg⟩ := ht
    exact h.kept hg (fun k hk e => build_ne h hr (by decide) (by rw [hk, e]))
  · split at ht
    · obtain ⟨g, vs, vs', hB, hr, hn, hr', hn', hg⟩ := ht
      exact h.kept hg (fun k hk e => build_ne h hr (by decide) (by rw [hk, e]))
    · exact h.below ht
theorem turn1_other {B n g : Nat} {T T' : TypeId} {w w' : World} {vs : List Value} (h : RowV g w T vs) (ht : Turn1 B T' n w w') (hT : T ≠ T') : RowV g w' T vs := by
  obtain ⟨g', us, us', hB, hr, hn, hr', hn', hg⟩ := ht
  exact h.grown hg (fun k e => by cases e; exact row_ne h hr hT)
theorem turn1_same {B n g : Nat} {T : TypeId} {w w' : World} {vs : List Value} (h : RowV g w T vs) (hl : vs.length = n) (ht : Turn1 B T n w w') : ∃ vs', RowV g w' T vs' ∧ vs'.length = n := by
  obtain ⟨g', us, us', hB, hr, hn, hr', hn', hg⟩ := ht
  by_cases e : g = g'
  · subst e; exact ⟨_, hr', hn'⟩
  · exact ⟨vs, h.grown hg (fun k e2 => by cases e2; exact e), hl⟩
/-- some row of a type, somewhere from B on -/
def SomeRow (B : Nat) (T : TypeId) (n : Nat) (v : Value) (w : World) : Prop := ∃ g vs, v = .pointer (some ⟨g, 0, none⟩) ∧ B ≤ g ∧ RowV g w T vs ∧ vs.length = n
/-- what each operation of afterDraws' first region leaves -/
def FactA (B : Nat) (p : PoolV) (pv : Value) : Nat → Value → (Operand → Value) → World → Prop
  | 0, v, _, _ | 2, v, _, _ => v = pv
  | 1, v, _, w => ∃ v0 v1, v = .agg #[v0, v1, .int .i64 p.state] ∧ BuildI B w v0 p.nums ∧ BuildI B w v1 p.drawn ∧ ApartV v0 v1
  | 3, v, ev, w => BuildI B w v (leftL p.nums p.drawn) ∧ ∃ v0 v1, ev (.tmp 11) = .agg #[v0, v1, .int .i64 p.state] ∧ ApartV v0 v ∧ ApartV v1 v
  | 4, v, _, w => SomeRow B 26 3 v w
  | 5, v, _, w => SomeRow B 24 1 v w
  | 6, _, ev, w => ∃ g v0 v1, ev (.tmp 5) = .pointer (some ⟨g, 0, none⟩) ∧ ev (.tmp 11) = .agg #[v0, v1, .int .i64 p.state] ∧ B ≤ g ∧ RowV g w 26 [v0, v1, .int .i64 p.state]
  | 7, _, ev, w => ∃ g, ev (.tmp 6) = .pointer (some ⟨g, 0, none⟩) ∧ B ≤ g ∧ RowV g w 24 [ev (.tmp 13)]
  | _, _, _, _ => True
def depsA : Nat → List Nat
  | 3 => [11]
  | 6 => [5, 11]
  | 7 => [6, 13]
  | _ => []
theorem factA_stab {B : Nat} {p : PoolV} {pv : Value} (j : Nat) (v : Value) (ev ev' : Operand → Value) (w : World) (h : ∀ t ∈ depsA j, ev (.tmp t) = ev' (.tmp t)) (hf : FactA B p pv j v ev w) : FactA B p pv j v ev' w := by
  match j with
  | 0 => exact hf
  | 1 => exact hf
  | 2 => exact hf
  | 3 =>
    have h1 := h 11 (by simp [depsA])
    simp only [FactA] at hf ⊢
    rw [← h1]; exact hf
  | 4 => exact hf
  | 5 => exact hf
  | 6 =>
    have h1 := h 11 (by simp [depsA]); have h2 := h 5 (by simp [depsA])
    simp only [FactA] at hf ⊢
    rw [← h1, ← h2]; exact hf
  | 7 =>
    have h1 := h 6 (by simp [depsA]); have h2 := h 13 (by simp [depsA])
    simp only [FactA] at hf ⊢
    rw [← h1, ← h2]; exact hf
  | n + 8 => trivial
theorem someRow_turn {B i n : Nat} {T : TypeId} {v : Value} {w w' : World} (hT : (T = 26 ∧ n = 3) ∨ (T = 24 ∧ n = 1)) (h : SomeRow B T n v w) (ht : TurnA B i w w') : SomeRow B T n v w' := by
  obtain ⟨g, vs, e, hB, hr, hl⟩ := h
  unfold TurnA at ht
  split at ht
  · rcases hT with ⟨rfl, rfl⟩ | ⟨rfl, rfl⟩
    · obtain ⟨vs', h1, h2⟩ := turn1_same hr hl ht; exact ⟨g, vs', e, hB, h1, h2⟩
    · exact ⟨g, vs, e, hB, turn1_other hr ht (by decide), hl⟩
  · split at ht
    · rcases hT with ⟨rfl, rfl⟩ | ⟨rfl, rfl⟩
      · exact ⟨g, vs, e, hB, turn1_other hr ht (by decide), hl⟩
      · obtain ⟨vs', h1, h2⟩ := turn1_same hr hl ht; exact ⟨g, vs', e, hB, h1, h2⟩
    · exact ⟨g, vs, e, hB, hr.below ht, hl⟩
theorem factA_mono {B : Nat} {p : PoolV} {pv : Value} (i j : Nat) (v : Value) (ev : Operand → Value) (w w' : World) (hij : (i != j) = true) (h7 : j = 7 → i ≠ 6) (hf : FactA B p pv j v ev w) (hR : TurnA B i w w') : FactA B p pv j v ev w' := by
  match j with
  | 0 => exact hf
  | 1 =>
    obtain ⟨v0, v1, e, h0, h1, ha⟩ := hf
    exact ⟨v0, v1, e, turnA_build h0 hR, turnA_build h1 hR, ha⟩
  | 2 => exact hf
  | 3 => exact ⟨turnA_build hf.1 hR, hf.2⟩
  | 4 => exact someRow_turn (.inl ⟨rfl, rfl⟩) hf hR
  | 5 => exact someRow_turn (.inr ⟨rfl, rfl⟩) hf hR
  | 6 =>
    obtain ⟨g, v0, v1, e1, e2, hB, hr⟩ := hf
    refine ⟨g, v0, v1, e1, e2, hB, ?_⟩
    unfold TurnA at hR
    rw [if_neg (by simpa using hij)] at hR
    split at hR
    · exact turn1_other hr hR (by decide)
    · exact hr.below hR
  | 7 =>
    obtain ⟨g, e, hB, hr⟩ := hf
    refine ⟨g, e, hB, ?_⟩
    unfold TurnA at hR
    rw [if_neg (h7 rfl), if_neg (by simpa using hij)] at hR
    exact hr.below hR
  | n + 8 => trivial

theorem rowV_own {W W' : World} {row : Option Nat} {b : Nat} {T : TypeId} {vs : List Value} (h : RowV b W T vs) (hg : W.grownBy W' row) (hr : ∀ r, row = some r → ∃ o : Obj, W.heap[r]? = some o ∧ o.isCells = false) : RowV b W' T vs := by
  obtain ⟨f, hf, h2⟩ := h; exact ⟨f, row_own hf hg hr, h2⟩
/-- between two draws: the pool in block g5, who is left in block g6 -/
def InvT (B rv g5 g6 : Nat) (v0 : Value) (p : PoolV) (d : List Int × Int) (W : World) : Prop :=
  ∃ v1 vL, RowV g5 W 26 [v0, v1, .int .i64 d.2] ∧ RowV g6 W 24 [vL] ∧ RowV rv W 26 [.slice none 0 0, .slice none 0 0, .int .i64 0] ∧ BuildI B W v0 p.nums ∧ BuildI B W v1 d.1 ∧ BuildI B W vL (leftL p.nums d.1) ∧ ApartV v0 v1 ∧ ApartV v0 vL ∧ ApartV v1 vL
theorem InvT.own {B rv g5 g6 : Nat} {v0 : Value} {p : PoolV} {d : List Int × Int} {W W' : World} {row : Option Nat} (h : InvT B rv g5 g6 v0 p d W) (hg : W.grownBy W' row) (hr : ∀ r, row = some r → ∃ o : Obj, W.heap[r]? = some o ∧ o.isCells = false) : InvT B rv g5 g6 v0 p d W' := by
  obtain ⟨v1, vL, h1, h2, h3, h4, h5, h6, h7⟩ := h
  exact ⟨v1, vL, rowV_own h1 hg hr, rowV_own h2 hg hr, rowV_own h3 hg hr, build_own h4 hg hr, build_own h5 hg hr, build_own h6 hg hr, h7⟩

/-- what the round's drawn region leaves alone -/
structure KeptB (B rv g6 : Nat) (v0 vL : Value) (ns ls : List Int) (w W2 W : World) : Prop where
  r6 : RowV g6 W 24 [vL]
  rr : RowV rv W 26 [.slice none 0 0, .slice none 0 0, .int .i64 0]
  n0 : BuildI B W v0 ns
  nL : BuildI B W vL ls
  below : Below w.heap.size w W
  others : KeepsOthers W2 W
  size : W2.heap.size ≤ W.heap.size
theorem KeptB.later {B rv g6 : Nat} {v0 vL : Value} {ns ls : List Int} {w W2 W W' : World} (h : KeptB B rv g6 v0 vL ns ls w W2 W) (hb : Below W.heap.size W W') : KeptB B rv g6 v0 vL ns ls w W2 W' :=
  ⟨h.r6.below hb, h.rr.below hb, h.n0.below hb, h.nL.below hb, h.below.trans (hb.mono h.below.size), h.others.trans (keepsOthers_below hb), Nat.le_trans h.size hb.size⟩
/-- a value's own block is that of another, or a new one -/
def NewOr (s : Nat) (v1 v : Value) : Prop := ∀ q, v.ownBlock = some q → v1.ownBlock = some q ∨ s ≤ q
/-- what each operation of the round's drawn region leaves -/
def FactB (B s g5 : Nat) (v0 v1 vL : Value) (st : Int) (ds : List Int) (idx bL oL : Nat) (y : Int) : Nat → Value → (Operand → Value) → World → Prop
  | 0, v, _, _ | 8, v, _, _ => v = .pointer (some ⟨g5, 1, none⟩)
  | 1, v, _, w => v = v1 ∧ BuildI B w v1 ds
  | 2, v, _, _ => v = vL
  | 3, v, _, _ => v = .int .i64 (idx : Int)
  | 4, v, _, _ => v = .pointer (some ⟨bL, oL + idx, none⟩)
  | 5, v, _, _ => v = .int .i64 y
  | 6, v, _, w => ∃ g, v = .slice (some ⟨g, 0, none⟩) 1 1 ∧ s ≤ g ∧ w.cell? ⟨g, 0, none⟩ = some (.int .i64 y)
  | 7, v, _, w => BuildI B w v (ds ++ [y]) ∧ NewOr s v1 v
  | 9, _, _, w => ∃ v', RowV g5 w 26 [v0, v', .int .i64 st] ∧ BuildI B w v' (ds ++ [y]) ∧ NewOr s v1 v'
  | _, _, _, _ => True
/-- how the world turns by each of them -/
def TurnB (g5 : Nat) (v1 : Value) (i : Nat) (w w' : World) : Prop := if i = 7 then w.grownBy w' v1.ownBlock else if i = 9 then (∃ vs, RowV g5 w 26 vs) ∧ w.grownBy w' (some g5) else Below w.heap.size w w'
theorem factB_mono {B s g5 : Nat} {v0 v1 vL : Value} {st : Int} {ds : List Int} {idx bL oL : Nat} {y : Int} (hs : ∀ q, v1.ownBlock = some q → q < s) (i j : Nat) (v : Value) (ev : Operand → Value) (w w' : World) (hij : i ≠ j) (h1 : j = 1 ∨ j = 6 → i ≠ 7 ∧ i ≠ 9) (hj9 : j ≠ 9) (h97 : j = 7 → i ≠ 7)
    (hf : FactB B s g5 v0 v1 vL st ds idx bL oL y j v ev w) (hR : TurnB g5 v1 i w w') : FactB B s g5 v0 v1 vL st ds idx bL oL y j v ev w' := by
  match j with
  | 0 => exact hf
  | 1 =>
    obtain ⟨e, h⟩ := hf
    obtain ⟨n7, n9⟩ := h1 (.inl rfl)
    unfold TurnB at hR
    rw [if_neg n7, if_neg n9] at hR
    exact ⟨e, h.below hR⟩
  | 2 => exact hf
  | 3 => exact hf
  | 4 => exact hf
  | 5 => exact hf
  | 6 =>
    obtain ⟨g, e, h, hc⟩ := hf
    obtain ⟨n7, n9⟩ := h1 (.inr rfl)
    unfold TurnB at hR
    rw [if_neg n7, if_neg n9] at hR
    exact ⟨g, e, h, cell_later hR hc⟩
  | 7 =>
    obtain ⟨h, hn⟩ := hf
    refine ⟨?_, hn⟩
    unfold TurnB at hR
    rw [if_neg (h97 rfl)] at hR
    split at hR
    · obtain ⟨⟨vs, hr⟩, hg⟩ := hR
      exact h.kept hg (fun k hk e => build_ne h hr (by decide) (by rw [hk, e]))
    · exact h.below hR
  | 8 => exact hf
  | 9 => exact absurd rfl hj9
  | n + 10 => trivial
theorem factB_stab {B s g5 : Nat} {v0 v1 vL : Value} {st : Int} {ds : List Int} {idx bL oL : Nat} {y : Int} (j : Nat) (v : Value) (ev ev' : Operand → Value) (w : World) (hf : FactB B s g5 v0 v1 vL st ds idx bL oL y j v ev w) : FactB B s g5 v0 v1 vL st ds idx bL oL y j v ev' w := by
  match j with
  | 0 => exact hf
  | 1 => exact hf
  | 2 => exact hf
  | 3 => exact hf
  | 4 => exact hf
  | 5 => exact hf
  | 6 => exact hf
  | 7 => exact hf
  | 8 => exact hf
  | 9 => exact hf
  | n + 10 => trivial
theorem stepIn_append {F : Fence} {m : Nat} {B : Nat} {o : Oper} {ev : Operand → Value} {w : World} {K : Value → World → Prop} (s x : Operand) (ho : o.op = .call { callee := .builtin .append, args := #[s, x], argTypes := #[24, 24] })
    (v : Value) (zs : List Int) (hs : ev s = v) (h : BuildI B w v zs) (b : Nat) (y : Int) (hx : ev x = .slice (some ⟨b, 0, none⟩) 1 1) (hc : w.cell? ⟨b, 0, none⟩ = some (.int .i64 y))
    (hl : zs.length ≤ 1000000) (hB : B ≤ w.heap.size)
    (hk : ∀ v' w', BuildI B w' v' (zs ++ [y]) → w.grownBy w' v.ownBlock → (v'.ownBlock = v.ownBlock ∨ v'.ownBlock = some w.heap.size) → K v' w') : stepIn F m Tryz.prog ((execOp ev o).run Tryz.prog w) K := by
  obtain ⟨i0, hi, hz0, hz1, hz2⟩ := info_parts Tryz.info_i64
  obtain ⟨v', w', hr, h2, h3, h4, h5⟩ := run_append_own_at (P := Tryz.prog) w B 24 o.type 2 i0 (.int .i64 0) 1 8 Tryz.underlying24 hi hz0 hz1 hz2 rfl (by decide) v zs.length _ h ⟨b, 0, none⟩ 1 1 [.int .i64 y] rfl (by
    intro j u hu
    have hj := (List.getElem?_eq_some_iff.1 hu).1
    simp at hj; subst hj
    simp at hu; subst hu
    simpa [Addr.add] using hc) (by intro u hu; simp at hu; subst hu; rfl) (by unfold maxLen; omega) (by omega) hB
  have hk2 := hk v' w' (by unfold BuildI; rw [List.length_append, List.map_append]; exact h2) h3 h5
  simp [stepIn, execOp, ho, resolve, invoke, builtin, hs, hx, hr, Result.andThen]
  exact hk2

theorem cell_below {B b i : Nat} {w0 w : World} {v : Value} (h : w0.cell? ⟨b, i, none⟩ = some v) (hb : Below B w0 w) (hlt : b < B) : w.cell? ⟨b, i, none⟩ = some v := (hb.cell (p := ⟨b, i, none⟩) hlt).trans h

section
attribute [local go_sem] Oper.semAt_some

end
end Go.Proofs.YtjnicmlomjppnaaGreatDoor
/- Contract: spec.l03State draws a state, as in DrawS3. -/
namespace Go.Proofs.YtjnicmlomjppnaaGreatDoor
open Go.RowKit Pure2 Pure6

set_option maxRecDepth 100000 in
set_option maxHeartbeats 800000 in
theorem specL03State_any (B b : Nat) (w : World) (h : Src B 58 w b) :
    Calls Tryz.prog 34 #[.pointer (some ⟨b, 0, none⟩)] w (Gave B 58 b w) := by
  have hbB := h.base
  have HS0 := Lib.hid h; clear h
  go_enter Tryz.func34, Tryz.ntmps34
  go_wp2_with fail
  refine (specNext_any B b 2000000000 w (by omega) HS0.out).mono ?_; rintro e w11 ⟨x1, rfl, hx, hz, hS, hg⟩
  obtain ⟨l1, u1⟩ := hx (by omega)
  have HS1 := Lib.hid hS
  have HG1 := Lib.hid (hg)
  clear hS hg hx hz
  go_wp2_with fail
  refine (specNext_any B b 2000000000 w11 (by omega) HS1.out).mono ?_; rintro e w12 ⟨x2, rfl, hx, hz, hS, hg⟩
  obtain ⟨l2, u2⟩ := hx (by omega)
  have HS2 := Lib.hid hS
  have HG2 := Lib.hid (grown_trans HG1.out (hg))
  clear hS hg hx hz
  go_wp2_with fail
  refine (specNext_any B b 1000 w12 (by omega) HS2.out).mono ?_; rintro e w13 ⟨x3, rfl, hx, hz, hS, hg⟩
  obtain ⟨l3, u3⟩ := hx (by omega)
  have HS3 := Lib.hid hS
  have HG3 := Lib.hid (grown_trans HG2.out (hg))
  clear hS hg hx hz
  go_wp2_with fail
  refine (specNext_any B b 20 w13 (by omega) HS3.out).mono ?_; rintro e w14 ⟨x4, rfl, hx, hz, hS, hg⟩
  obtain ⟨l4, u4⟩ := hx (by omega)
  have HS4 := Lib.hid hS
  have HG4 := Lib.hid (grown_trans HG3.out (hg))
  clear hS hg hx hz
  go_wp2_with fail
  refine (specPick_any B b w14.heap.size [1, 2, 0, 2147483647, -1] 5 5 _ rfl (by omega) (by omega) (HS4.out.alloc _) (by have := HS4.out.lt; omega) (alloc_ints w14 _ _)).mono ?_
  rintro e w15 ⟨x5, rfl, hx, hS, hg⟩
  have HS5 := Lib.hid hS
  have HG5 := Lib.hid (grown_trans HG4.out (grown_trans (grown_alloc _ _ _) hg))
  clear hS hg hx
  go_wp2_with fail
  refine (specNext_any B b 2000000000 w15 (by omega) HS5.out).mono ?_; rintro e w16 ⟨x6, rfl, hx, hz, hS, hg⟩
  obtain ⟨l6, u6⟩ := hx (by omega)
  have HS6 := Lib.hid hS
  have HG6 := Lib.hid (grown_trans HG5.out (hg))
  clear hS hg hx hz
  go_wp2_with fail
  refine (specPick_any B b w16.heap.size [1 + x1, 1 + x2, 1 + x3, 2147483646 - x4 / 19, x5, 1 + x6] 6 6 _ rfl (by omega) (by omega) (HS6.out.alloc _) (by have := HS6.out.lt; omega) (alloc_ints w16 _ _)).mono ?_
  rintro e w17 ⟨x7, rfl, hx, hS, hg⟩
  have HS7 := Lib.hid hS
  have HG7 := Lib.hid (grown_trans HG6.out (grown_trans (grown_alloc _ _ _) hg))
  clear hS hg hx
  go_wp2_with fail
  go_ret
  exact ⟨_, rfl, HS7.out, HG7.out⟩


end Go.Proofs.YtjnicmlomjppnaaGreatDoor
