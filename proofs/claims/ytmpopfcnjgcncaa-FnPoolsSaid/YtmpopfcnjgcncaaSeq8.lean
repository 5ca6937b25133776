/- Contracts: impl.nextStates makes a sequence, which yields the states behind a state, each with its index. -/
import Derived.RangeFuncNested
import Derived.RangeFuncBound
import Derived.RangeFuncCalls
import Derived.RangeFuncLeaves
import Derived.RangeFuncFrom
import Derived.Shelf.Abstract
import Derived.Shelf.RegionOpen
import Derived.WalkKit
import Derived.OwnWalkIn
import Derived.TacticsInMore
import Derived.LoopNIn
import Derived.LoopIn
import Derived.Test.YtmpopfcnjgcncaaChecked
import Derived.Test.YtmpopfcnjgcncaaBase
import Derived.Test.YtmpopfcnjgcncaaPure31
import Derived.Test.YtmpopfcnjgcncaaSt8
import Derived.Deep.OwnRows
import Derived.Lib.Hide
namespace Go.Proofs.Ytmpopfcnjgcncaa
open Go.RowKit Go.Shelf Pure2 Pure30 Pure31

/-- what is handed to a round: an index below N and the state behind it -/
abbrev encS (s : Int) {N : Nat} (k : Fin N) : Array Value := #[.int .i64 (k.1 : Nat), .int .i64 (nxs s (k.1 + 1))]

section
attribute [local go_sem] Oper.semAt_some

set_option maxHeartbeats 1000000 in
theorem implNextStates_any (s c : Int) (w : World) :
    Calls Try.prog 74 #[.int .i64 s, .int .i64 c] w fun e w' =>
      e = .returned (.func (.func 82) #[] #[.pointer (some ⟨w.heap.size, 0, none⟩), .pointer (some ⟨w.heap.size + 1, 0, none⟩)]) ∧
      w' = (w.alloc (.cells #[.int .i64 s] 2)).alloc (.cells #[.int .i64 c] 2) := by
  go_enter Try.func74, Try.ntmps74
  go_wp2
  go_ret
  exact ⟨rfl, rfl⟩

set_option maxRecDepth 100000 in
set_option maxHeartbeats 2000000 in
/-- the sequence yields the first N states, in their order; it stops where a round says so -/
theorem implSeq_stops (n : Nat) (hn : 1 ≤ n) (s c : Int) (N b1 b2 : Nat) (w : World) (hs : 1 ≤ s ∧ s ≤ 2147483646) (hc : c ≤ 200) (hN : c.toNat = N) (hb1 : b1 < w.heap.size) (hb2 : b2 < w.heap.size)
    (h1 : w.cell? ⟨b1, 0, none⟩ = some (.int .i64 s)) (h2 : w.cell? ⟨b2, 0, none⟩ = some (.int .i64 c)) :
    SeqStopsK Fence.wide n Try.prog 82 #[.pointer (some ⟨b1, 0, none⟩), .pointer (some ⟨b2, 0, none⟩)] (encS s (N := N)) KeepsWalks (fun xs => xs.map (·.1) = List.range N) (fun _ => True) N w := fun l J Jx W hW hJ hJx hY h0 => by
  have c1 := (hW.cell (p := ⟨b1, 0, none⟩) hb1).trans h1
  have c2 := (hW.cell (p := ⟨b2, 0, none⟩) hb2).trans h2
  have HY := Lib.hid hY
  clear hY hJ hJx hW h1 h2
  refine callsIn_of_wp Try.func82 rfl trivial ?_ rfl
  simp only [Try.ntmps82, List.size_toArray, List.length_cons, List.length_nil, Nat.reduceAdd, Nat.reduceSub, Array.replicate_succ, Array.replicate_zero, List.push_toArray, List.append_toArray, List.nil_append, List.cons_append]
  gi_wp2
  gi_loopw [4, 8] (fun nx i wr => ∃ pre : List (Fin N), i = .int .i64 pre.length ∧ nx = .int .i64 (nxs s pre.length) ∧ pre.length ≤ N ∧ pre.map (·.1) = List.range pre.length ∧ J pre wr) (fun _ i _ => N - (intOf i).toNat)
  case atStart => exact ⟨[], rfl, rfl, Nat.zero_le _, rfl, h0⟩
  case round =>
    obtain ⟨pre, rfl, rfl, hlen, hpre, hJs⟩ := hrel
    have HP := Lib.hid hpre; clear hpre h0
    by_cases hlt : pre.length < N
    · obtain ⟨fn, tmps, assign, body, hy, hR⟩ := HY.out pre ⟨pre.length, hlt⟩ wr hJs hlt
      dsimp only [encS] at hy
      have hst := nxs_state hs pre.length
      have HC := Lib.hid (implStateBehind_any (nxs s pre.length) wr ⟨by omega, hst.2⟩)
      rw [← nxs_succ] at HC
      have hcc : (pre.length : Int) < c := by omega
      have HJ := Lib.hid hJs; clear hJs
      have HR := Lib.hid hR; clear hR
      gi_wp2_with (refine ⟨trivial, ?_⟩; gi_at_call 83; refine (callsIn_wide.2 HC.out).mono ?_; rintro e w' ⟨rfl, rfl⟩)
      refine HR.out.mono ?_
      rintro e W3 (⟨rfl, hJ3, hk3⟩ | ⟨rfl, hJx3⟩)
      · gi_wp2
        go_roundw
        case rel => exact ⟨pre ++ [⟨pre.length, hlt⟩], by rw [List.length_append]; go_num, by rw [List.length_append]; rfl, by rw [List.length_append]; simp; omega, by rw [List.map_append, HP.out, List.length_append, List.length_singleton, List.range_succ]; rfl, hJ3⟩
        case measure => simp [intOf]; omega
      · gi_wp2
        refine bodyPost_ret (results_none rfl _ _ _) rfl ?_
        exact ⟨⟨_, rfl⟩, .inr ⟨_, trivial, hJx3⟩⟩
    · have hcc : c ≤ (pre.length : Int) := by omega
      gi_wp2
      go_end0
      exact ⟨⟨_, rfl⟩, .inl ⟨pre, by rw [HP.out, show pre.length = N by omega], hJs⟩⟩
end

/-- a row of numbers of our own stays where what turns holds no cells -/
theorem row_own {W W' : World} {row : Option Nat} {b N : Nat} {T : TypeId} {f : Nat → Value} (h : W.rowIs b T N f) (hg : W.grownBy W' row) (hr : ∀ r, row = some r → ∃ o : Obj, W.heap[r]? = some o ∧ o.isCells = false) : W'.rowIs b T N f :=
  h.of_block (hg.block b h.lt (fun e => by
    obtain ⟨o, ho, hc⟩ := hr b e.symm
    obtain ⟨c, hb, _⟩ := h
    rw [hb] at ho; cases ho; cases hc))
theorem box_own {W W' : World} {row : Option Nat} {b : Nat} {T : TypeId} {v : Value} (h : Boxed W b T v) (hg : W.grownBy W' row) (hr : ∀ r, row = some r → ∃ o : Obj, W.heap[r]? = some o ∧ o.isCells = false) : Boxed W' b T v :=
  h.kept hg (fun e => by
    obtain ⟨o, ho, hc⟩ := hr b e.symm
    rw [show W.heap[b]? = _ from h] at ho; cases ho; cases hc)
theorem box_other {W : World} {b c i : Nat} {T : TypeId} {v : Value} (h : Boxed W b T v) (u : Value) (hne : b ≠ c) : Boxed (W.setCell ⟨c, i, none⟩ u) b T v :=
  (Below.heap_setCell W ⟨c, i, none⟩ u b hne).trans h
theorem row_putObj {W : World} {b N l : Nat} {T : TypeId} {f : Nat → Value} {o o' : Obj} (h : W.rowIs b T N f) (hl : W.heap[l]? = some o) (ho : o.isCells = false) : (W.putObj l o').rowIs b T N f :=
  row_own h (grownBy_putObj' W l o') (fun r e => by cases e; exact ⟨o, hl, ho⟩)
end Go.Proofs.Ytmpopfcnjgcncaa
