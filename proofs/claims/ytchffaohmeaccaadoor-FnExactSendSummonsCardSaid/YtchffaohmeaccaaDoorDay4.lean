/- Contracts: IsCourtDay, NextCourtDay, DeadlineOf, AddCourtDays, CountCourtDays, LastCourtDay of the program and of its model. -/
import Derived.Test.YtchffaohmeaccaaDoorChecked
import Derived.Test.YtchffaohmeaccaaDoorBase0
import Derived.Test.YtchffaohmeaccaaDoorPure21
import Derived.Test.YtchffaohmeaccaaDoorDay1
import Derived.Test.YtchffaohmeaccaaDoorDay2
import Derived.Test.YtchffaohmeaccaaDoorDay3
import Derived.WalkKit
import Derived.WalkSpells
import Derived.WalkLawsBesides
import Derived.Lib.Hide
import Derived.Outline
namespace Go.Proofs.YtchffaohmeaccaaDoor
open Go.RowKit Pure2 Pure20 Pure21

/-- two numbers are returned; nothing that was there has turned -/
def SaysP (p : Int × Int) (w : World) (e : Ending) (w' : World) : Prop := e = .returned (.tuple #[.int .i64 p.1, .int .i64 p.2]) ∧ Below w.heap.size w w'
/-- a bool and a number are returned; nothing that was there has turned -/
def SaysC (p : Bool × Int) (w : World) (e : Ending) (w' : World) : Prop := e = .returned (.tuple #[.bool p.1, .int .i64 p.2]) ∧ Below w.heap.size w w'
theorem ret_cpair {a : Bool} {b : Int} {p : Bool × Int} (h : p = (a, b)) : Ending.returned (.tuple #[.bool a, .int .i64 b]) = .returned (.tuple #[.bool p.1, .int .i64 p.2]) := by rw [h]
theorem ret_same {p q : Int × Int} (h : p = q) : Ending.returned (.tuple #[.int .i64 q.1, .int .i64 q.2]) = .returned (.tuple #[.int .i64 p.1, .int .i64 p.2]) := by rw [h]

theorem below_lit (w : World) (o : Obj) : Below w.heap.size w (w.alloc o) := (Below.refl _ _).alloc (Nat.le_refl _) _
theorem below_drew (w : World) (n : Nat) : Below w.heap.size w (w.drewN n) := below_drewN (Below.refl _ _) n
theorem ints_lit (w : World) (T : TypeId) (vs : Array Value) (ds : List Int) (h : vs = (ds.map (Value.int .i64)).toArray) : IntsAt (w.alloc (.cells vs T)) (some ⟨w.heap.size, 0, none⟩) ds := by
  subst h
  refine .inr ⟨_, 0, rfl, fun i x hx => ?_⟩
  have : (w.alloc (.cells (ds.map (Value.int .i64)).toArray T)).heap[w.heap.size]? = some (.cells (ds.map (Value.int .i64)).toArray T) := heap_alloc_new w _
  unfold World.cell?
  rw [this]
  simp [hx]

theorem implDays1 (a : Option Addr) (len cap : Nat) (zs : List Int) (d : Int) (c : Int) (w : World) (hl : zs.length = len) (hm : len ≤ maxLen) (h : IntsAt w a zs) (hc : code zs [d] = c) :
    Calls Tryd.prog 96 #[.slice a len cap, .slice (some ⟨w.heap.size, 0, none⟩) 1 1] (w.alloc (.cells #[.int .i64 d] 2)) fun e w' => e = .returned (.int .i64 c) ∧ w.alloc (.cells #[.int .i64 d] 2) = w' := by
  rw [← hc]; exact implDaysErr_any a len cap zs _ 1 1 [d] _ hl hm (h.below (below_lit _ _)) rfl (by omega) (ints_lit w _ _ [d] rfl)
theorem implDays2 (a : Option Addr) (len cap : Nat) (zs : List Int) (d d' : Int) (c : Int) (w : World) (hl : zs.length = len) (hm : len ≤ maxLen) (h : IntsAt w a zs) (hc : code zs [d, d'] = c) :
    Calls Tryd.prog 96 #[.slice a len cap, .slice (some ⟨w.heap.size, 0, none⟩) 2 2] (w.alloc (.cells #[.int .i64 d, .int .i64 d'] 2)) fun e w' => e = .returned (.int .i64 c) ∧ w.alloc (.cells #[.int .i64 d, .int .i64 d'] 2) = w' := by
  rw [← hc]; exact implDaysErr_any a len cap zs _ 2 2 [d, d'] _ hl hm (h.below (below_lit _ _)) rfl (by omega) (ints_lit w _ _ [d, d'] rfl)
theorem specCode1 (a : Option Addr) (len cap : Nat) (zs : List Int) (d : Int) (c : Int) (w : World) (hl : zs.length = len) (hm : len ≤ maxLen) (h : IntsAt w a zs) (hc : code zs [d] = c) :
    Calls Tryd.prog 74 #[.slice a len cap, .int .i64 d, .int .i64 d] w (SaysN c w) := by
  have := specCode_any a len cap zs d d w hl hm h; rw [code_twice, hc] at this; exact this
theorem specCode2 (a : Option Addr) (len cap : Nat) (zs : List Int) (d d' : Int) (c : Int) (w : World) (hl : zs.length = len) (hm : len ≤ maxLen) (h : IntsAt w a zs) (hc : code zs [d, d'] = c) :
    Calls Tryd.prog 74 #[.slice a len cap, .int .i64 d, .int .i64 d'] w (SaysN c w) := by
  have := specCode_any a len cap zs d d' w hl hm h; rw [hc] at this; exact this

theorem courtR_ok {zs : List Int} {d : Int} (h : code zs [d] = 0) : courtR zs d = (court zs d, 0) := by rw [courtR, if_pos h]
theorem courtR_err {zs : List Int} {d c : Int} (h : code zs [d] = c) (hc : c ≠ 0) : courtR zs d = (false, c) := by rw [courtR, h, if_neg hc]
theorem nextR_ok {zs : List Int} {d : Int} (h : code zs [d] = 0) : nextR zs d = lim (nextOf zs d) := by rw [nextR, if_pos h]
theorem nextR_err {zs : List Int} {d c : Int} (h : code zs [d] = c) (hc : c ≠ 0) : nextR zs d = (0, c) := by rw [nextR, h, if_neg hc]
theorem deadR_ok {zs : List Int} {d k : Int} (h : code zs [d] = 0) (h0 : 0 ≤ k) (h1 : k ≤ 1000) : deadR zs d k = lim (nextOf zs (d + k)) := by rw [deadR, if_pos h, if_pos ⟨h0, h1⟩]
theorem deadR_range {zs : List Int} {d k : Int} (h : code zs [d] = 0) (h0 : ¬ (0 ≤ k ∧ k ≤ 1000)) : deadR zs d k = (0, 2) := by rw [deadR, if_pos h, if_neg h0]
theorem deadR_err {zs : List Int} {d k c : Int} (h : code zs [d] = c) (hc : c ≠ 0) : deadR zs d k = (0, c) := by rw [deadR, h, if_neg hc]
theorem addR_ok {zs : List Int} {d k : Int} (h : code zs [d] = 0) (h0 : 0 ≤ k) (h1 : k ≤ 400) : addR zs d k = lim (addOf zs d k.toNat) := by rw [addR, if_pos h, if_pos ⟨h0, h1⟩]
theorem addR_range {zs : List Int} {d k : Int} (h : code zs [d] = 0) (h0 : ¬ (0 ≤ k ∧ k ≤ 400)) : addR zs d k = (0, 2) := by rw [addR, if_pos h, if_neg h0]
theorem addR_err {zs : List Int} {d k c : Int} (h : code zs [d] = c) (hc : c ≠ 0) : addR zs d k = (0, c) := by rw [addR, h, if_neg hc]
theorem cntR_ok {zs : List Int} {a b : Int} (h : code zs [a, b] = 0) : cntR zs a b = (count zs a b, 0) := by rw [cntR, if_pos h]
theorem cntR_err {zs : List Int} {a b c : Int} (h : code zs [a, b] = c) (hc : c ≠ 0) : cntR zs a b = (0, c) := by rw [cntR, h, if_neg hc]
theorem lastR_ok {zs : List Int} {d : Int} (h : code zs [d] = 0) : lastR zs d = lastOf zs d := by rw [lastR, if_pos h]
theorem lastR_err {zs : List Int} {d c : Int} (h : code zs [d] = c) (hc : c ≠ 0) : lastR zs d = (0, c) := by rw [lastR, h, if_neg hc]

end Go.Proofs.YtchffaohmeaccaaDoor
