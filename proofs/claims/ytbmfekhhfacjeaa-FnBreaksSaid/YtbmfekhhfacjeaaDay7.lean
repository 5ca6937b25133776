/- The contracts of chapter 2 at known answers. -/
import Derived.Test.YtbmfekhhfacjeaaDay4
import Derived.Test.YtbmfekhhfacjeaaDay5
import Derived.Test.YtbmfekhhfacjeaaDay6
import Derived.Test.YtbmfekhhfacjeaaPure22
namespace Go.Proofs.Ytbmfekhhfacjeaa
open Go.RowKit Pure2 Pure20 Pure21

variable (a : Option Addr) (len cap : Nat) (zs : List Int)
/-- two known numbers are returned; nothing that was there has turned -/
def SaysK (p q : Int) (w : World) (e : Ending) (w' : World) : Prop := e = .returned (.tuple #[.int .i64 p, .int .i64 q]) ∧ Below w.heap.size w w'
def SaysKC (p : Bool) (q : Int) (w : World) (e : Ending) (w' : World) : Prop := e = .returned (.tuple #[.bool p, .int .i64 q]) ∧ Below w.heap.size w w'
def SaysK3 (p q r : Int) (w : World) (e : Ending) (w' : World) : Prop := e = .returned (.tuple #[.int .i64 p, .int .i64 q, .int .i64 r]) ∧ Below w.heap.size w w'
def SaysBB (b : Bool) (w : World) (e : Ending) (w' : World) : Prop := e = .returned (.bool b) ∧ Below w.heap.size w w'

theorem implAdd_is (d n p q : Int) (w : World) (hr : addR zs d n = (p, q)) (hl : zs.length = len) (hm : len ≤ maxLen) (h : IntsAt w a zs) :
    Calls Try.prog 15 #[.slice a len cap, .int .i64 d, .int .i64 n] w (SaysK p q w) := by
  have := implAddCourtDays_any a len cap zs d n w hl hm h; rw [hr] at this; exact this
theorem specAdd_is (d n p q : Int) (w : World) (hr : addR zs d n = (p, q)) (hl : zs.length = len) (hm : len ≤ maxLen) (h : IntsAt w a zs) :
    Calls Try.prog 16 #[.slice a len cap, .int .i64 d, .int .i64 n] w (SaysK p q w) := by
  have := specAddCourtDays_any a len cap zs d n w hl hm h; rw [hr] at this; exact this
theorem implDead_is (d n p q : Int) (w : World) (hr : deadR zs d n = (p, q)) (hl : zs.length = len) (hm : len ≤ maxLen) (h : IntsAt w a zs) :
    Calls Try.prog 26 #[.slice a len cap, .int .i64 d, .int .i64 n] w (SaysK p q w) := by
  have := implDeadlineOf_any a len cap zs d n w hl hm h; rw [hr] at this; exact this
theorem specDead_is (d n p q : Int) (w : World) (hr : deadR zs d n = (p, q)) (hl : zs.length = len) (hm : len ≤ maxLen) (h : IntsAt w a zs) :
    Calls Try.prog 27 #[.slice a len cap, .int .i64 d, .int .i64 n] w (SaysK p q w) := by
  have := specDeadlineOf_any a len cap zs d n w hl hm h; rw [hr] at this; exact this
theorem implNext_is (d p q : Int) (w : World) (hr : nextR zs d = (p, q)) (hl : zs.length = len) (hm : len ≤ maxLen) (h : IntsAt w a zs) :
    Calls Try.prog 29 #[.slice a len cap, .int .i64 d] w (SaysK p q w) := by
  have := implNextCourtDay_any a len cap zs d w hl hm h; rw [hr] at this; exact this
theorem specNext_is (d p q : Int) (w : World) (hr : nextR zs d = (p, q)) (hl : zs.length = len) (hm : len ≤ maxLen) (h : IntsAt w a zs) :
    Calls Try.prog 30 #[.slice a len cap, .int .i64 d] w (SaysK p q w) := by
  have := specNextCourtDay_any a len cap zs d w hl hm h; rw [hr] at this; exact this
theorem implLast_is (d p q : Int) (w : World) (hr : lastR zs d = (p, q)) (hl : zs.length = len) (hm : len ≤ maxLen) (h : IntsAt w a zs) :
    Calls Try.prog 31 #[.slice a len cap, .int .i64 d] w (SaysK p q w) := by
  have := implLastCourtDay_any a len cap zs d w hl hm h; rw [hr] at this; exact this
theorem specLast_is (d p q : Int) (w : World) (hr : lastR zs d = (p, q)) (hl : zs.length = len) (hm : len ≤ maxLen) (h : IntsAt w a zs) :
    Calls Try.prog 32 #[.slice a len cap, .int .i64 d] w (SaysK p q w) := by
  have := specLastCourtDay_any a len cap zs d w hl hm h; rw [hr] at this; exact this
theorem implBrk_is (d k p q r : Int) (w : World) (hr : brkR zs d k = (p, q, r)) (hl : zs.length = len) (hm : len ≤ maxLen) (h : IntsAt w a zs) :
    Calls Try.prog 34 #[.slice a len cap, .int .i64 d, .int .i64 k] w (SaysK3 p q r w) := by
  have := implLongestBreak_any a len cap zs d k w hl hm h; rw [hr] at this; exact this
theorem specBrk_is (d k p q r : Int) (w : World) (hr : brkR zs d k = (p, q, r)) (hl : zs.length = len) (hm : len ≤ maxLen) (h : IntsAt w a zs) :
    Calls Try.prog 35 #[.slice a len cap, .int .i64 d, .int .i64 k] w (SaysK3 p q r w) := by
  have := specLongestBreak_any a len cap zs d k w hl hm h; rw [hr] at this; exact this
theorem implCourt_at (d : Int) (p : Bool) (q : Int) (w : World) (hr : courtR zs d = (p, q)) (hl : zs.length = len) (hm : len ≤ maxLen) (h : IntsAt w a zs) :
    Calls Try.prog 21 #[.slice a len cap, .int .i64 d] w (SaysKC p q w) := by
  have := implIsCourtDay_any a len cap zs d w hl hm h; rw [hr] at this; exact this
theorem implCount_at (d k p q : Int) (w : World) (hr : cntR zs d k = (p, q)) (hl : zs.length = len) (hm : len ≤ maxLen) (h : IntsAt w a zs) :
    Calls Try.prog 18 #[.slice a len cap, .int .i64 d, .int .i64 k] w (SaysK p q w) := by
  have := implCountCourtDays_any a len cap zs d k w hl hm h; rw [hr] at this; exact this
theorem implAreHol_b (w : World) (hl : zs.length = len) (hm : len ≤ maxLen) (h : IntsAt w a zs) :
    Calls Try.prog 23 #[.slice a len cap] w (SaysBB (hol zs) w) :=
  (implAreHol_any a len cap zs w hl hm h).mono fun _ _ ⟨h1, h2⟩ => ⟨h1, by subst h2; exact Below.refl _ _⟩
theorem specAreHol_b (w : World) (hl : zs.length = len) (hm : len ≤ maxLen) (h : IntsAt w a zs) :
    Calls Try.prog 24 #[.slice a len cap] w (SaysBB (hol zs) w) :=
  (specAreHol_any a len cap zs w hl hm h).mono fun _ _ ⟨h1, _, h2⟩ => ⟨h1, by subst h2; exact below_drew _ _⟩

end Go.Proofs.Ytbmfekhhfacjeaa
