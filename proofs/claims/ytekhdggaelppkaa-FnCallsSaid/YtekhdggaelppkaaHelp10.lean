/- Contracts at known answers: is it a court day, are they calls. -/
import Derived.Test.YtekhdggaelppkaaChecked
import Derived.Test.YtekhdggaelppkaaBase0
import Derived.Test.YtekhdggaelppkaaPure100
import Derived.Test.YtekhdggaelppkaaDay4
import Derived.Test.YtekhdggaelppkaaImpl10a
import Derived.WalkKit
import Derived.Lib.Hide
namespace Go.Proofs.Ytekhdggaelppkaa
open Go.RowKit Pure2 Pure20 Pure21

theorem implCourtDay10_at (a : Option Addr) (len cap : Nat) (zs : List Int) (d : Int) (p : Bool) (q : Int) (w : World) (hr : courtR zs d = (p, q)) (hl : zs.length = len) (hm : len ≤ maxLen) (h : IntsAt w a zs) :
    Calls Try.prog 30 #[.slice a len cap, .int .i64 d] w fun e w' => e = .returned (.tuple #[.bool p, .int .i64 q]) ∧ Below w.heap.size w w' := by
  have h1 := implIsCourtDay_any a len cap zs d w hl hm h
  rw [hr] at h1
  exact h1
theorem implAreC_is (a : Option Addr) (len cap : Nat) (ts : List Call) (v : Bool) (w : World) (hr : areC ts = v) (hl : ts.length = len) (hm : len ≤ maxLen) (h : Call.ListAt w a ts) :
    Calls Try.prog 26 #[.slice a len cap] w fun e w' => e = .returned (.bool v) ∧ Below w.heap.size w w' := by
  rw [← hr]; exact implAreC_any a len cap ts w hl hm h
end Go.Proofs.Ytekhdggaelppkaa
