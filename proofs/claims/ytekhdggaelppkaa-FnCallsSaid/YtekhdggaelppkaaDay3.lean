/- Contracts: the next court day, the limit, days that are added and counted, of the program and of its model. -/
import Derived.Test.YtekhdggaelppkaaChecked
import Derived.Test.YtekhdggaelppkaaBase0
import Derived.Test.YtekhdggaelppkaaDay1
import Derived.Test.YtekhdggaelppkaaDay2
import Derived.WalkKit
import Derived.WalkSpells
import Derived.WalkLawsBesides
import Derived.Lib.Hide
import Derived.Outline
namespace Go.Proofs.Ytekhdggaelppkaa
open Go.RowKit Pure2 Pure20 Pure21

theorem implCourt_is (d : Int) (a : Option Addr) (len cap : Nat) (zs : List Int) (w : World) (c : Bool) (hc : court zs d = c) (hd : 0 ≤ d) (hl : zs.length = len) (h : IntsAt w a zs) (hh : Hol zs) :
    Calls Try.prog 67 #[.int .i64 d, .slice a len cap] w fun e w' => e = .returned (.bool c) ∧ w = w' := by
  rw [← hc]; exact implCourt_any d a len cap zs w hd hl h hh
theorem specCourt_is (d : Int) (a : Option Addr) (len cap : Nat) (zs : List Int) (w : World) (c : Bool) (hc : court zs d = c) (hd : 0 ≤ d) (hl : zs.length = len) (hm : len ≤ maxLen) (h : IntsAt w a zs) :
    Calls Try.prog 72 #[.slice a len cap, .int .i64 d] w fun e w' => e = .returned (.bool c) ∧ w = w' := by
  rw [← hc]; exact specCourt_any d a len cap zs w hd hl hm h

theorem ret_pair {a b : Int} {p : Int × Int} (h : p = (a, b)) : Ending.returned (.tuple #[.int .i64 a, .int .i64 b]) = .returned (.tuple #[.int .i64 p.1, .int .i64 p.2]) := by rw [h]

theorem next_at {zs : List Int} {d r x : Int} (h : IsNext zs d r) (h1 : d ≤ x) (h2 : x < r) : court zs x = false := h.2.2 x h1 h2

theorem hcn_step {zs : List Int} {k : Nat} {x d : Int} (ht : zs.take (k + 1) = zs.take k ++ [x]) : hcn d (zs.take (k + 1)) = hcn d (zs.take k) + (if x < d ∧ x % 7 < 5 then 1 else 0) := by rw [ht, hcn_snoc]
theorem min_five (d : Int) (h : d % 7 < 5) : wd d = d / 7 * 5 + d % 7 := by unfold wd; omega
theorem min_five' (d : Int) (h : ¬ d % 7 < 5) : wd d = d / 7 * 5 + 5 := by unfold wd; omega

end Go.Proofs.Ytekhdggaelppkaa
