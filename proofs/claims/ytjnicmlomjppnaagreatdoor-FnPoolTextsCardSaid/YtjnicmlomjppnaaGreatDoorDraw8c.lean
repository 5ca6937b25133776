/- Contracts: the drawing functions of chapter 8 that draw pools. -/
import Derived.Test.YtjnicmlomjppnaaGreatDoorChecked
import Derived.Test.YtjnicmlomjppnaaGreatDoorBase0
import Derived.Test.YtjnicmlomjppnaaGreatDoorInfo
import Derived.Test.YtjnicmlomjppnaaGreatDoorMidA
import Derived.Test.YtjnicmlomjppnaaGreatDoorIntL
import Derived.Test.YtjnicmlomjppnaaGreatDoorBuildI
import Derived.Test.YtjnicmlomjppnaaGreatDoorBuild8
import Derived.Test.YtjnicmlomjppnaaGreatDoorRowV
import Derived.Test.YtjnicmlomjppnaaGreatDoorPoolA
import Derived.Test.YtjnicmlomjppnaaGreatDoorDraw8a
import Derived.Test.YtjnicmlomjppnaaGreatDoorFrom
import Derived.Test.YtjnicmlomjppnaaGreatDoorDraw8b
import Derived.Deep.RegionHeld3
import Derived.WalkKit
import Derived.WalkSpells
import Derived.WalkLawsBesides
import Derived.Lib.Hide
import Derived.IntWalk
import Derived.Deep.OwnRows
import Derived.OwnWalk
import Derived.Outline
namespace Go.Proofs.YtjnicmlomjppnaaGreatDoor
open Go.RowKit Pure1 Pure2 Pure6 Pure30 Pure40 Pure60 Pure80 Pure85 Rec

/-- a pool is drawn -/
def DrewP (w : World) (e : Ending) (w' : World) : Prop := ∃ v0 v1 q, e = .returned (.agg #[v0, v1, .int .i64 q.state]) ∧ BuildI w.heap.size w' v0 q.nums ∧ BuildI w.heap.size w' v1 q.drawn ∧ SmallQ q ∧ Below w.heap.size w w'
/-- .. and a number -/
def DrewPK (w : World) (e : Ending) (w' : World) : Prop := ∃ v0 v1 q k, e = .returned (.tuple #[.agg #[v0, v1, .int .i64 q.state], .int .i64 k]) ∧ BuildI w.heap.size w' v0 q.nums ∧ BuildI w.heap.size w' v1 q.drawn ∧ SmallQ q ∧ Below w.heap.size w w'
/-- .. and a list -/
def DrewPL (w : World) (e : Ending) (w' : World) : Prop := ∃ v0 v1 q v2 bs, e = .returned (.tuple #[.agg #[v0, v1, .int .i64 q.state], v2]) ∧ BuildI w.heap.size w' v0 q.nums ∧ BuildI w.heap.size w' v1 q.drawn ∧ BuildI w.heap.size w' v2 bs ∧ bs.length ≤ 62 ∧ SmallQ q ∧ Below w.heap.size w w'
/-- a list and a number are drawn -/
def DrewLK (w : World) (e : Ending) (w' : World) : Prop := ∃ v0 ns k, e = .returned (.tuple #[v0, .int .i64 k]) ∧ BuildI w.heap.size w' v0 ns ∧ ns.length ≤ 61 ∧ Below w.heap.size w w'

theorem PoolG.handed {B b C gp rv : Nat} {v0 v1 : Value} {q : PoolV} {w w00 W W' : World} (h : PoolG B b C gp rv v0 v1 q w00 W) (hB : Below w.heap.size w w00) (hrv : rv = w.heap.size) (hC : rv + 1 ≤ C) (hg : W.grownBy W' (some rv)) (hb : w.heap.size ≤ b) :
    BuildI w.heap.size W' v0 q.nums ∧ BuildI w.heap.size W' v1 q.drawn ∧ Below w.heap.size w W' := by
  subst hrv
  have hne : ∀ {v : Value} {zs : List Int}, BuildI C W v zs → ∀ k, v.ownBlock = some k → some w.heap.size ≠ some k := fun hv k hk e => by
    have := (hv.lt k hk).1; cases e; omega
  exact ⟨(h.n0.kept hg (hne h.n0)).base (by omega), (h.d0.kept hg (hne h.d0)).base (by omega), (hB.trans (grown_below h.grown hb hB.size)).trans (grown_below hg (Nat.le_refl _) (Nat.le_trans hB.size h.grown.size))⟩
theorem PoolG.box {B b C gp rv : Nat} {v0 v1 : Value} {q : PoolV} {w00 W : World} (h : PoolG B b C gp rv v0 v1 q w00 W) : W.cell? ⟨gp, 0, none⟩ = some v0 ∧ W.cell? ⟨gp, 1, none⟩ = some v1 ∧ W.cell? ⟨gp, 2, none⟩ = some (.int .i64 q.state) :=
  ⟨h.rp.cell (show _[0]? = some _ from rfl), h.rp.cell (show _[1]? = some _ from rfl), h.rp.cell (show _[2]? = some _ from rfl)⟩

end Go.Proofs.YtjnicmlomjppnaaGreatDoor
