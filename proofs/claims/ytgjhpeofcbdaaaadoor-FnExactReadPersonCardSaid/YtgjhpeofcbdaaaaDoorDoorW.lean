/- The world of the witnesses of the tied rows (what the variables' own initialisers leave), and what a row's list gives the walks. -/
import Derived.Test.YtgjhpeofcbdaaaaDoorRows
import Derived.Test.YtgjhpeofcbdaaaaDoorPure4
import Derived.Test.YtgjhpeofcbdaaaaDoorDec
import Derived.LaidMore
import Derived.LaidSub
import Derived.MakeChecks
import Derived.Lib.LaidTab
import Derived.WalkKit
import Derived.Lib.LaidU8
namespace Go.Proofs.YtgjhpeofcbdaaaaDoor
open Go.RowKit Pure4

noncomputable def doorWorld (os : Os) : World := World.doorLaid Tryd.prog 72 os

/-- the same with the library's table of first bytes laid (the rows list it by a constant of the form) -/
noncomputable def doorWorldP (os : Os) : World := { doorWorld os with heap := (doorWorld os).heap.modify 4 fun
  | .cells _ t frozen => .cells (Lib.firstTab.map fun z => Value.int .u8 z).toArray t frozen
  | o => o }

theorem Tryd.tPow : (Tryd.prog.globals[0]?).map (·.type) = some 99 := by kernel_rfl
theorem Tryd.cPow : Tryd.prog.cellsOf 99 = 20 := by kernel_rfl
theorem Tryd.cU64 : Tryd.prog.cellsOf 78 = 1 := by kernel_rfl

theorem tabs_of {l : List (String × DataW Unit)} {w : World} (h : laidMetH Tryd.prog l w) (hm : ("internal/strconv.uint64pow10", Rows.laid_internal_strconv_uint64pow10) ∈ l) : Tabs Tryd.prog w := by
  obtain ⟨g, t, cs, fuel, p, hg, ht, hv, hd⟩ := Lib.laidMet.reads (laidMetH_iff.1 h).1 (List.mem_filter.2 ⟨hm, rfl⟩)
  obtain rfl := Option.some.inj (Tryd.gPow.symm.trans hg)
  obtain rfl := Option.some.inj (Tryd.tPow.symm.trans ht)
  unfold Tabs Lib.TabIs
  rw [hv, ← Lib.cells_of_tab (k := .u64) (zs := Lib.pow10Tab) Tryd.underlying99 Tryd.underlying78 Tryd.cU64 Tryd.cPow (show _ = some (Lib.tabData .u64 Lib.pow10Tab, p) from hd)]

end Go.Proofs.YtgjhpeofcbdaaaaDoor
