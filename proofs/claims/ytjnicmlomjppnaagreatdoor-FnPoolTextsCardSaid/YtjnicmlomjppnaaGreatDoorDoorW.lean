/- The world of the witnesses of the tied rows (what the variables' own initialisers leave), and what a row's list gives the walks. -/
import Derived.Test.YtjnicmlomjppnaaGreatDoorRows
import Derived.Test.YtjnicmlomjppnaaGreatDoorBase0
import Derived.Test.YtjnicmlomjppnaaGreatDoorDec
import Derived.LaidMore
import Derived.LaidSub
import Derived.MakeChecks
import Derived.Lib.LaidTab
import Derived.WalkKit
import Derived.Lib.LaidU8
namespace Go.Proofs.YtjnicmlomjppnaaGreatDoor
open Go.RowKit Pure4

noncomputable def doorWorld (os : Os) : World := World.doorLaid Tryz.prog 72 os

/-- the same with the library's table of first bytes laid (the rows list it by a constant of the form) -/
noncomputable def doorWorldP (os : Os) : World := { doorWorld os with heap := (doorWorld os).heap.modify 4 fun
  | .cells _ t frozen => .cells (Lib.firstTab.map fun z => Value.int .u8 z).toArray t frozen
  | o => o }

theorem Tryz.tPow : (Tryz.prog.globals[1]?).map (·.type) = some 124 := by kernel_rfl
theorem Tryz.cPow : Tryz.prog.cellsOf 124 = 20 := by kernel_rfl
theorem Tryz.cU64 : Tryz.prog.cellsOf 101 = 1 := by kernel_rfl

theorem tabs_of {l : List (String × DataW Unit)} {w : World} (h : laidMetH Tryz.prog l w) (hm : ("internal/strconv.uint64pow10", Rows.laid_internal_strconv_uint64pow10) ∈ l) : Tabs Tryz.prog w := by
  obtain ⟨g, t, cs, fuel, p, hg, ht, hv, hd⟩ := Lib.laidMet.reads (laidMetH_iff.1 h).1 (List.mem_filter.2 ⟨hm, rfl⟩)
  obtain rfl := Option.some.inj (Tryz.gPow.symm.trans hg)
  obtain rfl := Option.some.inj (Tryz.tPow.symm.trans ht)
  unfold Tabs Lib.TabIs
  rw [hv, ← Lib.cells_of_tab (k := .u64) (zs := Lib.pow10Tab) Tryz.underlying124 Tryz.underlying101 Tryz.cU64 Tryz.cPow (show _ = some (Lib.tabData .u64 Lib.pow10Tab, p) from hd)]

end Go.Proofs.YtjnicmlomjppnaaGreatDoor
