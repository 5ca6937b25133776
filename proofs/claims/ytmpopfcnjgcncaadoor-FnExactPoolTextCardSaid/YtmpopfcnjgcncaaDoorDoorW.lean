/- The world of the witnesses of the tied rows (what the variables' own initialisers leave), and what a row's list gives the walks. -/
import Derived.Test.YtmpopfcnjgcncaaDoorRows
import Derived.Test.YtmpopfcnjgcncaaDoorPure4
import Derived.Test.YtmpopfcnjgcncaaDoorDec
import Derived.LaidMore
import Derived.LaidSub
import Derived.MakeChecks
import Derived.Lib.LaidTab
import Derived.WalkKit
import Derived.Lib.LaidU8
namespace Go.Proofs.YtmpopfcnjgcncaaDoor
open Go.RowKit Pure4

noncomputable def doorWorld (os : Os) : World := World.doorLaid Tryd.prog 24 os

theorem Tryd.tPow : (Tryd.prog.globals[1]?).map (·.type) = some 84 := by kernel_rfl
theorem Tryd.cPow : Tryd.prog.cellsOf 84 = 20 := by kernel_rfl
theorem Tryd.cU64 : Tryd.prog.cellsOf 73 = 1 := by kernel_rfl

theorem tabs_of {l : List (String × DataW Unit)} {w : World} (h : laidMetH Tryd.prog l w) (hm : ("internal/strconv.uint64pow10", Rows.laid_internal_strconv_uint64pow10) ∈ l) : Tabs Tryd.prog w := by
  obtain ⟨g, t, cs, fuel, p, hg, ht, hv, hd⟩ := Lib.laidMet.reads (laidMetH_iff.1 h).1 (List.mem_filter.2 ⟨hm, rfl⟩)
  obtain rfl := Option.some.inj (Tryd.gPow.symm.trans hg)
  obtain rfl := Option.some.inj (Tryd.tPow.symm.trans ht)
  unfold Tabs Lib.TabIs
  rw [hv, ← Lib.cells_of_tab (k := .u64) (zs := Lib.pow10Tab) Tryd.underlying84 Tryd.underlying73 Tryd.cU64 Tryd.cPow (show _ = some (Lib.tabData .u64 Lib.pow10Tab, p) from hd)]

end Go.Proofs.YtmpopfcnjgcncaaDoor
