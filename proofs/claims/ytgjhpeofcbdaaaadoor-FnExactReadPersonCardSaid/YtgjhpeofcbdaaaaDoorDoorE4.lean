/- What a row's list gives the walks: the library's sentinel errors. -/
import Derived.Test.YtgjhpeofcbdaaaaDoorDoorW
import Derived.Test.YtgjhpeofcbdaaaaDoorNums4
import Derived.LaidLaws
namespace Go.Proofs.YtgjhpeofcbdaaaaDoor
open Go.RowKit

theorem Tryd.tSyn : (Tryd.prog.globals[2]?).map (·.type) = some 64 := by kernel_rfl
theorem Tryd.tRan : (Tryd.prog.globals[3]?).map (·.type) = some 64 := by kernel_rfl

theorem errs_of {l : List (String × DataW Unit)} {w : World} (h : laidMetH Tryd.prog l w) (h1 : ("strconv.ErrSyntax", Rows.laid_strconv_ErrSyntax) ∈ l) (h2 : ("strconv.ErrRange", Rows.laid_strconv_ErrRange) ∈ l) : ErrsAt w := by
  refine ⟨?_, ?_⟩
  · obtain ⟨g, t, cs, fuel, p, hg, ht, hv, hd⟩ := Lib.laidMet.reads (laidMetH_iff.1 h).1 (List.mem_filter.2 ⟨h1, rfl⟩)
    obtain rfl := Option.some.inj (Tryd.gSyn.symm.trans hg)
    obtain rfl := Option.some.inj (Tryd.tSyn.symm.trans ht)
    obtain ⟨_, u, v, hcs, _, _⟩ := iface_of_trod Tryd.underlying64 hd
    exact ⟨u, v, by rw [hv, Array.eq_one_of_toList hcs]⟩
  · obtain ⟨g, t, cs, fuel, p, hg, ht, hv, hd⟩ := Lib.laidMet.reads (laidMetH_iff.1 h).1 (List.mem_filter.2 ⟨h2, rfl⟩)
    obtain rfl := Option.some.inj (Tryd.gRan.symm.trans hg)
    obtain rfl := Option.some.inj (Tryd.tRan.symm.trans ht)
    obtain ⟨_, u, v, hcs, _, _⟩ := iface_of_trod Tryd.underlying64 hd
    exact ⟨u, v, by rw [hv, Array.eq_one_of_toList hcs]⟩

end Go.Proofs.YtgjhpeofcbdaaaaDoor
