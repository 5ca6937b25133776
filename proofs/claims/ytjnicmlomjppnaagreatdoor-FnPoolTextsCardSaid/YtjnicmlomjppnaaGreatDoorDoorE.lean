/- What a row's list gives the walks: the library's sentinel errors. -/
import Derived.Test.YtjnicmlomjppnaaGreatDoorDoorW
import Derived.Test.YtjnicmlomjppnaaGreatDoorMidB
import Derived.LaidLaws
namespace Go.Proofs.YtjnicmlomjppnaaGreatDoor
open Go.RowKit

theorem Tryz.tSyn : (Tryz.prog.globals[2]?).map (·.type) = some 66 := by kernel_rfl
theorem Tryz.tRan : (Tryz.prog.globals[3]?).map (·.type) = some 66 := by kernel_rfl

theorem errs_of {l : List (String × DataW Unit)} {w : World} (h : laidMetH Tryz.prog l w) (h1 : ("strconv.ErrSyntax", Rows.laid_strconv_ErrSyntax) ∈ l) (h2 : ("strconv.ErrRange", Rows.laid_strconv_ErrRange) ∈ l) : ErrsAt w := by
  refine ⟨?_, ?_⟩
  · obtain ⟨g, t, cs, fuel, p, hg, ht, hv, hd⟩ := Lib.laidMet.reads (laidMetH_iff.1 h).1 (List.mem_filter.2 ⟨h1, rfl⟩)
    obtain rfl := Option.some.inj (Tryz.gSyn.symm.trans hg)
    obtain rfl := Option.some.inj (Tryz.tSyn.symm.trans ht)
    obtain ⟨_, u, v, hcs, _, _⟩ := iface_of_trod Tryz.underlying66 hd
    exact ⟨u, v, by rw [hv, Array.eq_one_of_toList hcs]⟩
  · obtain ⟨g, t, cs, fuel, p, hg, ht, hv, hd⟩ := Lib.laidMet.reads (laidMetH_iff.1 h).1 (List.mem_filter.2 ⟨h2, rfl⟩)
    obtain rfl := Option.some.inj (Tryz.gRan.symm.trans hg)
    obtain rfl := Option.some.inj (Tryz.tRan.symm.trans ht)
    obtain ⟨_, u, v, hcs, _, _⟩ := iface_of_trod Tryz.underlying66 hd
    exact ⟨u, v, by rw [hv, Array.eq_one_of_toList hcs]⟩

end Go.Proofs.YtjnicmlomjppnaaGreatDoor
