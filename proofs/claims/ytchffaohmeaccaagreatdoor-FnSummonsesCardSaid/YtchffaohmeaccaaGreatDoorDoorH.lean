/- What a row that lists errors.errorType gives the walks, and a world in which that variable lies. -/
import Derived.Test.YtchffaohmeaccaaGreatDoorRows
import Derived.Test.YtchffaohmeaccaaGreatDoorAsR
import Derived.WalkKit
import Derived.LaidLaws
import Derived.LaidHandle
import Derived.RowKitTokens
namespace Go.Proofs.YtchffaohmeaccaaGreatDoor
open Go.RowKit

theorem Tryz.etG : Tryz.prog.globalNamed "errors.errorType" = some 0 := by kernel_rfl
theorem Tryz.rtT : (Tryz.prog.cutTypes.find? (·.1 == "internal/reflectlite.rtype")).map (·.2) = some 110 := by kernel_rfl
theorem Tryz.oneError : ((List.range 156).filter fun t => Tryz.prog.rowNamed t [101, 114, 114, 111, 114]) = [49] := by kernel_rfl
theorem Tryz.typesN : Tryz.prog.types.size = 156 := by kernel_rfl

theorem type_of_laid {W : World} (h : laidMetH Tryz.prog [("errors.errorType", Rows.laid_errors_errorType)] W) : TypeAt W := by
  have h' : laidMet Tryz.prog [] W ∧ handlesMet Tryz.prog [("errors.errorType", Rows.laid_errors_errorType)] W := h
  obtain ⟨name, u, ty, e1, e2, e3, e4, e5⟩ := h'.2 _ (List.mem_singleton.2 rfl)
  have en : name = [101, 114, 114, 111, 114] := (Option.some.inj e1).symm
  subst en
  obtain rfl := Option.some.inj (Tryz.rtT.symm.trans e2)
  have hm : ty ∈ (List.range 156).filter fun t => Tryz.prog.rowNamed t [101, 114, 114, 111, 114] := List.mem_filter.2 ⟨List.mem_range.2 (by rw [← Tryz.typesN]; exact e3), e4⟩
  rw [Tryz.oneError] at hm
  obtain rfl := List.mem_singleton.1 hm
  have hh : typeHandle Tryz.prog 49 = .pointer (some ⟨1, 49, none⟩) := by kernel_rfl
  rw [hh] at e5
  simpa [TypeAt] using World.var?_cell Tryz.etG e5 0

/-- A world that meets the condition: the settled one, the variable's cell laid. -/
noncomputable def doorWorld (os : Os) : World :=
  let w0 := World.holding Tryz.prog os ⟨#[], #[], []⟩
  { w0 with heap := w0.heap.modify 0 fun
      | .cells _ t frozen => .cells #[.iface 110 (.agg #[.pointer (some ⟨1, 49, none⟩)])] t frozen
      | o => o }
end Go.Proofs.YtchffaohmeaccaaGreatDoor
