/- What make lays for slices of int64 and of texts. -/
import Derived.Test.YtekhdggaelppkaaChecked
import Derived.WalkKit
namespace Go.Proofs.Ytekhdggaelppkaa
theorem Try.info_i64 : (Try.prog.info? 2).map (fun i => (i.zero, i.size, i.bytes)) = some (some (.int .i64 0), 1, 8) := by kernel_rfl
theorem Try.info_str : (Try.prog.info? 9).map (fun i => (i.zero, i.size, i.bytes)) = some (some (.string ⟨#[]⟩), 1, 16) := by kernel_rfl
end Go.Proofs.Ytekhdggaelppkaa
