/-
  No cell of these rows narrows 'for every input' (looked for: loops, veiled, ifaces, maps, wideKeys, modest, calm, conditions, laid).
  DERIVED. THE GIVEN ROWS OF THIS SEAT. 10 by the template 'for every input the law returns true; each argument reads behind the call as it read before'; 0 by the template 'total and deterministic' (their statements: YtdeiillfdjebdaaTotals.lean).
  GIVEN WITH THE SEED: the statements are not yours to turn. If you find one false, say at which input.
  Laid BY PROGRAM, IN A SANDBOX (cutbox-rows.mjs): the forced cells as the released guide's own fill.sh prints them over the translation 1d8cc68698fbd294… (all of the seat's roots in one cut). By AI agents, Wed Nov 11 2026. No macro, syntax, notation, axiom, sorry.
-/
import Derived.Test.YtdeiillfdjebdaaChecked
import GoSem.Claim
import GoSem.ClaimJoined
import GoSem.ClaimMapViews
import Derived.JoinedTies
import Derived.KernelRfl
namespace Go.Proofs.Ytdeiillfdjebdaa
/- THE CELL 'sum', in the pinned program and in every row, IS THE sha256 OF THE DUMP (.gsa) THAT YtdeiillfdjebdaaProg.lean LOADS. Nothing in Lean hashes anything: it is a label: what it is worth is what the hold of that sum in a sandbox is worth. -/
noncomputable def Try.pinned : Pinned := { name := "ytdeiillfdjebdaa", sum := "1d8cc68698fbd2947bfc47e589b642c53f33ac3465931f1aac2cf2aa4650fb9f", checked := Try.checked }
namespace Rows
def none {H : Type} : Left H := { results := [], args := [] }

/-- 'laws.FnGroups': WHATEVER THE INPUT: true; the input reads as it did. -/
def fnGroupsSpec : ChangeSpec := { name := "fnGroups", fn := fun _ => fun
  | [d] => { results := [.lit (.bool true)], args := [d] }
  | _ => none }
def fnGroupsRow : OpenClaim := { program := "ytdeiillfdjebdaa", sum := "1d8cc68698fbd2947bfc47e589b642c53f33ac3465931f1aac2cf2aa4650fb9f", func := "loop.example/g01027/laws.FnGroups", spec := "fnGroups", unfollowed := true, recurses := true, apart := false }
def FnGroupsSaid : Prop := fnGroupsRow.holds Try.pinned (OpenSpec.ofChange fnGroupsSpec)

/-- ITS FALSE NEIGHBOUR: 'it returns false'. Refute it at one input. -/
def fnGroupsWrong : ChangeSpec := { name := "fnGroups", fn := fun _ => fun
  | [d] => { results := [.lit (.bool false)], args := [d] }
  | _ => none }
def FnGroupsWrongFalsely : Prop := fnGroupsRow.holds Try.pinned (OpenSpec.ofChange fnGroupsWrong)

/-- 'laws.FnChains': WHATEVER THE INPUT: true; the input reads as it did. -/
def fnChainsSpec : ChangeSpec := { name := "fnChains", fn := fun _ => fun
  | [d] => { results := [.lit (.bool true)], args := [d] }
  | _ => none }
def fnChainsRow : OpenClaim := { program := "ytdeiillfdjebdaa", sum := "1d8cc68698fbd2947bfc47e589b642c53f33ac3465931f1aac2cf2aa4650fb9f", func := "loop.example/g01027/laws.FnChains", spec := "fnChains", unfollowed := true, recurses := true, apart := false }
def FnChainsSaid : Prop := fnChainsRow.holds Try.pinned (OpenSpec.ofChange fnChainsSpec)

/-- ITS FALSE NEIGHBOUR: 'it returns false'. Refute it at one input. -/
def fnChainsWrong : ChangeSpec := { name := "fnChains", fn := fun _ => fun
  | [d] => { results := [.lit (.bool false)], args := [d] }
  | _ => none }
def FnChainsWrongFalsely : Prop := fnChainsRow.holds Try.pinned (OpenSpec.ofChange fnChainsWrong)

/-- 'laws.FnExactAlikePairs': WHATEVER THE INPUT: true; the input reads as it did. -/
def fnExactAlikePairsSpec : ChangeSpec := { name := "fnExactAlikePairs", fn := fun _ => fun
  | [d1, d2] => { results := [.lit (.bool true)], args := [d1, d2] }
  | _ => none }
def fnExactAlikePairsRow : OpenClaim := { program := "ytdeiillfdjebdaa", sum := "1d8cc68698fbd2947bfc47e589b642c53f33ac3465931f1aac2cf2aa4650fb9f", func := "loop.example/g01027/laws.FnExactAlikePairs", spec := "fnExactAlikePairs", unfollowed := true, recurses := true, apart := false }
def FnExactAlikePairsSaid : Prop := fnExactAlikePairsRow.holds Try.pinned (OpenSpec.ofChange fnExactAlikePairsSpec)

/-- ITS FALSE NEIGHBOUR: 'it returns false'. Refute it at one input. -/
def fnExactAlikePairsWrong : ChangeSpec := { name := "fnExactAlikePairs", fn := fun _ => fun
  | [d1, d2] => { results := [.lit (.bool false)], args := [d1, d2] }
  | _ => none }
def FnExactAlikePairsWrongFalsely : Prop := fnExactAlikePairsRow.holds Try.pinned (OpenSpec.ofChange fnExactAlikePairsWrong)

/-- 'laws.FnExactGroupsOf': WHATEVER THE INPUT: true; the input reads as it did. -/
def fnExactGroupsOfSpec : ChangeSpec := { name := "fnExactGroupsOf", fn := fun _ => fun
  | [d1, d2] => { results := [.lit (.bool true)], args := [d1, d2] }
  | _ => none }
def fnExactGroupsOfRow : OpenClaim := { program := "ytdeiillfdjebdaa", sum := "1d8cc68698fbd2947bfc47e589b642c53f33ac3465931f1aac2cf2aa4650fb9f", func := "loop.example/g01027/laws.FnExactGroupsOf", spec := "fnExactGroupsOf", unfollowed := true, recurses := true, apart := false }
def FnExactGroupsOfSaid : Prop := fnExactGroupsOfRow.holds Try.pinned (OpenSpec.ofChange fnExactGroupsOfSpec)

/-- ITS FALSE NEIGHBOUR: 'it returns false'. Refute it at one input. -/
def fnExactGroupsOfWrong : ChangeSpec := { name := "fnExactGroupsOf", fn := fun _ => fun
  | [d1, d2] => { results := [.lit (.bool false)], args := [d1, d2] }
  | _ => none }
def FnExactGroupsOfWrongFalsely : Prop := fnExactGroupsOfRow.holds Try.pinned (OpenSpec.ofChange fnExactGroupsOfWrong)

/-- 'laws.FnExactJoinedList': WHATEVER THE INPUT: true; the input reads as it did. -/
def fnExactJoinedListSpec : ChangeSpec := { name := "fnExactJoinedList", fn := fun _ => fun
  | [d1, d2] => { results := [.lit (.bool true)], args := [d1, d2] }
  | _ => none }
def fnExactJoinedListRow : OpenClaim := { program := "ytdeiillfdjebdaa", sum := "1d8cc68698fbd2947bfc47e589b642c53f33ac3465931f1aac2cf2aa4650fb9f", func := "loop.example/g01027/laws.FnExactJoinedList", spec := "fnExactJoinedList", unfollowed := true, recurses := true, apart := false }
def FnExactJoinedListSaid : Prop := fnExactJoinedListRow.holds Try.pinned (OpenSpec.ofChange fnExactJoinedListSpec)

/-- ITS FALSE NEIGHBOUR: 'it returns false'. Refute it at one input. -/
def fnExactJoinedListWrong : ChangeSpec := { name := "fnExactJoinedList", fn := fun _ => fun
  | [d1, d2] => { results := [.lit (.bool false)], args := [d1, d2] }
  | _ => none }
def FnExactJoinedListWrongFalsely : Prop := fnExactJoinedListRow.holds Try.pinned (OpenSpec.ofChange fnExactJoinedListWrong)

/-- 'laws.FnExactKeeperOf': WHATEVER THE INPUT: true; the input reads as it did. -/
def fnExactKeeperOfSpec : ChangeSpec := { name := "fnExactKeeperOf", fn := fun _ => fun
  | [d1, d2, d3] => { results := [.lit (.bool true)], args := [d1, d2, d3] }
  | _ => none }
def fnExactKeeperOfRow : OpenClaim := { program := "ytdeiillfdjebdaa", sum := "1d8cc68698fbd2947bfc47e589b642c53f33ac3465931f1aac2cf2aa4650fb9f", func := "loop.example/g01027/laws.FnExactKeeperOf", spec := "fnExactKeeperOf", unfollowed := true, recurses := true, apart := false }
def FnExactKeeperOfSaid : Prop := fnExactKeeperOfRow.holds Try.pinned (OpenSpec.ofChange fnExactKeeperOfSpec)

/-- ITS FALSE NEIGHBOUR: 'it returns false'. Refute it at one input. -/
def fnExactKeeperOfWrong : ChangeSpec := { name := "fnExactKeeperOf", fn := fun _ => fun
  | [d1, d2, d3] => { results := [.lit (.bool false)], args := [d1, d2, d3] }
  | _ => none }
def FnExactKeeperOfWrongFalsely : Prop := fnExactKeeperOfRow.holds Try.pinned (OpenSpec.ofChange fnExactKeeperOfWrong)

/-- 'laws.FnExactChainBetween': WHATEVER THE INPUT: true; the input reads as it did. -/
def fnExactChainBetweenSpec : ChangeSpec := { name := "fnExactChainBetween", fn := fun _ => fun
  | [d1, d2, d3, d4] => { results := [.lit (.bool true)], args := [d1, d2, d3, d4] }
  | _ => none }
def fnExactChainBetweenRow : OpenClaim := { program := "ytdeiillfdjebdaa", sum := "1d8cc68698fbd2947bfc47e589b642c53f33ac3465931f1aac2cf2aa4650fb9f", func := "loop.example/g01027/laws.FnExactChainBetween", spec := "fnExactChainBetween", unfollowed := true, recurses := true, apart := false }
def FnExactChainBetweenSaid : Prop := fnExactChainBetweenRow.holds Try.pinned (OpenSpec.ofChange fnExactChainBetweenSpec)

/-- ITS FALSE NEIGHBOUR: 'it returns false'. Refute it at one input. -/
def fnExactChainBetweenWrong : ChangeSpec := { name := "fnExactChainBetween", fn := fun _ => fun
  | [d1, d2, d3, d4] => { results := [.lit (.bool false)], args := [d1, d2, d3, d4] }
  | _ => none }
def FnExactChainBetweenWrongFalsely : Prop := fnExactChainBetweenRow.holds Try.pinned (OpenSpec.ofChange fnExactChainBetweenWrong)

/-- 'laws.FnExactIsTight': WHATEVER THE INPUT: true; the input reads as it did. -/
def fnExactIsTightSpec : ChangeSpec := { name := "fnExactIsTight", fn := fun _ => fun
  | [d1, d2, d3] => { results := [.lit (.bool true)], args := [d1, d2, d3] }
  | _ => none }
def fnExactIsTightRow : OpenClaim := { program := "ytdeiillfdjebdaa", sum := "1d8cc68698fbd2947bfc47e589b642c53f33ac3465931f1aac2cf2aa4650fb9f", func := "loop.example/g01027/laws.FnExactIsTight", spec := "fnExactIsTight", unfollowed := true, recurses := true, apart := false }
def FnExactIsTightSaid : Prop := fnExactIsTightRow.holds Try.pinned (OpenSpec.ofChange fnExactIsTightSpec)

/-- ITS FALSE NEIGHBOUR: 'it returns false'. Refute it at one input. -/
def fnExactIsTightWrong : ChangeSpec := { name := "fnExactIsTight", fn := fun _ => fun
  | [d1, d2, d3] => { results := [.lit (.bool false)], args := [d1, d2, d3] }
  | _ => none }
def FnExactIsTightWrongFalsely : Prop := fnExactIsTightRow.holds Try.pinned (OpenSpec.ofChange fnExactIsTightWrong)

/-- 'laws.FnExactCountDuplicates': WHATEVER THE INPUT: true; the input reads as it did. -/
def fnExactCountDuplicatesSpec : ChangeSpec := { name := "fnExactCountDuplicates", fn := fun _ => fun
  | [d1, d2] => { results := [.lit (.bool true)], args := [d1, d2] }
  | _ => none }
def fnExactCountDuplicatesRow : OpenClaim := { program := "ytdeiillfdjebdaa", sum := "1d8cc68698fbd2947bfc47e589b642c53f33ac3465931f1aac2cf2aa4650fb9f", func := "loop.example/g01027/laws.FnExactCountDuplicates", spec := "fnExactCountDuplicates", unfollowed := true, recurses := true, apart := false }
def FnExactCountDuplicatesSaid : Prop := fnExactCountDuplicatesRow.holds Try.pinned (OpenSpec.ofChange fnExactCountDuplicatesSpec)

/-- ITS FALSE NEIGHBOUR: 'it returns false'. Refute it at one input. -/
def fnExactCountDuplicatesWrong : ChangeSpec := { name := "fnExactCountDuplicates", fn := fun _ => fun
  | [d1, d2] => { results := [.lit (.bool false)], args := [d1, d2] }
  | _ => none }
def FnExactCountDuplicatesWrongFalsely : Prop := fnExactCountDuplicatesRow.holds Try.pinned (OpenSpec.ofChange fnExactCountDuplicatesWrong)

/-- 'laws.FnExactLeastSafeLimit': WHATEVER THE INPUT: true; the input reads as it did. -/
def fnExactLeastSafeLimitSpec : ChangeSpec := { name := "fnExactLeastSafeLimit", fn := fun _ => fun
  | [d] => { results := [.lit (.bool true)], args := [d] }
  | _ => none }
def fnExactLeastSafeLimitRow : OpenClaim := { program := "ytdeiillfdjebdaa", sum := "1d8cc68698fbd2947bfc47e589b642c53f33ac3465931f1aac2cf2aa4650fb9f", func := "loop.example/g01027/laws.FnExactLeastSafeLimit", spec := "fnExactLeastSafeLimit", unfollowed := true, recurses := true, apart := false }
def FnExactLeastSafeLimitSaid : Prop := fnExactLeastSafeLimitRow.holds Try.pinned (OpenSpec.ofChange fnExactLeastSafeLimitSpec)

/-- ITS FALSE NEIGHBOUR: 'it returns false'. Refute it at one input. -/
def fnExactLeastSafeLimitWrong : ChangeSpec := { name := "fnExactLeastSafeLimit", fn := fun _ => fun
  | [d] => { results := [.lit (.bool false)], args := [d] }
  | _ => none }
def FnExactLeastSafeLimitWrongFalsely : Prop := fnExactLeastSafeLimitRow.holds Try.pinned (OpenSpec.ofChange fnExactLeastSafeLimitWrong)

/- THE SECOND FORM. 'bulk': how many values and letters a reading holds, each counted each time it is reached (what is shared counts as often as it is met; a slice's spare places count too). A statement '..UptoSaid' is the law's where the arguments, and the package variables that the reading takes, are together of bulk at most 1048576: NARROWER than '..Said'. Prove '..Said' where nothing that the law and all that it calls make is longer than what came in: it says more and counts as full. Else prove '..UptoSaid'. A law counts once. -/
mutual
def uptoBulk {H : Type} : DataW H → Nat
  | .lit (.string bytes) => bytes.length + 1
  | .lit _ => 1
  | .nil => 1
  | .ptr d => uptoBulk d + 1
  | .slice elems spare => uptoBulkAll elems + uptoBulkAll spare + 1
  | .agg parts => uptoBulkAll parts + 1
  | .iface _ d => uptoBulk d + 1
  | .map entries => uptoBulkEntries entries + 1
  | .held _ => 1
def uptoBulkAll {H : Type} : List (DataW H) → Nat
  | [] => 0
  | d :: r => uptoBulk d + uptoBulkAll r
def uptoBulkEntries {H : Type} : List (Lit × DataW H) → Nat
  | [] => 0
  | x :: r => uptoBulkEntry x + uptoBulkEntries r
def uptoBulkEntry {H : Type} : Lit × DataW H → Nat
  | (.string bytes, d) => bytes.length + uptoBulk d + 1
  | (_, d) => uptoBulk d + 1
 end
def uptoSmall : (H : Type) → List (DataW H) → Bool := fun _ ds => decide (uptoBulkAll ds ≤ 1048576)
def OpenSpec.upto (s : _root_.Go.ChangeSpec) : _root_.Go.OpenSpec := { _root_.Go.OpenSpec.ofChange s with cond := some uptoSmall }

/-- 'laws.FnGroups', WHERE WHAT IT READS IS OF BULK AT MOST 1048576: true; the input reads as it did. -/
def fnGroupsUptoRow : OpenClaim := { program := "ytdeiillfdjebdaa", sum := "1d8cc68698fbd2947bfc47e589b642c53f33ac3465931f1aac2cf2aa4650fb9f", func := "loop.example/g01027/laws.FnGroups", spec := "fnGroups", unfollowed := true, recurses := true, apart := false, narrowed := true }
def FnGroupsUptoSaid : Prop := fnGroupsUptoRow.holds Try.pinned (OpenSpec.upto fnGroupsSpec)

/-- 'laws.FnChains', WHERE WHAT IT READS IS OF BULK AT MOST 1048576: true; the input reads as it did. -/
def fnChainsUptoRow : OpenClaim := { program := "ytdeiillfdjebdaa", sum := "1d8cc68698fbd2947bfc47e589b642c53f33ac3465931f1aac2cf2aa4650fb9f", func := "loop.example/g01027/laws.FnChains", spec := "fnChains", unfollowed := true, recurses := true, apart := false, narrowed := true }
def FnChainsUptoSaid : Prop := fnChainsUptoRow.holds Try.pinned (OpenSpec.upto fnChainsSpec)

/-- 'laws.FnExactAlikePairs', WHERE WHAT IT READS IS OF BULK AT MOST 1048576: true; the input reads as it did. -/
def fnExactAlikePairsUptoRow : OpenClaim := { program := "ytdeiillfdjebdaa", sum := "1d8cc68698fbd2947bfc47e589b642c53f33ac3465931f1aac2cf2aa4650fb9f", func := "loop.example/g01027/laws.FnExactAlikePairs", spec := "fnExactAlikePairs", unfollowed := true, recurses := true, apart := false, narrowed := true }
def FnExactAlikePairsUptoSaid : Prop := fnExactAlikePairsUptoRow.holds Try.pinned (OpenSpec.upto fnExactAlikePairsSpec)

/-- 'laws.FnExactGroupsOf', WHERE WHAT IT READS IS OF BULK AT MOST 1048576: true; the input reads as it did. -/
def fnExactGroupsOfUptoRow : OpenClaim := { program := "ytdeiillfdjebdaa", sum := "1d8cc68698fbd2947bfc47e589b642c53f33ac3465931f1aac2cf2aa4650fb9f", func := "loop.example/g01027/laws.FnExactGroupsOf", spec := "fnExactGroupsOf", unfollowed := true, recurses := true, apart := false, narrowed := true }
def FnExactGroupsOfUptoSaid : Prop := fnExactGroupsOfUptoRow.holds Try.pinned (OpenSpec.upto fnExactGroupsOfSpec)

/-- 'laws.FnExactJoinedList', WHERE WHAT IT READS IS OF BULK AT MOST 1048576: true; the input reads as it did. -/
def fnExactJoinedListUptoRow : OpenClaim := { program := "ytdeiillfdjebdaa", sum := "1d8cc68698fbd2947bfc47e589b642c53f33ac3465931f1aac2cf2aa4650fb9f", func := "loop.example/g01027/laws.FnExactJoinedList", spec := "fnExactJoinedList", unfollowed := true, recurses := true, apart := false, narrowed := true }
def FnExactJoinedListUptoSaid : Prop := fnExactJoinedListUptoRow.holds Try.pinned (OpenSpec.upto fnExactJoinedListSpec)

/-- 'laws.FnExactKeeperOf', WHERE WHAT IT READS IS OF BULK AT MOST 1048576: true; the input reads as it did. -/
def fnExactKeeperOfUptoRow : OpenClaim := { program := "ytdeiillfdjebdaa", sum := "1d8cc68698fbd2947bfc47e589b642c53f33ac3465931f1aac2cf2aa4650fb9f", func := "loop.example/g01027/laws.FnExactKeeperOf", spec := "fnExactKeeperOf", unfollowed := true, recurses := true, apart := false, narrowed := true }
def FnExactKeeperOfUptoSaid : Prop := fnExactKeeperOfUptoRow.holds Try.pinned (OpenSpec.upto fnExactKeeperOfSpec)

/-- 'laws.FnExactChainBetween', WHERE WHAT IT READS IS OF BULK AT MOST 1048576: true; the input reads as it did. -/
def fnExactChainBetweenUptoRow : OpenClaim := { program := "ytdeiillfdjebdaa", sum := "1d8cc68698fbd2947bfc47e589b642c53f33ac3465931f1aac2cf2aa4650fb9f", func := "loop.example/g01027/laws.FnExactChainBetween", spec := "fnExactChainBetween", unfollowed := true, recurses := true, apart := false, narrowed := true }
def FnExactChainBetweenUptoSaid : Prop := fnExactChainBetweenUptoRow.holds Try.pinned (OpenSpec.upto fnExactChainBetweenSpec)

/-- 'laws.FnExactIsTight', WHERE WHAT IT READS IS OF BULK AT MOST 1048576: true; the input reads as it did. -/
def fnExactIsTightUptoRow : OpenClaim := { program := "ytdeiillfdjebdaa", sum := "1d8cc68698fbd2947bfc47e589b642c53f33ac3465931f1aac2cf2aa4650fb9f", func := "loop.example/g01027/laws.FnExactIsTight", spec := "fnExactIsTight", unfollowed := true, recurses := true, apart := false, narrowed := true }
def FnExactIsTightUptoSaid : Prop := fnExactIsTightUptoRow.holds Try.pinned (OpenSpec.upto fnExactIsTightSpec)

/-- 'laws.FnExactCountDuplicates', WHERE WHAT IT READS IS OF BULK AT MOST 1048576: true; the input reads as it did. -/
def fnExactCountDuplicatesUptoRow : OpenClaim := { program := "ytdeiillfdjebdaa", sum := "1d8cc68698fbd2947bfc47e589b642c53f33ac3465931f1aac2cf2aa4650fb9f", func := "loop.example/g01027/laws.FnExactCountDuplicates", spec := "fnExactCountDuplicates", unfollowed := true, recurses := true, apart := false, narrowed := true }
def FnExactCountDuplicatesUptoSaid : Prop := fnExactCountDuplicatesUptoRow.holds Try.pinned (OpenSpec.upto fnExactCountDuplicatesSpec)

/-- 'laws.FnExactLeastSafeLimit', WHERE WHAT IT READS IS OF BULK AT MOST 1048576: true; the input reads as it did. -/
def fnExactLeastSafeLimitUptoRow : OpenClaim := { program := "ytdeiillfdjebdaa", sum := "1d8cc68698fbd2947bfc47e589b642c53f33ac3465931f1aac2cf2aa4650fb9f", func := "loop.example/g01027/laws.FnExactLeastSafeLimit", spec := "fnExactLeastSafeLimit", unfollowed := true, recurses := true, apart := false, narrowed := true }
def FnExactLeastSafeLimitUptoSaid : Prop := fnExactLeastSafeLimitUptoRow.holds Try.pinned (OpenSpec.upto fnExactLeastSafeLimitSpec)

end Rows
end Go.Proofs.Ytdeiillfdjebdaa
