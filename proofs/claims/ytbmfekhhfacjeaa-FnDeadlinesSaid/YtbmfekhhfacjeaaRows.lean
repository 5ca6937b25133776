/-
  No cell of these rows narrows 'for every input' (looked for: loops, veiled, ifaces, maps, wideKeys, modest, calm, conditions, laid).
  DERIVED. THE GIVEN ROWS OF THIS SEAT. 10 by the template 'for every input the law returns true; each argument reads behind the call as it read before'; 0 by the template 'total and deterministic' (their statements: YtbmfekhhfacjeaaTotals.lean).
  GIVEN WITH THE SEED: the statements are not yours to turn. If you find one false, say at which input.
  Laid BY PROGRAM, IN A SANDBOX (cutbox-rows.mjs): the forced cells as the released guide's own fill.sh prints them over the translation 3a55f60446123de5… (all of the seat's roots in one cut). By AI agents, Wed Nov 11 2026. No macro, syntax, notation, axiom, sorry.
-/
import Derived.Test.YtbmfekhhfacjeaaChecked
import GoSem.Claim
import GoSem.ClaimJoined
import GoSem.ClaimMapViews
import Derived.JoinedTies
import Derived.KernelRfl
namespace Go.Proofs.Ytbmfekhhfacjeaa
/- THE CELL 'sum', in the pinned program and in every row, IS THE sha256 OF THE DUMP (.gsa) THAT YtbmfekhhfacjeaaProg.lean LOADS. Nothing in Lean hashes anything: it is a label: what it is worth is what the hold of that sum in a sandbox is worth. -/
noncomputable def Try.pinned : Pinned := { name := "ytbmfekhhfacjeaa", sum := "3a55f60446123de5562246bde89b6e710c32cf6213e1d77ce4ae07948b71613c", checked := Try.checked }
namespace Rows
def none {H : Type} : Left H := { results := [], args := [] }

/-- 'laws.FnCourtDays': WHATEVER THE INPUT: true; the input reads as it did. -/
def fnCourtDaysSpec : ChangeSpec := { name := "fnCourtDays", fn := fun _ => fun
  | [d] => { results := [.lit (.bool true)], args := [d] }
  | _ => none }
def fnCourtDaysRow : OpenClaim := { program := "ytbmfekhhfacjeaa", sum := "3a55f60446123de5562246bde89b6e710c32cf6213e1d77ce4ae07948b71613c", func := "loop.example/g01027/laws.FnCourtDays", spec := "fnCourtDays", apart := false }
def FnCourtDaysSaid : Prop := fnCourtDaysRow.holds Try.pinned (OpenSpec.ofChange fnCourtDaysSpec)

/-- ITS FALSE NEIGHBOUR: 'it returns false'. Refute it at one input. -/
def fnCourtDaysWrong : ChangeSpec := { name := "fnCourtDays", fn := fun _ => fun
  | [d] => { results := [.lit (.bool false)], args := [d] }
  | _ => none }
def FnCourtDaysWrongFalsely : Prop := fnCourtDaysRow.holds Try.pinned (OpenSpec.ofChange fnCourtDaysWrong)

/-- 'laws.FnDeadlines': WHATEVER THE INPUT: true; the input reads as it did. -/
def fnDeadlinesSpec : ChangeSpec := { name := "fnDeadlines", fn := fun _ => fun
  | [d] => { results := [.lit (.bool true)], args := [d] }
  | _ => none }
def fnDeadlinesRow : OpenClaim := { program := "ytbmfekhhfacjeaa", sum := "3a55f60446123de5562246bde89b6e710c32cf6213e1d77ce4ae07948b71613c", func := "loop.example/g01027/laws.FnDeadlines", spec := "fnDeadlines", apart := false }
def FnDeadlinesSaid : Prop := fnDeadlinesRow.holds Try.pinned (OpenSpec.ofChange fnDeadlinesSpec)

/-- ITS FALSE NEIGHBOUR: 'it returns false'. Refute it at one input. -/
def fnDeadlinesWrong : ChangeSpec := { name := "fnDeadlines", fn := fun _ => fun
  | [d] => { results := [.lit (.bool false)], args := [d] }
  | _ => none }
def FnDeadlinesWrongFalsely : Prop := fnDeadlinesRow.holds Try.pinned (OpenSpec.ofChange fnDeadlinesWrong)

/-- 'laws.FnBreaks': WHATEVER THE INPUT: true; the input reads as it did. -/
def fnBreaksSpec : ChangeSpec := { name := "fnBreaks", fn := fun _ => fun
  | [d] => { results := [.lit (.bool true)], args := [d] }
  | _ => none }
def fnBreaksRow : OpenClaim := { program := "ytbmfekhhfacjeaa", sum := "3a55f60446123de5562246bde89b6e710c32cf6213e1d77ce4ae07948b71613c", func := "loop.example/g01027/laws.FnBreaks", spec := "fnBreaks", apart := false }
def FnBreaksSaid : Prop := fnBreaksRow.holds Try.pinned (OpenSpec.ofChange fnBreaksSpec)

/-- ITS FALSE NEIGHBOUR: 'it returns false'. Refute it at one input. -/
def fnBreaksWrong : ChangeSpec := { name := "fnBreaks", fn := fun _ => fun
  | [d] => { results := [.lit (.bool false)], args := [d] }
  | _ => none }
def FnBreaksWrongFalsely : Prop := fnBreaksRow.holds Try.pinned (OpenSpec.ofChange fnBreaksWrong)

/-- 'laws.FnExactIsCourtDay': WHATEVER THE INPUT: true; the input reads as it did. -/
def fnExactIsCourtDaySpec : ChangeSpec := { name := "fnExactIsCourtDay", fn := fun _ => fun
  | [d1, d2] => { results := [.lit (.bool true)], args := [d1, d2] }
  | _ => none }
def fnExactIsCourtDayRow : OpenClaim := { program := "ytbmfekhhfacjeaa", sum := "3a55f60446123de5562246bde89b6e710c32cf6213e1d77ce4ae07948b71613c", func := "loop.example/g01027/laws.FnExactIsCourtDay", spec := "fnExactIsCourtDay", apart := false }
def FnExactIsCourtDaySaid : Prop := fnExactIsCourtDayRow.holds Try.pinned (OpenSpec.ofChange fnExactIsCourtDaySpec)

/-- ITS FALSE NEIGHBOUR: 'it returns false'. Refute it at one input. -/
def fnExactIsCourtDayWrong : ChangeSpec := { name := "fnExactIsCourtDay", fn := fun _ => fun
  | [d1, d2] => { results := [.lit (.bool false)], args := [d1, d2] }
  | _ => none }
def FnExactIsCourtDayWrongFalsely : Prop := fnExactIsCourtDayRow.holds Try.pinned (OpenSpec.ofChange fnExactIsCourtDayWrong)

/-- 'laws.FnExactNextCourtDay': WHATEVER THE INPUT: true; the input reads as it did. -/
def fnExactNextCourtDaySpec : ChangeSpec := { name := "fnExactNextCourtDay", fn := fun _ => fun
  | [d1, d2] => { results := [.lit (.bool true)], args := [d1, d2] }
  | _ => none }
def fnExactNextCourtDayRow : OpenClaim := { program := "ytbmfekhhfacjeaa", sum := "3a55f60446123de5562246bde89b6e710c32cf6213e1d77ce4ae07948b71613c", func := "loop.example/g01027/laws.FnExactNextCourtDay", spec := "fnExactNextCourtDay", apart := false }
def FnExactNextCourtDaySaid : Prop := fnExactNextCourtDayRow.holds Try.pinned (OpenSpec.ofChange fnExactNextCourtDaySpec)

/-- ITS FALSE NEIGHBOUR: 'it returns false'. Refute it at one input. -/
def fnExactNextCourtDayWrong : ChangeSpec := { name := "fnExactNextCourtDay", fn := fun _ => fun
  | [d1, d2] => { results := [.lit (.bool false)], args := [d1, d2] }
  | _ => none }
def FnExactNextCourtDayWrongFalsely : Prop := fnExactNextCourtDayRow.holds Try.pinned (OpenSpec.ofChange fnExactNextCourtDayWrong)

/-- 'laws.FnExactAddCourtDays': WHATEVER THE INPUT: true; the input reads as it did. -/
def fnExactAddCourtDaysSpec : ChangeSpec := { name := "fnExactAddCourtDays", fn := fun _ => fun
  | [d1, d2, d3] => { results := [.lit (.bool true)], args := [d1, d2, d3] }
  | _ => none }
def fnExactAddCourtDaysRow : OpenClaim := { program := "ytbmfekhhfacjeaa", sum := "3a55f60446123de5562246bde89b6e710c32cf6213e1d77ce4ae07948b71613c", func := "loop.example/g01027/laws.FnExactAddCourtDays", spec := "fnExactAddCourtDays", apart := false }
def FnExactAddCourtDaysSaid : Prop := fnExactAddCourtDaysRow.holds Try.pinned (OpenSpec.ofChange fnExactAddCourtDaysSpec)

/-- ITS FALSE NEIGHBOUR: 'it returns false'. Refute it at one input. -/
def fnExactAddCourtDaysWrong : ChangeSpec := { name := "fnExactAddCourtDays", fn := fun _ => fun
  | [d1, d2, d3] => { results := [.lit (.bool false)], args := [d1, d2, d3] }
  | _ => none }
def FnExactAddCourtDaysWrongFalsely : Prop := fnExactAddCourtDaysRow.holds Try.pinned (OpenSpec.ofChange fnExactAddCourtDaysWrong)

/-- 'laws.FnExactCountCourtDays': WHATEVER THE INPUT: true; the input reads as it did. -/
def fnExactCountCourtDaysSpec : ChangeSpec := { name := "fnExactCountCourtDays", fn := fun _ => fun
  | [d1, d2, d3] => { results := [.lit (.bool true)], args := [d1, d2, d3] }
  | _ => none }
def fnExactCountCourtDaysRow : OpenClaim := { program := "ytbmfekhhfacjeaa", sum := "3a55f60446123de5562246bde89b6e710c32cf6213e1d77ce4ae07948b71613c", func := "loop.example/g01027/laws.FnExactCountCourtDays", spec := "fnExactCountCourtDays", apart := false }
def FnExactCountCourtDaysSaid : Prop := fnExactCountCourtDaysRow.holds Try.pinned (OpenSpec.ofChange fnExactCountCourtDaysSpec)

/-- ITS FALSE NEIGHBOUR: 'it returns false'. Refute it at one input. -/
def fnExactCountCourtDaysWrong : ChangeSpec := { name := "fnExactCountCourtDays", fn := fun _ => fun
  | [d1, d2, d3] => { results := [.lit (.bool false)], args := [d1, d2, d3] }
  | _ => none }
def FnExactCountCourtDaysWrongFalsely : Prop := fnExactCountCourtDaysRow.holds Try.pinned (OpenSpec.ofChange fnExactCountCourtDaysWrong)

/-- 'laws.FnExactDeadlineOf': WHATEVER THE INPUT: true; the input reads as it did. -/
def fnExactDeadlineOfSpec : ChangeSpec := { name := "fnExactDeadlineOf", fn := fun _ => fun
  | [d1, d2, d3] => { results := [.lit (.bool true)], args := [d1, d2, d3] }
  | _ => none }
def fnExactDeadlineOfRow : OpenClaim := { program := "ytbmfekhhfacjeaa", sum := "3a55f60446123de5562246bde89b6e710c32cf6213e1d77ce4ae07948b71613c", func := "loop.example/g01027/laws.FnExactDeadlineOf", spec := "fnExactDeadlineOf", apart := false }
def FnExactDeadlineOfSaid : Prop := fnExactDeadlineOfRow.holds Try.pinned (OpenSpec.ofChange fnExactDeadlineOfSpec)

/-- ITS FALSE NEIGHBOUR: 'it returns false'. Refute it at one input. -/
def fnExactDeadlineOfWrong : ChangeSpec := { name := "fnExactDeadlineOf", fn := fun _ => fun
  | [d1, d2, d3] => { results := [.lit (.bool false)], args := [d1, d2, d3] }
  | _ => none }
def FnExactDeadlineOfWrongFalsely : Prop := fnExactDeadlineOfRow.holds Try.pinned (OpenSpec.ofChange fnExactDeadlineOfWrong)

/-- 'laws.FnExactLastCourtDay': WHATEVER THE INPUT: true; the input reads as it did. -/
def fnExactLastCourtDaySpec : ChangeSpec := { name := "fnExactLastCourtDay", fn := fun _ => fun
  | [d1, d2] => { results := [.lit (.bool true)], args := [d1, d2] }
  | _ => none }
def fnExactLastCourtDayRow : OpenClaim := { program := "ytbmfekhhfacjeaa", sum := "3a55f60446123de5562246bde89b6e710c32cf6213e1d77ce4ae07948b71613c", func := "loop.example/g01027/laws.FnExactLastCourtDay", spec := "fnExactLastCourtDay", apart := false }
def FnExactLastCourtDaySaid : Prop := fnExactLastCourtDayRow.holds Try.pinned (OpenSpec.ofChange fnExactLastCourtDaySpec)

/-- ITS FALSE NEIGHBOUR: 'it returns false'. Refute it at one input. -/
def fnExactLastCourtDayWrong : ChangeSpec := { name := "fnExactLastCourtDay", fn := fun _ => fun
  | [d1, d2] => { results := [.lit (.bool false)], args := [d1, d2] }
  | _ => none }
def FnExactLastCourtDayWrongFalsely : Prop := fnExactLastCourtDayRow.holds Try.pinned (OpenSpec.ofChange fnExactLastCourtDayWrong)

/-- 'laws.FnExactLongestBreak': WHATEVER THE INPUT: true; the input reads as it did. -/
def fnExactLongestBreakSpec : ChangeSpec := { name := "fnExactLongestBreak", fn := fun _ => fun
  | [d1, d2, d3] => { results := [.lit (.bool true)], args := [d1, d2, d3] }
  | _ => none }
def fnExactLongestBreakRow : OpenClaim := { program := "ytbmfekhhfacjeaa", sum := "3a55f60446123de5562246bde89b6e710c32cf6213e1d77ce4ae07948b71613c", func := "loop.example/g01027/laws.FnExactLongestBreak", spec := "fnExactLongestBreak", apart := false }
def FnExactLongestBreakSaid : Prop := fnExactLongestBreakRow.holds Try.pinned (OpenSpec.ofChange fnExactLongestBreakSpec)

/-- ITS FALSE NEIGHBOUR: 'it returns false'. Refute it at one input. -/
def fnExactLongestBreakWrong : ChangeSpec := { name := "fnExactLongestBreak", fn := fun _ => fun
  | [d1, d2, d3] => { results := [.lit (.bool false)], args := [d1, d2, d3] }
  | _ => none }
def FnExactLongestBreakWrongFalsely : Prop := fnExactLongestBreakRow.holds Try.pinned (OpenSpec.ofChange fnExactLongestBreakWrong)

/- THE SECOND FORM. 'bulk': how many values and letters a reading holds, each counted each time it is reached (what is shared counts as often as it is met; a slice's spare places count too). A statement '..UptoSaid' is the law's where the arguments, and the package variables that the reading takes, are together of bulk at most 1048576: NARROWER than '..Said'. Prove '..Said' where nothing that the law and all that it calls make is longer than what came in: it says more and counts as full. Else prove '..UptoSaid'. A law counts once. -/
mutual
def uptoBulk {H : Type} : DataW H → Nat
  | .lit (.string bytes) => bytes.length + 1
  | .lit _ => 1
  | .nil => 1
  | .ptr d => uptoBulk d + 1
  | .slice elems spare => uptoBulkAll elems + uptoBulkAll spare + 1
  | .agg parts => uptoBulkAll parts + 1
  | .iface _ d => uptoBulk d + 1
  | .map entries => uptoBulkEntries entries + 1
  | .held _ => 1
def uptoBulkAll {H : Type} : List (DataW H) → Nat
  | [] => 0
  | d :: r => uptoBulk d + uptoBulkAll r
def uptoBulkEntries {H : Type} : List (Lit × DataW H) → Nat
  | [] => 0
  | x :: r => uptoBulkEntry x + uptoBulkEntries r
def uptoBulkEntry {H : Type} : Lit × DataW H → Nat
  | (.string bytes, d) => bytes.length + uptoBulk d + 1
  | (_, d) => uptoBulk d + 1
 end
def uptoSmall : (H : Type) → List (DataW H) → Bool := fun _ ds => decide (uptoBulkAll ds ≤ 1048576)
def OpenSpec.upto (s : _root_.Go.ChangeSpec) : _root_.Go.OpenSpec := { _root_.Go.OpenSpec.ofChange s with cond := some uptoSmall }

/-- 'laws.FnCourtDays', WHERE WHAT IT READS IS OF BULK AT MOST 1048576: true; the input reads as it did. -/
def fnCourtDaysUptoRow : OpenClaim := { program := "ytbmfekhhfacjeaa", sum := "3a55f60446123de5562246bde89b6e710c32cf6213e1d77ce4ae07948b71613c", func := "loop.example/g01027/laws.FnCourtDays", spec := "fnCourtDays", apart := false, narrowed := true }
def FnCourtDaysUptoSaid : Prop := fnCourtDaysUptoRow.holds Try.pinned (OpenSpec.upto fnCourtDaysSpec)

/-- 'laws.FnDeadlines', WHERE WHAT IT READS IS OF BULK AT MOST 1048576: true; the input reads as it did. -/
def fnDeadlinesUptoRow : OpenClaim := { program := "ytbmfekhhfacjeaa", sum := "3a55f60446123de5562246bde89b6e710c32cf6213e1d77ce4ae07948b71613c", func := "loop.example/g01027/laws.FnDeadlines", spec := "fnDeadlines", apart := false, narrowed := true }
def FnDeadlinesUptoSaid : Prop := fnDeadlinesUptoRow.holds Try.pinned (OpenSpec.upto fnDeadlinesSpec)

/-- 'laws.FnBreaks', WHERE WHAT IT READS IS OF BULK AT MOST 1048576: true; the input reads as it did. -/
def fnBreaksUptoRow : OpenClaim := { program := "ytbmfekhhfacjeaa", sum := "3a55f60446123de5562246bde89b6e710c32cf6213e1d77ce4ae07948b71613c", func := "loop.example/g01027/laws.FnBreaks", spec := "fnBreaks", apart := false, narrowed := true }
def FnBreaksUptoSaid : Prop := fnBreaksUptoRow.holds Try.pinned (OpenSpec.upto fnBreaksSpec)

/-- 'laws.FnExactIsCourtDay', WHERE WHAT IT READS IS OF BULK AT MOST 1048576: true; the input reads as it did. -/
def fnExactIsCourtDayUptoRow : OpenClaim := { program := "ytbmfekhhfacjeaa", sum := "3a55f60446123de5562246bde89b6e710c32cf6213e1d77ce4ae07948b71613c", func := "loop.example/g01027/laws.FnExactIsCourtDay", spec := "fnExactIsCourtDay", apart := false, narrowed := true }
def FnExactIsCourtDayUptoSaid : Prop := fnExactIsCourtDayUptoRow.holds Try.pinned (OpenSpec.upto fnExactIsCourtDaySpec)

/-- 'laws.FnExactNextCourtDay', WHERE WHAT IT READS IS OF BULK AT MOST 1048576: true; the input reads as it did. -/
def fnExactNextCourtDayUptoRow : OpenClaim := { program := "ytbmfekhhfacjeaa", sum := "3a55f60446123de5562246bde89b6e710c32cf6213e1d77ce4ae07948b71613c", func := "loop.example/g01027/laws.FnExactNextCourtDay", spec := "fnExactNextCourtDay", apart := false, narrowed := true }
def FnExactNextCourtDayUptoSaid : Prop := fnExactNextCourtDayUptoRow.holds Try.pinned (OpenSpec.upto fnExactNextCourtDaySpec)

/-- 'laws.FnExactAddCourtDays', WHERE WHAT IT READS IS OF BULK AT MOST 1048576: true; the input reads as it did. -/
def fnExactAddCourtDaysUptoRow : OpenClaim := { program := "ytbmfekhhfacjeaa", sum := "3a55f60446123de5562246bde89b6e710c32cf6213e1d77ce4ae07948b71613c", func := "loop.example/g01027/laws.FnExactAddCourtDays", spec := "fnExactAddCourtDays", apart := false, narrowed := true }
def FnExactAddCourtDaysUptoSaid : Prop := fnExactAddCourtDaysUptoRow.holds Try.pinned (OpenSpec.upto fnExactAddCourtDaysSpec)

/-- 'laws.FnExactCountCourtDays', WHERE WHAT IT READS IS OF BULK AT MOST 1048576: true; the input reads as it did. -/
def fnExactCountCourtDaysUptoRow : OpenClaim := { program := "ytbmfekhhfacjeaa", sum := "3a55f60446123de5562246bde89b6e710c32cf6213e1d77ce4ae07948b71613c", func := "loop.example/g01027/laws.FnExactCountCourtDays", spec := "fnExactCountCourtDays", apart := false, narrowed := true }
def FnExactCountCourtDaysUptoSaid : Prop := fnExactCountCourtDaysUptoRow.holds Try.pinned (OpenSpec.upto fnExactCountCourtDaysSpec)

/-- 'laws.FnExactDeadlineOf', WHERE WHAT IT READS IS OF BULK AT MOST 1048576: true; the input reads as it did. -/
def fnExactDeadlineOfUptoRow : OpenClaim := { program := "ytbmfekhhfacjeaa", sum := "3a55f60446123de5562246bde89b6e710c32cf6213e1d77ce4ae07948b71613c", func := "loop.example/g01027/laws.FnExactDeadlineOf", spec := "fnExactDeadlineOf", apart := false, narrowed := true }
def FnExactDeadlineOfUptoSaid : Prop := fnExactDeadlineOfUptoRow.holds Try.pinned (OpenSpec.upto fnExactDeadlineOfSpec)

/-- 'laws.FnExactLastCourtDay', WHERE WHAT IT READS IS OF BULK AT MOST 1048576: true; the input reads as it did. -/
def fnExactLastCourtDayUptoRow : OpenClaim := { program := "ytbmfekhhfacjeaa", sum := "3a55f60446123de5562246bde89b6e710c32cf6213e1d77ce4ae07948b71613c", func := "loop.example/g01027/laws.FnExactLastCourtDay", spec := "fnExactLastCourtDay", apart := false, narrowed := true }
def FnExactLastCourtDayUptoSaid : Prop := fnExactLastCourtDayUptoRow.holds Try.pinned (OpenSpec.upto fnExactLastCourtDaySpec)

/-- 'laws.FnExactLongestBreak', WHERE WHAT IT READS IS OF BULK AT MOST 1048576: true; the input reads as it did. -/
def fnExactLongestBreakUptoRow : OpenClaim := { program := "ytbmfekhhfacjeaa", sum := "3a55f60446123de5562246bde89b6e710c32cf6213e1d77ce4ae07948b71613c", func := "loop.example/g01027/laws.FnExactLongestBreak", spec := "fnExactLongestBreak", apart := false, narrowed := true }
def FnExactLongestBreakUptoSaid : Prop := fnExactLongestBreakUptoRow.holds Try.pinned (OpenSpec.upto fnExactLongestBreakSpec)

end Rows
end Go.Proofs.Ytbmfekhhfacjeaa
