/-
  No cell of these rows narrows 'for every input' (looked for: loops, veiled, ifaces, maps, wideKeys, modest, calm, conditions, laid).
  DERIVED. THE GIVEN ROWS OF THIS SEAT. 10 by the template 'for every input the law returns true; each argument reads behind the call as it read before'; 0 by the template 'total and deterministic' (their statements: YtblbmmajobefiaaTotals.lean).
  GIVEN WITH THE SEED: the statements are not yours to turn. If you find one false, say at which input.
  Laid BY PROGRAM, IN A SANDBOX (cutbox-rows.mjs): the forced cells as the released guide's own fill.sh prints them over the translation 8b3cf7564bd7aab3… (all of the seat's roots in one cut). By AI agents, Wed Nov 11 2026. No macro, syntax, notation, axiom, sorry.
-/
import Derived.Test.YtblbmmajobefiaaChecked
import GoSem.Claim
import GoSem.ClaimJoined
import GoSem.ClaimMapViews
import Derived.JoinedTies
import Derived.KernelRfl
namespace Go.Proofs.Ytblbmmajobefiaa
/- THE CELL 'sum', in the pinned program and in every row, IS THE sha256 OF THE DUMP (.gsa) THAT YtblbmmajobefiaaProg.lean LOADS. Nothing in Lean hashes anything: it is a label: what it is worth is what the hold of that sum in a sandbox is worth. -/
noncomputable def Try.pinned : Pinned := { name := "ytblbmmajobefiaa", sum := "8b3cf7564bd7aab3491d1955e117f962e03943633eed802918bd3ebfc6dde5be", checked := Try.checked }
namespace Rows
def none {H : Type} : Left H := { results := [], args := [] }

/-- 'laws.FnTerms': WHATEVER THE INPUT: true; the input reads as it did. -/
def fnTermsSpec : ChangeSpec := { name := "fnTerms", fn := fun _ => fun
  | [d] => { results := [.lit (.bool true)], args := [d] }
  | _ => none }
def fnTermsRow : OpenClaim := { program := "ytblbmmajobefiaa", sum := "8b3cf7564bd7aab3491d1955e117f962e03943633eed802918bd3ebfc6dde5be", func := "loop.example/g01027/laws.FnTerms", spec := "fnTerms", unfollowed := true, recurses := true, apart := false }
def FnTermsSaid : Prop := fnTermsRow.holds Try.pinned (OpenSpec.ofChange fnTermsSpec)

/-- ITS FALSE NEIGHBOUR: 'it returns false'. Refute it at one input. -/
def fnTermsWrong : ChangeSpec := { name := "fnTerms", fn := fun _ => fun
  | [d] => { results := [.lit (.bool false)], args := [d] }
  | _ => none }
def FnTermsWrongFalsely : Prop := fnTermsRow.holds Try.pinned (OpenSpec.ofChange fnTermsWrong)

/-- 'laws.FnServing': WHATEVER THE INPUT: true; the input reads as it did. -/
def fnServingSpec : ChangeSpec := { name := "fnServing", fn := fun _ => fun
  | [d] => { results := [.lit (.bool true)], args := [d] }
  | _ => none }
def fnServingRow : OpenClaim := { program := "ytblbmmajobefiaa", sum := "8b3cf7564bd7aab3491d1955e117f962e03943633eed802918bd3ebfc6dde5be", func := "loop.example/g01027/laws.FnServing", spec := "fnServing", unfollowed := true, recurses := true, apart := false }
def FnServingSaid : Prop := fnServingRow.holds Try.pinned (OpenSpec.ofChange fnServingSpec)

/-- ITS FALSE NEIGHBOUR: 'it returns false'. Refute it at one input. -/
def fnServingWrong : ChangeSpec := { name := "fnServing", fn := fun _ => fun
  | [d] => { results := [.lit (.bool false)], args := [d] }
  | _ => none }
def FnServingWrongFalsely : Prop := fnServingRow.holds Try.pinned (OpenSpec.ofChange fnServingWrong)

/-- 'laws.FnExactAreTerms': WHATEVER THE INPUT: true; the input reads as it did. -/
def fnExactAreTermsSpec : ChangeSpec := { name := "fnExactAreTerms", fn := fun _ => fun
  | [d] => { results := [.lit (.bool true)], args := [d] }
  | _ => none }
def fnExactAreTermsRow : OpenClaim := { program := "ytblbmmajobefiaa", sum := "8b3cf7564bd7aab3491d1955e117f962e03943633eed802918bd3ebfc6dde5be", func := "loop.example/g01027/laws.FnExactAreTerms", spec := "fnExactAreTerms", unfollowed := true, recurses := true, apart := false }
def FnExactAreTermsSaid : Prop := fnExactAreTermsRow.holds Try.pinned (OpenSpec.ofChange fnExactAreTermsSpec)

/-- ITS FALSE NEIGHBOUR: 'it returns false'. Refute it at one input. -/
def fnExactAreTermsWrong : ChangeSpec := { name := "fnExactAreTerms", fn := fun _ => fun
  | [d] => { results := [.lit (.bool false)], args := [d] }
  | _ => none }
def FnExactAreTermsWrongFalsely : Prop := fnExactAreTermsRow.holds Try.pinned (OpenSpec.ofChange fnExactAreTermsWrong)

/-- 'laws.FnExactAddTerm': WHATEVER THE INPUT: true; the input reads as it did. -/
def fnExactAddTermSpec : ChangeSpec := { name := "fnExactAddTerm", fn := fun _ => fun
  | [d1, d2] => { results := [.lit (.bool true)], args := [d1, d2] }
  | _ => none }
def fnExactAddTermRow : OpenClaim := { program := "ytblbmmajobefiaa", sum := "8b3cf7564bd7aab3491d1955e117f962e03943633eed802918bd3ebfc6dde5be", func := "loop.example/g01027/laws.FnExactAddTerm", spec := "fnExactAddTerm", unfollowed := true, recurses := true, apart := false }
def FnExactAddTermSaid : Prop := fnExactAddTermRow.holds Try.pinned (OpenSpec.ofChange fnExactAddTermSpec)

/-- ITS FALSE NEIGHBOUR: 'it returns false'. Refute it at one input. -/
def fnExactAddTermWrong : ChangeSpec := { name := "fnExactAddTerm", fn := fun _ => fun
  | [d1, d2] => { results := [.lit (.bool false)], args := [d1, d2] }
  | _ => none }
def FnExactAddTermWrongFalsely : Prop := fnExactAddTermRow.holds Try.pinned (OpenSpec.ofChange fnExactAddTermWrong)

/-- 'laws.FnExactDaysServed': WHATEVER THE INPUT: true; the input reads as it did. -/
def fnExactDaysServedSpec : ChangeSpec := { name := "fnExactDaysServed", fn := fun _ => fun
  | [d1, d2] => { results := [.lit (.bool true)], args := [d1, d2] }
  | _ => none }
def fnExactDaysServedRow : OpenClaim := { program := "ytblbmmajobefiaa", sum := "8b3cf7564bd7aab3491d1955e117f962e03943633eed802918bd3ebfc6dde5be", func := "loop.example/g01027/laws.FnExactDaysServed", spec := "fnExactDaysServed", unfollowed := true, recurses := true, apart := false }
def FnExactDaysServedSaid : Prop := fnExactDaysServedRow.holds Try.pinned (OpenSpec.ofChange fnExactDaysServedSpec)

/-- ITS FALSE NEIGHBOUR: 'it returns false'. Refute it at one input. -/
def fnExactDaysServedWrong : ChangeSpec := { name := "fnExactDaysServed", fn := fun _ => fun
  | [d1, d2] => { results := [.lit (.bool false)], args := [d1, d2] }
  | _ => none }
def FnExactDaysServedWrongFalsely : Prop := fnExactDaysServedRow.holds Try.pinned (OpenSpec.ofChange fnExactDaysServedWrong)

/-- 'laws.FnExactIsRested': WHATEVER THE INPUT: true; the input reads as it did. -/
def fnExactIsRestedSpec : ChangeSpec := { name := "fnExactIsRested", fn := fun _ => fun
  | [d1, d2, d3] => { results := [.lit (.bool true)], args := [d1, d2, d3] }
  | _ => none }
def fnExactIsRestedRow : OpenClaim := { program := "ytblbmmajobefiaa", sum := "8b3cf7564bd7aab3491d1955e117f962e03943633eed802918bd3ebfc6dde5be", func := "loop.example/g01027/laws.FnExactIsRested", spec := "fnExactIsRested", unfollowed := true, recurses := true, apart := false }
def FnExactIsRestedSaid : Prop := fnExactIsRestedRow.holds Try.pinned (OpenSpec.ofChange fnExactIsRestedSpec)

/-- ITS FALSE NEIGHBOUR: 'it returns false'. Refute it at one input. -/
def fnExactIsRestedWrong : ChangeSpec := { name := "fnExactIsRested", fn := fun _ => fun
  | [d1, d2, d3] => { results := [.lit (.bool false)], args := [d1, d2, d3] }
  | _ => none }
def FnExactIsRestedWrongFalsely : Prop := fnExactIsRestedRow.holds Try.pinned (OpenSpec.ofChange fnExactIsRestedWrong)

/-- 'laws.FnExactRestedFrom': WHATEVER THE INPUT: true; the input reads as it did. -/
def fnExactRestedFromSpec : ChangeSpec := { name := "fnExactRestedFrom", fn := fun _ => fun
  | [d1, d2, d3] => { results := [.lit (.bool true)], args := [d1, d2, d3] }
  | _ => none }
def fnExactRestedFromRow : OpenClaim := { program := "ytblbmmajobefiaa", sum := "8b3cf7564bd7aab3491d1955e117f962e03943633eed802918bd3ebfc6dde5be", func := "loop.example/g01027/laws.FnExactRestedFrom", spec := "fnExactRestedFrom", unfollowed := true, recurses := true, apart := false }
def FnExactRestedFromSaid : Prop := fnExactRestedFromRow.holds Try.pinned (OpenSpec.ofChange fnExactRestedFromSpec)

/-- ITS FALSE NEIGHBOUR: 'it returns false'. Refute it at one input. -/
def fnExactRestedFromWrong : ChangeSpec := { name := "fnExactRestedFrom", fn := fun _ => fun
  | [d1, d2, d3] => { results := [.lit (.bool false)], args := [d1, d2, d3] }
  | _ => none }
def FnExactRestedFromWrongFalsely : Prop := fnExactRestedFromRow.holds Try.pinned (OpenSpec.ofChange fnExactRestedFromWrong)

/-- 'laws.FnExactServingOn': WHATEVER THE INPUT: true; the input reads as it did. -/
def fnExactServingOnSpec : ChangeSpec := { name := "fnExactServingOn", fn := fun _ => fun
  | [d1, d2] => { results := [.lit (.bool true)], args := [d1, d2] }
  | _ => none }
def fnExactServingOnRow : OpenClaim := { program := "ytblbmmajobefiaa", sum := "8b3cf7564bd7aab3491d1955e117f962e03943633eed802918bd3ebfc6dde5be", func := "loop.example/g01027/laws.FnExactServingOn", spec := "fnExactServingOn", unfollowed := true, recurses := true, apart := false }
def FnExactServingOnSaid : Prop := fnExactServingOnRow.holds Try.pinned (OpenSpec.ofChange fnExactServingOnSpec)

/-- ITS FALSE NEIGHBOUR: 'it returns false'. Refute it at one input. -/
def fnExactServingOnWrong : ChangeSpec := { name := "fnExactServingOn", fn := fun _ => fun
  | [d1, d2] => { results := [.lit (.bool false)], args := [d1, d2] }
  | _ => none }
def FnExactServingOnWrongFalsely : Prop := fnExactServingOnRow.holds Try.pinned (OpenSpec.ofChange fnExactServingOnWrong)

/-- 'laws.FnExactOverServed': WHATEVER THE INPUT: true; the input reads as it did. -/
def fnExactOverServedSpec : ChangeSpec := { name := "fnExactOverServed", fn := fun _ => fun
  | [d] => { results := [.lit (.bool true)], args := [d] }
  | _ => none }
def fnExactOverServedRow : OpenClaim := { program := "ytblbmmajobefiaa", sum := "8b3cf7564bd7aab3491d1955e117f962e03943633eed802918bd3ebfc6dde5be", func := "loop.example/g01027/laws.FnExactOverServed", spec := "fnExactOverServed", unfollowed := true, recurses := true, apart := false }
def FnExactOverServedSaid : Prop := fnExactOverServedRow.holds Try.pinned (OpenSpec.ofChange fnExactOverServedSpec)

/-- ITS FALSE NEIGHBOUR: 'it returns false'. Refute it at one input. -/
def fnExactOverServedWrong : ChangeSpec := { name := "fnExactOverServed", fn := fun _ => fun
  | [d] => { results := [.lit (.bool false)], args := [d] }
  | _ => none }
def FnExactOverServedWrongFalsely : Prop := fnExactOverServedRow.holds Try.pinned (OpenSpec.ofChange fnExactOverServedWrong)

/-- 'laws.FnExactBusiestDay': WHATEVER THE INPUT: true; the input reads as it did. -/
def fnExactBusiestDaySpec : ChangeSpec := { name := "fnExactBusiestDay", fn := fun _ => fun
  | [d] => { results := [.lit (.bool true)], args := [d] }
  | _ => none }
def fnExactBusiestDayRow : OpenClaim := { program := "ytblbmmajobefiaa", sum := "8b3cf7564bd7aab3491d1955e117f962e03943633eed802918bd3ebfc6dde5be", func := "loop.example/g01027/laws.FnExactBusiestDay", spec := "fnExactBusiestDay", unfollowed := true, recurses := true, apart := false }
def FnExactBusiestDaySaid : Prop := fnExactBusiestDayRow.holds Try.pinned (OpenSpec.ofChange fnExactBusiestDaySpec)

/-- ITS FALSE NEIGHBOUR: 'it returns false'. Refute it at one input. -/
def fnExactBusiestDayWrong : ChangeSpec := { name := "fnExactBusiestDay", fn := fun _ => fun
  | [d] => { results := [.lit (.bool false)], args := [d] }
  | _ => none }
def FnExactBusiestDayWrongFalsely : Prop := fnExactBusiestDayRow.holds Try.pinned (OpenSpec.ofChange fnExactBusiestDayWrong)

/- THE SECOND FORM. 'bulk': how many values and letters a reading holds, each counted each time it is reached (what is shared counts as often as it is met; a slice's spare places count too). A statement '..UptoSaid' is the law's where the arguments, and the package variables that the reading takes, are together of bulk at most 1048576: NARROWER than '..Said'. Prove '..Said' where nothing that the law and all that it calls make is longer than what came in: it says more and counts as full. Else prove '..UptoSaid'. A law counts once. -/
mutual
def uptoBulk {H : Type} : DataW H → Nat
  | .lit (.string bytes) => bytes.length + 1
  | .lit _ => 1
  | .nil => 1
  | .ptr d => uptoBulk d + 1
  | .slice elems spare => uptoBulkAll elems + uptoBulkAll spare + 1
  | .agg parts => uptoBulkAll parts + 1
  | .iface _ d => uptoBulk d + 1
  | .map entries => uptoBulkEntries entries + 1
  | .held _ => 1
def uptoBulkAll {H : Type} : List (DataW H) → Nat
  | [] => 0
  | d :: r => uptoBulk d + uptoBulkAll r
def uptoBulkEntries {H : Type} : List (Lit × DataW H) → Nat
  | [] => 0
  | x :: r => uptoBulkEntry x + uptoBulkEntries r
def uptoBulkEntry {H : Type} : Lit × DataW H → Nat
  | (.string bytes, d) => bytes.length + uptoBulk d + 1
  | (_, d) => uptoBulk d + 1
 end
def uptoSmall : (H : Type) → List (DataW H) → Bool := fun _ ds => decide (uptoBulkAll ds ≤ 1048576)
def OpenSpec.upto (s : _root_.Go.ChangeSpec) : _root_.Go.OpenSpec := { _root_.Go.OpenSpec.ofChange s with cond := some uptoSmall }

/-- 'laws.FnTerms', WHERE WHAT IT READS IS OF BULK AT MOST 1048576: true; the input reads as it did. -/
def fnTermsUptoRow : OpenClaim := { program := "ytblbmmajobefiaa", sum := "8b3cf7564bd7aab3491d1955e117f962e03943633eed802918bd3ebfc6dde5be", func := "loop.example/g01027/laws.FnTerms", spec := "fnTerms", unfollowed := true, recurses := true, apart := false, narrowed := true }
def FnTermsUptoSaid : Prop := fnTermsUptoRow.holds Try.pinned (OpenSpec.upto fnTermsSpec)

/-- 'laws.FnServing', WHERE WHAT IT READS IS OF BULK AT MOST 1048576: true; the input reads as it did. -/
def fnServingUptoRow : OpenClaim := { program := "ytblbmmajobefiaa", sum := "8b3cf7564bd7aab3491d1955e117f962e03943633eed802918bd3ebfc6dde5be", func := "loop.example/g01027/laws.FnServing", spec := "fnServing", unfollowed := true, recurses := true, apart := false, narrowed := true }
def FnServingUptoSaid : Prop := fnServingUptoRow.holds Try.pinned (OpenSpec.upto fnServingSpec)

/-- 'laws.FnExactAreTerms', WHERE WHAT IT READS IS OF BULK AT MOST 1048576: true; the input reads as it did. -/
def fnExactAreTermsUptoRow : OpenClaim := { program := "ytblbmmajobefiaa", sum := "8b3cf7564bd7aab3491d1955e117f962e03943633eed802918bd3ebfc6dde5be", func := "loop.example/g01027/laws.FnExactAreTerms", spec := "fnExactAreTerms", unfollowed := true, recurses := true, apart := false, narrowed := true }
def FnExactAreTermsUptoSaid : Prop := fnExactAreTermsUptoRow.holds Try.pinned (OpenSpec.upto fnExactAreTermsSpec)

/-- 'laws.FnExactAddTerm', WHERE WHAT IT READS IS OF BULK AT MOST 1048576: true; the input reads as it did. -/
def fnExactAddTermUptoRow : OpenClaim := { program := "ytblbmmajobefiaa", sum := "8b3cf7564bd7aab3491d1955e117f962e03943633eed802918bd3ebfc6dde5be", func := "loop.example/g01027/laws.FnExactAddTerm", spec := "fnExactAddTerm", unfollowed := true, recurses := true, apart := false, narrowed := true }
def FnExactAddTermUptoSaid : Prop := fnExactAddTermUptoRow.holds Try.pinned (OpenSpec.upto fnExactAddTermSpec)

/-- 'laws.FnExactDaysServed', WHERE WHAT IT READS IS OF BULK AT MOST 1048576: true; the input reads as it did. -/
def fnExactDaysServedUptoRow : OpenClaim := { program := "ytblbmmajobefiaa", sum := "8b3cf7564bd7aab3491d1955e117f962e03943633eed802918bd3ebfc6dde5be", func := "loop.example/g01027/laws.FnExactDaysServed", spec := "fnExactDaysServed", unfollowed := true, recurses := true, apart := false, narrowed := true }
def FnExactDaysServedUptoSaid : Prop := fnExactDaysServedUptoRow.holds Try.pinned (OpenSpec.upto fnExactDaysServedSpec)

/-- 'laws.FnExactIsRested', WHERE WHAT IT READS IS OF BULK AT MOST 1048576: true; the input reads as it did. -/
def fnExactIsRestedUptoRow : OpenClaim := { program := "ytblbmmajobefiaa", sum := "8b3cf7564bd7aab3491d1955e117f962e03943633eed802918bd3ebfc6dde5be", func := "loop.example/g01027/laws.FnExactIsRested", spec := "fnExactIsRested", unfollowed := true, recurses := true, apart := false, narrowed := true }
def FnExactIsRestedUptoSaid : Prop := fnExactIsRestedUptoRow.holds Try.pinned (OpenSpec.upto fnExactIsRestedSpec)

/-- 'laws.FnExactRestedFrom', WHERE WHAT IT READS IS OF BULK AT MOST 1048576: true; the input reads as it did. -/
def fnExactRestedFromUptoRow : OpenClaim := { program := "ytblbmmajobefiaa", sum := "8b3cf7564bd7aab3491d1955e117f962e03943633eed802918bd3ebfc6dde5be", func := "loop.example/g01027/laws.FnExactRestedFrom", spec := "fnExactRestedFrom", unfollowed := true, recurses := true, apart := false, narrowed := true }
def FnExactRestedFromUptoSaid : Prop := fnExactRestedFromUptoRow.holds Try.pinned (OpenSpec.upto fnExactRestedFromSpec)

/-- 'laws.FnExactServingOn', WHERE WHAT IT READS IS OF BULK AT MOST 1048576: true; the input reads as it did. -/
def fnExactServingOnUptoRow : OpenClaim := { program := "ytblbmmajobefiaa", sum := "8b3cf7564bd7aab3491d1955e117f962e03943633eed802918bd3ebfc6dde5be", func := "loop.example/g01027/laws.FnExactServingOn", spec := "fnExactServingOn", unfollowed := true, recurses := true, apart := false, narrowed := true }
def FnExactServingOnUptoSaid : Prop := fnExactServingOnUptoRow.holds Try.pinned (OpenSpec.upto fnExactServingOnSpec)

/-- 'laws.FnExactOverServed', WHERE WHAT IT READS IS OF BULK AT MOST 1048576: true; the input reads as it did. -/
def fnExactOverServedUptoRow : OpenClaim := { program := "ytblbmmajobefiaa", sum := "8b3cf7564bd7aab3491d1955e117f962e03943633eed802918bd3ebfc6dde5be", func := "loop.example/g01027/laws.FnExactOverServed", spec := "fnExactOverServed", unfollowed := true, recurses := true, apart := false, narrowed := true }
def FnExactOverServedUptoSaid : Prop := fnExactOverServedUptoRow.holds Try.pinned (OpenSpec.upto fnExactOverServedSpec)

/-- 'laws.FnExactBusiestDay', WHERE WHAT IT READS IS OF BULK AT MOST 1048576: true; the input reads as it did. -/
def fnExactBusiestDayUptoRow : OpenClaim := { program := "ytblbmmajobefiaa", sum := "8b3cf7564bd7aab3491d1955e117f962e03943633eed802918bd3ebfc6dde5be", func := "loop.example/g01027/laws.FnExactBusiestDay", spec := "fnExactBusiestDay", unfollowed := true, recurses := true, apart := false, narrowed := true }
def FnExactBusiestDayUptoSaid : Prop := fnExactBusiestDayUptoRow.holds Try.pinned (OpenSpec.upto fnExactBusiestDaySpec)

end Rows
end Go.Proofs.Ytblbmmajobefiaa
