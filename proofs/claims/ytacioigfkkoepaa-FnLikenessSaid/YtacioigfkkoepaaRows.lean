/-
  No cell of these rows narrows 'for every input' (looked for: loops, veiled, ifaces, maps, wideKeys, modest, calm, conditions, laid).
  DERIVED. THE GIVEN ROWS OF THIS SEAT. 7 by the template 'for every input the law returns true; each argument reads behind the call as it read before'; 0 by the template 'total and deterministic' (their statements: YtacioigfkkoepaaTotals.lean).
  GIVEN WITH THE SEED: the statements are not yours to turn. If you find one false, say at which input.
  Laid BY PROGRAM, IN A SANDBOX (cutbox-rows.mjs): the forced cells as the released guide's own fill.sh prints them over the translation bcd1147817bbd938… (all of the seat's roots in one cut). By AI agents, Wed Nov 11 2026. No macro, syntax, notation, axiom, sorry.
-/
import Derived.Test.YtacioigfkkoepaaChecked
import GoSem.Claim
import GoSem.ClaimJoined
import GoSem.ClaimMapViews
import Derived.JoinedTies
import Derived.KernelRfl
namespace Go.Proofs.Ytacioigfkkoepaa
/- THE CELL 'sum', in the pinned program and in every row, IS THE sha256 OF THE DUMP (.gsa) THAT YtacioigfkkoepaaProg.lean LOADS. Nothing in Lean hashes anything: it is a label: what it is worth is what the hold of that sum in a sandbox is worth. -/
noncomputable def Try.pinned : Pinned := { name := "ytacioigfkkoepaa", sum := "bcd1147817bbd9388315330adcbfd59fa88d8edda187bb9c7f8b79365855a27a", checked := Try.checked }
namespace Rows
def none {H : Type} : Left H := { results := [], args := [] }

/-- 'laws.FnLikeness': WHATEVER THE INPUT: true; the input reads as it did. -/
def fnLikenessSpec : ChangeSpec := { name := "fnLikeness", fn := fun _ => fun
  | [d] => { results := [.lit (.bool true)], args := [d] }
  | _ => none }
def fnLikenessRow : OpenClaim := { program := "ytacioigfkkoepaa", sum := "bcd1147817bbd9388315330adcbfd59fa88d8edda187bb9c7f8b79365855a27a", func := "loop.example/g01027/laws.FnLikeness", spec := "fnLikeness", unfollowed := true, recurses := true, plainKeys := false, apart := false }
def FnLikenessSaid : Prop := fnLikenessRow.holds Try.pinned (OpenSpec.ofChange fnLikenessSpec)

/-- ITS FALSE NEIGHBOUR: 'it returns false'. Refute it at one input. -/
def fnLikenessWrong : ChangeSpec := { name := "fnLikeness", fn := fun _ => fun
  | [d] => { results := [.lit (.bool false)], args := [d] }
  | _ => none }
def FnLikenessWrongFalsely : Prop := fnLikenessRow.holds Try.pinned (OpenSpec.ofChange fnLikenessWrong)

/-- 'laws.FnExactIsPerson': WHATEVER THE INPUT: true; the input reads as it did. -/
def fnExactIsPersonSpec : ChangeSpec := { name := "fnExactIsPerson", fn := fun _ => fun
  | [d] => { results := [.lit (.bool true)], args := [d] }
  | _ => none }
def fnExactIsPersonRow : OpenClaim := { program := "ytacioigfkkoepaa", sum := "bcd1147817bbd9388315330adcbfd59fa88d8edda187bb9c7f8b79365855a27a", func := "loop.example/g01027/laws.FnExactIsPerson", spec := "fnExactIsPerson", plainKeys := false, apart := false }
def FnExactIsPersonSaid : Prop := fnExactIsPersonRow.holds Try.pinned (OpenSpec.ofChange fnExactIsPersonSpec)

/-- ITS FALSE NEIGHBOUR: 'it returns false'. Refute it at one input. -/
def fnExactIsPersonWrong : ChangeSpec := { name := "fnExactIsPerson", fn := fun _ => fun
  | [d] => { results := [.lit (.bool false)], args := [d] }
  | _ => none }
def FnExactIsPersonWrongFalsely : Prop := fnExactIsPersonRow.holds Try.pinned (OpenSpec.ofChange fnExactIsPersonWrong)

/-- 'laws.FnExactArePersons': WHATEVER THE INPUT: true; the input reads as it did. -/
def fnExactArePersonsSpec : ChangeSpec := { name := "fnExactArePersons", fn := fun _ => fun
  | [d] => { results := [.lit (.bool true)], args := [d] }
  | _ => none }
def fnExactArePersonsRow : OpenClaim := { program := "ytacioigfkkoepaa", sum := "bcd1147817bbd9388315330adcbfd59fa88d8edda187bb9c7f8b79365855a27a", func := "loop.example/g01027/laws.FnExactArePersons", spec := "fnExactArePersons", plainKeys := false, apart := false }
def FnExactArePersonsSaid : Prop := fnExactArePersonsRow.holds Try.pinned (OpenSpec.ofChange fnExactArePersonsSpec)

/-- ITS FALSE NEIGHBOUR: 'it returns false'. Refute it at one input. -/
def fnExactArePersonsWrong : ChangeSpec := { name := "fnExactArePersons", fn := fun _ => fun
  | [d] => { results := [.lit (.bool false)], args := [d] }
  | _ => none }
def FnExactArePersonsWrongFalsely : Prop := fnExactArePersonsRow.holds Try.pinned (OpenSpec.ofChange fnExactArePersonsWrong)

/-- 'laws.FnExactLikenessOf': WHATEVER THE INPUT: true; the input reads as it did. -/
def fnExactLikenessOfSpec : ChangeSpec := { name := "fnExactLikenessOf", fn := fun _ => fun
  | [d1, d2] => { results := [.lit (.bool true)], args := [d1, d2] }
  | _ => none }
def fnExactLikenessOfRow : OpenClaim := { program := "ytacioigfkkoepaa", sum := "bcd1147817bbd9388315330adcbfd59fa88d8edda187bb9c7f8b79365855a27a", func := "loop.example/g01027/laws.FnExactLikenessOf", spec := "fnExactLikenessOf", plainKeys := false, apart := false }
def FnExactLikenessOfSaid : Prop := fnExactLikenessOfRow.holds Try.pinned (OpenSpec.ofChange fnExactLikenessOfSpec)

/-- ITS FALSE NEIGHBOUR: 'it returns false'. Refute it at one input. -/
def fnExactLikenessOfWrong : ChangeSpec := { name := "fnExactLikenessOf", fn := fun _ => fun
  | [d1, d2] => { results := [.lit (.bool false)], args := [d1, d2] }
  | _ => none }
def FnExactLikenessOfWrongFalsely : Prop := fnExactLikenessOfRow.holds Try.pinned (OpenSpec.ofChange fnExactLikenessOfWrong)

/-- 'laws.FnExactAreAlike': WHATEVER THE INPUT: true; the input reads as it did. -/
def fnExactAreAlikeSpec : ChangeSpec := { name := "fnExactAreAlike", fn := fun _ => fun
  | [d1, d2, d3] => { results := [.lit (.bool true)], args := [d1, d2, d3] }
  | _ => none }
def fnExactAreAlikeRow : OpenClaim := { program := "ytacioigfkkoepaa", sum := "bcd1147817bbd9388315330adcbfd59fa88d8edda187bb9c7f8b79365855a27a", func := "loop.example/g01027/laws.FnExactAreAlike", spec := "fnExactAreAlike", plainKeys := false, apart := false }
def FnExactAreAlikeSaid : Prop := fnExactAreAlikeRow.holds Try.pinned (OpenSpec.ofChange fnExactAreAlikeSpec)

/-- ITS FALSE NEIGHBOUR: 'it returns false'. Refute it at one input. -/
def fnExactAreAlikeWrong : ChangeSpec := { name := "fnExactAreAlike", fn := fun _ => fun
  | [d1, d2, d3] => { results := [.lit (.bool false)], args := [d1, d2, d3] }
  | _ => none }
def FnExactAreAlikeWrongFalsely : Prop := fnExactAreAlikeRow.holds Try.pinned (OpenSpec.ofChange fnExactAreAlikeWrong)

/-- 'laws.FnExactMostAlike': WHATEVER THE INPUT: true; the input reads as it did. -/
def fnExactMostAlikeSpec : ChangeSpec := { name := "fnExactMostAlike", fn := fun _ => fun
  | [d1, d2] => { results := [.lit (.bool true)], args := [d1, d2] }
  | _ => none }
def fnExactMostAlikeRow : OpenClaim := { program := "ytacioigfkkoepaa", sum := "bcd1147817bbd9388315330adcbfd59fa88d8edda187bb9c7f8b79365855a27a", func := "loop.example/g01027/laws.FnExactMostAlike", spec := "fnExactMostAlike", plainKeys := false, apart := false }
def FnExactMostAlikeSaid : Prop := fnExactMostAlikeRow.holds Try.pinned (OpenSpec.ofChange fnExactMostAlikeSpec)

/-- ITS FALSE NEIGHBOUR: 'it returns false'. Refute it at one input. -/
def fnExactMostAlikeWrong : ChangeSpec := { name := "fnExactMostAlike", fn := fun _ => fun
  | [d1, d2] => { results := [.lit (.bool false)], args := [d1, d2] }
  | _ => none }
def FnExactMostAlikeWrongFalsely : Prop := fnExactMostAlikeRow.holds Try.pinned (OpenSpec.ofChange fnExactMostAlikeWrong)

/-- 'laws.FnExactFindPerson': WHATEVER THE INPUT: true; the input reads as it did. -/
def fnExactFindPersonSpec : ChangeSpec := { name := "fnExactFindPerson", fn := fun _ => fun
  | [d1, d2] => { results := [.lit (.bool true)], args := [d1, d2] }
  | _ => none }
def fnExactFindPersonRow : OpenClaim := { program := "ytacioigfkkoepaa", sum := "bcd1147817bbd9388315330adcbfd59fa88d8edda187bb9c7f8b79365855a27a", func := "loop.example/g01027/laws.FnExactFindPerson", spec := "fnExactFindPerson", unfollowed := true, recurses := true, plainKeys := false, apart := false }
def FnExactFindPersonSaid : Prop := fnExactFindPersonRow.holds Try.pinned (OpenSpec.ofChange fnExactFindPersonSpec)

/-- ITS FALSE NEIGHBOUR: 'it returns false'. Refute it at one input. -/
def fnExactFindPersonWrong : ChangeSpec := { name := "fnExactFindPerson", fn := fun _ => fun
  | [d1, d2] => { results := [.lit (.bool false)], args := [d1, d2] }
  | _ => none }
def FnExactFindPersonWrongFalsely : Prop := fnExactFindPersonRow.holds Try.pinned (OpenSpec.ofChange fnExactFindPersonWrong)

/- THE SECOND FORM. 'bulk': how many values and letters a reading holds, each counted each time it is reached (what is shared counts as often as it is met; a slice's spare places count too). A statement '..UptoSaid' is the law's where the arguments, and the package variables that the reading takes, are together of bulk at most 1048576: NARROWER than '..Said'. Prove '..Said' where nothing that the law and all that it calls make is longer than what came in: it says more and counts as full. Else prove '..UptoSaid'. A law counts once. -/
mutual
def uptoBulk {H : Type} : DataW H → Nat
  | .lit (.string bytes) => bytes.length + 1
  | .lit _ => 1
  | .nil => 1
  | .ptr d => uptoBulk d + 1
  | .slice elems spare => uptoBulkAll elems + uptoBulkAll spare + 1
  | .agg parts => uptoBulkAll parts + 1
  | .iface _ d => uptoBulk d + 1
  | .map entries => uptoBulkEntries entries + 1
  | .held _ => 1
def uptoBulkAll {H : Type} : List (DataW H) → Nat
  | [] => 0
  | d :: r => uptoBulk d + uptoBulkAll r
def uptoBulkEntries {H : Type} : List (Lit × DataW H) → Nat
  | [] => 0
  | x :: r => uptoBulkEntry x + uptoBulkEntries r
def uptoBulkEntry {H : Type} : Lit × DataW H → Nat
  | (.string bytes, d) => bytes.length + uptoBulk d + 1
  | (_, d) => uptoBulk d + 1
 end
def uptoSmall : (H : Type) → List (DataW H) → Bool := fun _ ds => decide (uptoBulkAll ds ≤ 1048576)
def OpenSpec.upto (s : _root_.Go.ChangeSpec) : _root_.Go.OpenSpec := { _root_.Go.OpenSpec.ofChange s with cond := some uptoSmall }

/-- 'laws.FnLikeness', WHERE WHAT IT READS IS OF BULK AT MOST 1048576: true; the input reads as it did. -/
def fnLikenessUptoRow : OpenClaim := { program := "ytacioigfkkoepaa", sum := "bcd1147817bbd9388315330adcbfd59fa88d8edda187bb9c7f8b79365855a27a", func := "loop.example/g01027/laws.FnLikeness", spec := "fnLikeness", unfollowed := true, recurses := true, plainKeys := false, apart := false, narrowed := true }
def FnLikenessUptoSaid : Prop := fnLikenessUptoRow.holds Try.pinned (OpenSpec.upto fnLikenessSpec)

/-- 'laws.FnExactIsPerson', WHERE WHAT IT READS IS OF BULK AT MOST 1048576: true; the input reads as it did. -/
def fnExactIsPersonUptoRow : OpenClaim := { program := "ytacioigfkkoepaa", sum := "bcd1147817bbd9388315330adcbfd59fa88d8edda187bb9c7f8b79365855a27a", func := "loop.example/g01027/laws.FnExactIsPerson", spec := "fnExactIsPerson", plainKeys := false, apart := false, narrowed := true }
def FnExactIsPersonUptoSaid : Prop := fnExactIsPersonUptoRow.holds Try.pinned (OpenSpec.upto fnExactIsPersonSpec)

/-- 'laws.FnExactArePersons', WHERE WHAT IT READS IS OF BULK AT MOST 1048576: true; the input reads as it did. -/
def fnExactArePersonsUptoRow : OpenClaim := { program := "ytacioigfkkoepaa", sum := "bcd1147817bbd9388315330adcbfd59fa88d8edda187bb9c7f8b79365855a27a", func := "loop.example/g01027/laws.FnExactArePersons", spec := "fnExactArePersons", plainKeys := false, apart := false, narrowed := true }
def FnExactArePersonsUptoSaid : Prop := fnExactArePersonsUptoRow.holds Try.pinned (OpenSpec.upto fnExactArePersonsSpec)

/-- 'laws.FnExactLikenessOf', WHERE WHAT IT READS IS OF BULK AT MOST 1048576: true; the input reads as it did. -/
def fnExactLikenessOfUptoRow : OpenClaim := { program := "ytacioigfkkoepaa", sum := "bcd1147817bbd9388315330adcbfd59fa88d8edda187bb9c7f8b79365855a27a", func := "loop.example/g01027/laws.FnExactLikenessOf", spec := "fnExactLikenessOf", plainKeys := false, apart := false, narrowed := true }
def FnExactLikenessOfUptoSaid : Prop := fnExactLikenessOfUptoRow.holds Try.pinned (OpenSpec.upto fnExactLikenessOfSpec)

/-- 'laws.FnExactAreAlike', WHERE WHAT IT READS IS OF BULK AT MOST 1048576: true; the input reads as it did. -/
def fnExactAreAlikeUptoRow : OpenClaim := { program := "ytacioigfkkoepaa", sum := "bcd1147817bbd9388315330adcbfd59fa88d8edda187bb9c7f8b79365855a27a", func := "loop.example/g01027/laws.FnExactAreAlike", spec := "fnExactAreAlike", plainKeys := false, apart := false, narrowed := true }
def FnExactAreAlikeUptoSaid : Prop := fnExactAreAlikeUptoRow.holds Try.pinned (OpenSpec.upto fnExactAreAlikeSpec)

/-- 'laws.FnExactMostAlike', WHERE WHAT IT READS IS OF BULK AT MOST 1048576: true; the input reads as it did. -/
def fnExactMostAlikeUptoRow : OpenClaim := { program := "ytacioigfkkoepaa", sum := "bcd1147817bbd9388315330adcbfd59fa88d8edda187bb9c7f8b79365855a27a", func := "loop.example/g01027/laws.FnExactMostAlike", spec := "fnExactMostAlike", plainKeys := false, apart := false, narrowed := true }
def FnExactMostAlikeUptoSaid : Prop := fnExactMostAlikeUptoRow.holds Try.pinned (OpenSpec.upto fnExactMostAlikeSpec)

/-- 'laws.FnExactFindPerson', WHERE WHAT IT READS IS OF BULK AT MOST 1048576: true; the input reads as it did. -/
def fnExactFindPersonUptoRow : OpenClaim := { program := "ytacioigfkkoepaa", sum := "bcd1147817bbd9388315330adcbfd59fa88d8edda187bb9c7f8b79365855a27a", func := "loop.example/g01027/laws.FnExactFindPerson", spec := "fnExactFindPerson", unfollowed := true, recurses := true, plainKeys := false, apart := false, narrowed := true }
def FnExactFindPersonUptoSaid : Prop := fnExactFindPersonUptoRow.holds Try.pinned (OpenSpec.upto fnExactFindPersonSpec)

end Rows
end Go.Proofs.Ytacioigfkkoepaa
