/-
  No cell of these rows narrows 'for every input' (looked for: loops, veiled, ifaces, maps, wideKeys, modest, calm, conditions, laid).
  DERIVED. THE GIVEN ROWS OF THIS SEAT. 4 by the template 'for every input the law returns true; each argument reads behind the call as it read before'; 0 by the template 'total and deterministic' (their statements: YtlaeceglcmnhbaaTotals.lean).
  GIVEN WITH THE SEED: the statements are not yours to turn. If you find one false, say at which input.
  Laid BY PROGRAM, IN A SANDBOX (cutbox-rows.mjs): the forced cells as the released guide's own fill.sh prints them over the translation e7b031ce4d967aea… (all of the seat's roots in one cut). By AI agents, Wed Nov 11 2026. No macro, syntax, notation, axiom, sorry.
-/
import Derived.Test.YtlaeceglcmnhbaaChecked
import GoSem.Claim
import GoSem.ClaimJoined
import GoSem.ClaimMapViews
import Derived.JoinedTies
import Derived.KernelRfl
namespace Go.Proofs.Ytlaeceglcmnhbaa
/- THE CELL 'sum', in the pinned program and in every row, IS THE sha256 OF THE DUMP (.gsa) THAT YtlaeceglcmnhbaaProg.lean LOADS. Nothing in Lean hashes anything: it is a label: what it is worth is what the hold of that sum in a sandbox is worth. -/
noncomputable def Try.pinned : Pinned := { name := "ytlaeceglcmnhbaa", sum := "e7b031ce4d967aea95f7a09cd6f78b52280937b52ece721c283d0cfc07092909", checked := Try.checked }
namespace Rows
def none {H : Type} : Left H := { results := [], args := [] }

/-- 'laws.FnLikeness': WHATEVER THE INPUT: true; the input reads as it did. -/
def fnLikenessSpec : ChangeSpec := { name := "fnLikeness", fn := fun _ => fun
  | [d] => { results := [.lit (.bool true)], args := [d] }
  | _ => none }
def fnLikenessRow : OpenClaim := { program := "ytlaeceglcmnhbaa", sum := "e7b031ce4d967aea95f7a09cd6f78b52280937b52ece721c283d0cfc07092909", func := "loop.example/g01027/laws.FnLikeness", spec := "fnLikeness", unfollowed := true, recurses := true, plainKeys := false, apart := false }
def FnLikenessSaid : Prop := fnLikenessRow.holds Try.pinned (OpenSpec.ofChange fnLikenessSpec)

/-- ITS FALSE NEIGHBOUR: 'it returns false'. Refute it at one input. -/
def fnLikenessWrong : ChangeSpec := { name := "fnLikeness", fn := fun _ => fun
  | [d] => { results := [.lit (.bool false)], args := [d] }
  | _ => none }
def FnLikenessWrongFalsely : Prop := fnLikenessRow.holds Try.pinned (OpenSpec.ofChange fnLikenessWrong)

/-- 'laws.FnExactArePersons': WHATEVER THE INPUT: true; the input reads as it did. -/
def fnExactArePersonsSpec : ChangeSpec := { name := "fnExactArePersons", fn := fun _ => fun
  | [d] => { results := [.lit (.bool true)], args := [d] }
  | _ => none }
def fnExactArePersonsRow : OpenClaim := { program := "ytlaeceglcmnhbaa", sum := "e7b031ce4d967aea95f7a09cd6f78b52280937b52ece721c283d0cfc07092909", func := "loop.example/g01027/laws.FnExactArePersons", spec := "fnExactArePersons", unfollowed := true, recurses := true, plainKeys := false, apart := false }
def FnExactArePersonsSaid : Prop := fnExactArePersonsRow.holds Try.pinned (OpenSpec.ofChange fnExactArePersonsSpec)

/-- ITS FALSE NEIGHBOUR: 'it returns false'. Refute it at one input. -/
def fnExactArePersonsWrong : ChangeSpec := { name := "fnExactArePersons", fn := fun _ => fun
  | [d] => { results := [.lit (.bool false)], args := [d] }
  | _ => none }
def FnExactArePersonsWrongFalsely : Prop := fnExactArePersonsRow.holds Try.pinned (OpenSpec.ofChange fnExactArePersonsWrong)

/-- 'laws.FnExactMostAlike': WHATEVER THE INPUT: true; the input reads as it did. -/
def fnExactMostAlikeSpec : ChangeSpec := { name := "fnExactMostAlike", fn := fun _ => fun
  | [d1, d2] => { results := [.lit (.bool true)], args := [d1, d2] }
  | _ => none }
def fnExactMostAlikeRow : OpenClaim := { program := "ytlaeceglcmnhbaa", sum := "e7b031ce4d967aea95f7a09cd6f78b52280937b52ece721c283d0cfc07092909", func := "loop.example/g01027/laws.FnExactMostAlike", spec := "fnExactMostAlike", unfollowed := true, recurses := true, plainKeys := false, apart := false }
def FnExactMostAlikeSaid : Prop := fnExactMostAlikeRow.holds Try.pinned (OpenSpec.ofChange fnExactMostAlikeSpec)

/-- ITS FALSE NEIGHBOUR: 'it returns false'. Refute it at one input. -/
def fnExactMostAlikeWrong : ChangeSpec := { name := "fnExactMostAlike", fn := fun _ => fun
  | [d1, d2] => { results := [.lit (.bool false)], args := [d1, d2] }
  | _ => none }
def FnExactMostAlikeWrongFalsely : Prop := fnExactMostAlikeRow.holds Try.pinned (OpenSpec.ofChange fnExactMostAlikeWrong)

/-- 'laws.FnExactFindPerson': WHATEVER THE INPUT: true; the input reads as it did. -/
def fnExactFindPersonSpec : ChangeSpec := { name := "fnExactFindPerson", fn := fun _ => fun
  | [d1, d2] => { results := [.lit (.bool true)], args := [d1, d2] }
  | _ => none }
def fnExactFindPersonRow : OpenClaim := { program := "ytlaeceglcmnhbaa", sum := "e7b031ce4d967aea95f7a09cd6f78b52280937b52ece721c283d0cfc07092909", func := "loop.example/g01027/laws.FnExactFindPerson", spec := "fnExactFindPerson", unfollowed := true, recurses := true, plainKeys := false, apart := false }
def FnExactFindPersonSaid : Prop := fnExactFindPersonRow.holds Try.pinned (OpenSpec.ofChange fnExactFindPersonSpec)

/-- ITS FALSE NEIGHBOUR: 'it returns false'. Refute it at one input. -/
def fnExactFindPersonWrong : ChangeSpec := { name := "fnExactFindPerson", fn := fun _ => fun
  | [d1, d2] => { results := [.lit (.bool false)], args := [d1, d2] }
  | _ => none }
def FnExactFindPersonWrongFalsely : Prop := fnExactFindPersonRow.holds Try.pinned (OpenSpec.ofChange fnExactFindPersonWrong)

/- THE SECOND FORM. 'bulk': how many values and letters a reading holds, each counted each time it is reached (what is shared counts as often as it is met; a slice's spare places count too). A statement '..UptoSaid' is the law's where the arguments, and the package variables that the reading takes, are together of bulk at most 1048576: NARROWER than '..Said'. Prove '..Said' where nothing that the law and all that it calls make is longer than what came in: it says more and counts as full. Else prove '..UptoSaid'. A law counts once. -/
mutual
def uptoBulk {H : Type} : DataW H → Nat
  | .lit (.string bytes) => bytes.length + 1
  | .lit _ => 1
  | .nil => 1
  | .ptr d => uptoBulk d + 1
  | .slice elems spare => uptoBulkAll elems + uptoBulkAll spare + 1
  | .agg parts => uptoBulkAll parts + 1
  | .iface _ d => uptoBulk d + 1
  | .map entries => uptoBulkEntries entries + 1
  | .held _ => 1
def uptoBulkAll {H : Type} : List (DataW H) → Nat
  | [] => 0
  | d :: r => uptoBulk d + uptoBulkAll r
def uptoBulkEntries {H : Type} : List (Lit × DataW H) → Nat
  | [] => 0
  | x :: r => uptoBulkEntry x + uptoBulkEntries r
def uptoBulkEntry {H : Type} : Lit × DataW H → Nat
  | (.string bytes, d) => bytes.length + uptoBulk d + 1
  | (_, d) => uptoBulk d + 1
 end
def uptoSmall : (H : Type) → List (DataW H) → Bool := fun _ ds => decide (uptoBulkAll ds ≤ 1048576)
def OpenSpec.upto (s : _root_.Go.ChangeSpec) : _root_.Go.OpenSpec := { _root_.Go.OpenSpec.ofChange s with cond := some uptoSmall }

/-- 'laws.FnLikeness', WHERE WHAT IT READS IS OF BULK AT MOST 1048576: true; the input reads as it did. -/
def fnLikenessUptoRow : OpenClaim := { program := "ytlaeceglcmnhbaa", sum := "e7b031ce4d967aea95f7a09cd6f78b52280937b52ece721c283d0cfc07092909", func := "loop.example/g01027/laws.FnLikeness", spec := "fnLikeness", unfollowed := true, recurses := true, plainKeys := false, apart := false, narrowed := true }
def FnLikenessUptoSaid : Prop := fnLikenessUptoRow.holds Try.pinned (OpenSpec.upto fnLikenessSpec)

/-- 'laws.FnExactArePersons', WHERE WHAT IT READS IS OF BULK AT MOST 1048576: true; the input reads as it did. -/
def fnExactArePersonsUptoRow : OpenClaim := { program := "ytlaeceglcmnhbaa", sum := "e7b031ce4d967aea95f7a09cd6f78b52280937b52ece721c283d0cfc07092909", func := "loop.example/g01027/laws.FnExactArePersons", spec := "fnExactArePersons", unfollowed := true, recurses := true, plainKeys := false, apart := false, narrowed := true }
def FnExactArePersonsUptoSaid : Prop := fnExactArePersonsUptoRow.holds Try.pinned (OpenSpec.upto fnExactArePersonsSpec)

/-- 'laws.FnExactMostAlike', WHERE WHAT IT READS IS OF BULK AT MOST 1048576: true; the input reads as it did. -/
def fnExactMostAlikeUptoRow : OpenClaim := { program := "ytlaeceglcmnhbaa", sum := "e7b031ce4d967aea95f7a09cd6f78b52280937b52ece721c283d0cfc07092909", func := "loop.example/g01027/laws.FnExactMostAlike", spec := "fnExactMostAlike", unfollowed := true, recurses := true, plainKeys := false, apart := false, narrowed := true }
def FnExactMostAlikeUptoSaid : Prop := fnExactMostAlikeUptoRow.holds Try.pinned (OpenSpec.upto fnExactMostAlikeSpec)

/-- 'laws.FnExactFindPerson', WHERE WHAT IT READS IS OF BULK AT MOST 1048576: true; the input reads as it did. -/
def fnExactFindPersonUptoRow : OpenClaim := { program := "ytlaeceglcmnhbaa", sum := "e7b031ce4d967aea95f7a09cd6f78b52280937b52ece721c283d0cfc07092909", func := "loop.example/g01027/laws.FnExactFindPerson", spec := "fnExactFindPerson", unfollowed := true, recurses := true, plainKeys := false, apart := false, narrowed := true }
def FnExactFindPersonUptoSaid : Prop := fnExactFindPersonUptoRow.holds Try.pinned (OpenSpec.upto fnExactFindPersonSpec)

end Rows
end Go.Proofs.Ytlaeceglcmnhbaa
