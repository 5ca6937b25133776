/-
  No cell of these rows narrows 'for every input' (looked for: loops, veiled, ifaces, maps, wideKeys, modest, calm, conditions, laid).
  DERIVED. THE GIVEN ROWS OF THIS SEAT. 10 by the template 'for every input the law returns true; each argument reads behind the call as it read before'; 0 by the template 'total and deterministic' (their statements: YtekhdggaelppkaaTotals.lean).
  GIVEN WITH THE SEED: the statements are not yours to turn. If you find one false, say at which input.
  Laid BY PROGRAM, IN A SANDBOX (cutbox-rows.mjs): the forced cells as the released guide's own fill.sh prints them over the translation 1e7558bb866edab2… (all of the seat's roots in one cut). By AI agents, Wed Nov 11 2026. No macro, syntax, notation, axiom, sorry.
-/
import Derived.Test.YtekhdggaelppkaaChecked
import GoSem.Claim
import GoSem.ClaimJoined
import GoSem.ClaimMapViews
import Derived.JoinedTies
import Derived.KernelRfl
namespace Go.Proofs.Ytekhdggaelppkaa
/- THE CELL 'sum', in the pinned program and in every row, IS THE sha256 OF THE DUMP (.gsa) THAT YtekhdggaelppkaaProg.lean LOADS. Nothing in Lean hashes anything: it is a label: what it is worth is what the hold of that sum in a sandbox is worth. -/
noncomputable def Try.pinned : Pinned := { name := "ytekhdggaelppkaa", sum := "1e7558bb866edab21d141f9a66a7366575e611c227b4fb2b94887973c2b94ad5", checked := Try.checked }
namespace Rows
def none {H : Type} : Left H := { results := [], args := [] }

/-- 'laws.FnCalls': WHATEVER THE INPUT: true; the input reads as it did. -/
def fnCallsSpec : ChangeSpec := { name := "fnCalls", fn := fun _ => fun
  | [d] => { results := [.lit (.bool true)], args := [d] }
  | _ => none }
def fnCallsRow : OpenClaim := { program := "ytekhdggaelppkaa", sum := "1e7558bb866edab21d141f9a66a7366575e611c227b4fb2b94887973c2b94ad5", func := "loop.example/g01027/laws.FnCalls", spec := "fnCalls", inPlace := ["slices.overlaps[loop.example/g01027/impl.Call]"], unfollowed := true, recurses := true, apart := false }
def FnCallsSaid : Prop := fnCallsRow.holds Try.pinned (OpenSpec.ofChange fnCallsSpec)

/-- ITS FALSE NEIGHBOUR: 'it returns false'. Refute it at one input. -/
def fnCallsWrong : ChangeSpec := { name := "fnCalls", fn := fun _ => fun
  | [d] => { results := [.lit (.bool false)], args := [d] }
  | _ => none }
def FnCallsWrongFalsely : Prop := fnCallsRow.holds Try.pinned (OpenSpec.ofChange fnCallsWrong)

/-- 'laws.FnRoomForCalls': WHATEVER THE INPUT: true; the input reads as it did. -/
def fnRoomForCallsSpec : ChangeSpec := { name := "fnRoomForCalls", fn := fun _ => fun
  | [d] => { results := [.lit (.bool true)], args := [d] }
  | _ => none }
def fnRoomForCallsRow : OpenClaim := { program := "ytekhdggaelppkaa", sum := "1e7558bb866edab21d141f9a66a7366575e611c227b4fb2b94887973c2b94ad5", func := "loop.example/g01027/laws.FnRoomForCalls", spec := "fnRoomForCalls", unfollowed := true, recurses := true, apart := false }
def FnRoomForCallsSaid : Prop := fnRoomForCallsRow.holds Try.pinned (OpenSpec.ofChange fnRoomForCallsSpec)

/-- ITS FALSE NEIGHBOUR: 'it returns false'. Refute it at one input. -/
def fnRoomForCallsWrong : ChangeSpec := { name := "fnRoomForCalls", fn := fun _ => fun
  | [d] => { results := [.lit (.bool false)], args := [d] }
  | _ => none }
def FnRoomForCallsWrongFalsely : Prop := fnRoomForCallsRow.holds Try.pinned (OpenSpec.ofChange fnRoomForCallsWrong)

/-- 'laws.FnExactAreCalls': WHATEVER THE INPUT: true; the input reads as it did. -/
def fnExactAreCallsSpec : ChangeSpec := { name := "fnExactAreCalls", fn := fun _ => fun
  | [d] => { results := [.lit (.bool true)], args := [d] }
  | _ => none }
def fnExactAreCallsRow : OpenClaim := { program := "ytekhdggaelppkaa", sum := "1e7558bb866edab21d141f9a66a7366575e611c227b4fb2b94887973c2b94ad5", func := "loop.example/g01027/laws.FnExactAreCalls", spec := "fnExactAreCalls", unfollowed := true, recurses := true, apart := false }
def FnExactAreCallsSaid : Prop := fnExactAreCallsRow.holds Try.pinned (OpenSpec.ofChange fnExactAreCallsSpec)

/-- ITS FALSE NEIGHBOUR: 'it returns false'. Refute it at one input. -/
def fnExactAreCallsWrong : ChangeSpec := { name := "fnExactAreCalls", fn := fun _ => fun
  | [d] => { results := [.lit (.bool false)], args := [d] }
  | _ => none }
def FnExactAreCallsWrongFalsely : Prop := fnExactAreCallsRow.holds Try.pinned (OpenSpec.ofChange fnExactAreCallsWrong)

/-- 'laws.FnExactAddCall': WHATEVER THE INPUT: true; the input reads as it did. -/
def fnExactAddCallSpec : ChangeSpec := { name := "fnExactAddCall", fn := fun _ => fun
  | [d1, d2, d3, d4] => { results := [.lit (.bool true)], args := [d1, d2, d3, d4] }
  | _ => none }
def fnExactAddCallRow : OpenClaim := { program := "ytekhdggaelppkaa", sum := "1e7558bb866edab21d141f9a66a7366575e611c227b4fb2b94887973c2b94ad5", func := "loop.example/g01027/laws.FnExactAddCall", spec := "fnExactAddCall", inPlace := ["slices.overlaps[loop.example/g01027/impl.Call]"], unfollowed := true, recurses := true, apart := false }
def FnExactAddCallSaid : Prop := fnExactAddCallRow.holds Try.pinned (OpenSpec.ofChange fnExactAddCallSpec)

/-- ITS FALSE NEIGHBOUR: 'it returns false'. Refute it at one input. -/
def fnExactAddCallWrong : ChangeSpec := { name := "fnExactAddCall", fn := fun _ => fun
  | [d1, d2, d3, d4] => { results := [.lit (.bool false)], args := [d1, d2, d3, d4] }
  | _ => none }
def FnExactAddCallWrongFalsely : Prop := fnExactAddCallRow.holds Try.pinned (OpenSpec.ofChange fnExactAddCallWrong)

/-- 'laws.FnExactMayMove': WHATEVER THE INPUT: true; the input reads as it did. -/
def fnExactMayMoveSpec : ChangeSpec := { name := "fnExactMayMove", fn := fun _ => fun
  | [d1, d2, d3, d4] => { results := [.lit (.bool true)], args := [d1, d2, d3, d4] }
  | _ => none }
def fnExactMayMoveRow : OpenClaim := { program := "ytekhdggaelppkaa", sum := "1e7558bb866edab21d141f9a66a7366575e611c227b4fb2b94887973c2b94ad5", func := "loop.example/g01027/laws.FnExactMayMove", spec := "fnExactMayMove", unfollowed := true, recurses := true, apart := false }
def FnExactMayMoveSaid : Prop := fnExactMayMoveRow.holds Try.pinned (OpenSpec.ofChange fnExactMayMoveSpec)

/-- ITS FALSE NEIGHBOUR: 'it returns false'. Refute it at one input. -/
def fnExactMayMoveWrong : ChangeSpec := { name := "fnExactMayMove", fn := fun _ => fun
  | [d1, d2, d3, d4] => { results := [.lit (.bool false)], args := [d1, d2, d3, d4] }
  | _ => none }
def FnExactMayMoveWrongFalsely : Prop := fnExactMayMoveRow.holds Try.pinned (OpenSpec.ofChange fnExactMayMoveWrong)

/-- 'laws.FnExactMoveCall': WHATEVER THE INPUT: true; the input reads as it did. -/
def fnExactMoveCallSpec : ChangeSpec := { name := "fnExactMoveCall", fn := fun _ => fun
  | [d1, d2, d3, d4] => { results := [.lit (.bool true)], args := [d1, d2, d3, d4] }
  | _ => none }
def fnExactMoveCallRow : OpenClaim := { program := "ytekhdggaelppkaa", sum := "1e7558bb866edab21d141f9a66a7366575e611c227b4fb2b94887973c2b94ad5", func := "loop.example/g01027/laws.FnExactMoveCall", spec := "fnExactMoveCall", unfollowed := true, recurses := true, apart := false }
def FnExactMoveCallSaid : Prop := fnExactMoveCallRow.holds Try.pinned (OpenSpec.ofChange fnExactMoveCallSpec)

/-- ITS FALSE NEIGHBOUR: 'it returns false'. Refute it at one input. -/
def fnExactMoveCallWrong : ChangeSpec := { name := "fnExactMoveCall", fn := fun _ => fun
  | [d1, d2, d3, d4] => { results := [.lit (.bool false)], args := [d1, d2, d3, d4] }
  | _ => none }
def FnExactMoveCallWrongFalsely : Prop := fnExactMoveCallRow.holds Try.pinned (OpenSpec.ofChange fnExactMoveCallWrong)

/-- 'laws.FnExactCalledOn': WHATEVER THE INPUT: true; the input reads as it did. -/
def fnExactCalledOnSpec : ChangeSpec := { name := "fnExactCalledOn", fn := fun _ => fun
  | [d1, d2] => { results := [.lit (.bool true)], args := [d1, d2] }
  | _ => none }
def fnExactCalledOnRow : OpenClaim := { program := "ytekhdggaelppkaa", sum := "1e7558bb866edab21d141f9a66a7366575e611c227b4fb2b94887973c2b94ad5", func := "loop.example/g01027/laws.FnExactCalledOn", spec := "fnExactCalledOn", unfollowed := true, recurses := true, apart := false }
def FnExactCalledOnSaid : Prop := fnExactCalledOnRow.holds Try.pinned (OpenSpec.ofChange fnExactCalledOnSpec)

/-- ITS FALSE NEIGHBOUR: 'it returns false'. Refute it at one input. -/
def fnExactCalledOnWrong : ChangeSpec := { name := "fnExactCalledOn", fn := fun _ => fun
  | [d1, d2] => { results := [.lit (.bool false)], args := [d1, d2] }
  | _ => none }
def FnExactCalledOnWrongFalsely : Prop := fnExactCalledOnRow.holds Try.pinned (OpenSpec.ofChange fnExactCalledOnWrong)

/-- 'laws.FnExactFirstRoom': WHATEVER THE INPUT: true; the input reads as it did. -/
def fnExactFirstRoomSpec : ChangeSpec := { name := "fnExactFirstRoom", fn := fun _ => fun
  | [d1, d2, d3, d4] => { results := [.lit (.bool true)], args := [d1, d2, d3, d4] }
  | _ => none }
def fnExactFirstRoomRow : OpenClaim := { program := "ytekhdggaelppkaa", sum := "1e7558bb866edab21d141f9a66a7366575e611c227b4fb2b94887973c2b94ad5", func := "loop.example/g01027/laws.FnExactFirstRoom", spec := "fnExactFirstRoom", unfollowed := true, recurses := true, apart := false }
def FnExactFirstRoomSaid : Prop := fnExactFirstRoomRow.holds Try.pinned (OpenSpec.ofChange fnExactFirstRoomSpec)

/-- ITS FALSE NEIGHBOUR: 'it returns false'. Refute it at one input. -/
def fnExactFirstRoomWrong : ChangeSpec := { name := "fnExactFirstRoom", fn := fun _ => fun
  | [d1, d2, d3, d4] => { results := [.lit (.bool false)], args := [d1, d2, d3, d4] }
  | _ => none }
def FnExactFirstRoomWrongFalsely : Prop := fnExactFirstRoomRow.holds Try.pinned (OpenSpec.ofChange fnExactFirstRoomWrong)

/-- 'laws.FnExactCrowdedDays': WHATEVER THE INPUT: true; the input reads as it did. -/
def fnExactCrowdedDaysSpec : ChangeSpec := { name := "fnExactCrowdedDays", fn := fun _ => fun
  | [d1, d2] => { results := [.lit (.bool true)], args := [d1, d2] }
  | _ => none }
def fnExactCrowdedDaysRow : OpenClaim := { program := "ytekhdggaelppkaa", sum := "1e7558bb866edab21d141f9a66a7366575e611c227b4fb2b94887973c2b94ad5", func := "loop.example/g01027/laws.FnExactCrowdedDays", spec := "fnExactCrowdedDays", unfollowed := true, recurses := true, apart := false }
def FnExactCrowdedDaysSaid : Prop := fnExactCrowdedDaysRow.holds Try.pinned (OpenSpec.ofChange fnExactCrowdedDaysSpec)

/-- ITS FALSE NEIGHBOUR: 'it returns false'. Refute it at one input. -/
def fnExactCrowdedDaysWrong : ChangeSpec := { name := "fnExactCrowdedDays", fn := fun _ => fun
  | [d1, d2] => { results := [.lit (.bool false)], args := [d1, d2] }
  | _ => none }
def FnExactCrowdedDaysWrongFalsely : Prop := fnExactCrowdedDaysRow.holds Try.pinned (OpenSpec.ofChange fnExactCrowdedDaysWrong)

/-- 'laws.FnExactDropCall': WHATEVER THE INPUT: true; the input reads as it did. -/
def fnExactDropCallSpec : ChangeSpec := { name := "fnExactDropCall", fn := fun _ => fun
  | [d1, d2] => { results := [.lit (.bool true)], args := [d1, d2] }
  | _ => none }
def fnExactDropCallRow : OpenClaim := { program := "ytekhdggaelppkaa", sum := "1e7558bb866edab21d141f9a66a7366575e611c227b4fb2b94887973c2b94ad5", func := "loop.example/g01027/laws.FnExactDropCall", spec := "fnExactDropCall", unfollowed := true, recurses := true, apart := false }
def FnExactDropCallSaid : Prop := fnExactDropCallRow.holds Try.pinned (OpenSpec.ofChange fnExactDropCallSpec)

/-- ITS FALSE NEIGHBOUR: 'it returns false'. Refute it at one input. -/
def fnExactDropCallWrong : ChangeSpec := { name := "fnExactDropCall", fn := fun _ => fun
  | [d1, d2] => { results := [.lit (.bool false)], args := [d1, d2] }
  | _ => none }
def FnExactDropCallWrongFalsely : Prop := fnExactDropCallRow.holds Try.pinned (OpenSpec.ofChange fnExactDropCallWrong)

/- THE SECOND FORM. 'bulk': how many values and letters a reading holds, each counted each time it is reached (what is shared counts as often as it is met; a slice's spare places count too). A statement '..UptoSaid' is the law's where the arguments, and the package variables that the reading takes, are together of bulk at most 1048576: NARROWER than '..Said'. Prove '..Said' where nothing that the law and all that it calls make is longer than what came in: it says more and counts as full. Else prove '..UptoSaid'. A law counts once. -/
mutual
def uptoBulk {H : Type} : DataW H → Nat
  | .lit (.string bytes) => bytes.length + 1
  | .lit _ => 1
  | .nil => 1
  | .ptr d => uptoBulk d + 1
  | .slice elems spare => uptoBulkAll elems + uptoBulkAll spare + 1
  | .agg parts => uptoBulkAll parts + 1
  | .iface _ d => uptoBulk d + 1
  | .map entries => uptoBulkEntries entries + 1
  | .held _ => 1
def uptoBulkAll {H : Type} : List (DataW H) → Nat
  | [] => 0
  | d :: r => uptoBulk d + uptoBulkAll r
def uptoBulkEntries {H : Type} : List (Lit × DataW H) → Nat
  | [] => 0
  | x :: r => uptoBulkEntry x + uptoBulkEntries r
def uptoBulkEntry {H : Type} : Lit × DataW H → Nat
  | (.string bytes, d) => bytes.length + uptoBulk d + 1
  | (_, d) => uptoBulk d + 1
 end
def uptoSmall : (H : Type) → List (DataW H) → Bool := fun _ ds => decide (uptoBulkAll ds ≤ 1048576)
def OpenSpec.upto (s : _root_.Go.ChangeSpec) : _root_.Go.OpenSpec := { _root_.Go.OpenSpec.ofChange s with cond := some uptoSmall }

/-- 'laws.FnCalls', WHERE WHAT IT READS IS OF BULK AT MOST 1048576: true; the input reads as it did. -/
def fnCallsUptoRow : OpenClaim := { program := "ytekhdggaelppkaa", sum := "1e7558bb866edab21d141f9a66a7366575e611c227b4fb2b94887973c2b94ad5", func := "loop.example/g01027/laws.FnCalls", spec := "fnCalls", inPlace := ["slices.overlaps[loop.example/g01027/impl.Call]"], unfollowed := true, recurses := true, apart := false, narrowed := true }
def FnCallsUptoSaid : Prop := fnCallsUptoRow.holds Try.pinned (OpenSpec.upto fnCallsSpec)

/-- 'laws.FnRoomForCalls', WHERE WHAT IT READS IS OF BULK AT MOST 1048576: true; the input reads as it did. -/
def fnRoomForCallsUptoRow : OpenClaim := { program := "ytekhdggaelppkaa", sum := "1e7558bb866edab21d141f9a66a7366575e611c227b4fb2b94887973c2b94ad5", func := "loop.example/g01027/laws.FnRoomForCalls", spec := "fnRoomForCalls", unfollowed := true, recurses := true, apart := false, narrowed := true }
def FnRoomForCallsUptoSaid : Prop := fnRoomForCallsUptoRow.holds Try.pinned (OpenSpec.upto fnRoomForCallsSpec)

/-- 'laws.FnExactAreCalls', WHERE WHAT IT READS IS OF BULK AT MOST 1048576: true; the input reads as it did. -/
def fnExactAreCallsUptoRow : OpenClaim := { program := "ytekhdggaelppkaa", sum := "1e7558bb866edab21d141f9a66a7366575e611c227b4fb2b94887973c2b94ad5", func := "loop.example/g01027/laws.FnExactAreCalls", spec := "fnExactAreCalls", unfollowed := true, recurses := true, apart := false, narrowed := true }
def FnExactAreCallsUptoSaid : Prop := fnExactAreCallsUptoRow.holds Try.pinned (OpenSpec.upto fnExactAreCallsSpec)

/-- 'laws.FnExactAddCall', WHERE WHAT IT READS IS OF BULK AT MOST 1048576: true; the input reads as it did. -/
def fnExactAddCallUptoRow : OpenClaim := { program := "ytekhdggaelppkaa", sum := "1e7558bb866edab21d141f9a66a7366575e611c227b4fb2b94887973c2b94ad5", func := "loop.example/g01027/laws.FnExactAddCall", spec := "fnExactAddCall", inPlace := ["slices.overlaps[loop.example/g01027/impl.Call]"], unfollowed := true, recurses := true, apart := false, narrowed := true }
def FnExactAddCallUptoSaid : Prop := fnExactAddCallUptoRow.holds Try.pinned (OpenSpec.upto fnExactAddCallSpec)

/-- 'laws.FnExactMayMove', WHERE WHAT IT READS IS OF BULK AT MOST 1048576: true; the input reads as it did. -/
def fnExactMayMoveUptoRow : OpenClaim := { program := "ytekhdggaelppkaa", sum := "1e7558bb866edab21d141f9a66a7366575e611c227b4fb2b94887973c2b94ad5", func := "loop.example/g01027/laws.FnExactMayMove", spec := "fnExactMayMove", unfollowed := true, recurses := true, apart := false, narrowed := true }
def FnExactMayMoveUptoSaid : Prop := fnExactMayMoveUptoRow.holds Try.pinned (OpenSpec.upto fnExactMayMoveSpec)

/-- 'laws.FnExactMoveCall', WHERE WHAT IT READS IS OF BULK AT MOST 1048576: true; the input reads as it did. -/
def fnExactMoveCallUptoRow : OpenClaim := { program := "ytekhdggaelppkaa", sum := "1e7558bb866edab21d141f9a66a7366575e611c227b4fb2b94887973c2b94ad5", func := "loop.example/g01027/laws.FnExactMoveCall", spec := "fnExactMoveCall", unfollowed := true, recurses := true, apart := false, narrowed := true }
def FnExactMoveCallUptoSaid : Prop := fnExactMoveCallUptoRow.holds Try.pinned (OpenSpec.upto fnExactMoveCallSpec)

/-- 'laws.FnExactCalledOn', WHERE WHAT IT READS IS OF BULK AT MOST 1048576: true; the input reads as it did. -/
def fnExactCalledOnUptoRow : OpenClaim := { program := "ytekhdggaelppkaa", sum := "1e7558bb866edab21d141f9a66a7366575e611c227b4fb2b94887973c2b94ad5", func := "loop.example/g01027/laws.FnExactCalledOn", spec := "fnExactCalledOn", unfollowed := true, recurses := true, apart := false, narrowed := true }
def FnExactCalledOnUptoSaid : Prop := fnExactCalledOnUptoRow.holds Try.pinned (OpenSpec.upto fnExactCalledOnSpec)

/-- 'laws.FnExactFirstRoom', WHERE WHAT IT READS IS OF BULK AT MOST 1048576: true; the input reads as it did. -/
def fnExactFirstRoomUptoRow : OpenClaim := { program := "ytekhdggaelppkaa", sum := "1e7558bb866edab21d141f9a66a7366575e611c227b4fb2b94887973c2b94ad5", func := "loop.example/g01027/laws.FnExactFirstRoom", spec := "fnExactFirstRoom", unfollowed := true, recurses := true, apart := false, narrowed := true }
def FnExactFirstRoomUptoSaid : Prop := fnExactFirstRoomUptoRow.holds Try.pinned (OpenSpec.upto fnExactFirstRoomSpec)

/-- 'laws.FnExactCrowdedDays', WHERE WHAT IT READS IS OF BULK AT MOST 1048576: true; the input reads as it did. -/
def fnExactCrowdedDaysUptoRow : OpenClaim := { program := "ytekhdggaelppkaa", sum := "1e7558bb866edab21d141f9a66a7366575e611c227b4fb2b94887973c2b94ad5", func := "loop.example/g01027/laws.FnExactCrowdedDays", spec := "fnExactCrowdedDays", unfollowed := true, recurses := true, apart := false, narrowed := true }
def FnExactCrowdedDaysUptoSaid : Prop := fnExactCrowdedDaysUptoRow.holds Try.pinned (OpenSpec.upto fnExactCrowdedDaysSpec)

/-- 'laws.FnExactDropCall', WHERE WHAT IT READS IS OF BULK AT MOST 1048576: true; the input reads as it did. -/
def fnExactDropCallUptoRow : OpenClaim := { program := "ytekhdggaelppkaa", sum := "1e7558bb866edab21d141f9a66a7366575e611c227b4fb2b94887973c2b94ad5", func := "loop.example/g01027/laws.FnExactDropCall", spec := "fnExactDropCall", unfollowed := true, recurses := true, apart := false, narrowed := true }
def FnExactDropCallUptoSaid : Prop := fnExactDropCallUptoRow.holds Try.pinned (OpenSpec.upto fnExactDropCallSpec)

end Rows
end Go.Proofs.Ytekhdggaelppkaa
