/-
  No cell of these rows narrows 'for every input' (looked for: loops, veiled, ifaces, maps, wideKeys, modest, calm, conditions, laid).
  DERIVED. THE GIVEN ROWS OF THIS SEAT. 9 by the template 'for every input the law returns true; each argument reads behind the call as it read before'; 0 by the template 'total and deterministic' (their statements: YtmpopfcnjgcncaaTotals.lean).
  GIVEN WITH THE SEED: the statements are not yours to turn. If you find one false, say at which input.
  Laid BY PROGRAM, IN A SANDBOX (cutbox-rows.mjs): the forced cells as the released guide's own fill.sh prints them over the translation 7a7c2c9791c272db… (all of the seat's roots in one cut). By AI agents, Wed Nov 11 2026. No macro, syntax, notation, axiom, sorry.
-/
import Derived.Test.YtmpopfcnjgcncaaChecked
import GoSem.Claim
import GoSem.ClaimJoined
import GoSem.ClaimMapViews
import Derived.JoinedTies
import Derived.KernelRfl
namespace Go.Proofs.Ytmpopfcnjgcncaa
/- THE CELL 'sum', in the pinned program and in every row, IS THE sha256 OF THE DUMP (.gsa) THAT YtmpopfcnjgcncaaProg.lean LOADS. Nothing in Lean hashes anything: it is a label: what it is worth is what the hold of that sum in a sandbox is worth. -/
noncomputable def Try.pinned : Pinned := { name := "ytmpopfcnjgcncaa", sum := "7a7c2c9791c272dbe3e74c6fb98f7ddea6b4057dd798f0953e7fe1a5169a77db", checked := Try.checked }
namespace Rows
def none {H : Type} : Left H := { results := [], args := [] }

/-- 'laws.FnPools': WHATEVER THE INPUT: true; the input reads as it did. -/
def fnPoolsSpec : ChangeSpec := { name := "fnPools", fn := fun _ => fun
  | [d] => { results := [.lit (.bool true)], args := [d] }
  | _ => none }
def fnPoolsRow : OpenClaim := { program := "ytmpopfcnjgcncaa", sum := "7a7c2c9791c272dbe3e74c6fb98f7ddea6b4057dd798f0953e7fe1a5169a77db", func := "loop.example/g01027/laws.FnPools", spec := "fnPools", unfollowed := true, recurses := true, apart := false }
def FnPoolsSaid : Prop := fnPoolsRow.holds Try.pinned (OpenSpec.ofChange fnPoolsSpec)

/-- ITS FALSE NEIGHBOUR: 'it returns false'. Refute it at one input. -/
def fnPoolsWrong : ChangeSpec := { name := "fnPools", fn := fun _ => fun
  | [d] => { results := [.lit (.bool false)], args := [d] }
  | _ => none }
def FnPoolsWrongFalsely : Prop := fnPoolsRow.holds Try.pinned (OpenSpec.ofChange fnPoolsWrong)

/-- 'laws.FnPoolChances': WHATEVER THE INPUT: true; the input reads as it did. -/
def fnPoolChancesSpec : ChangeSpec := { name := "fnPoolChances", fn := fun _ => fun
  | [d] => { results := [.lit (.bool true)], args := [d] }
  | _ => none }
def fnPoolChancesRow : OpenClaim := { program := "ytmpopfcnjgcncaa", sum := "7a7c2c9791c272dbe3e74c6fb98f7ddea6b4057dd798f0953e7fe1a5169a77db", func := "loop.example/g01027/laws.FnPoolChances", spec := "fnPoolChances", unfollowed := true, recurses := true, apart := false }
def FnPoolChancesSaid : Prop := fnPoolChancesRow.holds Try.pinned (OpenSpec.ofChange fnPoolChancesSpec)

/-- ITS FALSE NEIGHBOUR: 'it returns false'. Refute it at one input. -/
def fnPoolChancesWrong : ChangeSpec := { name := "fnPoolChances", fn := fun _ => fun
  | [d] => { results := [.lit (.bool false)], args := [d] }
  | _ => none }
def FnPoolChancesWrongFalsely : Prop := fnPoolChancesRow.holds Try.pinned (OpenSpec.ofChange fnPoolChancesWrong)

/-- 'laws.FnExactIsPool': WHATEVER THE INPUT: true; the input reads as it did. -/
def fnExactIsPoolSpec : ChangeSpec := { name := "fnExactIsPool", fn := fun _ => fun
  | [d] => { results := [.lit (.bool true)], args := [d] }
  | _ => none }
def fnExactIsPoolRow : OpenClaim := { program := "ytmpopfcnjgcncaa", sum := "7a7c2c9791c272dbe3e74c6fb98f7ddea6b4057dd798f0953e7fe1a5169a77db", func := "loop.example/g01027/laws.FnExactIsPool", spec := "fnExactIsPool", unfollowed := true, recurses := true, apart := false }
def FnExactIsPoolSaid : Prop := fnExactIsPoolRow.holds Try.pinned (OpenSpec.ofChange fnExactIsPoolSpec)

/-- ITS FALSE NEIGHBOUR: 'it returns false'. Refute it at one input. -/
def fnExactIsPoolWrong : ChangeSpec := { name := "fnExactIsPool", fn := fun _ => fun
  | [d] => { results := [.lit (.bool false)], args := [d] }
  | _ => none }
def FnExactIsPoolWrongFalsely : Prop := fnExactIsPoolRow.holds Try.pinned (OpenSpec.ofChange fnExactIsPoolWrong)

/-- 'laws.FnExactMakePool': WHATEVER THE INPUT: true; the input reads as it did. -/
def fnExactMakePoolSpec : ChangeSpec := { name := "fnExactMakePool", fn := fun _ => fun
  | [d1, d2] => { results := [.lit (.bool true)], args := [d1, d2] }
  | _ => none }
def fnExactMakePoolRow : OpenClaim := { program := "ytmpopfcnjgcncaa", sum := "7a7c2c9791c272dbe3e74c6fb98f7ddea6b4057dd798f0953e7fe1a5169a77db", func := "loop.example/g01027/laws.FnExactMakePool", spec := "fnExactMakePool", unfollowed := true, recurses := true, apart := false }
def FnExactMakePoolSaid : Prop := fnExactMakePoolRow.holds Try.pinned (OpenSpec.ofChange fnExactMakePoolSpec)

/-- ITS FALSE NEIGHBOUR: 'it returns false'. Refute it at one input. -/
def fnExactMakePoolWrong : ChangeSpec := { name := "fnExactMakePool", fn := fun _ => fun
  | [d1, d2] => { results := [.lit (.bool false)], args := [d1, d2] }
  | _ => none }
def FnExactMakePoolWrongFalsely : Prop := fnExactMakePoolRow.holds Try.pinned (OpenSpec.ofChange fnExactMakePoolWrong)

/-- 'laws.FnExactLeftOf': WHATEVER THE INPUT: true; the input reads as it did. -/
def fnExactLeftOfSpec : ChangeSpec := { name := "fnExactLeftOf", fn := fun _ => fun
  | [d] => { results := [.lit (.bool true)], args := [d] }
  | _ => none }
def fnExactLeftOfRow : OpenClaim := { program := "ytmpopfcnjgcncaa", sum := "7a7c2c9791c272dbe3e74c6fb98f7ddea6b4057dd798f0953e7fe1a5169a77db", func := "loop.example/g01027/laws.FnExactLeftOf", spec := "fnExactLeftOf", unfollowed := true, recurses := true, apart := false }
def FnExactLeftOfSaid : Prop := fnExactLeftOfRow.holds Try.pinned (OpenSpec.ofChange fnExactLeftOfSpec)

/-- ITS FALSE NEIGHBOUR: 'it returns false'. Refute it at one input. -/
def fnExactLeftOfWrong : ChangeSpec := { name := "fnExactLeftOf", fn := fun _ => fun
  | [d] => { results := [.lit (.bool false)], args := [d] }
  | _ => none }
def FnExactLeftOfWrongFalsely : Prop := fnExactLeftOfRow.holds Try.pinned (OpenSpec.ofChange fnExactLeftOfWrong)

/-- 'laws.FnExactTakeFrom': WHATEVER THE INPUT: true; the input reads as it did. -/
def fnExactTakeFromSpec : ChangeSpec := { name := "fnExactTakeFrom", fn := fun _ => fun
  | [d1, d2] => { results := [.lit (.bool true)], args := [d1, d2] }
  | _ => none }
def fnExactTakeFromRow : OpenClaim := { program := "ytmpopfcnjgcncaa", sum := "7a7c2c9791c272dbe3e74c6fb98f7ddea6b4057dd798f0953e7fe1a5169a77db", func := "loop.example/g01027/laws.FnExactTakeFrom", spec := "fnExactTakeFrom", unfollowed := true, recurses := true, apart := false }
def FnExactTakeFromSaid : Prop := fnExactTakeFromRow.holds Try.pinned (OpenSpec.ofChange fnExactTakeFromSpec)

/-- ITS FALSE NEIGHBOUR: 'it returns false'. Refute it at one input. -/
def fnExactTakeFromWrong : ChangeSpec := { name := "fnExactTakeFrom", fn := fun _ => fun
  | [d1, d2] => { results := [.lit (.bool false)], args := [d1, d2] }
  | _ => none }
def FnExactTakeFromWrongFalsely : Prop := fnExactTakeFromRow.holds Try.pinned (OpenSpec.ofChange fnExactTakeFromWrong)

/-- 'laws.FnExactPutBack': WHATEVER THE INPUT: true; the input reads as it did. -/
def fnExactPutBackSpec : ChangeSpec := { name := "fnExactPutBack", fn := fun _ => fun
  | [d1, d2] => { results := [.lit (.bool true)], args := [d1, d2] }
  | _ => none }
def fnExactPutBackRow : OpenClaim := { program := "ytmpopfcnjgcncaa", sum := "7a7c2c9791c272dbe3e74c6fb98f7ddea6b4057dd798f0953e7fe1a5169a77db", func := "loop.example/g01027/laws.FnExactPutBack", spec := "fnExactPutBack", unfollowed := true, recurses := true, apart := false }
def FnExactPutBackSaid : Prop := fnExactPutBackRow.holds Try.pinned (OpenSpec.ofChange fnExactPutBackSpec)

/-- ITS FALSE NEIGHBOUR: 'it returns false'. Refute it at one input. -/
def fnExactPutBackWrong : ChangeSpec := { name := "fnExactPutBack", fn := fun _ => fun
  | [d1, d2] => { results := [.lit (.bool false)], args := [d1, d2] }
  | _ => none }
def FnExactPutBackWrongFalsely : Prop := fnExactPutBackRow.holds Try.pinned (OpenSpec.ofChange fnExactPutBackWrong)

/-- 'laws.FnExactIsReplay': WHATEVER THE INPUT: true; the input reads as it did. -/
def fnExactIsReplaySpec : ChangeSpec := { name := "fnExactIsReplay", fn := fun _ => fun
  | [d1, d2] => { results := [.lit (.bool true)], args := [d1, d2] }
  | _ => none }
def fnExactIsReplayRow : OpenClaim := { program := "ytmpopfcnjgcncaa", sum := "7a7c2c9791c272dbe3e74c6fb98f7ddea6b4057dd798f0953e7fe1a5169a77db", func := "loop.example/g01027/laws.FnExactIsReplay", spec := "fnExactIsReplay", unfollowed := true, recurses := true, apart := false }
def FnExactIsReplaySaid : Prop := fnExactIsReplayRow.holds Try.pinned (OpenSpec.ofChange fnExactIsReplaySpec)

/-- ITS FALSE NEIGHBOUR: 'it returns false'. Refute it at one input. -/
def fnExactIsReplayWrong : ChangeSpec := { name := "fnExactIsReplay", fn := fun _ => fun
  | [d1, d2] => { results := [.lit (.bool false)], args := [d1, d2] }
  | _ => none }
def FnExactIsReplayWrongFalsely : Prop := fnExactIsReplayRow.holds Try.pinned (OpenSpec.ofChange fnExactIsReplayWrong)

/-- 'laws.FnExactChanceOf': WHATEVER THE INPUT: true; the input reads as it did. -/
def fnExactChanceOfSpec : ChangeSpec := { name := "fnExactChanceOf", fn := fun _ => fun
  | [d1, d2] => { results := [.lit (.bool true)], args := [d1, d2] }
  | _ => none }
def fnExactChanceOfRow : OpenClaim := { program := "ytmpopfcnjgcncaa", sum := "7a7c2c9791c272dbe3e74c6fb98f7ddea6b4057dd798f0953e7fe1a5169a77db", func := "loop.example/g01027/laws.FnExactChanceOf", spec := "fnExactChanceOf", unfollowed := true, recurses := true, apart := false }
def FnExactChanceOfSaid : Prop := fnExactChanceOfRow.holds Try.pinned (OpenSpec.ofChange fnExactChanceOfSpec)

/-- ITS FALSE NEIGHBOUR: 'it returns false'. Refute it at one input. -/
def fnExactChanceOfWrong : ChangeSpec := { name := "fnExactChanceOf", fn := fun _ => fun
  | [d1, d2] => { results := [.lit (.bool false)], args := [d1, d2] }
  | _ => none }
def FnExactChanceOfWrongFalsely : Prop := fnExactChanceOfRow.holds Try.pinned (OpenSpec.ofChange fnExactChanceOfWrong)

/- THE SECOND FORM. 'bulk': how many values and letters a reading holds, each counted each time it is reached (what is shared counts as often as it is met; a slice's spare places count too). A statement '..UptoSaid' is the law's where the arguments, and the package variables that the reading takes, are together of bulk at most 1048576: NARROWER than '..Said'. Prove '..Said' where nothing that the law and all that it calls make is longer than what came in: it says more and counts as full. Else prove '..UptoSaid'. A law counts once. -/
mutual
def uptoBulk {H : Type} : DataW H → Nat
  | .lit (.string bytes) => bytes.length + 1
  | .lit _ => 1
  | .nil => 1
  | .ptr d => uptoBulk d + 1
  | .slice elems spare => uptoBulkAll elems + uptoBulkAll spare + 1
  | .agg parts => uptoBulkAll parts + 1
  | .iface _ d => uptoBulk d + 1
  | .map entries => uptoBulkEntries entries + 1
  | .held _ => 1
def uptoBulkAll {H : Type} : List (DataW H) → Nat
  | [] => 0
  | d :: r => uptoBulk d + uptoBulkAll r
def uptoBulkEntries {H : Type} : List (Lit × DataW H) → Nat
  | [] => 0
  | x :: r => uptoBulkEntry x + uptoBulkEntries r
def uptoBulkEntry {H : Type} : Lit × DataW H → Nat
  | (.string bytes, d) => bytes.length + uptoBulk d + 1
  | (_, d) => uptoBulk d + 1
 end
def uptoSmall : (H : Type) → List (DataW H) → Bool := fun _ ds => decide (uptoBulkAll ds ≤ 1048576)
def OpenSpec.upto (s : _root_.Go.ChangeSpec) : _root_.Go.OpenSpec := { _root_.Go.OpenSpec.ofChange s with cond := some uptoSmall }

/-- 'laws.FnPools', WHERE WHAT IT READS IS OF BULK AT MOST 1048576: true; the input reads as it did. -/
def fnPoolsUptoRow : OpenClaim := { program := "ytmpopfcnjgcncaa", sum := "7a7c2c9791c272dbe3e74c6fb98f7ddea6b4057dd798f0953e7fe1a5169a77db", func := "loop.example/g01027/laws.FnPools", spec := "fnPools", unfollowed := true, recurses := true, apart := false, narrowed := true }
def FnPoolsUptoSaid : Prop := fnPoolsUptoRow.holds Try.pinned (OpenSpec.upto fnPoolsSpec)

/-- 'laws.FnPoolChances', WHERE WHAT IT READS IS OF BULK AT MOST 1048576: true; the input reads as it did. -/
def fnPoolChancesUptoRow : OpenClaim := { program := "ytmpopfcnjgcncaa", sum := "7a7c2c9791c272dbe3e74c6fb98f7ddea6b4057dd798f0953e7fe1a5169a77db", func := "loop.example/g01027/laws.FnPoolChances", spec := "fnPoolChances", unfollowed := true, recurses := true, apart := false, narrowed := true }
def FnPoolChancesUptoSaid : Prop := fnPoolChancesUptoRow.holds Try.pinned (OpenSpec.upto fnPoolChancesSpec)

/-- 'laws.FnExactIsPool', WHERE WHAT IT READS IS OF BULK AT MOST 1048576: true; the input reads as it did. -/
def fnExactIsPoolUptoRow : OpenClaim := { program := "ytmpopfcnjgcncaa", sum := "7a7c2c9791c272dbe3e74c6fb98f7ddea6b4057dd798f0953e7fe1a5169a77db", func := "loop.example/g01027/laws.FnExactIsPool", spec := "fnExactIsPool", unfollowed := true, recurses := true, apart := false, narrowed := true }
def FnExactIsPoolUptoSaid : Prop := fnExactIsPoolUptoRow.holds Try.pinned (OpenSpec.upto fnExactIsPoolSpec)

/-- 'laws.FnExactMakePool', WHERE WHAT IT READS IS OF BULK AT MOST 1048576: true; the input reads as it did. -/
def fnExactMakePoolUptoRow : OpenClaim := { program := "ytmpopfcnjgcncaa", sum := "7a7c2c9791c272dbe3e74c6fb98f7ddea6b4057dd798f0953e7fe1a5169a77db", func := "loop.example/g01027/laws.FnExactMakePool", spec := "fnExactMakePool", unfollowed := true, recurses := true, apart := false, narrowed := true }
def FnExactMakePoolUptoSaid : Prop := fnExactMakePoolUptoRow.holds Try.pinned (OpenSpec.upto fnExactMakePoolSpec)

/-- 'laws.FnExactLeftOf', WHERE WHAT IT READS IS OF BULK AT MOST 1048576: true; the input reads as it did. -/
def fnExactLeftOfUptoRow : OpenClaim := { program := "ytmpopfcnjgcncaa", sum := "7a7c2c9791c272dbe3e74c6fb98f7ddea6b4057dd798f0953e7fe1a5169a77db", func := "loop.example/g01027/laws.FnExactLeftOf", spec := "fnExactLeftOf", unfollowed := true, recurses := true, apart := false, narrowed := true }
def FnExactLeftOfUptoSaid : Prop := fnExactLeftOfUptoRow.holds Try.pinned (OpenSpec.upto fnExactLeftOfSpec)

/-- 'laws.FnExactTakeFrom', WHERE WHAT IT READS IS OF BULK AT MOST 1048576: true; the input reads as it did. -/
def fnExactTakeFromUptoRow : OpenClaim := { program := "ytmpopfcnjgcncaa", sum := "7a7c2c9791c272dbe3e74c6fb98f7ddea6b4057dd798f0953e7fe1a5169a77db", func := "loop.example/g01027/laws.FnExactTakeFrom", spec := "fnExactTakeFrom", unfollowed := true, recurses := true, apart := false, narrowed := true }
def FnExactTakeFromUptoSaid : Prop := fnExactTakeFromUptoRow.holds Try.pinned (OpenSpec.upto fnExactTakeFromSpec)

/-- 'laws.FnExactPutBack', WHERE WHAT IT READS IS OF BULK AT MOST 1048576: true; the input reads as it did. -/
def fnExactPutBackUptoRow : OpenClaim := { program := "ytmpopfcnjgcncaa", sum := "7a7c2c9791c272dbe3e74c6fb98f7ddea6b4057dd798f0953e7fe1a5169a77db", func := "loop.example/g01027/laws.FnExactPutBack", spec := "fnExactPutBack", unfollowed := true, recurses := true, apart := false, narrowed := true }
def FnExactPutBackUptoSaid : Prop := fnExactPutBackUptoRow.holds Try.pinned (OpenSpec.upto fnExactPutBackSpec)

/-- 'laws.FnExactIsReplay', WHERE WHAT IT READS IS OF BULK AT MOST 1048576: true; the input reads as it did. -/
def fnExactIsReplayUptoRow : OpenClaim := { program := "ytmpopfcnjgcncaa", sum := "7a7c2c9791c272dbe3e74c6fb98f7ddea6b4057dd798f0953e7fe1a5169a77db", func := "loop.example/g01027/laws.FnExactIsReplay", spec := "fnExactIsReplay", unfollowed := true, recurses := true, apart := false, narrowed := true }
def FnExactIsReplayUptoSaid : Prop := fnExactIsReplayUptoRow.holds Try.pinned (OpenSpec.upto fnExactIsReplaySpec)

/-- 'laws.FnExactChanceOf', WHERE WHAT IT READS IS OF BULK AT MOST 1048576: true; the input reads as it did. -/
def fnExactChanceOfUptoRow : OpenClaim := { program := "ytmpopfcnjgcncaa", sum := "7a7c2c9791c272dbe3e74c6fb98f7ddea6b4057dd798f0953e7fe1a5169a77db", func := "loop.example/g01027/laws.FnExactChanceOf", spec := "fnExactChanceOf", unfollowed := true, recurses := true, apart := false, narrowed := true }
def FnExactChanceOfUptoSaid : Prop := fnExactChanceOfUptoRow.holds Try.pinned (OpenSpec.upto fnExactChanceOfSpec)

end Rows
end Go.Proofs.Ytmpopfcnjgcncaa
