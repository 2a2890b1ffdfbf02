/-
  No cell of these rows narrows 'for every input' (looked for: loops, veiled, ifaces, maps, wideKeys, modest, calm, conditions, laid).
  DERIVED. THE GIVEN ROWS OF THIS SEAT. 9 by the template 'for every input the law returns true; each argument reads behind the call as it read before'; 0 by the template 'total and deterministic' (their statements: YtmfpbeggddkepaaTotals.lean).
  GIVEN WITH THE SEED: the statements are not yours to turn. If you find one false, say at which input.
  Laid BY PROGRAM, IN A SANDBOX (cutbox-rows.mjs): the forced cells as the released guide's own fill.sh prints them over the translation f3252a76c2af58d5… (all of the seat's roots in one cut). By AI agents, Wed Nov 11 2026. No macro, syntax, notation, axiom, sorry.
-/
import Derived.Test.YtmfpbeggddkepaaChecked
import GoSem.Claim
import GoSem.ClaimJoined
import GoSem.ClaimMapViews
import Derived.JoinedTies
import Derived.KernelRfl
namespace Go.Proofs.Ytmfpbeggddkepaa
/- THE CELL 'sum', in the pinned program and in every row, IS THE sha256 OF THE DUMP (.gsa) THAT YtmfpbeggddkepaaProg.lean LOADS. Nothing in Lean hashes anything: it is a label: what it is worth is what the hold of that sum in a sandbox is worth. -/
noncomputable def Try.pinned : Pinned := { name := "ytmfpbeggddkepaa", sum := "f3252a76c2af58d5dcd4c0c940492b603e0346eb332e5c3c0f36e5a54f3d44eb", checked := Try.checked }
namespace Rows
def none {H : Type} : Left H := { results := [], args := [] }

/-- 'laws.FnFinalEager': WHATEVER THE INPUT: true; the input reads as it did. -/
def fnFinalEagerSpec : ChangeSpec := { name := "fnFinalEager", fn := fun _ => fun
  | [d] => { results := [.lit (.bool true)], args := [d] }
  | _ => none }
def fnFinalEagerRow : OpenClaim := { program := "ytmfpbeggddkepaa", sum := "f3252a76c2af58d5dcd4c0c940492b603e0346eb332e5c3c0f36e5a54f3d44eb", func := "loop.example/groupmulticast/laws.FnFinalEager", spec := "fnFinalEager", unfollowed := true, recurses := true, apart := false }
def FnFinalEagerSaid : Prop := fnFinalEagerRow.holds Try.pinned (OpenSpec.ofChange fnFinalEagerSpec)

/-- ITS FALSE NEIGHBOUR: 'it returns false'. Refute it at one input. -/
def fnFinalEagerWrong : ChangeSpec := { name := "fnFinalEager", fn := fun _ => fun
  | [d] => { results := [.lit (.bool false)], args := [d] }
  | _ => none }
def FnFinalEagerWrongFalsely : Prop := fnFinalEagerRow.holds Try.pinned (OpenSpec.ofChange fnFinalEagerWrong)

/-- 'laws.FnFinalCommute': WHATEVER THE INPUT: true; the input reads as it did. -/
def fnFinalCommuteSpec : ChangeSpec := { name := "fnFinalCommute", fn := fun _ => fun
  | [d1, d2] => { results := [.lit (.bool true)], args := [d1, d2] }
  | _ => none }
def fnFinalCommuteRow : OpenClaim := { program := "ytmfpbeggddkepaa", sum := "f3252a76c2af58d5dcd4c0c940492b603e0346eb332e5c3c0f36e5a54f3d44eb", func := "loop.example/groupmulticast/laws.FnFinalCommute", spec := "fnFinalCommute", unfollowed := true, recurses := true, apart := false }
def FnFinalCommuteSaid : Prop := fnFinalCommuteRow.holds Try.pinned (OpenSpec.ofChange fnFinalCommuteSpec)

/-- ITS FALSE NEIGHBOUR: 'it returns false'. Refute it at one input. -/
def fnFinalCommuteWrong : ChangeSpec := { name := "fnFinalCommute", fn := fun _ => fun
  | [d1, d2] => { results := [.lit (.bool false)], args := [d1, d2] }
  | _ => none }
def FnFinalCommuteWrongFalsely : Prop := fnFinalCommuteRow.holds Try.pinned (OpenSpec.ofChange fnFinalCommuteWrong)

/-- 'laws.FnFinalRefused': WHATEVER THE INPUT: true; the input reads as it did. -/
def fnFinalRefusedSpec : ChangeSpec := { name := "fnFinalRefused", fn := fun _ => fun
  | [d] => { results := [.lit (.bool true)], args := [d] }
  | _ => none }
def fnFinalRefusedRow : OpenClaim := { program := "ytmfpbeggddkepaa", sum := "f3252a76c2af58d5dcd4c0c940492b603e0346eb332e5c3c0f36e5a54f3d44eb", func := "loop.example/groupmulticast/laws.FnFinalRefused", spec := "fnFinalRefused", unfollowed := true, recurses := true, apart := false }
def FnFinalRefusedSaid : Prop := fnFinalRefusedRow.holds Try.pinned (OpenSpec.ofChange fnFinalRefusedSpec)

/-- ITS FALSE NEIGHBOUR: 'it returns false'. Refute it at one input. -/
def fnFinalRefusedWrong : ChangeSpec := { name := "fnFinalRefused", fn := fun _ => fun
  | [d] => { results := [.lit (.bool false)], args := [d] }
  | _ => none }
def FnFinalRefusedWrongFalsely : Prop := fnFinalRefusedRow.holds Try.pinned (OpenSpec.ofChange fnFinalRefusedWrong)

/-- 'laws.FnProposeLater': WHATEVER THE INPUT: true; the input reads as it did. -/
def fnProposeLaterSpec : ChangeSpec := { name := "fnProposeLater", fn := fun _ => fun
  | [d] => { results := [.lit (.bool true)], args := [d] }
  | _ => none }
def fnProposeLaterRow : OpenClaim := { program := "ytmfpbeggddkepaa", sum := "f3252a76c2af58d5dcd4c0c940492b603e0346eb332e5c3c0f36e5a54f3d44eb", func := "loop.example/groupmulticast/laws.FnProposeLater", spec := "fnProposeLater", unfollowed := true, recurses := true, apart := false }
def FnProposeLaterSaid : Prop := fnProposeLaterRow.holds Try.pinned (OpenSpec.ofChange fnProposeLaterSpec)

/-- ITS FALSE NEIGHBOUR: 'it returns false'. Refute it at one input. -/
def fnProposeLaterWrong : ChangeSpec := { name := "fnProposeLater", fn := fun _ => fun
  | [d] => { results := [.lit (.bool false)], args := [d] }
  | _ => none }
def FnProposeLaterWrongFalsely : Prop := fnProposeLaterRow.holds Try.pinned (OpenSpec.ofChange fnProposeLaterWrong)

/-- 'laws.FnFinalOwn': WHATEVER THE INPUT: true; the input reads as it did. -/
def fnFinalOwnSpec : ChangeSpec := { name := "fnFinalOwn", fn := fun _ => fun
  | [d] => { results := [.lit (.bool true)], args := [d] }
  | _ => none }
def fnFinalOwnRow : OpenClaim := { program := "ytmfpbeggddkepaa", sum := "f3252a76c2af58d5dcd4c0c940492b603e0346eb332e5c3c0f36e5a54f3d44eb", func := "loop.example/groupmulticast/laws.FnFinalOwn", spec := "fnFinalOwn", unfollowed := true, recurses := true, apart := false }
def FnFinalOwnSaid : Prop := fnFinalOwnRow.holds Try.pinned (OpenSpec.ofChange fnFinalOwnSpec)

/-- ITS FALSE NEIGHBOUR: 'it returns false'. Refute it at one input. -/
def fnFinalOwnWrong : ChangeSpec := { name := "fnFinalOwn", fn := fun _ => fun
  | [d] => { results := [.lit (.bool false)], args := [d] }
  | _ => none }
def FnFinalOwnWrongFalsely : Prop := fnFinalOwnRow.holds Try.pinned (OpenSpec.ofChange fnFinalOwnWrong)

/-- 'laws.FnBlocks': WHATEVER THE INPUT: true; the input reads as it did. -/
def fnBlocksSpec : ChangeSpec := { name := "fnBlocks", fn := fun _ => fun
  | [d] => { results := [.lit (.bool true)], args := [d] }
  | _ => none }
def fnBlocksRow : OpenClaim := { program := "ytmfpbeggddkepaa", sum := "f3252a76c2af58d5dcd4c0c940492b603e0346eb332e5c3c0f36e5a54f3d44eb", func := "loop.example/groupmulticast/laws.FnBlocks", spec := "fnBlocks", unfollowed := true, recurses := true, apart := false }
def FnBlocksSaid : Prop := fnBlocksRow.holds Try.pinned (OpenSpec.ofChange fnBlocksSpec)

/-- ITS FALSE NEIGHBOUR: 'it returns false'. Refute it at one input. -/
def fnBlocksWrong : ChangeSpec := { name := "fnBlocks", fn := fun _ => fun
  | [d] => { results := [.lit (.bool false)], args := [d] }
  | _ => none }
def FnBlocksWrongFalsely : Prop := fnBlocksRow.holds Try.pinned (OpenSpec.ofChange fnBlocksWrong)

/-- 'laws.FnProposeClock': WHATEVER THE INPUT: true; the input reads as it did. -/
def fnProposeClockSpec : ChangeSpec := { name := "fnProposeClock", fn := fun _ => fun
  | [d] => { results := [.lit (.bool true)], args := [d] }
  | _ => none }
def fnProposeClockRow : OpenClaim := { program := "ytmfpbeggddkepaa", sum := "f3252a76c2af58d5dcd4c0c940492b603e0346eb332e5c3c0f36e5a54f3d44eb", func := "loop.example/groupmulticast/laws.FnProposeClock", spec := "fnProposeClock", unfollowed := true, recurses := true, apart := false }
def FnProposeClockSaid : Prop := fnProposeClockRow.holds Try.pinned (OpenSpec.ofChange fnProposeClockSpec)

/-- ITS FALSE NEIGHBOUR: 'it returns false'. Refute it at one input. -/
def fnProposeClockWrong : ChangeSpec := { name := "fnProposeClock", fn := fun _ => fun
  | [d] => { results := [.lit (.bool false)], args := [d] }
  | _ => none }
def FnProposeClockWrongFalsely : Prop := fnProposeClockRow.holds Try.pinned (OpenSpec.ofChange fnProposeClockWrong)

/-- 'laws.FnGroupTrace': WHATEVER THE INPUT: true; the input reads as it did. -/
def fnGroupTraceSpec : ChangeSpec := { name := "fnGroupTrace", fn := fun _ => fun
  | [d] => { results := [.lit (.bool true)], args := [d] }
  | _ => none }
def fnGroupTraceRow : OpenClaim := { program := "ytmfpbeggddkepaa", sum := "f3252a76c2af58d5dcd4c0c940492b603e0346eb332e5c3c0f36e5a54f3d44eb", func := "loop.example/groupmulticast/laws.FnGroupTrace", spec := "fnGroupTrace", unfollowed := true, recurses := true, apart := false }
def FnGroupTraceSaid : Prop := fnGroupTraceRow.holds Try.pinned (OpenSpec.ofChange fnGroupTraceSpec)

/-- ITS FALSE NEIGHBOUR: 'it returns false'. Refute it at one input. -/
def fnGroupTraceWrong : ChangeSpec := { name := "fnGroupTrace", fn := fun _ => fun
  | [d] => { results := [.lit (.bool false)], args := [d] }
  | _ => none }
def FnGroupTraceWrongFalsely : Prop := fnGroupTraceRow.holds Try.pinned (OpenSpec.ofChange fnGroupTraceWrong)

/-- 'laws.FnGroupStamp': WHATEVER THE INPUT: true; the input reads as it did. -/
def fnGroupStampSpec : ChangeSpec := { name := "fnGroupStamp", fn := fun _ => fun
  | [d] => { results := [.lit (.bool true)], args := [d] }
  | _ => none }
def fnGroupStampRow : OpenClaim := { program := "ytmfpbeggddkepaa", sum := "f3252a76c2af58d5dcd4c0c940492b603e0346eb332e5c3c0f36e5a54f3d44eb", func := "loop.example/groupmulticast/laws.FnGroupStamp", spec := "fnGroupStamp", unfollowed := true, recurses := true, apart := false }
def FnGroupStampSaid : Prop := fnGroupStampRow.holds Try.pinned (OpenSpec.ofChange fnGroupStampSpec)

/-- ITS FALSE NEIGHBOUR: 'it returns false'. Refute it at one input. -/
def fnGroupStampWrong : ChangeSpec := { name := "fnGroupStamp", fn := fun _ => fun
  | [d] => { results := [.lit (.bool false)], args := [d] }
  | _ => none }
def FnGroupStampWrongFalsely : Prop := fnGroupStampRow.holds Try.pinned (OpenSpec.ofChange fnGroupStampWrong)

/- THE SECOND FORM. 'bulk': how many values and letters a reading holds, each counted each time it is reached (what is shared counts as often as it is met; a slice's spare places count too). A statement '..UptoSaid' is the law's where the arguments, and the package variables that the reading takes, are together of bulk at most 1048576: NARROWER than '..Said'. Prove '..Said' where nothing that the law and all that it calls make is longer than what came in: it says more and counts as full. Else prove '..UptoSaid'. A law counts once. -/
mutual
def uptoBulk {H : Type} : DataW H → Nat
  | .lit (.string bytes) => bytes.length + 1
  | .lit _ => 1
  | .nil => 1
  | .ptr d => uptoBulk d + 1
  | .slice elems spare => uptoBulkAll elems + uptoBulkAll spare + 1
  | .agg parts => uptoBulkAll parts + 1
  | .iface _ d => uptoBulk d + 1
  | .map entries => uptoBulkEntries entries + 1
  | .held _ => 1
def uptoBulkAll {H : Type} : List (DataW H) → Nat
  | [] => 0
  | d :: r => uptoBulk d + uptoBulkAll r
def uptoBulkEntries {H : Type} : List (Lit × DataW H) → Nat
  | [] => 0
  | x :: r => uptoBulkEntry x + uptoBulkEntries r
def uptoBulkEntry {H : Type} : Lit × DataW H → Nat
  | (.string bytes, d) => bytes.length + uptoBulk d + 1
  | (_, d) => uptoBulk d + 1
 end
def uptoSmall : (H : Type) → List (DataW H) → Bool := fun _ ds => decide (uptoBulkAll ds ≤ 1048576)
def OpenSpec.upto (s : _root_.Go.ChangeSpec) : _root_.Go.OpenSpec := { _root_.Go.OpenSpec.ofChange s with cond := some uptoSmall }

/-- 'laws.FnFinalEager', WHERE WHAT IT READS IS OF BULK AT MOST 1048576: true; the input reads as it did. -/
def fnFinalEagerUptoRow : OpenClaim := { program := "ytmfpbeggddkepaa", sum := "f3252a76c2af58d5dcd4c0c940492b603e0346eb332e5c3c0f36e5a54f3d44eb", func := "loop.example/groupmulticast/laws.FnFinalEager", spec := "fnFinalEager", unfollowed := true, recurses := true, apart := false, narrowed := true }
def FnFinalEagerUptoSaid : Prop := fnFinalEagerUptoRow.holds Try.pinned (OpenSpec.upto fnFinalEagerSpec)

/-- 'laws.FnFinalCommute', WHERE WHAT IT READS IS OF BULK AT MOST 1048576: true; the input reads as it did. -/
def fnFinalCommuteUptoRow : OpenClaim := { program := "ytmfpbeggddkepaa", sum := "f3252a76c2af58d5dcd4c0c940492b603e0346eb332e5c3c0f36e5a54f3d44eb", func := "loop.example/groupmulticast/laws.FnFinalCommute", spec := "fnFinalCommute", unfollowed := true, recurses := true, apart := false, narrowed := true }
def FnFinalCommuteUptoSaid : Prop := fnFinalCommuteUptoRow.holds Try.pinned (OpenSpec.upto fnFinalCommuteSpec)

/-- 'laws.FnFinalRefused', WHERE WHAT IT READS IS OF BULK AT MOST 1048576: true; the input reads as it did. -/
def fnFinalRefusedUptoRow : OpenClaim := { program := "ytmfpbeggddkepaa", sum := "f3252a76c2af58d5dcd4c0c940492b603e0346eb332e5c3c0f36e5a54f3d44eb", func := "loop.example/groupmulticast/laws.FnFinalRefused", spec := "fnFinalRefused", unfollowed := true, recurses := true, apart := false, narrowed := true }
def FnFinalRefusedUptoSaid : Prop := fnFinalRefusedUptoRow.holds Try.pinned (OpenSpec.upto fnFinalRefusedSpec)

/-- 'laws.FnProposeLater', WHERE WHAT IT READS IS OF BULK AT MOST 1048576: true; the input reads as it did. -/
def fnProposeLaterUptoRow : OpenClaim := { program := "ytmfpbeggddkepaa", sum := "f3252a76c2af58d5dcd4c0c940492b603e0346eb332e5c3c0f36e5a54f3d44eb", func := "loop.example/groupmulticast/laws.FnProposeLater", spec := "fnProposeLater", unfollowed := true, recurses := true, apart := false, narrowed := true }
def FnProposeLaterUptoSaid : Prop := fnProposeLaterUptoRow.holds Try.pinned (OpenSpec.upto fnProposeLaterSpec)

/-- 'laws.FnFinalOwn', WHERE WHAT IT READS IS OF BULK AT MOST 1048576: true; the input reads as it did. -/
def fnFinalOwnUptoRow : OpenClaim := { program := "ytmfpbeggddkepaa", sum := "f3252a76c2af58d5dcd4c0c940492b603e0346eb332e5c3c0f36e5a54f3d44eb", func := "loop.example/groupmulticast/laws.FnFinalOwn", spec := "fnFinalOwn", unfollowed := true, recurses := true, apart := false, narrowed := true }
def FnFinalOwnUptoSaid : Prop := fnFinalOwnUptoRow.holds Try.pinned (OpenSpec.upto fnFinalOwnSpec)

/-- 'laws.FnBlocks', WHERE WHAT IT READS IS OF BULK AT MOST 1048576: true; the input reads as it did. -/
def fnBlocksUptoRow : OpenClaim := { program := "ytmfpbeggddkepaa", sum := "f3252a76c2af58d5dcd4c0c940492b603e0346eb332e5c3c0f36e5a54f3d44eb", func := "loop.example/groupmulticast/laws.FnBlocks", spec := "fnBlocks", unfollowed := true, recurses := true, apart := false, narrowed := true }
def FnBlocksUptoSaid : Prop := fnBlocksUptoRow.holds Try.pinned (OpenSpec.upto fnBlocksSpec)

/-- 'laws.FnProposeClock', WHERE WHAT IT READS IS OF BULK AT MOST 1048576: true; the input reads as it did. -/
def fnProposeClockUptoRow : OpenClaim := { program := "ytmfpbeggddkepaa", sum := "f3252a76c2af58d5dcd4c0c940492b603e0346eb332e5c3c0f36e5a54f3d44eb", func := "loop.example/groupmulticast/laws.FnProposeClock", spec := "fnProposeClock", unfollowed := true, recurses := true, apart := false, narrowed := true }
def FnProposeClockUptoSaid : Prop := fnProposeClockUptoRow.holds Try.pinned (OpenSpec.upto fnProposeClockSpec)

/-- 'laws.FnGroupTrace', WHERE WHAT IT READS IS OF BULK AT MOST 1048576: true; the input reads as it did. -/
def fnGroupTraceUptoRow : OpenClaim := { program := "ytmfpbeggddkepaa", sum := "f3252a76c2af58d5dcd4c0c940492b603e0346eb332e5c3c0f36e5a54f3d44eb", func := "loop.example/groupmulticast/laws.FnGroupTrace", spec := "fnGroupTrace", unfollowed := true, recurses := true, apart := false, narrowed := true }
def FnGroupTraceUptoSaid : Prop := fnGroupTraceUptoRow.holds Try.pinned (OpenSpec.upto fnGroupTraceSpec)

/-- 'laws.FnGroupStamp', WHERE WHAT IT READS IS OF BULK AT MOST 1048576: true; the input reads as it did. -/
def fnGroupStampUptoRow : OpenClaim := { program := "ytmfpbeggddkepaa", sum := "f3252a76c2af58d5dcd4c0c940492b603e0346eb332e5c3c0f36e5a54f3d44eb", func := "loop.example/groupmulticast/laws.FnGroupStamp", spec := "fnGroupStamp", unfollowed := true, recurses := true, apart := false, narrowed := true }
def FnGroupStampUptoSaid : Prop := fnGroupStampUptoRow.holds Try.pinned (OpenSpec.upto fnGroupStampSpec)

end Rows
end Go.Proofs.Ytmfpbeggddkepaa
