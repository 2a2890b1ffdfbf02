/-
  No cell of these rows narrows 'for every input' (looked for: loops, veiled, ifaces, maps, wideKeys, modest, calm, conditions, laid).
  DERIVED. THE GIVEN ROWS OF THIS SEAT. 15 by the template 'for every input the law returns true; each argument reads behind the call as it read before'; 0 by the template 'total and deterministic' (their statements: YteagmkhpfmiaiaaTotals.lean).
  GIVEN WITH THE SEED: the statements are not yours to turn. If you find one false, say at which input.
  Laid BY PROGRAM, IN A SANDBOX (cutbox-rows.mjs): the forced cells as the released guide's own fill.sh prints them over the translation 761be94474e835b8… (all of the seat's roots in one cut). By AI agents, Wed Nov 11 2026. No macro, syntax, notation, axiom, sorry.
-/
import Derived.Test.YteagmkhpfmiaiaaChecked
import GoSem.Claim
import GoSem.ClaimJoined
import GoSem.ClaimMapViews
import Derived.JoinedTies
import Derived.KernelRfl
namespace Go.Proofs.Yteagmkhpfmiaiaa
/- THE CELL 'sum', in the pinned program and in every row, IS THE sha256 OF THE DUMP (.gsa) THAT YteagmkhpfmiaiaaProg.lean LOADS. Nothing in Lean hashes anything: it is a label: what it is worth is what the hold of that sum in a sandbox is worth. -/
noncomputable def Try.pinned : Pinned := { name := "yteagmkhpfmiaiaa", sum := "761be94474e835b80c543b71ca4219fa056d18b518a0e6ed32e4f0457b1b6025", checked := Try.checked }
namespace Rows
def none {H : Type} : Left H := { results := [], args := [] }

/-- 'laws.FnTxnApply': WHATEVER THE INPUT: true; the input reads as it did. -/
def fnTxnApplySpec : ChangeSpec := { name := "fnTxnApply", fn := fun _ => fun
  | [d] => { results := [.lit (.bool true)], args := [d] }
  | _ => none }
def fnTxnApplyRow : OpenClaim := { program := "yteagmkhpfmiaiaa", sum := "761be94474e835b80c543b71ca4219fa056d18b518a0e6ed32e4f0457b1b6025", func := "loop.example/groupmulticast/laws.FnTxnApply", spec := "fnTxnApply", unfollowed := true, recurses := true, apart := false }
def FnTxnApplySaid : Prop := fnTxnApplyRow.holds Try.pinned (OpenSpec.ofChange fnTxnApplySpec)

/-- ITS FALSE NEIGHBOUR: 'it returns false'. Refute it at one input. -/
def fnTxnApplyWrong : ChangeSpec := { name := "fnTxnApply", fn := fun _ => fun
  | [d] => { results := [.lit (.bool false)], args := [d] }
  | _ => none }
def FnTxnApplyWrongFalsely : Prop := fnTxnApplyRow.holds Try.pinned (OpenSpec.ofChange fnTxnApplyWrong)

/-- 'laws.FnTxnNeed': WHATEVER THE INPUT: true; the input reads as it did. -/
def fnTxnNeedSpec : ChangeSpec := { name := "fnTxnNeed", fn := fun _ => fun
  | [d] => { results := [.lit (.bool true)], args := [d] }
  | _ => none }
def fnTxnNeedRow : OpenClaim := { program := "yteagmkhpfmiaiaa", sum := "761be94474e835b80c543b71ca4219fa056d18b518a0e6ed32e4f0457b1b6025", func := "loop.example/groupmulticast/laws.FnTxnNeed", spec := "fnTxnNeed", unfollowed := true, recurses := true, apart := false }
def FnTxnNeedSaid : Prop := fnTxnNeedRow.holds Try.pinned (OpenSpec.ofChange fnTxnNeedSpec)

/-- ITS FALSE NEIGHBOUR: 'it returns false'. Refute it at one input. -/
def fnTxnNeedWrong : ChangeSpec := { name := "fnTxnNeed", fn := fun _ => fun
  | [d] => { results := [.lit (.bool false)], args := [d] }
  | _ => none }
def FnTxnNeedWrongFalsely : Prop := fnTxnNeedRow.holds Try.pinned (OpenSpec.ofChange fnTxnNeedWrong)

/-- 'laws.FnTxnFail': WHATEVER THE INPUT: true; the input reads as it did. -/
def fnTxnFailSpec : ChangeSpec := { name := "fnTxnFail", fn := fun _ => fun
  | [d] => { results := [.lit (.bool true)], args := [d] }
  | _ => none }
def fnTxnFailRow : OpenClaim := { program := "yteagmkhpfmiaiaa", sum := "761be94474e835b80c543b71ca4219fa056d18b518a0e6ed32e4f0457b1b6025", func := "loop.example/groupmulticast/laws.FnTxnFail", spec := "fnTxnFail", unfollowed := true, recurses := true, apart := false }
def FnTxnFailSaid : Prop := fnTxnFailRow.holds Try.pinned (OpenSpec.ofChange fnTxnFailSpec)

/-- ITS FALSE NEIGHBOUR: 'it returns false'. Refute it at one input. -/
def fnTxnFailWrong : ChangeSpec := { name := "fnTxnFail", fn := fun _ => fun
  | [d] => { results := [.lit (.bool false)], args := [d] }
  | _ => none }
def FnTxnFailWrongFalsely : Prop := fnTxnFailRow.holds Try.pinned (OpenSpec.ofChange fnTxnFailWrong)

/-- 'laws.FnTxnGroups': WHATEVER THE INPUT: true; the input reads as it did. -/
def fnTxnGroupsSpec : ChangeSpec := { name := "fnTxnGroups", fn := fun _ => fun
  | [d] => { results := [.lit (.bool true)], args := [d] }
  | _ => none }
def fnTxnGroupsRow : OpenClaim := { program := "yteagmkhpfmiaiaa", sum := "761be94474e835b80c543b71ca4219fa056d18b518a0e6ed32e4f0457b1b6025", func := "loop.example/groupmulticast/laws.FnTxnGroups", spec := "fnTxnGroups", unfollowed := true, recurses := true, apart := false }
def FnTxnGroupsSaid : Prop := fnTxnGroupsRow.holds Try.pinned (OpenSpec.ofChange fnTxnGroupsSpec)

/-- ITS FALSE NEIGHBOUR: 'it returns false'. Refute it at one input. -/
def fnTxnGroupsWrong : ChangeSpec := { name := "fnTxnGroups", fn := fun _ => fun
  | [d] => { results := [.lit (.bool false)], args := [d] }
  | _ => none }
def FnTxnGroupsWrongFalsely : Prop := fnTxnGroupsRow.holds Try.pinned (OpenSpec.ofChange fnTxnGroupsWrong)

/-- 'laws.FnTxnLocal': WHATEVER THE INPUT: true; the input reads as it did. -/
def fnTxnLocalSpec : ChangeSpec := { name := "fnTxnLocal", fn := fun _ => fun
  | [d] => { results := [.lit (.bool true)], args := [d] }
  | _ => none }
def fnTxnLocalRow : OpenClaim := { program := "yteagmkhpfmiaiaa", sum := "761be94474e835b80c543b71ca4219fa056d18b518a0e6ed32e4f0457b1b6025", func := "loop.example/groupmulticast/laws.FnTxnLocal", spec := "fnTxnLocal", unfollowed := true, recurses := true, apart := false }
def FnTxnLocalSaid : Prop := fnTxnLocalRow.holds Try.pinned (OpenSpec.ofChange fnTxnLocalSpec)

/-- ITS FALSE NEIGHBOUR: 'it returns false'. Refute it at one input. -/
def fnTxnLocalWrong : ChangeSpec := { name := "fnTxnLocal", fn := fun _ => fun
  | [d] => { results := [.lit (.bool false)], args := [d] }
  | _ => none }
def FnTxnLocalWrongFalsely : Prop := fnTxnLocalRow.holds Try.pinned (OpenSpec.ofChange fnTxnLocalWrong)

/-- 'laws.FnTxnCommute': WHATEVER THE INPUT: true; the input reads as it did. -/
def fnTxnCommuteSpec : ChangeSpec := { name := "fnTxnCommute", fn := fun _ => fun
  | [d1, d2] => { results := [.lit (.bool true)], args := [d1, d2] }
  | _ => none }
def fnTxnCommuteRow : OpenClaim := { program := "yteagmkhpfmiaiaa", sum := "761be94474e835b80c543b71ca4219fa056d18b518a0e6ed32e4f0457b1b6025", func := "loop.example/groupmulticast/laws.FnTxnCommute", spec := "fnTxnCommute", unfollowed := true, recurses := true, apart := false }
def FnTxnCommuteSaid : Prop := fnTxnCommuteRow.holds Try.pinned (OpenSpec.ofChange fnTxnCommuteSpec)

/-- ITS FALSE NEIGHBOUR: 'it returns false'. Refute it at one input. -/
def fnTxnCommuteWrong : ChangeSpec := { name := "fnTxnCommute", fn := fun _ => fun
  | [d1, d2] => { results := [.lit (.bool false)], args := [d1, d2] }
  | _ => none }
def FnTxnCommuteWrongFalsely : Prop := fnTxnCommuteRow.holds Try.pinned (OpenSpec.ofChange fnTxnCommuteWrong)

/-- 'laws.FnStoreRun': WHATEVER THE INPUT: true; the input reads as it did. -/
def fnStoreRunSpec : ChangeSpec := { name := "fnStoreRun", fn := fun _ => fun
  | [d] => { results := [.lit (.bool true)], args := [d] }
  | _ => none }
def fnStoreRunRow : OpenClaim := { program := "yteagmkhpfmiaiaa", sum := "761be94474e835b80c543b71ca4219fa056d18b518a0e6ed32e4f0457b1b6025", func := "loop.example/groupmulticast/laws.FnStoreRun", spec := "fnStoreRun", unfollowed := true, recurses := true, apart := false }
def FnStoreRunSaid : Prop := fnStoreRunRow.holds Try.pinned (OpenSpec.ofChange fnStoreRunSpec)

/-- ITS FALSE NEIGHBOUR: 'it returns false'. Refute it at one input. -/
def fnStoreRunWrong : ChangeSpec := { name := "fnStoreRun", fn := fun _ => fun
  | [d] => { results := [.lit (.bool false)], args := [d] }
  | _ => none }
def FnStoreRunWrongFalsely : Prop := fnStoreRunRow.holds Try.pinned (OpenSpec.ofChange fnStoreRunWrong)

/-- 'laws.FnStoreRunParts': WHATEVER THE INPUT: true; the input reads as it did. -/
def fnStoreRunPartsSpec : ChangeSpec := { name := "fnStoreRunParts", fn := fun _ => fun
  | [d1, d2] => { results := [.lit (.bool true)], args := [d1, d2] }
  | _ => none }
def fnStoreRunPartsRow : OpenClaim := { program := "yteagmkhpfmiaiaa", sum := "761be94474e835b80c543b71ca4219fa056d18b518a0e6ed32e4f0457b1b6025", func := "loop.example/groupmulticast/laws.FnStoreRunParts", spec := "fnStoreRunParts", unfollowed := true, recurses := true, apart := false }
def FnStoreRunPartsSaid : Prop := fnStoreRunPartsRow.holds Try.pinned (OpenSpec.ofChange fnStoreRunPartsSpec)

/-- ITS FALSE NEIGHBOUR: 'it returns false'. Refute it at one input. -/
def fnStoreRunPartsWrong : ChangeSpec := { name := "fnStoreRunParts", fn := fun _ => fun
  | [d1, d2] => { results := [.lit (.bool false)], args := [d1, d2] }
  | _ => none }
def FnStoreRunPartsWrongFalsely : Prop := fnStoreRunPartsRow.holds Try.pinned (OpenSpec.ofChange fnStoreRunPartsWrong)

/-- 'laws.FnStoreParts': WHATEVER THE INPUT: true; the input reads as it did. -/
def fnStorePartsSpec : ChangeSpec := { name := "fnStoreParts", fn := fun _ => fun
  | [d] => { results := [.lit (.bool true)], args := [d] }
  | _ => none }
def fnStorePartsRow : OpenClaim := { program := "yteagmkhpfmiaiaa", sum := "761be94474e835b80c543b71ca4219fa056d18b518a0e6ed32e4f0457b1b6025", func := "loop.example/groupmulticast/laws.FnStoreParts", spec := "fnStoreParts", unfollowed := true, recurses := true, apart := false }
def FnStorePartsSaid : Prop := fnStorePartsRow.holds Try.pinned (OpenSpec.ofChange fnStorePartsSpec)

/-- ITS FALSE NEIGHBOUR: 'it returns false'. Refute it at one input. -/
def fnStorePartsWrong : ChangeSpec := { name := "fnStoreParts", fn := fun _ => fun
  | [d] => { results := [.lit (.bool false)], args := [d] }
  | _ => none }
def FnStorePartsWrongFalsely : Prop := fnStorePartsRow.holds Try.pinned (OpenSpec.ofChange fnStorePartsWrong)

/-- 'laws.FnStoreJoin': WHATEVER THE INPUT: true; the input reads as it did. -/
def fnStoreJoinSpec : ChangeSpec := { name := "fnStoreJoin", fn := fun _ => fun
  | [d] => { results := [.lit (.bool true)], args := [d] }
  | _ => none }
def fnStoreJoinRow : OpenClaim := { program := "yteagmkhpfmiaiaa", sum := "761be94474e835b80c543b71ca4219fa056d18b518a0e6ed32e4f0457b1b6025", func := "loop.example/groupmulticast/laws.FnStoreJoin", spec := "fnStoreJoin", unfollowed := true, recurses := true, apart := false }
def FnStoreJoinSaid : Prop := fnStoreJoinRow.holds Try.pinned (OpenSpec.ofChange fnStoreJoinSpec)

/-- ITS FALSE NEIGHBOUR: 'it returns false'. Refute it at one input. -/
def fnStoreJoinWrong : ChangeSpec := { name := "fnStoreJoin", fn := fun _ => fun
  | [d] => { results := [.lit (.bool false)], args := [d] }
  | _ => none }
def FnStoreJoinWrongFalsely : Prop := fnStoreJoinRow.holds Try.pinned (OpenSpec.ofChange fnStoreJoinWrong)

/-- 'laws.FnTxnRead': WHATEVER THE INPUT: true; the input reads as it did. -/
def fnTxnReadSpec : ChangeSpec := { name := "fnTxnRead", fn := fun _ => fun
  | [d] => { results := [.lit (.bool true)], args := [d] }
  | _ => none }
def fnTxnReadRow : OpenClaim := { program := "yteagmkhpfmiaiaa", sum := "761be94474e835b80c543b71ca4219fa056d18b518a0e6ed32e4f0457b1b6025", func := "loop.example/groupmulticast/laws.FnTxnRead", spec := "fnTxnRead", unfollowed := true, recurses := true, apart := false }
def FnTxnReadSaid : Prop := fnTxnReadRow.holds Try.pinned (OpenSpec.ofChange fnTxnReadSpec)

/-- ITS FALSE NEIGHBOUR: 'it returns false'. Refute it at one input. -/
def fnTxnReadWrong : ChangeSpec := { name := "fnTxnRead", fn := fun _ => fun
  | [d] => { results := [.lit (.bool false)], args := [d] }
  | _ => none }
def FnTxnReadWrongFalsely : Prop := fnTxnReadRow.holds Try.pinned (OpenSpec.ofChange fnTxnReadWrong)

/-- 'laws.FnTxnBack': WHATEVER THE INPUT: true; the input reads as it did. -/
def fnTxnBackSpec : ChangeSpec := { name := "fnTxnBack", fn := fun _ => fun
  | [d] => { results := [.lit (.bool true)], args := [d] }
  | _ => none }
def fnTxnBackRow : OpenClaim := { program := "yteagmkhpfmiaiaa", sum := "761be94474e835b80c543b71ca4219fa056d18b518a0e6ed32e4f0457b1b6025", func := "loop.example/groupmulticast/laws.FnTxnBack", spec := "fnTxnBack", unfollowed := true, recurses := true, apart := false }
def FnTxnBackSaid : Prop := fnTxnBackRow.holds Try.pinned (OpenSpec.ofChange fnTxnBackSpec)

/-- ITS FALSE NEIGHBOUR: 'it returns false'. Refute it at one input. -/
def fnTxnBackWrong : ChangeSpec := { name := "fnTxnBack", fn := fun _ => fun
  | [d] => { results := [.lit (.bool false)], args := [d] }
  | _ => none }
def FnTxnBackWrongFalsely : Prop := fnTxnBackRow.holds Try.pinned (OpenSpec.ofChange fnTxnBackWrong)

/-- 'laws.FnTxnPart': WHATEVER THE INPUT: true; the input reads as it did. -/
def fnTxnPartSpec : ChangeSpec := { name := "fnTxnPart", fn := fun _ => fun
  | [d1, d2] => { results := [.lit (.bool true)], args := [d1, d2] }
  | _ => none }
def fnTxnPartRow : OpenClaim := { program := "yteagmkhpfmiaiaa", sum := "761be94474e835b80c543b71ca4219fa056d18b518a0e6ed32e4f0457b1b6025", func := "loop.example/groupmulticast/laws.FnTxnPart", spec := "fnTxnPart", unfollowed := true, recurses := true, apart := false }
def FnTxnPartSaid : Prop := fnTxnPartRow.holds Try.pinned (OpenSpec.ofChange fnTxnPartSpec)

/-- ITS FALSE NEIGHBOUR: 'it returns false'. Refute it at one input. -/
def fnTxnPartWrong : ChangeSpec := { name := "fnTxnPart", fn := fun _ => fun
  | [d1, d2] => { results := [.lit (.bool false)], args := [d1, d2] }
  | _ => none }
def FnTxnPartWrongFalsely : Prop := fnTxnPartRow.holds Try.pinned (OpenSpec.ofChange fnTxnPartWrong)

/-- 'laws.FnStoreFailed': WHATEVER THE INPUT: true; the input reads as it did. -/
def fnStoreFailedSpec : ChangeSpec := { name := "fnStoreFailed", fn := fun _ => fun
  | [d] => { results := [.lit (.bool true)], args := [d] }
  | _ => none }
def fnStoreFailedRow : OpenClaim := { program := "yteagmkhpfmiaiaa", sum := "761be94474e835b80c543b71ca4219fa056d18b518a0e6ed32e4f0457b1b6025", func := "loop.example/groupmulticast/laws.FnStoreFailed", spec := "fnStoreFailed", unfollowed := true, recurses := true, apart := false }
def FnStoreFailedSaid : Prop := fnStoreFailedRow.holds Try.pinned (OpenSpec.ofChange fnStoreFailedSpec)

/-- ITS FALSE NEIGHBOUR: 'it returns false'. Refute it at one input. -/
def fnStoreFailedWrong : ChangeSpec := { name := "fnStoreFailed", fn := fun _ => fun
  | [d] => { results := [.lit (.bool false)], args := [d] }
  | _ => none }
def FnStoreFailedWrongFalsely : Prop := fnStoreFailedRow.holds Try.pinned (OpenSpec.ofChange fnStoreFailedWrong)

/-- 'laws.FnStoreMerge': WHATEVER THE INPUT: true; the input reads as it did. -/
def fnStoreMergeSpec : ChangeSpec := { name := "fnStoreMerge", fn := fun _ => fun
  | [d1, d2] => { results := [.lit (.bool true)], args := [d1, d2] }
  | _ => none }
def fnStoreMergeRow : OpenClaim := { program := "yteagmkhpfmiaiaa", sum := "761be94474e835b80c543b71ca4219fa056d18b518a0e6ed32e4f0457b1b6025", func := "loop.example/groupmulticast/laws.FnStoreMerge", spec := "fnStoreMerge", unfollowed := true, recurses := true, apart := false }
def FnStoreMergeSaid : Prop := fnStoreMergeRow.holds Try.pinned (OpenSpec.ofChange fnStoreMergeSpec)

/-- ITS FALSE NEIGHBOUR: 'it returns false'. Refute it at one input. -/
def fnStoreMergeWrong : ChangeSpec := { name := "fnStoreMerge", fn := fun _ => fun
  | [d1, d2] => { results := [.lit (.bool false)], args := [d1, d2] }
  | _ => none }
def FnStoreMergeWrongFalsely : Prop := fnStoreMergeRow.holds Try.pinned (OpenSpec.ofChange fnStoreMergeWrong)

/- THE SECOND FORM. 'bulk': how many values and letters a reading holds, each counted each time it is reached (what is shared counts as often as it is met; a slice's spare places count too). A statement '..UptoSaid' is the law's where the arguments, and the package variables that the reading takes, are together of bulk at most 1048576: NARROWER than '..Said'. Prove '..Said' where nothing that the law and all that it calls make is longer than what came in: it says more and counts as full. Else prove '..UptoSaid'. A law counts once. -/
mutual
def uptoBulk {H : Type} : DataW H → Nat
  | .lit (.string bytes) => bytes.length + 1
  | .lit _ => 1
  | .nil => 1
  | .ptr d => uptoBulk d + 1
  | .slice elems spare => uptoBulkAll elems + uptoBulkAll spare + 1
  | .agg parts => uptoBulkAll parts + 1
  | .iface _ d => uptoBulk d + 1
  | .map entries => uptoBulkEntries entries + 1
  | .held _ => 1
def uptoBulkAll {H : Type} : List (DataW H) → Nat
  | [] => 0
  | d :: r => uptoBulk d + uptoBulkAll r
def uptoBulkEntries {H : Type} : List (Lit × DataW H) → Nat
  | [] => 0
  | x :: r => uptoBulkEntry x + uptoBulkEntries r
def uptoBulkEntry {H : Type} : Lit × DataW H → Nat
  | (.string bytes, d) => bytes.length + uptoBulk d + 1
  | (_, d) => uptoBulk d + 1
 end
def uptoSmall : (H : Type) → List (DataW H) → Bool := fun _ ds => decide (uptoBulkAll ds ≤ 1048576)
def OpenSpec.upto (s : _root_.Go.ChangeSpec) : _root_.Go.OpenSpec := { _root_.Go.OpenSpec.ofChange s with cond := some uptoSmall }

/-- 'laws.FnTxnApply', WHERE WHAT IT READS IS OF BULK AT MOST 1048576: true; the input reads as it did. -/
def fnTxnApplyUptoRow : OpenClaim := { program := "yteagmkhpfmiaiaa", sum := "761be94474e835b80c543b71ca4219fa056d18b518a0e6ed32e4f0457b1b6025", func := "loop.example/groupmulticast/laws.FnTxnApply", spec := "fnTxnApply", unfollowed := true, recurses := true, apart := false, narrowed := true }
def FnTxnApplyUptoSaid : Prop := fnTxnApplyUptoRow.holds Try.pinned (OpenSpec.upto fnTxnApplySpec)

/-- 'laws.FnTxnNeed', WHERE WHAT IT READS IS OF BULK AT MOST 1048576: true; the input reads as it did. -/
def fnTxnNeedUptoRow : OpenClaim := { program := "yteagmkhpfmiaiaa", sum := "761be94474e835b80c543b71ca4219fa056d18b518a0e6ed32e4f0457b1b6025", func := "loop.example/groupmulticast/laws.FnTxnNeed", spec := "fnTxnNeed", unfollowed := true, recurses := true, apart := false, narrowed := true }
def FnTxnNeedUptoSaid : Prop := fnTxnNeedUptoRow.holds Try.pinned (OpenSpec.upto fnTxnNeedSpec)

/-- 'laws.FnTxnFail', WHERE WHAT IT READS IS OF BULK AT MOST 1048576: true; the input reads as it did. -/
def fnTxnFailUptoRow : OpenClaim := { program := "yteagmkhpfmiaiaa", sum := "761be94474e835b80c543b71ca4219fa056d18b518a0e6ed32e4f0457b1b6025", func := "loop.example/groupmulticast/laws.FnTxnFail", spec := "fnTxnFail", unfollowed := true, recurses := true, apart := false, narrowed := true }
def FnTxnFailUptoSaid : Prop := fnTxnFailUptoRow.holds Try.pinned (OpenSpec.upto fnTxnFailSpec)

/-- 'laws.FnTxnGroups', WHERE WHAT IT READS IS OF BULK AT MOST 1048576: true; the input reads as it did. -/
def fnTxnGroupsUptoRow : OpenClaim := { program := "yteagmkhpfmiaiaa", sum := "761be94474e835b80c543b71ca4219fa056d18b518a0e6ed32e4f0457b1b6025", func := "loop.example/groupmulticast/laws.FnTxnGroups", spec := "fnTxnGroups", unfollowed := true, recurses := true, apart := false, narrowed := true }
def FnTxnGroupsUptoSaid : Prop := fnTxnGroupsUptoRow.holds Try.pinned (OpenSpec.upto fnTxnGroupsSpec)

/-- 'laws.FnTxnLocal', WHERE WHAT IT READS IS OF BULK AT MOST 1048576: true; the input reads as it did. -/
def fnTxnLocalUptoRow : OpenClaim := { program := "yteagmkhpfmiaiaa", sum := "761be94474e835b80c543b71ca4219fa056d18b518a0e6ed32e4f0457b1b6025", func := "loop.example/groupmulticast/laws.FnTxnLocal", spec := "fnTxnLocal", unfollowed := true, recurses := true, apart := false, narrowed := true }
def FnTxnLocalUptoSaid : Prop := fnTxnLocalUptoRow.holds Try.pinned (OpenSpec.upto fnTxnLocalSpec)

/-- 'laws.FnTxnCommute', WHERE WHAT IT READS IS OF BULK AT MOST 1048576: true; the input reads as it did. -/
def fnTxnCommuteUptoRow : OpenClaim := { program := "yteagmkhpfmiaiaa", sum := "761be94474e835b80c543b71ca4219fa056d18b518a0e6ed32e4f0457b1b6025", func := "loop.example/groupmulticast/laws.FnTxnCommute", spec := "fnTxnCommute", unfollowed := true, recurses := true, apart := false, narrowed := true }
def FnTxnCommuteUptoSaid : Prop := fnTxnCommuteUptoRow.holds Try.pinned (OpenSpec.upto fnTxnCommuteSpec)

/-- 'laws.FnStoreRun', WHERE WHAT IT READS IS OF BULK AT MOST 1048576: true; the input reads as it did. -/
def fnStoreRunUptoRow : OpenClaim := { program := "yteagmkhpfmiaiaa", sum := "761be94474e835b80c543b71ca4219fa056d18b518a0e6ed32e4f0457b1b6025", func := "loop.example/groupmulticast/laws.FnStoreRun", spec := "fnStoreRun", unfollowed := true, recurses := true, apart := false, narrowed := true }
def FnStoreRunUptoSaid : Prop := fnStoreRunUptoRow.holds Try.pinned (OpenSpec.upto fnStoreRunSpec)

/-- 'laws.FnStoreRunParts', WHERE WHAT IT READS IS OF BULK AT MOST 1048576: true; the input reads as it did. -/
def fnStoreRunPartsUptoRow : OpenClaim := { program := "yteagmkhpfmiaiaa", sum := "761be94474e835b80c543b71ca4219fa056d18b518a0e6ed32e4f0457b1b6025", func := "loop.example/groupmulticast/laws.FnStoreRunParts", spec := "fnStoreRunParts", unfollowed := true, recurses := true, apart := false, narrowed := true }
def FnStoreRunPartsUptoSaid : Prop := fnStoreRunPartsUptoRow.holds Try.pinned (OpenSpec.upto fnStoreRunPartsSpec)

/-- 'laws.FnStoreParts', WHERE WHAT IT READS IS OF BULK AT MOST 1048576: true; the input reads as it did. -/
def fnStorePartsUptoRow : OpenClaim := { program := "yteagmkhpfmiaiaa", sum := "761be94474e835b80c543b71ca4219fa056d18b518a0e6ed32e4f0457b1b6025", func := "loop.example/groupmulticast/laws.FnStoreParts", spec := "fnStoreParts", unfollowed := true, recurses := true, apart := false, narrowed := true }
def FnStorePartsUptoSaid : Prop := fnStorePartsUptoRow.holds Try.pinned (OpenSpec.upto fnStorePartsSpec)

/-- 'laws.FnStoreJoin', WHERE WHAT IT READS IS OF BULK AT MOST 1048576: true; the input reads as it did. -/
def fnStoreJoinUptoRow : OpenClaim := { program := "yteagmkhpfmiaiaa", sum := "761be94474e835b80c543b71ca4219fa056d18b518a0e6ed32e4f0457b1b6025", func := "loop.example/groupmulticast/laws.FnStoreJoin", spec := "fnStoreJoin", unfollowed := true, recurses := true, apart := false, narrowed := true }
def FnStoreJoinUptoSaid : Prop := fnStoreJoinUptoRow.holds Try.pinned (OpenSpec.upto fnStoreJoinSpec)

/-- 'laws.FnTxnRead', WHERE WHAT IT READS IS OF BULK AT MOST 1048576: true; the input reads as it did. -/
def fnTxnReadUptoRow : OpenClaim := { program := "yteagmkhpfmiaiaa", sum := "761be94474e835b80c543b71ca4219fa056d18b518a0e6ed32e4f0457b1b6025", func := "loop.example/groupmulticast/laws.FnTxnRead", spec := "fnTxnRead", unfollowed := true, recurses := true, apart := false, narrowed := true }
def FnTxnReadUptoSaid : Prop := fnTxnReadUptoRow.holds Try.pinned (OpenSpec.upto fnTxnReadSpec)

/-- 'laws.FnTxnBack', WHERE WHAT IT READS IS OF BULK AT MOST 1048576: true; the input reads as it did. -/
def fnTxnBackUptoRow : OpenClaim := { program := "yteagmkhpfmiaiaa", sum := "761be94474e835b80c543b71ca4219fa056d18b518a0e6ed32e4f0457b1b6025", func := "loop.example/groupmulticast/laws.FnTxnBack", spec := "fnTxnBack", unfollowed := true, recurses := true, apart := false, narrowed := true }
def FnTxnBackUptoSaid : Prop := fnTxnBackUptoRow.holds Try.pinned (OpenSpec.upto fnTxnBackSpec)

/-- 'laws.FnTxnPart', WHERE WHAT IT READS IS OF BULK AT MOST 1048576: true; the input reads as it did. -/
def fnTxnPartUptoRow : OpenClaim := { program := "yteagmkhpfmiaiaa", sum := "761be94474e835b80c543b71ca4219fa056d18b518a0e6ed32e4f0457b1b6025", func := "loop.example/groupmulticast/laws.FnTxnPart", spec := "fnTxnPart", unfollowed := true, recurses := true, apart := false, narrowed := true }
def FnTxnPartUptoSaid : Prop := fnTxnPartUptoRow.holds Try.pinned (OpenSpec.upto fnTxnPartSpec)

/-- 'laws.FnStoreFailed', WHERE WHAT IT READS IS OF BULK AT MOST 1048576: true; the input reads as it did. -/
def fnStoreFailedUptoRow : OpenClaim := { program := "yteagmkhpfmiaiaa", sum := "761be94474e835b80c543b71ca4219fa056d18b518a0e6ed32e4f0457b1b6025", func := "loop.example/groupmulticast/laws.FnStoreFailed", spec := "fnStoreFailed", unfollowed := true, recurses := true, apart := false, narrowed := true }
def FnStoreFailedUptoSaid : Prop := fnStoreFailedUptoRow.holds Try.pinned (OpenSpec.upto fnStoreFailedSpec)

/-- 'laws.FnStoreMerge', WHERE WHAT IT READS IS OF BULK AT MOST 1048576: true; the input reads as it did. -/
def fnStoreMergeUptoRow : OpenClaim := { program := "yteagmkhpfmiaiaa", sum := "761be94474e835b80c543b71ca4219fa056d18b518a0e6ed32e4f0457b1b6025", func := "loop.example/groupmulticast/laws.FnStoreMerge", spec := "fnStoreMerge", unfollowed := true, recurses := true, apart := false, narrowed := true }
def FnStoreMergeUptoSaid : Prop := fnStoreMergeUptoRow.holds Try.pinned (OpenSpec.upto fnStoreMergeSpec)

end Rows
end Go.Proofs.Yteagmkhpfmiaiaa
