/-
  No cell of these rows narrows 'for every input' (looked for: loops, veiled, ifaces, maps, wideKeys, modest, calm, conditions, laid).
  DERIVED. THE GIVEN ROWS OF THIS SEAT. 7 by the template 'for every input the law returns true; each argument reads behind the call as it read before'; 0 by the template 'total and deterministic' (their statements: YthnkilacknoklaaTotals.lean).
  GIVEN WITH THE SEED: the statements are not yours to turn. If you find one false, say at which input.
  Laid BY PROGRAM, IN A SANDBOX (cutbox-rows.mjs): the forced cells as the released guide's own fill.sh prints them over the translation 8c26a1790ceeb443… (all of the seat's roots in one cut). By AI agents, Wed Nov 11 2026. No macro, syntax, notation, axiom, sorry.
-/
import Derived.Test.YthnkilacknoklaaChecked
import GoSem.Claim
import GoSem.ClaimJoined
import GoSem.ClaimMapViews
import Derived.JoinedTies
import Derived.KernelRfl
namespace Go.Proofs.Ythnkilacknoklaa
/- THE CELL 'sum', in the pinned program and in every row, IS THE sha256 OF THE DUMP (.gsa) THAT YthnkilacknoklaaProg.lean LOADS. Nothing in Lean hashes anything: it is a label: what it is worth is what the hold of that sum in a sandbox is worth. -/
noncomputable def Try.pinned : Pinned := { name := "ythnkilacknoklaa", sum := "8c26a1790ceeb4436cb181c12c3cdd055ebf660c39f99297cd4879315d318773", checked := Try.checked }
namespace Rows
def none {H : Type} : Left H := { results := [], args := [] }

/-- 'laws.FnExactStoreValid': WHATEVER THE INPUT: true; the input reads as it did. -/
def fnExactStoreValidSpec : ChangeSpec := { name := "fnExactStoreValid", fn := fun _ => fun
  | [d] => { results := [.lit (.bool true)], args := [d] }
  | _ => none }
def fnExactStoreValidRow : OpenClaim := { program := "ythnkilacknoklaa", sum := "8c26a1790ceeb4436cb181c12c3cdd055ebf660c39f99297cd4879315d318773", func := "loop.example/groupmulticast/laws.FnExactStoreValid", spec := "fnExactStoreValid", unfollowed := true, recurses := true, apart := false }
def FnExactStoreValidSaid : Prop := fnExactStoreValidRow.holds Try.pinned (OpenSpec.ofChange fnExactStoreValidSpec)

/-- ITS FALSE NEIGHBOUR: 'it returns false'. Refute it at one input. -/
def fnExactStoreValidWrong : ChangeSpec := { name := "fnExactStoreValid", fn := fun _ => fun
  | [d] => { results := [.lit (.bool false)], args := [d] }
  | _ => none }
def FnExactStoreValidWrongFalsely : Prop := fnExactStoreValidRow.holds Try.pinned (OpenSpec.ofChange fnExactStoreValidWrong)

/-- 'laws.FnExactTxnValid': WHATEVER THE INPUT: true; the input reads as it did. -/
def fnExactTxnValidSpec : ChangeSpec := { name := "fnExactTxnValid", fn := fun _ => fun
  | [d] => { results := [.lit (.bool true)], args := [d] }
  | _ => none }
def fnExactTxnValidRow : OpenClaim := { program := "ythnkilacknoklaa", sum := "8c26a1790ceeb4436cb181c12c3cdd055ebf660c39f99297cd4879315d318773", func := "loop.example/groupmulticast/laws.FnExactTxnValid", spec := "fnExactTxnValid", unfollowed := true, recurses := true, apart := false }
def FnExactTxnValidSaid : Prop := fnExactTxnValidRow.holds Try.pinned (OpenSpec.ofChange fnExactTxnValidSpec)

/-- ITS FALSE NEIGHBOUR: 'it returns false'. Refute it at one input. -/
def fnExactTxnValidWrong : ChangeSpec := { name := "fnExactTxnValid", fn := fun _ => fun
  | [d] => { results := [.lit (.bool false)], args := [d] }
  | _ => none }
def FnExactTxnValidWrongFalsely : Prop := fnExactTxnValidRow.holds Try.pinned (OpenSpec.ofChange fnExactTxnValidWrong)

/-- 'laws.FnExactTxnGroups': WHATEVER THE INPUT: true; the input reads as it did. -/
def fnExactTxnGroupsSpec : ChangeSpec := { name := "fnExactTxnGroups", fn := fun _ => fun
  | [d] => { results := [.lit (.bool true)], args := [d] }
  | _ => none }
def fnExactTxnGroupsRow : OpenClaim := { program := "ythnkilacknoklaa", sum := "8c26a1790ceeb4436cb181c12c3cdd055ebf660c39f99297cd4879315d318773", func := "loop.example/groupmulticast/laws.FnExactTxnGroups", spec := "fnExactTxnGroups", unfollowed := true, recurses := true, apart := false }
def FnExactTxnGroupsSaid : Prop := fnExactTxnGroupsRow.holds Try.pinned (OpenSpec.ofChange fnExactTxnGroupsSpec)

/-- ITS FALSE NEIGHBOUR: 'it returns false'. Refute it at one input. -/
def fnExactTxnGroupsWrong : ChangeSpec := { name := "fnExactTxnGroups", fn := fun _ => fun
  | [d] => { results := [.lit (.bool false)], args := [d] }
  | _ => none }
def FnExactTxnGroupsWrongFalsely : Prop := fnExactTxnGroupsRow.holds Try.pinned (OpenSpec.ofChange fnExactTxnGroupsWrong)

/-- 'laws.FnExactTxnApply': WHATEVER THE INPUT: true; the input reads as it did. -/
def fnExactTxnApplySpec : ChangeSpec := { name := "fnExactTxnApply", fn := fun _ => fun
  | [d1, d2] => { results := [.lit (.bool true)], args := [d1, d2] }
  | _ => none }
def fnExactTxnApplyRow : OpenClaim := { program := "ythnkilacknoklaa", sum := "8c26a1790ceeb4436cb181c12c3cdd055ebf660c39f99297cd4879315d318773", func := "loop.example/groupmulticast/laws.FnExactTxnApply", spec := "fnExactTxnApply", unfollowed := true, recurses := true, apart := false }
def FnExactTxnApplySaid : Prop := fnExactTxnApplyRow.holds Try.pinned (OpenSpec.ofChange fnExactTxnApplySpec)

/-- ITS FALSE NEIGHBOUR: 'it returns false'. Refute it at one input. -/
def fnExactTxnApplyWrong : ChangeSpec := { name := "fnExactTxnApply", fn := fun _ => fun
  | [d1, d2] => { results := [.lit (.bool false)], args := [d1, d2] }
  | _ => none }
def FnExactTxnApplyWrongFalsely : Prop := fnExactTxnApplyRow.holds Try.pinned (OpenSpec.ofChange fnExactTxnApplyWrong)

/-- 'laws.FnExactStoreRun': WHATEVER THE INPUT: true; the input reads as it did. -/
def fnExactStoreRunSpec : ChangeSpec := { name := "fnExactStoreRun", fn := fun _ => fun
  | [d1, d2] => { results := [.lit (.bool true)], args := [d1, d2] }
  | _ => none }
def fnExactStoreRunRow : OpenClaim := { program := "ythnkilacknoklaa", sum := "8c26a1790ceeb4436cb181c12c3cdd055ebf660c39f99297cd4879315d318773", func := "loop.example/groupmulticast/laws.FnExactStoreRun", spec := "fnExactStoreRun", unfollowed := true, recurses := true, apart := false }
def FnExactStoreRunSaid : Prop := fnExactStoreRunRow.holds Try.pinned (OpenSpec.ofChange fnExactStoreRunSpec)

/-- ITS FALSE NEIGHBOUR: 'it returns false'. Refute it at one input. -/
def fnExactStoreRunWrong : ChangeSpec := { name := "fnExactStoreRun", fn := fun _ => fun
  | [d1, d2] => { results := [.lit (.bool false)], args := [d1, d2] }
  | _ => none }
def FnExactStoreRunWrongFalsely : Prop := fnExactStoreRunRow.holds Try.pinned (OpenSpec.ofChange fnExactStoreRunWrong)

/-- 'laws.FnExactStorePart': WHATEVER THE INPUT: true; the input reads as it did. -/
def fnExactStorePartSpec : ChangeSpec := { name := "fnExactStorePart", fn := fun _ => fun
  | [d1, d2] => { results := [.lit (.bool true)], args := [d1, d2] }
  | _ => none }
def fnExactStorePartRow : OpenClaim := { program := "ythnkilacknoklaa", sum := "8c26a1790ceeb4436cb181c12c3cdd055ebf660c39f99297cd4879315d318773", func := "loop.example/groupmulticast/laws.FnExactStorePart", spec := "fnExactStorePart", unfollowed := true, recurses := true, apart := false }
def FnExactStorePartSaid : Prop := fnExactStorePartRow.holds Try.pinned (OpenSpec.ofChange fnExactStorePartSpec)

/-- ITS FALSE NEIGHBOUR: 'it returns false'. Refute it at one input. -/
def fnExactStorePartWrong : ChangeSpec := { name := "fnExactStorePart", fn := fun _ => fun
  | [d1, d2] => { results := [.lit (.bool false)], args := [d1, d2] }
  | _ => none }
def FnExactStorePartWrongFalsely : Prop := fnExactStorePartRow.holds Try.pinned (OpenSpec.ofChange fnExactStorePartWrong)

/-- 'laws.FnExactStoreJoin': WHATEVER THE INPUT: true; the input reads as it did. -/
def fnExactStoreJoinSpec : ChangeSpec := { name := "fnExactStoreJoin", fn := fun _ => fun
  | [d] => { results := [.lit (.bool true)], args := [d] }
  | _ => none }
def fnExactStoreJoinRow : OpenClaim := { program := "ythnkilacknoklaa", sum := "8c26a1790ceeb4436cb181c12c3cdd055ebf660c39f99297cd4879315d318773", func := "loop.example/groupmulticast/laws.FnExactStoreJoin", spec := "fnExactStoreJoin", unfollowed := true, recurses := true, apart := false }
def FnExactStoreJoinSaid : Prop := fnExactStoreJoinRow.holds Try.pinned (OpenSpec.ofChange fnExactStoreJoinSpec)

/-- ITS FALSE NEIGHBOUR: 'it returns false'. Refute it at one input. -/
def fnExactStoreJoinWrong : ChangeSpec := { name := "fnExactStoreJoin", fn := fun _ => fun
  | [d] => { results := [.lit (.bool false)], args := [d] }
  | _ => none }
def FnExactStoreJoinWrongFalsely : Prop := fnExactStoreJoinRow.holds Try.pinned (OpenSpec.ofChange fnExactStoreJoinWrong)

/- THE SECOND FORM. 'bulk': how many values and letters a reading holds, each counted each time it is reached (what is shared counts as often as it is met; a slice's spare places count too). A statement '..UptoSaid' is the law's where the arguments, and the package variables that the reading takes, are together of bulk at most 1048576: NARROWER than '..Said'. Prove '..Said' where nothing that the law and all that it calls make is longer than what came in: it says more and counts as full. Else prove '..UptoSaid'. A law counts once. -/
mutual
def uptoBulk {H : Type} : DataW H → Nat
  | .lit (.string bytes) => bytes.length + 1
  | .lit _ => 1
  | .nil => 1
  | .ptr d => uptoBulk d + 1
  | .slice elems spare => uptoBulkAll elems + uptoBulkAll spare + 1
  | .agg parts => uptoBulkAll parts + 1
  | .iface _ d => uptoBulk d + 1
  | .map entries => uptoBulkEntries entries + 1
  | .held _ => 1
def uptoBulkAll {H : Type} : List (DataW H) → Nat
  | [] => 0
  | d :: r => uptoBulk d + uptoBulkAll r
def uptoBulkEntries {H : Type} : List (Lit × DataW H) → Nat
  | [] => 0
  | x :: r => uptoBulkEntry x + uptoBulkEntries r
def uptoBulkEntry {H : Type} : Lit × DataW H → Nat
  | (.string bytes, d) => bytes.length + uptoBulk d + 1
  | (_, d) => uptoBulk d + 1
 end
def uptoSmall : (H : Type) → List (DataW H) → Bool := fun _ ds => decide (uptoBulkAll ds ≤ 1048576)
def OpenSpec.upto (s : _root_.Go.ChangeSpec) : _root_.Go.OpenSpec := { _root_.Go.OpenSpec.ofChange s with cond := some uptoSmall }

/-- 'laws.FnExactStoreValid', WHERE WHAT IT READS IS OF BULK AT MOST 1048576: true; the input reads as it did. -/
def fnExactStoreValidUptoRow : OpenClaim := { program := "ythnkilacknoklaa", sum := "8c26a1790ceeb4436cb181c12c3cdd055ebf660c39f99297cd4879315d318773", func := "loop.example/groupmulticast/laws.FnExactStoreValid", spec := "fnExactStoreValid", unfollowed := true, recurses := true, apart := false, narrowed := true }
def FnExactStoreValidUptoSaid : Prop := fnExactStoreValidUptoRow.holds Try.pinned (OpenSpec.upto fnExactStoreValidSpec)

/-- 'laws.FnExactTxnValid', WHERE WHAT IT READS IS OF BULK AT MOST 1048576: true; the input reads as it did. -/
def fnExactTxnValidUptoRow : OpenClaim := { program := "ythnkilacknoklaa", sum := "8c26a1790ceeb4436cb181c12c3cdd055ebf660c39f99297cd4879315d318773", func := "loop.example/groupmulticast/laws.FnExactTxnValid", spec := "fnExactTxnValid", unfollowed := true, recurses := true, apart := false, narrowed := true }
def FnExactTxnValidUptoSaid : Prop := fnExactTxnValidUptoRow.holds Try.pinned (OpenSpec.upto fnExactTxnValidSpec)

/-- 'laws.FnExactTxnGroups', WHERE WHAT IT READS IS OF BULK AT MOST 1048576: true; the input reads as it did. -/
def fnExactTxnGroupsUptoRow : OpenClaim := { program := "ythnkilacknoklaa", sum := "8c26a1790ceeb4436cb181c12c3cdd055ebf660c39f99297cd4879315d318773", func := "loop.example/groupmulticast/laws.FnExactTxnGroups", spec := "fnExactTxnGroups", unfollowed := true, recurses := true, apart := false, narrowed := true }
def FnExactTxnGroupsUptoSaid : Prop := fnExactTxnGroupsUptoRow.holds Try.pinned (OpenSpec.upto fnExactTxnGroupsSpec)

/-- 'laws.FnExactTxnApply', WHERE WHAT IT READS IS OF BULK AT MOST 1048576: true; the input reads as it did. -/
def fnExactTxnApplyUptoRow : OpenClaim := { program := "ythnkilacknoklaa", sum := "8c26a1790ceeb4436cb181c12c3cdd055ebf660c39f99297cd4879315d318773", func := "loop.example/groupmulticast/laws.FnExactTxnApply", spec := "fnExactTxnApply", unfollowed := true, recurses := true, apart := false, narrowed := true }
def FnExactTxnApplyUptoSaid : Prop := fnExactTxnApplyUptoRow.holds Try.pinned (OpenSpec.upto fnExactTxnApplySpec)

/-- 'laws.FnExactStoreRun', WHERE WHAT IT READS IS OF BULK AT MOST 1048576: true; the input reads as it did. -/
def fnExactStoreRunUptoRow : OpenClaim := { program := "ythnkilacknoklaa", sum := "8c26a1790ceeb4436cb181c12c3cdd055ebf660c39f99297cd4879315d318773", func := "loop.example/groupmulticast/laws.FnExactStoreRun", spec := "fnExactStoreRun", unfollowed := true, recurses := true, apart := false, narrowed := true }
def FnExactStoreRunUptoSaid : Prop := fnExactStoreRunUptoRow.holds Try.pinned (OpenSpec.upto fnExactStoreRunSpec)

/-- 'laws.FnExactStorePart', WHERE WHAT IT READS IS OF BULK AT MOST 1048576: true; the input reads as it did. -/
def fnExactStorePartUptoRow : OpenClaim := { program := "ythnkilacknoklaa", sum := "8c26a1790ceeb4436cb181c12c3cdd055ebf660c39f99297cd4879315d318773", func := "loop.example/groupmulticast/laws.FnExactStorePart", spec := "fnExactStorePart", unfollowed := true, recurses := true, apart := false, narrowed := true }
def FnExactStorePartUptoSaid : Prop := fnExactStorePartUptoRow.holds Try.pinned (OpenSpec.upto fnExactStorePartSpec)

/-- 'laws.FnExactStoreJoin', WHERE WHAT IT READS IS OF BULK AT MOST 1048576: true; the input reads as it did. -/
def fnExactStoreJoinUptoRow : OpenClaim := { program := "ythnkilacknoklaa", sum := "8c26a1790ceeb4436cb181c12c3cdd055ebf660c39f99297cd4879315d318773", func := "loop.example/groupmulticast/laws.FnExactStoreJoin", spec := "fnExactStoreJoin", unfollowed := true, recurses := true, apart := false, narrowed := true }
def FnExactStoreJoinUptoSaid : Prop := fnExactStoreJoinUptoRow.holds Try.pinned (OpenSpec.upto fnExactStoreJoinSpec)

end Rows
end Go.Proofs.Ythnkilacknoklaa
