/-
  No cell of these rows narrows 'for every input' (looked for: loops, veiled, ifaces, maps, wideKeys, modest, calm, conditions, laid).
  DERIVED. THE GIVEN ROWS OF THIS SEAT. 8 by the template 'for every input the law returns true; each argument reads behind the call as it read before'; 0 by the template 'total and deterministic' (their statements: YtikjcpbhleejnaaTotals.lean).
  GIVEN WITH THE SEED: the statements are not yours to turn. If you find one false, say at which input.
  Laid BY PROGRAM, IN A SANDBOX (cutbox-rows.mjs): the forced cells as the released guide's own fill.sh prints them over the translation 38394436dae5dda9… (all of the seat's roots in one cut). By AI agents, Wed Nov 11 2026. No macro, syntax, notation, axiom, sorry.
-/
import Derived.Test.YtikjcpbhleejnaaChecked
import GoSem.Claim
import GoSem.ClaimJoined
import GoSem.ClaimMapViews
import Derived.JoinedTies
import Derived.KernelRfl
namespace Go.Proofs.Ytikjcpbhleejnaa
/- THE CELL 'sum', in the pinned program and in every row, IS THE sha256 OF THE DUMP (.gsa) THAT YtikjcpbhleejnaaProg.lean LOADS. Nothing in Lean hashes anything: it is a label: what it is worth is what the hold of that sum in a sandbox is worth. -/
noncomputable def Try.pinned : Pinned := { name := "ytikjcpbhleejnaa", sum := "38394436dae5dda9a4eea6130c3a1b276dfe3c56115129305b16cfe286c39eef", checked := Try.checked }
namespace Rows
def none {H : Type} : Left H := { results := [], args := [] }

/-- 'laws.FnBatchCut': WHATEVER THE INPUT: true; the input reads as it did. -/
def fnBatchCutSpec : ChangeSpec := { name := "fnBatchCut", fn := fun _ => fun
  | [d] => { results := [.lit (.bool true)], args := [d] }
  | _ => none }
def fnBatchCutRow : OpenClaim := { program := "ytikjcpbhleejnaa", sum := "38394436dae5dda9a4eea6130c3a1b276dfe3c56115129305b16cfe286c39eef", func := "loop.example/groupmulticast/laws.FnBatchCut", spec := "fnBatchCut", unfollowed := true, recurses := true, apart := false }
def FnBatchCutSaid : Prop := fnBatchCutRow.holds Try.pinned (OpenSpec.ofChange fnBatchCutSpec)

/-- ITS FALSE NEIGHBOUR: 'it returns false'. Refute it at one input. -/
def fnBatchCutWrong : ChangeSpec := { name := "fnBatchCut", fn := fun _ => fun
  | [d] => { results := [.lit (.bool false)], args := [d] }
  | _ => none }
def FnBatchCutWrongFalsely : Prop := fnBatchCutRow.holds Try.pinned (OpenSpec.ofChange fnBatchCutWrong)

/-- 'laws.FnBatchFew': WHATEVER THE INPUT: true; the input reads as it did. -/
def fnBatchFewSpec : ChangeSpec := { name := "fnBatchFew", fn := fun _ => fun
  | [d] => { results := [.lit (.bool true)], args := [d] }
  | _ => none }
def fnBatchFewRow : OpenClaim := { program := "ytikjcpbhleejnaa", sum := "38394436dae5dda9a4eea6130c3a1b276dfe3c56115129305b16cfe286c39eef", func := "loop.example/groupmulticast/laws.FnBatchFew", spec := "fnBatchFew", unfollowed := true, recurses := true, apart := false }
def FnBatchFewSaid : Prop := fnBatchFewRow.holds Try.pinned (OpenSpec.ofChange fnBatchFewSpec)

/-- ITS FALSE NEIGHBOUR: 'it returns false'. Refute it at one input. -/
def fnBatchFewWrong : ChangeSpec := { name := "fnBatchFew", fn := fun _ => fun
  | [d] => { results := [.lit (.bool false)], args := [d] }
  | _ => none }
def FnBatchFewWrongFalsely : Prop := fnBatchFewRow.holds Try.pinned (OpenSpec.ofChange fnBatchFewWrong)

/-- 'laws.FnBatchFull': WHATEVER THE INPUT: true; the input reads as it did. -/
def fnBatchFullSpec : ChangeSpec := { name := "fnBatchFull", fn := fun _ => fun
  | [d] => { results := [.lit (.bool true)], args := [d] }
  | _ => none }
def fnBatchFullRow : OpenClaim := { program := "ytikjcpbhleejnaa", sum := "38394436dae5dda9a4eea6130c3a1b276dfe3c56115129305b16cfe286c39eef", func := "loop.example/groupmulticast/laws.FnBatchFull", spec := "fnBatchFull", unfollowed := true, recurses := true, apart := false }
def FnBatchFullSaid : Prop := fnBatchFullRow.holds Try.pinned (OpenSpec.ofChange fnBatchFullSpec)

/-- ITS FALSE NEIGHBOUR: 'it returns false'. Refute it at one input. -/
def fnBatchFullWrong : ChangeSpec := { name := "fnBatchFull", fn := fun _ => fun
  | [d] => { results := [.lit (.bool false)], args := [d] }
  | _ => none }
def FnBatchFullWrongFalsely : Prop := fnBatchFullRow.holds Try.pinned (OpenSpec.ofChange fnBatchFullWrong)

/-- 'laws.FnBatchSum': WHATEVER THE INPUT: true; the input reads as it did. -/
def fnBatchSumSpec : ChangeSpec := { name := "fnBatchSum", fn := fun _ => fun
  | [d] => { results := [.lit (.bool true)], args := [d] }
  | _ => none }
def fnBatchSumRow : OpenClaim := { program := "ytikjcpbhleejnaa", sum := "38394436dae5dda9a4eea6130c3a1b276dfe3c56115129305b16cfe286c39eef", func := "loop.example/groupmulticast/laws.FnBatchSum", spec := "fnBatchSum", unfollowed := true, recurses := true, apart := false }
def FnBatchSumSaid : Prop := fnBatchSumRow.holds Try.pinned (OpenSpec.ofChange fnBatchSumSpec)

/-- ITS FALSE NEIGHBOUR: 'it returns false'. Refute it at one input. -/
def fnBatchSumWrong : ChangeSpec := { name := "fnBatchSum", fn := fun _ => fun
  | [d] => { results := [.lit (.bool false)], args := [d] }
  | _ => none }
def FnBatchSumWrongFalsely : Prop := fnBatchSumRow.holds Try.pinned (OpenSpec.ofChange fnBatchSumWrong)

/-- 'laws.FnBatchPrefix': WHATEVER THE INPUT: true; the input reads as it did. -/
def fnBatchPrefixSpec : ChangeSpec := { name := "fnBatchPrefix", fn := fun _ => fun
  | [d1, d2] => { results := [.lit (.bool true)], args := [d1, d2] }
  | _ => none }
def fnBatchPrefixRow : OpenClaim := { program := "ytikjcpbhleejnaa", sum := "38394436dae5dda9a4eea6130c3a1b276dfe3c56115129305b16cfe286c39eef", func := "loop.example/groupmulticast/laws.FnBatchPrefix", spec := "fnBatchPrefix", unfollowed := true, recurses := true, apart := false }
def FnBatchPrefixSaid : Prop := fnBatchPrefixRow.holds Try.pinned (OpenSpec.ofChange fnBatchPrefixSpec)

/-- ITS FALSE NEIGHBOUR: 'it returns false'. Refute it at one input. -/
def fnBatchPrefixWrong : ChangeSpec := { name := "fnBatchPrefix", fn := fun _ => fun
  | [d1, d2] => { results := [.lit (.bool false)], args := [d1, d2] }
  | _ => none }
def FnBatchPrefixWrongFalsely : Prop := fnBatchPrefixRow.holds Try.pinned (OpenSpec.ofChange fnBatchPrefixWrong)

/-- 'laws.FnBatchLarger': WHATEVER THE INPUT: true; the input reads as it did. -/
def fnBatchLargerSpec : ChangeSpec := { name := "fnBatchLarger", fn := fun _ => fun
  | [d] => { results := [.lit (.bool true)], args := [d] }
  | _ => none }
def fnBatchLargerRow : OpenClaim := { program := "ytikjcpbhleejnaa", sum := "38394436dae5dda9a4eea6130c3a1b276dfe3c56115129305b16cfe286c39eef", func := "loop.example/groupmulticast/laws.FnBatchLarger", spec := "fnBatchLarger", unfollowed := true, recurses := true, apart := false }
def FnBatchLargerSaid : Prop := fnBatchLargerRow.holds Try.pinned (OpenSpec.ofChange fnBatchLargerSpec)

/-- ITS FALSE NEIGHBOUR: 'it returns false'. Refute it at one input. -/
def fnBatchLargerWrong : ChangeSpec := { name := "fnBatchLarger", fn := fun _ => fun
  | [d] => { results := [.lit (.bool false)], args := [d] }
  | _ => none }
def FnBatchLargerWrongFalsely : Prop := fnBatchLargerRow.holds Try.pinned (OpenSpec.ofChange fnBatchLargerWrong)

/-- 'laws.FnBatchSingle': WHATEVER THE INPUT: true; the input reads as it did. -/
def fnBatchSingleSpec : ChangeSpec := { name := "fnBatchSingle", fn := fun _ => fun
  | [d] => { results := [.lit (.bool true)], args := [d] }
  | _ => none }
def fnBatchSingleRow : OpenClaim := { program := "ytikjcpbhleejnaa", sum := "38394436dae5dda9a4eea6130c3a1b276dfe3c56115129305b16cfe286c39eef", func := "loop.example/groupmulticast/laws.FnBatchSingle", spec := "fnBatchSingle", unfollowed := true, recurses := true, apart := false }
def FnBatchSingleSaid : Prop := fnBatchSingleRow.holds Try.pinned (OpenSpec.ofChange fnBatchSingleSpec)

/-- ITS FALSE NEIGHBOUR: 'it returns false'. Refute it at one input. -/
def fnBatchSingleWrong : ChangeSpec := { name := "fnBatchSingle", fn := fun _ => fun
  | [d] => { results := [.lit (.bool false)], args := [d] }
  | _ => none }
def FnBatchSingleWrongFalsely : Prop := fnBatchSingleRow.holds Try.pinned (OpenSpec.ofChange fnBatchSingleWrong)

/-- 'laws.FnBatchAll': WHATEVER THE INPUT: true; the input reads as it did. -/
def fnBatchAllSpec : ChangeSpec := { name := "fnBatchAll", fn := fun _ => fun
  | [d] => { results := [.lit (.bool true)], args := [d] }
  | _ => none }
def fnBatchAllRow : OpenClaim := { program := "ytikjcpbhleejnaa", sum := "38394436dae5dda9a4eea6130c3a1b276dfe3c56115129305b16cfe286c39eef", func := "loop.example/groupmulticast/laws.FnBatchAll", spec := "fnBatchAll", unfollowed := true, recurses := true, apart := false }
def FnBatchAllSaid : Prop := fnBatchAllRow.holds Try.pinned (OpenSpec.ofChange fnBatchAllSpec)

/-- ITS FALSE NEIGHBOUR: 'it returns false'. Refute it at one input. -/
def fnBatchAllWrong : ChangeSpec := { name := "fnBatchAll", fn := fun _ => fun
  | [d] => { results := [.lit (.bool false)], args := [d] }
  | _ => none }
def FnBatchAllWrongFalsely : Prop := fnBatchAllRow.holds Try.pinned (OpenSpec.ofChange fnBatchAllWrong)

/- THE SECOND FORM. 'bulk': how many values and letters a reading holds, each counted each time it is reached (what is shared counts as often as it is met; a slice's spare places count too). A statement '..UptoSaid' is the law's where the arguments, and the package variables that the reading takes, are together of bulk at most 1048576: NARROWER than '..Said'. Prove '..Said' where nothing that the law and all that it calls make is longer than what came in: it says more and counts as full. Else prove '..UptoSaid'. A law counts once. -/
mutual
def uptoBulk {H : Type} : DataW H → Nat
  | .lit (.string bytes) => bytes.length + 1
  | .lit _ => 1
  | .nil => 1
  | .ptr d => uptoBulk d + 1
  | .slice elems spare => uptoBulkAll elems + uptoBulkAll spare + 1
  | .agg parts => uptoBulkAll parts + 1
  | .iface _ d => uptoBulk d + 1
  | .map entries => uptoBulkEntries entries + 1
  | .held _ => 1
def uptoBulkAll {H : Type} : List (DataW H) → Nat
  | [] => 0
  | d :: r => uptoBulk d + uptoBulkAll r
def uptoBulkEntries {H : Type} : List (Lit × DataW H) → Nat
  | [] => 0
  | x :: r => uptoBulkEntry x + uptoBulkEntries r
def uptoBulkEntry {H : Type} : Lit × DataW H → Nat
  | (.string bytes, d) => bytes.length + uptoBulk d + 1
  | (_, d) => uptoBulk d + 1
 end
def uptoSmall : (H : Type) → List (DataW H) → Bool := fun _ ds => decide (uptoBulkAll ds ≤ 1048576)
def OpenSpec.upto (s : _root_.Go.ChangeSpec) : _root_.Go.OpenSpec := { _root_.Go.OpenSpec.ofChange s with cond := some uptoSmall }

/-- 'laws.FnBatchCut', WHERE WHAT IT READS IS OF BULK AT MOST 1048576: true; the input reads as it did. -/
def fnBatchCutUptoRow : OpenClaim := { program := "ytikjcpbhleejnaa", sum := "38394436dae5dda9a4eea6130c3a1b276dfe3c56115129305b16cfe286c39eef", func := "loop.example/groupmulticast/laws.FnBatchCut", spec := "fnBatchCut", unfollowed := true, recurses := true, apart := false, narrowed := true }
def FnBatchCutUptoSaid : Prop := fnBatchCutUptoRow.holds Try.pinned (OpenSpec.upto fnBatchCutSpec)

/-- 'laws.FnBatchFew', WHERE WHAT IT READS IS OF BULK AT MOST 1048576: true; the input reads as it did. -/
def fnBatchFewUptoRow : OpenClaim := { program := "ytikjcpbhleejnaa", sum := "38394436dae5dda9a4eea6130c3a1b276dfe3c56115129305b16cfe286c39eef", func := "loop.example/groupmulticast/laws.FnBatchFew", spec := "fnBatchFew", unfollowed := true, recurses := true, apart := false, narrowed := true }
def FnBatchFewUptoSaid : Prop := fnBatchFewUptoRow.holds Try.pinned (OpenSpec.upto fnBatchFewSpec)

/-- 'laws.FnBatchFull', WHERE WHAT IT READS IS OF BULK AT MOST 1048576: true; the input reads as it did. -/
def fnBatchFullUptoRow : OpenClaim := { program := "ytikjcpbhleejnaa", sum := "38394436dae5dda9a4eea6130c3a1b276dfe3c56115129305b16cfe286c39eef", func := "loop.example/groupmulticast/laws.FnBatchFull", spec := "fnBatchFull", unfollowed := true, recurses := true, apart := false, narrowed := true }
def FnBatchFullUptoSaid : Prop := fnBatchFullUptoRow.holds Try.pinned (OpenSpec.upto fnBatchFullSpec)

/-- 'laws.FnBatchSum', WHERE WHAT IT READS IS OF BULK AT MOST 1048576: true; the input reads as it did. -/
def fnBatchSumUptoRow : OpenClaim := { program := "ytikjcpbhleejnaa", sum := "38394436dae5dda9a4eea6130c3a1b276dfe3c56115129305b16cfe286c39eef", func := "loop.example/groupmulticast/laws.FnBatchSum", spec := "fnBatchSum", unfollowed := true, recurses := true, apart := false, narrowed := true }
def FnBatchSumUptoSaid : Prop := fnBatchSumUptoRow.holds Try.pinned (OpenSpec.upto fnBatchSumSpec)

/-- 'laws.FnBatchPrefix', WHERE WHAT IT READS IS OF BULK AT MOST 1048576: true; the input reads as it did. -/
def fnBatchPrefixUptoRow : OpenClaim := { program := "ytikjcpbhleejnaa", sum := "38394436dae5dda9a4eea6130c3a1b276dfe3c56115129305b16cfe286c39eef", func := "loop.example/groupmulticast/laws.FnBatchPrefix", spec := "fnBatchPrefix", unfollowed := true, recurses := true, apart := false, narrowed := true }
def FnBatchPrefixUptoSaid : Prop := fnBatchPrefixUptoRow.holds Try.pinned (OpenSpec.upto fnBatchPrefixSpec)

/-- 'laws.FnBatchLarger', WHERE WHAT IT READS IS OF BULK AT MOST 1048576: true; the input reads as it did. -/
def fnBatchLargerUptoRow : OpenClaim := { program := "ytikjcpbhleejnaa", sum := "38394436dae5dda9a4eea6130c3a1b276dfe3c56115129305b16cfe286c39eef", func := "loop.example/groupmulticast/laws.FnBatchLarger", spec := "fnBatchLarger", unfollowed := true, recurses := true, apart := false, narrowed := true }
def FnBatchLargerUptoSaid : Prop := fnBatchLargerUptoRow.holds Try.pinned (OpenSpec.upto fnBatchLargerSpec)

/-- 'laws.FnBatchSingle', WHERE WHAT IT READS IS OF BULK AT MOST 1048576: true; the input reads as it did. -/
def fnBatchSingleUptoRow : OpenClaim := { program := "ytikjcpbhleejnaa", sum := "38394436dae5dda9a4eea6130c3a1b276dfe3c56115129305b16cfe286c39eef", func := "loop.example/groupmulticast/laws.FnBatchSingle", spec := "fnBatchSingle", unfollowed := true, recurses := true, apart := false, narrowed := true }
def FnBatchSingleUptoSaid : Prop := fnBatchSingleUptoRow.holds Try.pinned (OpenSpec.upto fnBatchSingleSpec)

/-- 'laws.FnBatchAll', WHERE WHAT IT READS IS OF BULK AT MOST 1048576: true; the input reads as it did. -/
def fnBatchAllUptoRow : OpenClaim := { program := "ytikjcpbhleejnaa", sum := "38394436dae5dda9a4eea6130c3a1b276dfe3c56115129305b16cfe286c39eef", func := "loop.example/groupmulticast/laws.FnBatchAll", spec := "fnBatchAll", unfollowed := true, recurses := true, apart := false, narrowed := true }
def FnBatchAllUptoSaid : Prop := fnBatchAllUptoRow.holds Try.pinned (OpenSpec.upto fnBatchAllSpec)

end Rows
end Go.Proofs.Ytikjcpbhleejnaa
