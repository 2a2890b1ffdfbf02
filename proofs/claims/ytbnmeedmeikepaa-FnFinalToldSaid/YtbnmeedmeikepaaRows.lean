/-
  No cell of these rows narrows 'for every input' (looked for: loops, veiled, ifaces, maps, wideKeys, modest, calm, conditions, laid).
  DERIVED. THE GIVEN ROWS OF THIS SEAT. 3 by the template 'for every input the law returns true; each argument reads behind the call as it read before'; 0 by the template 'total and deterministic' (their statements: YtbnmeedmeikepaaTotals.lean).
  GIVEN WITH THE SEED: the statements are not yours to turn. If you find one false, say at which input.
  Laid BY PROGRAM, IN A SANDBOX (cutbox-rows.mjs): the forced cells as the released guide's own fill.sh prints them over the translation 44b04e1f3a49637f… (all of the seat's roots in one cut). By AI agents, Wed Nov 11 2026. No macro, syntax, notation, axiom, sorry.
-/
import Derived.Test.YtbnmeedmeikepaaChecked
import GoSem.Claim
import GoSem.ClaimJoined
import GoSem.ClaimMapViews
import Derived.JoinedTies
import Derived.KernelRfl
namespace Go.Proofs.Ytbnmeedmeikepaa
/- THE CELL 'sum', in the pinned program and in every row, IS THE sha256 OF THE DUMP (.gsa) THAT YtbnmeedmeikepaaProg.lean LOADS. Nothing in Lean hashes anything: it is a label: what it is worth is what the hold of that sum in a sandbox is worth. -/
noncomputable def Try.pinned : Pinned := { name := "ytbnmeedmeikepaa", sum := "44b04e1f3a49637f523325b93e8111b35b6e19eadb3b9b8654eb0425fed5e972", checked := Try.checked }
namespace Rows
def none {H : Type} : Left H := { results := [], args := [] }

/-- 'laws.FnProposeTrace': WHATEVER THE INPUT: true; the input reads as it did. -/
def fnProposeTraceSpec : ChangeSpec := { name := "fnProposeTrace", fn := fun _ => fun
  | [d] => { results := [.lit (.bool true)], args := [d] }
  | _ => none }
def fnProposeTraceRow : OpenClaim := { program := "ytbnmeedmeikepaa", sum := "44b04e1f3a49637f523325b93e8111b35b6e19eadb3b9b8654eb0425fed5e972", func := "loop.example/groupmulticast/laws.FnProposeTrace", spec := "fnProposeTrace", unfollowed := true, recurses := true, apart := false }
def FnProposeTraceSaid : Prop := fnProposeTraceRow.holds Try.pinned (OpenSpec.ofChange fnProposeTraceSpec)

/-- ITS FALSE NEIGHBOUR: 'it returns false'. Refute it at one input. -/
def fnProposeTraceWrong : ChangeSpec := { name := "fnProposeTrace", fn := fun _ => fun
  | [d] => { results := [.lit (.bool false)], args := [d] }
  | _ => none }
def FnProposeTraceWrongFalsely : Prop := fnProposeTraceRow.holds Try.pinned (OpenSpec.ofChange fnProposeTraceWrong)

/-- 'laws.FnFinalTold': WHATEVER THE INPUT: true; the input reads as it did. -/
def fnFinalToldSpec : ChangeSpec := { name := "fnFinalTold", fn := fun _ => fun
  | [d] => { results := [.lit (.bool true)], args := [d] }
  | _ => none }
def fnFinalToldRow : OpenClaim := { program := "ytbnmeedmeikepaa", sum := "44b04e1f3a49637f523325b93e8111b35b6e19eadb3b9b8654eb0425fed5e972", func := "loop.example/groupmulticast/laws.FnFinalTold", spec := "fnFinalTold", unfollowed := true, recurses := true, apart := false }
def FnFinalToldSaid : Prop := fnFinalToldRow.holds Try.pinned (OpenSpec.ofChange fnFinalToldSpec)

/-- ITS FALSE NEIGHBOUR: 'it returns false'. Refute it at one input. -/
def fnFinalToldWrong : ChangeSpec := { name := "fnFinalTold", fn := fun _ => fun
  | [d] => { results := [.lit (.bool false)], args := [d] }
  | _ => none }
def FnFinalToldWrongFalsely : Prop := fnFinalToldRow.holds Try.pinned (OpenSpec.ofChange fnFinalToldWrong)

/-- 'laws.FnGroupTrace': WHATEVER THE INPUT: true; the input reads as it did. -/
def fnGroupTraceSpec : ChangeSpec := { name := "fnGroupTrace", fn := fun _ => fun
  | [d] => { results := [.lit (.bool true)], args := [d] }
  | _ => none }
def fnGroupTraceRow : OpenClaim := { program := "ytbnmeedmeikepaa", sum := "44b04e1f3a49637f523325b93e8111b35b6e19eadb3b9b8654eb0425fed5e972", func := "loop.example/groupmulticast/laws.FnGroupTrace", spec := "fnGroupTrace", unfollowed := true, recurses := true, apart := false }
def FnGroupTraceSaid : Prop := fnGroupTraceRow.holds Try.pinned (OpenSpec.ofChange fnGroupTraceSpec)

/-- ITS FALSE NEIGHBOUR: 'it returns false'. Refute it at one input. -/
def fnGroupTraceWrong : ChangeSpec := { name := "fnGroupTrace", fn := fun _ => fun
  | [d] => { results := [.lit (.bool false)], args := [d] }
  | _ => none }
def FnGroupTraceWrongFalsely : Prop := fnGroupTraceRow.holds Try.pinned (OpenSpec.ofChange fnGroupTraceWrong)

/- THE SECOND FORM. 'bulk': how many values and letters a reading holds, each counted each time it is reached (what is shared counts as often as it is met; a slice's spare places count too). A statement '..UptoSaid' is the law's where the arguments, and the package variables that the reading takes, are together of bulk at most 1048576: NARROWER than '..Said'. Prove '..Said' where nothing that the law and all that it calls make is longer than what came in: it says more and counts as full. Else prove '..UptoSaid'. A law counts once. -/
mutual
def uptoBulk {H : Type} : DataW H → Nat
  | .lit (.string bytes) => bytes.length + 1
  | .lit _ => 1
  | .nil => 1
  | .ptr d => uptoBulk d + 1
  | .slice elems spare => uptoBulkAll elems + uptoBulkAll spare + 1
  | .agg parts => uptoBulkAll parts + 1
  | .iface _ d => uptoBulk d + 1
  | .map entries => uptoBulkEntries entries + 1
  | .held _ => 1
def uptoBulkAll {H : Type} : List (DataW H) → Nat
  | [] => 0
  | d :: r => uptoBulk d + uptoBulkAll r
def uptoBulkEntries {H : Type} : List (Lit × DataW H) → Nat
  | [] => 0
  | x :: r => uptoBulkEntry x + uptoBulkEntries r
def uptoBulkEntry {H : Type} : Lit × DataW H → Nat
  | (.string bytes, d) => bytes.length + uptoBulk d + 1
  | (_, d) => uptoBulk d + 1
 end
def uptoSmall : (H : Type) → List (DataW H) → Bool := fun _ ds => decide (uptoBulkAll ds ≤ 1048576)
def OpenSpec.upto (s : _root_.Go.ChangeSpec) : _root_.Go.OpenSpec := { _root_.Go.OpenSpec.ofChange s with cond := some uptoSmall }

/-- 'laws.FnProposeTrace', WHERE WHAT IT READS IS OF BULK AT MOST 1048576: true; the input reads as it did. -/
def fnProposeTraceUptoRow : OpenClaim := { program := "ytbnmeedmeikepaa", sum := "44b04e1f3a49637f523325b93e8111b35b6e19eadb3b9b8654eb0425fed5e972", func := "loop.example/groupmulticast/laws.FnProposeTrace", spec := "fnProposeTrace", unfollowed := true, recurses := true, apart := false, narrowed := true }
def FnProposeTraceUptoSaid : Prop := fnProposeTraceUptoRow.holds Try.pinned (OpenSpec.upto fnProposeTraceSpec)

/-- 'laws.FnFinalTold', WHERE WHAT IT READS IS OF BULK AT MOST 1048576: true; the input reads as it did. -/
def fnFinalToldUptoRow : OpenClaim := { program := "ytbnmeedmeikepaa", sum := "44b04e1f3a49637f523325b93e8111b35b6e19eadb3b9b8654eb0425fed5e972", func := "loop.example/groupmulticast/laws.FnFinalTold", spec := "fnFinalTold", unfollowed := true, recurses := true, apart := false, narrowed := true }
def FnFinalToldUptoSaid : Prop := fnFinalToldUptoRow.holds Try.pinned (OpenSpec.upto fnFinalToldSpec)

/-- 'laws.FnGroupTrace', WHERE WHAT IT READS IS OF BULK AT MOST 1048576: true; the input reads as it did. -/
def fnGroupTraceUptoRow : OpenClaim := { program := "ytbnmeedmeikepaa", sum := "44b04e1f3a49637f523325b93e8111b35b6e19eadb3b9b8654eb0425fed5e972", func := "loop.example/groupmulticast/laws.FnGroupTrace", spec := "fnGroupTrace", unfollowed := true, recurses := true, apart := false, narrowed := true }
def FnGroupTraceUptoSaid : Prop := fnGroupTraceUptoRow.holds Try.pinned (OpenSpec.upto fnGroupTraceSpec)

end Rows
end Go.Proofs.Ytbnmeedmeikepaa
