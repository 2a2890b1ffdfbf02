/-
  No cell of these rows narrows 'for every input' (looked for: loops, veiled, ifaces, maps, wideKeys, modest, calm, conditions, laid).
  DERIVED. THE GIVEN ROWS OF THIS SEAT. 4 by the template 'for every input the law returns true; each argument reads behind the call as it read before'; 0 by the template 'total and deterministic' (their statements: YtaadkljpfabjiaaTotals.lean).
  GIVEN WITH THE SEED: the statements are not yours to turn. If you find one false, say at which input.
  Laid BY PROGRAM, IN A SANDBOX (cutbox-rows.mjs): the forced cells as the released guide's own fill.sh prints them over the translation e078cea5434d50ec… (all of the seat's roots in one cut). By AI agents, Wed Nov 11 2026. No macro, syntax, notation, axiom, sorry.
-/
import Derived.Test.YtaadkljpfabjiaaChecked
import GoSem.Claim
import GoSem.ClaimJoined
import GoSem.ClaimMapViews
import Derived.JoinedTies
import Derived.KernelRfl
namespace Go.Proofs.Ytaadkljpfabjiaa
/- THE CELL 'sum', in the pinned program and in every row, IS THE sha256 OF THE DUMP (.gsa) THAT YtaadkljpfabjiaaProg.lean LOADS. Nothing in Lean hashes anything: it is a label: what it is worth is what the hold of that sum in a sandbox is worth. -/
noncomputable def Try.pinned : Pinned := { name := "ytaadkljpfabjiaa", sum := "e078cea5434d50ecec02f7aea4d7e67853c1680483b44d637358497812b79e6a", checked := Try.checked }
namespace Rows
def none {H : Type} : Left H := { results := [], args := [] }

/-- 'laws.FnExactTracesValid': WHATEVER THE INPUT: true; the input reads as it did. -/
def fnExactTracesValidSpec : ChangeSpec := { name := "fnExactTracesValid", fn := fun _ => fun
  | [d] => { results := [.lit (.bool true)], args := [d] }
  | _ => none }
def fnExactTracesValidRow : OpenClaim := { program := "ytaadkljpfabjiaa", sum := "e078cea5434d50ecec02f7aea4d7e67853c1680483b44d637358497812b79e6a", func := "loop.example/groupmulticast/laws.FnExactTracesValid", spec := "fnExactTracesValid", apart := false }
def FnExactTracesValidSaid : Prop := fnExactTracesValidRow.holds Try.pinned (OpenSpec.ofChange fnExactTracesValidSpec)

/-- ITS FALSE NEIGHBOUR: 'it returns false'. Refute it at one input. -/
def fnExactTracesValidWrong : ChangeSpec := { name := "fnExactTracesValid", fn := fun _ => fun
  | [d] => { results := [.lit (.bool false)], args := [d] }
  | _ => none }
def FnExactTracesValidWrongFalsely : Prop := fnExactTracesValidRow.holds Try.pinned (OpenSpec.ofChange fnExactTracesValidWrong)

/-- 'laws.FnExactTraceOrder': WHATEVER THE INPUT: true; the input reads as it did. -/
def fnExactTraceOrderSpec : ChangeSpec := { name := "fnExactTraceOrder", fn := fun _ => fun
  | [d] => { results := [.lit (.bool true)], args := [d] }
  | _ => none }
def fnExactTraceOrderRow : OpenClaim := { program := "ytaadkljpfabjiaa", sum := "e078cea5434d50ecec02f7aea4d7e67853c1680483b44d637358497812b79e6a", func := "loop.example/groupmulticast/laws.FnExactTraceOrder", spec := "fnExactTraceOrder", apart := false }
def FnExactTraceOrderSaid : Prop := fnExactTraceOrderRow.holds Try.pinned (OpenSpec.ofChange fnExactTraceOrderSpec)

/-- ITS FALSE NEIGHBOUR: 'it returns false'. Refute it at one input. -/
def fnExactTraceOrderWrong : ChangeSpec := { name := "fnExactTraceOrder", fn := fun _ => fun
  | [d] => { results := [.lit (.bool false)], args := [d] }
  | _ => none }
def FnExactTraceOrderWrongFalsely : Prop := fnExactTraceOrderRow.holds Try.pinned (OpenSpec.ofChange fnExactTraceOrderWrong)

/-- 'laws.FnExactTraceCycle': WHATEVER THE INPUT: true; the input reads as it did. -/
def fnExactTraceCycleSpec : ChangeSpec := { name := "fnExactTraceCycle", fn := fun _ => fun
  | [d] => { results := [.lit (.bool true)], args := [d] }
  | _ => none }
def fnExactTraceCycleRow : OpenClaim := { program := "ytaadkljpfabjiaa", sum := "e078cea5434d50ecec02f7aea4d7e67853c1680483b44d637358497812b79e6a", func := "loop.example/groupmulticast/laws.FnExactTraceCycle", spec := "fnExactTraceCycle", inPlace := ["slices.overlaps[int]"], apart := false }
def FnExactTraceCycleSaid : Prop := fnExactTraceCycleRow.holds Try.pinned (OpenSpec.ofChange fnExactTraceCycleSpec)

/-- ITS FALSE NEIGHBOUR: 'it returns false'. Refute it at one input. -/
def fnExactTraceCycleWrong : ChangeSpec := { name := "fnExactTraceCycle", fn := fun _ => fun
  | [d] => { results := [.lit (.bool false)], args := [d] }
  | _ => none }
def FnExactTraceCycleWrongFalsely : Prop := fnExactTraceCycleRow.holds Try.pinned (OpenSpec.ofChange fnExactTraceCycleWrong)

/-- 'laws.FnExactTraceFollows': WHATEVER THE INPUT: true; the input reads as it did. -/
def fnExactTraceFollowsSpec : ChangeSpec := { name := "fnExactTraceFollows", fn := fun _ => fun
  | [d1, d2] => { results := [.lit (.bool true)], args := [d1, d2] }
  | _ => none }
def fnExactTraceFollowsRow : OpenClaim := { program := "ytaadkljpfabjiaa", sum := "e078cea5434d50ecec02f7aea4d7e67853c1680483b44d637358497812b79e6a", func := "loop.example/groupmulticast/laws.FnExactTraceFollows", spec := "fnExactTraceFollows", apart := false }
def FnExactTraceFollowsSaid : Prop := fnExactTraceFollowsRow.holds Try.pinned (OpenSpec.ofChange fnExactTraceFollowsSpec)

/-- ITS FALSE NEIGHBOUR: 'it returns false'. Refute it at one input. -/
def fnExactTraceFollowsWrong : ChangeSpec := { name := "fnExactTraceFollows", fn := fun _ => fun
  | [d1, d2] => { results := [.lit (.bool false)], args := [d1, d2] }
  | _ => none }
def FnExactTraceFollowsWrongFalsely : Prop := fnExactTraceFollowsRow.holds Try.pinned (OpenSpec.ofChange fnExactTraceFollowsWrong)

/- THE SECOND FORM. 'bulk': how many values and letters a reading holds, each counted each time it is reached (what is shared counts as often as it is met; a slice's spare places count too). A statement '..UptoSaid' is the law's where the arguments, and the package variables that the reading takes, are together of bulk at most 1048576: NARROWER than '..Said'. Prove '..Said' where nothing that the law and all that it calls make is longer than what came in: it says more and counts as full. Else prove '..UptoSaid'. A law counts once. -/
mutual
def uptoBulk {H : Type} : DataW H → Nat
  | .lit (.string bytes) => bytes.length + 1
  | .lit _ => 1
  | .nil => 1
  | .ptr d => uptoBulk d + 1
  | .slice elems spare => uptoBulkAll elems + uptoBulkAll spare + 1
  | .agg parts => uptoBulkAll parts + 1
  | .iface _ d => uptoBulk d + 1
  | .map entries => uptoBulkEntries entries + 1
  | .held _ => 1
def uptoBulkAll {H : Type} : List (DataW H) → Nat
  | [] => 0
  | d :: r => uptoBulk d + uptoBulkAll r
def uptoBulkEntries {H : Type} : List (Lit × DataW H) → Nat
  | [] => 0
  | x :: r => uptoBulkEntry x + uptoBulkEntries r
def uptoBulkEntry {H : Type} : Lit × DataW H → Nat
  | (.string bytes, d) => bytes.length + uptoBulk d + 1
  | (_, d) => uptoBulk d + 1
 end
def uptoSmall : (H : Type) → List (DataW H) → Bool := fun _ ds => decide (uptoBulkAll ds ≤ 1048576)
def OpenSpec.upto (s : _root_.Go.ChangeSpec) : _root_.Go.OpenSpec := { _root_.Go.OpenSpec.ofChange s with cond := some uptoSmall }

/-- 'laws.FnExactTracesValid', WHERE WHAT IT READS IS OF BULK AT MOST 1048576: true; the input reads as it did. -/
def fnExactTracesValidUptoRow : OpenClaim := { program := "ytaadkljpfabjiaa", sum := "e078cea5434d50ecec02f7aea4d7e67853c1680483b44d637358497812b79e6a", func := "loop.example/groupmulticast/laws.FnExactTracesValid", spec := "fnExactTracesValid", apart := false, narrowed := true }
def FnExactTracesValidUptoSaid : Prop := fnExactTracesValidUptoRow.holds Try.pinned (OpenSpec.upto fnExactTracesValidSpec)

/-- 'laws.FnExactTraceOrder', WHERE WHAT IT READS IS OF BULK AT MOST 1048576: true; the input reads as it did. -/
def fnExactTraceOrderUptoRow : OpenClaim := { program := "ytaadkljpfabjiaa", sum := "e078cea5434d50ecec02f7aea4d7e67853c1680483b44d637358497812b79e6a", func := "loop.example/groupmulticast/laws.FnExactTraceOrder", spec := "fnExactTraceOrder", apart := false, narrowed := true }
def FnExactTraceOrderUptoSaid : Prop := fnExactTraceOrderUptoRow.holds Try.pinned (OpenSpec.upto fnExactTraceOrderSpec)

/-- 'laws.FnExactTraceCycle', WHERE WHAT IT READS IS OF BULK AT MOST 1048576: true; the input reads as it did. -/
def fnExactTraceCycleUptoRow : OpenClaim := { program := "ytaadkljpfabjiaa", sum := "e078cea5434d50ecec02f7aea4d7e67853c1680483b44d637358497812b79e6a", func := "loop.example/groupmulticast/laws.FnExactTraceCycle", spec := "fnExactTraceCycle", inPlace := ["slices.overlaps[int]"], apart := false, narrowed := true }
def FnExactTraceCycleUptoSaid : Prop := fnExactTraceCycleUptoRow.holds Try.pinned (OpenSpec.upto fnExactTraceCycleSpec)

/-- 'laws.FnExactTraceFollows', WHERE WHAT IT READS IS OF BULK AT MOST 1048576: true; the input reads as it did. -/
def fnExactTraceFollowsUptoRow : OpenClaim := { program := "ytaadkljpfabjiaa", sum := "e078cea5434d50ecec02f7aea4d7e67853c1680483b44d637358497812b79e6a", func := "loop.example/groupmulticast/laws.FnExactTraceFollows", spec := "fnExactTraceFollows", apart := false, narrowed := true }
def FnExactTraceFollowsUptoSaid : Prop := fnExactTraceFollowsUptoRow.holds Try.pinned (OpenSpec.upto fnExactTraceFollowsSpec)

end Rows
end Go.Proofs.Ytaadkljpfabjiaa
