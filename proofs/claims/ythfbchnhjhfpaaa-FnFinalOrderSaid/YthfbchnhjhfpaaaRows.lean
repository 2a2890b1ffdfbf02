/-
  No cell of these rows narrows 'for every input' (looked for: loops, veiled, ifaces, maps, wideKeys, modest, calm, conditions, laid).
  DERIVED. THE GIVEN ROWS OF THIS SEAT. 9 by the template 'for every input the law returns true; each argument reads behind the call as it read before'; 0 by the template 'total and deterministic' (their statements: YthfbchnhjhfpaaaTotals.lean).
  GIVEN WITH THE SEED: the statements are not yours to turn. If you find one false, say at which input.
  Laid BY PROGRAM, IN A SANDBOX (cutbox-rows.mjs): the forced cells as the released guide's own fill.sh prints them over the translation ab6ca1dc3bd65be1… (all of the seat's roots in one cut). By AI agents, Wed Nov 11 2026. No macro, syntax, notation, axiom, sorry.
-/
import Derived.Test.YthfbchnhjhfpaaaChecked
import GoSem.Claim
import GoSem.ClaimJoined
import GoSem.ClaimMapViews
import Derived.JoinedTies
import Derived.KernelRfl
namespace Go.Proofs.Ythfbchnhjhfpaaa
/- THE CELL 'sum', in the pinned program and in every row, IS THE sha256 OF THE DUMP (.gsa) THAT YthfbchnhjhfpaaaProg.lean LOADS. Nothing in Lean hashes anything: it is a label: what it is worth is what the hold of that sum in a sandbox is worth. -/
noncomputable def Try.pinned : Pinned := { name := "ythfbchnhjhfpaaa", sum := "ab6ca1dc3bd65be1bafa394936f95ab7c343989d06a2f194fa1bf597a604baec", checked := Try.checked }
namespace Rows
def none {H : Type} : Left H := { results := [], args := [] }

/-- 'laws.FnGroupNew': WHATEVER THE INPUT: true; the input reads as it did. -/
def fnGroupNewSpec : ChangeSpec := { name := "fnGroupNew", fn := fun _ => fun
  | [d] => { results := [.lit (.bool true)], args := [d] }
  | _ => none }
def fnGroupNewRow : OpenClaim := { program := "ythfbchnhjhfpaaa", sum := "ab6ca1dc3bd65be1bafa394936f95ab7c343989d06a2f194fa1bf597a604baec", func := "loop.example/groupmulticast/laws.FnGroupNew", spec := "fnGroupNew", unfollowed := true, recurses := true, apart := false }
def FnGroupNewSaid : Prop := fnGroupNewRow.holds Try.pinned (OpenSpec.ofChange fnGroupNewSpec)

/-- ITS FALSE NEIGHBOUR: 'it returns false'. Refute it at one input. -/
def fnGroupNewWrong : ChangeSpec := { name := "fnGroupNew", fn := fun _ => fun
  | [d] => { results := [.lit (.bool false)], args := [d] }
  | _ => none }
def FnGroupNewWrongFalsely : Prop := fnGroupNewRow.holds Try.pinned (OpenSpec.ofChange fnGroupNewWrong)

/-- 'laws.FnPropose': WHATEVER THE INPUT: true; the input reads as it did. -/
def fnProposeSpec : ChangeSpec := { name := "fnPropose", fn := fun _ => fun
  | [d] => { results := [.lit (.bool true)], args := [d] }
  | _ => none }
def fnProposeRow : OpenClaim := { program := "ythfbchnhjhfpaaa", sum := "ab6ca1dc3bd65be1bafa394936f95ab7c343989d06a2f194fa1bf597a604baec", func := "loop.example/groupmulticast/laws.FnPropose", spec := "fnPropose", unfollowed := true, recurses := true, apart := false }
def FnProposeSaid : Prop := fnProposeRow.holds Try.pinned (OpenSpec.ofChange fnProposeSpec)

/-- ITS FALSE NEIGHBOUR: 'it returns false'. Refute it at one input. -/
def fnProposeWrong : ChangeSpec := { name := "fnPropose", fn := fun _ => fun
  | [d] => { results := [.lit (.bool false)], args := [d] }
  | _ => none }
def FnProposeWrongFalsely : Prop := fnProposeRow.holds Try.pinned (OpenSpec.ofChange fnProposeWrong)

/-- 'laws.FnProposeTwice': WHATEVER THE INPUT: true; the input reads as it did. -/
def fnProposeTwiceSpec : ChangeSpec := { name := "fnProposeTwice", fn := fun _ => fun
  | [d] => { results := [.lit (.bool true)], args := [d] }
  | _ => none }
def fnProposeTwiceRow : OpenClaim := { program := "ythfbchnhjhfpaaa", sum := "ab6ca1dc3bd65be1bafa394936f95ab7c343989d06a2f194fa1bf597a604baec", func := "loop.example/groupmulticast/laws.FnProposeTwice", spec := "fnProposeTwice", unfollowed := true, recurses := true, apart := false }
def FnProposeTwiceSaid : Prop := fnProposeTwiceRow.holds Try.pinned (OpenSpec.ofChange fnProposeTwiceSpec)

/-- ITS FALSE NEIGHBOUR: 'it returns false'. Refute it at one input. -/
def fnProposeTwiceWrong : ChangeSpec := { name := "fnProposeTwice", fn := fun _ => fun
  | [d] => { results := [.lit (.bool false)], args := [d] }
  | _ => none }
def FnProposeTwiceWrongFalsely : Prop := fnProposeTwiceRow.holds Try.pinned (OpenSpec.ofChange fnProposeTwiceWrong)

/-- 'laws.FnProposeFail': WHATEVER THE INPUT: true; the input reads as it did. -/
def fnProposeFailSpec : ChangeSpec := { name := "fnProposeFail", fn := fun _ => fun
  | [d] => { results := [.lit (.bool true)], args := [d] }
  | _ => none }
def fnProposeFailRow : OpenClaim := { program := "ythfbchnhjhfpaaa", sum := "ab6ca1dc3bd65be1bafa394936f95ab7c343989d06a2f194fa1bf597a604baec", func := "loop.example/groupmulticast/laws.FnProposeFail", spec := "fnProposeFail", unfollowed := true, recurses := true, apart := false }
def FnProposeFailSaid : Prop := fnProposeFailRow.holds Try.pinned (OpenSpec.ofChange fnProposeFailSpec)

/-- ITS FALSE NEIGHBOUR: 'it returns false'. Refute it at one input. -/
def fnProposeFailWrong : ChangeSpec := { name := "fnProposeFail", fn := fun _ => fun
  | [d] => { results := [.lit (.bool false)], args := [d] }
  | _ => none }
def FnProposeFailWrongFalsely : Prop := fnProposeFailRow.holds Try.pinned (OpenSpec.ofChange fnProposeFailWrong)

/-- 'laws.FnProposeTrace': WHATEVER THE INPUT: true; the input reads as it did. -/
def fnProposeTraceSpec : ChangeSpec := { name := "fnProposeTrace", fn := fun _ => fun
  | [d] => { results := [.lit (.bool true)], args := [d] }
  | _ => none }
def fnProposeTraceRow : OpenClaim := { program := "ythfbchnhjhfpaaa", sum := "ab6ca1dc3bd65be1bafa394936f95ab7c343989d06a2f194fa1bf597a604baec", func := "loop.example/groupmulticast/laws.FnProposeTrace", spec := "fnProposeTrace", unfollowed := true, recurses := true, apart := false }
def FnProposeTraceSaid : Prop := fnProposeTraceRow.holds Try.pinned (OpenSpec.ofChange fnProposeTraceSpec)

/-- ITS FALSE NEIGHBOUR: 'it returns false'. Refute it at one input. -/
def fnProposeTraceWrong : ChangeSpec := { name := "fnProposeTrace", fn := fun _ => fun
  | [d] => { results := [.lit (.bool false)], args := [d] }
  | _ => none }
def FnProposeTraceWrongFalsely : Prop := fnProposeTraceRow.holds Try.pinned (OpenSpec.ofChange fnProposeTraceWrong)

/-- 'laws.FnFinal': WHATEVER THE INPUT: true; the input reads as it did. -/
def fnFinalSpec : ChangeSpec := { name := "fnFinal", fn := fun _ => fun
  | [d] => { results := [.lit (.bool true)], args := [d] }
  | _ => none }
def fnFinalRow : OpenClaim := { program := "ythfbchnhjhfpaaa", sum := "ab6ca1dc3bd65be1bafa394936f95ab7c343989d06a2f194fa1bf597a604baec", func := "loop.example/groupmulticast/laws.FnFinal", spec := "fnFinal", unfollowed := true, recurses := true, apart := false }
def FnFinalSaid : Prop := fnFinalRow.holds Try.pinned (OpenSpec.ofChange fnFinalSpec)

/-- ITS FALSE NEIGHBOUR: 'it returns false'. Refute it at one input. -/
def fnFinalWrong : ChangeSpec := { name := "fnFinal", fn := fun _ => fun
  | [d] => { results := [.lit (.bool false)], args := [d] }
  | _ => none }
def FnFinalWrongFalsely : Prop := fnFinalRow.holds Try.pinned (OpenSpec.ofChange fnFinalWrong)

/-- 'laws.FnFinalTwice': WHATEVER THE INPUT: true; the input reads as it did. -/
def fnFinalTwiceSpec : ChangeSpec := { name := "fnFinalTwice", fn := fun _ => fun
  | [d1, d2] => { results := [.lit (.bool true)], args := [d1, d2] }
  | _ => none }
def fnFinalTwiceRow : OpenClaim := { program := "ythfbchnhjhfpaaa", sum := "ab6ca1dc3bd65be1bafa394936f95ab7c343989d06a2f194fa1bf597a604baec", func := "loop.example/groupmulticast/laws.FnFinalTwice", spec := "fnFinalTwice", unfollowed := true, recurses := true, apart := false }
def FnFinalTwiceSaid : Prop := fnFinalTwiceRow.holds Try.pinned (OpenSpec.ofChange fnFinalTwiceSpec)

/-- ITS FALSE NEIGHBOUR: 'it returns false'. Refute it at one input. -/
def fnFinalTwiceWrong : ChangeSpec := { name := "fnFinalTwice", fn := fun _ => fun
  | [d1, d2] => { results := [.lit (.bool false)], args := [d1, d2] }
  | _ => none }
def FnFinalTwiceWrongFalsely : Prop := fnFinalTwiceRow.holds Try.pinned (OpenSpec.ofChange fnFinalTwiceWrong)

/-- 'laws.FnFinalTold': WHATEVER THE INPUT: true; the input reads as it did. -/
def fnFinalToldSpec : ChangeSpec := { name := "fnFinalTold", fn := fun _ => fun
  | [d] => { results := [.lit (.bool true)], args := [d] }
  | _ => none }
def fnFinalToldRow : OpenClaim := { program := "ythfbchnhjhfpaaa", sum := "ab6ca1dc3bd65be1bafa394936f95ab7c343989d06a2f194fa1bf597a604baec", func := "loop.example/groupmulticast/laws.FnFinalTold", spec := "fnFinalTold", unfollowed := true, recurses := true, apart := false }
def FnFinalToldSaid : Prop := fnFinalToldRow.holds Try.pinned (OpenSpec.ofChange fnFinalToldSpec)

/-- ITS FALSE NEIGHBOUR: 'it returns false'. Refute it at one input. -/
def fnFinalToldWrong : ChangeSpec := { name := "fnFinalTold", fn := fun _ => fun
  | [d] => { results := [.lit (.bool false)], args := [d] }
  | _ => none }
def FnFinalToldWrongFalsely : Prop := fnFinalToldRow.holds Try.pinned (OpenSpec.ofChange fnFinalToldWrong)

/-- 'laws.FnFinalOrder': WHATEVER THE INPUT: true; the input reads as it did. -/
def fnFinalOrderSpec : ChangeSpec := { name := "fnFinalOrder", fn := fun _ => fun
  | [d] => { results := [.lit (.bool true)], args := [d] }
  | _ => none }
def fnFinalOrderRow : OpenClaim := { program := "ythfbchnhjhfpaaa", sum := "ab6ca1dc3bd65be1bafa394936f95ab7c343989d06a2f194fa1bf597a604baec", func := "loop.example/groupmulticast/laws.FnFinalOrder", spec := "fnFinalOrder", unfollowed := true, recurses := true, apart := false }
def FnFinalOrderSaid : Prop := fnFinalOrderRow.holds Try.pinned (OpenSpec.ofChange fnFinalOrderSpec)

/-- ITS FALSE NEIGHBOUR: 'it returns false'. Refute it at one input. -/
def fnFinalOrderWrong : ChangeSpec := { name := "fnFinalOrder", fn := fun _ => fun
  | [d] => { results := [.lit (.bool false)], args := [d] }
  | _ => none }
def FnFinalOrderWrongFalsely : Prop := fnFinalOrderRow.holds Try.pinned (OpenSpec.ofChange fnFinalOrderWrong)

/- THE SECOND FORM. 'bulk': how many values and letters a reading holds, each counted each time it is reached (what is shared counts as often as it is met; a slice's spare places count too). A statement '..UptoSaid' is the law's where the arguments, and the package variables that the reading takes, are together of bulk at most 1048576: NARROWER than '..Said'. Prove '..Said' where nothing that the law and all that it calls make is longer than what came in: it says more and counts as full. Else prove '..UptoSaid'. A law counts once. -/
mutual
def uptoBulk {H : Type} : DataW H → Nat
  | .lit (.string bytes) => bytes.length + 1
  | .lit _ => 1
  | .nil => 1
  | .ptr d => uptoBulk d + 1
  | .slice elems spare => uptoBulkAll elems + uptoBulkAll spare + 1
  | .agg parts => uptoBulkAll parts + 1
  | .iface _ d => uptoBulk d + 1
  | .map entries => uptoBulkEntries entries + 1
  | .held _ => 1
def uptoBulkAll {H : Type} : List (DataW H) → Nat
  | [] => 0
  | d :: r => uptoBulk d + uptoBulkAll r
def uptoBulkEntries {H : Type} : List (Lit × DataW H) → Nat
  | [] => 0
  | x :: r => uptoBulkEntry x + uptoBulkEntries r
def uptoBulkEntry {H : Type} : Lit × DataW H → Nat
  | (.string bytes, d) => bytes.length + uptoBulk d + 1
  | (_, d) => uptoBulk d + 1
 end
def uptoSmall : (H : Type) → List (DataW H) → Bool := fun _ ds => decide (uptoBulkAll ds ≤ 1048576)
def OpenSpec.upto (s : _root_.Go.ChangeSpec) : _root_.Go.OpenSpec := { _root_.Go.OpenSpec.ofChange s with cond := some uptoSmall }

/-- 'laws.FnGroupNew', WHERE WHAT IT READS IS OF BULK AT MOST 1048576: true; the input reads as it did. -/
def fnGroupNewUptoRow : OpenClaim := { program := "ythfbchnhjhfpaaa", sum := "ab6ca1dc3bd65be1bafa394936f95ab7c343989d06a2f194fa1bf597a604baec", func := "loop.example/groupmulticast/laws.FnGroupNew", spec := "fnGroupNew", unfollowed := true, recurses := true, apart := false, narrowed := true }
def FnGroupNewUptoSaid : Prop := fnGroupNewUptoRow.holds Try.pinned (OpenSpec.upto fnGroupNewSpec)

/-- 'laws.FnPropose', WHERE WHAT IT READS IS OF BULK AT MOST 1048576: true; the input reads as it did. -/
def fnProposeUptoRow : OpenClaim := { program := "ythfbchnhjhfpaaa", sum := "ab6ca1dc3bd65be1bafa394936f95ab7c343989d06a2f194fa1bf597a604baec", func := "loop.example/groupmulticast/laws.FnPropose", spec := "fnPropose", unfollowed := true, recurses := true, apart := false, narrowed := true }
def FnProposeUptoSaid : Prop := fnProposeUptoRow.holds Try.pinned (OpenSpec.upto fnProposeSpec)

/-- 'laws.FnProposeTwice', WHERE WHAT IT READS IS OF BULK AT MOST 1048576: true; the input reads as it did. -/
def fnProposeTwiceUptoRow : OpenClaim := { program := "ythfbchnhjhfpaaa", sum := "ab6ca1dc3bd65be1bafa394936f95ab7c343989d06a2f194fa1bf597a604baec", func := "loop.example/groupmulticast/laws.FnProposeTwice", spec := "fnProposeTwice", unfollowed := true, recurses := true, apart := false, narrowed := true }
def FnProposeTwiceUptoSaid : Prop := fnProposeTwiceUptoRow.holds Try.pinned (OpenSpec.upto fnProposeTwiceSpec)

/-- 'laws.FnProposeFail', WHERE WHAT IT READS IS OF BULK AT MOST 1048576: true; the input reads as it did. -/
def fnProposeFailUptoRow : OpenClaim := { program := "ythfbchnhjhfpaaa", sum := "ab6ca1dc3bd65be1bafa394936f95ab7c343989d06a2f194fa1bf597a604baec", func := "loop.example/groupmulticast/laws.FnProposeFail", spec := "fnProposeFail", unfollowed := true, recurses := true, apart := false, narrowed := true }
def FnProposeFailUptoSaid : Prop := fnProposeFailUptoRow.holds Try.pinned (OpenSpec.upto fnProposeFailSpec)

/-- 'laws.FnProposeTrace', WHERE WHAT IT READS IS OF BULK AT MOST 1048576: true; the input reads as it did. -/
def fnProposeTraceUptoRow : OpenClaim := { program := "ythfbchnhjhfpaaa", sum := "ab6ca1dc3bd65be1bafa394936f95ab7c343989d06a2f194fa1bf597a604baec", func := "loop.example/groupmulticast/laws.FnProposeTrace", spec := "fnProposeTrace", unfollowed := true, recurses := true, apart := false, narrowed := true }
def FnProposeTraceUptoSaid : Prop := fnProposeTraceUptoRow.holds Try.pinned (OpenSpec.upto fnProposeTraceSpec)

/-- 'laws.FnFinal', WHERE WHAT IT READS IS OF BULK AT MOST 1048576: true; the input reads as it did. -/
def fnFinalUptoRow : OpenClaim := { program := "ythfbchnhjhfpaaa", sum := "ab6ca1dc3bd65be1bafa394936f95ab7c343989d06a2f194fa1bf597a604baec", func := "loop.example/groupmulticast/laws.FnFinal", spec := "fnFinal", unfollowed := true, recurses := true, apart := false, narrowed := true }
def FnFinalUptoSaid : Prop := fnFinalUptoRow.holds Try.pinned (OpenSpec.upto fnFinalSpec)

/-- 'laws.FnFinalTwice', WHERE WHAT IT READS IS OF BULK AT MOST 1048576: true; the input reads as it did. -/
def fnFinalTwiceUptoRow : OpenClaim := { program := "ythfbchnhjhfpaaa", sum := "ab6ca1dc3bd65be1bafa394936f95ab7c343989d06a2f194fa1bf597a604baec", func := "loop.example/groupmulticast/laws.FnFinalTwice", spec := "fnFinalTwice", unfollowed := true, recurses := true, apart := false, narrowed := true }
def FnFinalTwiceUptoSaid : Prop := fnFinalTwiceUptoRow.holds Try.pinned (OpenSpec.upto fnFinalTwiceSpec)

/-- 'laws.FnFinalTold', WHERE WHAT IT READS IS OF BULK AT MOST 1048576: true; the input reads as it did. -/
def fnFinalToldUptoRow : OpenClaim := { program := "ythfbchnhjhfpaaa", sum := "ab6ca1dc3bd65be1bafa394936f95ab7c343989d06a2f194fa1bf597a604baec", func := "loop.example/groupmulticast/laws.FnFinalTold", spec := "fnFinalTold", unfollowed := true, recurses := true, apart := false, narrowed := true }
def FnFinalToldUptoSaid : Prop := fnFinalToldUptoRow.holds Try.pinned (OpenSpec.upto fnFinalToldSpec)

/-- 'laws.FnFinalOrder', WHERE WHAT IT READS IS OF BULK AT MOST 1048576: true; the input reads as it did. -/
def fnFinalOrderUptoRow : OpenClaim := { program := "ythfbchnhjhfpaaa", sum := "ab6ca1dc3bd65be1bafa394936f95ab7c343989d06a2f194fa1bf597a604baec", func := "loop.example/groupmulticast/laws.FnFinalOrder", spec := "fnFinalOrder", unfollowed := true, recurses := true, apart := false, narrowed := true }
def FnFinalOrderUptoSaid : Prop := fnFinalOrderUptoRow.holds Try.pinned (OpenSpec.upto fnFinalOrderSpec)

end Rows
end Go.Proofs.Ythfbchnhjhfpaaa
