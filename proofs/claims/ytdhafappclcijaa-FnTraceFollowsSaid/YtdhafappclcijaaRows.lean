/-
  No cell of these rows narrows 'for every input' (looked for: loops, veiled, ifaces, maps, wideKeys, modest, calm, conditions, laid).
  DERIVED. THE GIVEN ROWS OF THIS SEAT. 12 by the template 'for every input the law returns true; each argument reads behind the call as it read before'; 0 by the template 'total and deterministic' (their statements: YtdhafappclcijaaTotals.lean).
  GIVEN WITH THE SEED: the statements are not yours to turn. If you find one false, say at which input.
  Laid BY PROGRAM, IN A SANDBOX (cutbox-rows.mjs): the forced cells as the released guide's own fill.sh prints them over the translation 54e519b204cb0b5d… (all of the seat's roots in one cut). By AI agents, Wed Nov 11 2026. No macro, syntax, notation, axiom, sorry.
-/
import Derived.Test.YtdhafappclcijaaChecked
import GoSem.Claim
import GoSem.ClaimJoined
import GoSem.ClaimMapViews
import Derived.JoinedTies
import Derived.KernelRfl
namespace Go.Proofs.Ytdhafappclcijaa
/- THE CELL 'sum', in the pinned program and in every row, IS THE sha256 OF THE DUMP (.gsa) THAT YtdhafappclcijaaProg.lean LOADS. Nothing in Lean hashes anything: it is a label: what it is worth is what the hold of that sum in a sandbox is worth. -/
noncomputable def Try.pinned : Pinned := { name := "ytdhafappclcijaa", sum := "54e519b204cb0b5df1eb9719c2d69dfc7c8e74008832c506353ecfe5afb5e60e", checked := Try.checked }
namespace Rows
def none {H : Type} : Left H := { results := [], args := [] }

/-- 'laws.FnTraceOrder': WHATEVER THE INPUT: true; the input reads as it did. -/
def fnTraceOrderSpec : ChangeSpec := { name := "fnTraceOrder", fn := fun _ => fun
  | [d] => { results := [.lit (.bool true)], args := [d] }
  | _ => none }
def fnTraceOrderRow : OpenClaim := { program := "ytdhafappclcijaa", sum := "54e519b204cb0b5df1eb9719c2d69dfc7c8e74008832c506353ecfe5afb5e60e", func := "loop.example/groupmulticast/laws.FnTraceOrder", spec := "fnTraceOrder", apart := false }
def FnTraceOrderSaid : Prop := fnTraceOrderRow.holds Try.pinned (OpenSpec.ofChange fnTraceOrderSpec)

/-- ITS FALSE NEIGHBOUR: 'it returns false'. Refute it at one input. -/
def fnTraceOrderWrong : ChangeSpec := { name := "fnTraceOrder", fn := fun _ => fun
  | [d] => { results := [.lit (.bool false)], args := [d] }
  | _ => none }
def FnTraceOrderWrongFalsely : Prop := fnTraceOrderRow.holds Try.pinned (OpenSpec.ofChange fnTraceOrderWrong)

/-- 'laws.FnTraceCertificate': WHATEVER THE INPUT: true; the input reads as it did. -/
def fnTraceCertificateSpec : ChangeSpec := { name := "fnTraceCertificate", fn := fun _ => fun
  | [d] => { results := [.lit (.bool true)], args := [d] }
  | _ => none }
def fnTraceCertificateRow : OpenClaim := { program := "ytdhafappclcijaa", sum := "54e519b204cb0b5df1eb9719c2d69dfc7c8e74008832c506353ecfe5afb5e60e", func := "loop.example/groupmulticast/laws.FnTraceCertificate", spec := "fnTraceCertificate", inPlace := ["slices.overlaps[int]"], apart := false }
def FnTraceCertificateSaid : Prop := fnTraceCertificateRow.holds Try.pinned (OpenSpec.ofChange fnTraceCertificateSpec)

/-- ITS FALSE NEIGHBOUR: 'it returns false'. Refute it at one input. -/
def fnTraceCertificateWrong : ChangeSpec := { name := "fnTraceCertificate", fn := fun _ => fun
  | [d] => { results := [.lit (.bool false)], args := [d] }
  | _ => none }
def FnTraceCertificateWrongFalsely : Prop := fnTraceCertificateRow.holds Try.pinned (OpenSpec.ofChange fnTraceCertificateWrong)

/-- 'laws.FnTraceCycle': WHATEVER THE INPUT: true; the input reads as it did. -/
def fnTraceCycleSpec : ChangeSpec := { name := "fnTraceCycle", fn := fun _ => fun
  | [d] => { results := [.lit (.bool true)], args := [d] }
  | _ => none }
def fnTraceCycleRow : OpenClaim := { program := "ytdhafappclcijaa", sum := "54e519b204cb0b5df1eb9719c2d69dfc7c8e74008832c506353ecfe5afb5e60e", func := "loop.example/groupmulticast/laws.FnTraceCycle", spec := "fnTraceCycle", inPlace := ["slices.overlaps[int]"], apart := false }
def FnTraceCycleSaid : Prop := fnTraceCycleRow.holds Try.pinned (OpenSpec.ofChange fnTraceCycleSpec)

/-- ITS FALSE NEIGHBOUR: 'it returns false'. Refute it at one input. -/
def fnTraceCycleWrong : ChangeSpec := { name := "fnTraceCycle", fn := fun _ => fun
  | [d] => { results := [.lit (.bool false)], args := [d] }
  | _ => none }
def FnTraceCycleWrongFalsely : Prop := fnTraceCycleRow.holds Try.pinned (OpenSpec.ofChange fnTraceCycleWrong)

/-- 'laws.FnTraceCycleSimple': WHATEVER THE INPUT: true; the input reads as it did. -/
def fnTraceCycleSimpleSpec : ChangeSpec := { name := "fnTraceCycleSimple", fn := fun _ => fun
  | [d] => { results := [.lit (.bool true)], args := [d] }
  | _ => none }
def fnTraceCycleSimpleRow : OpenClaim := { program := "ytdhafappclcijaa", sum := "54e519b204cb0b5df1eb9719c2d69dfc7c8e74008832c506353ecfe5afb5e60e", func := "loop.example/groupmulticast/laws.FnTraceCycleSimple", spec := "fnTraceCycleSimple", inPlace := ["slices.overlaps[int]"], apart := false }
def FnTraceCycleSimpleSaid : Prop := fnTraceCycleSimpleRow.holds Try.pinned (OpenSpec.ofChange fnTraceCycleSimpleSpec)

/-- ITS FALSE NEIGHBOUR: 'it returns false'. Refute it at one input. -/
def fnTraceCycleSimpleWrong : ChangeSpec := { name := "fnTraceCycleSimple", fn := fun _ => fun
  | [d] => { results := [.lit (.bool false)], args := [d] }
  | _ => none }
def FnTraceCycleSimpleWrongFalsely : Prop := fnTraceCycleSimpleRow.holds Try.pinned (OpenSpec.ofChange fnTraceCycleSimpleWrong)

/-- 'laws.FnTraceCyclePair': WHATEVER THE INPUT: true; the input reads as it did. -/
def fnTraceCyclePairSpec : ChangeSpec := { name := "fnTraceCyclePair", fn := fun _ => fun
  | [d] => { results := [.lit (.bool true)], args := [d] }
  | _ => none }
def fnTraceCyclePairRow : OpenClaim := { program := "ytdhafappclcijaa", sum := "54e519b204cb0b5df1eb9719c2d69dfc7c8e74008832c506353ecfe5afb5e60e", func := "loop.example/groupmulticast/laws.FnTraceCyclePair", spec := "fnTraceCyclePair", apart := false }
def FnTraceCyclePairSaid : Prop := fnTraceCyclePairRow.holds Try.pinned (OpenSpec.ofChange fnTraceCyclePairSpec)

/-- ITS FALSE NEIGHBOUR: 'it returns false'. Refute it at one input. -/
def fnTraceCyclePairWrong : ChangeSpec := { name := "fnTraceCyclePair", fn := fun _ => fun
  | [d] => { results := [.lit (.bool false)], args := [d] }
  | _ => none }
def FnTraceCyclePairWrongFalsely : Prop := fnTraceCyclePairRow.holds Try.pinned (OpenSpec.ofChange fnTraceCyclePairWrong)

/-- 'laws.FnTraceOne': WHATEVER THE INPUT: true; the input reads as it did. -/
def fnTraceOneSpec : ChangeSpec := { name := "fnTraceOne", fn := fun _ => fun
  | [d] => { results := [.lit (.bool true)], args := [d] }
  | _ => none }
def fnTraceOneRow : OpenClaim := { program := "ytdhafappclcijaa", sum := "54e519b204cb0b5df1eb9719c2d69dfc7c8e74008832c506353ecfe5afb5e60e", func := "loop.example/groupmulticast/laws.FnTraceOne", spec := "fnTraceOne", apart := false }
def FnTraceOneSaid : Prop := fnTraceOneRow.holds Try.pinned (OpenSpec.ofChange fnTraceOneSpec)

/-- ITS FALSE NEIGHBOUR: 'it returns false'. Refute it at one input. -/
def fnTraceOneWrong : ChangeSpec := { name := "fnTraceOne", fn := fun _ => fun
  | [d] => { results := [.lit (.bool false)], args := [d] }
  | _ => none }
def FnTraceOneWrongFalsely : Prop := fnTraceOneRow.holds Try.pinned (OpenSpec.ofChange fnTraceOneWrong)

/-- 'laws.FnTraceFewer': WHATEVER THE INPUT: true; the input reads as it did. -/
def fnTraceFewerSpec : ChangeSpec := { name := "fnTraceFewer", fn := fun _ => fun
  | [d1, d2] => { results := [.lit (.bool true)], args := [d1, d2] }
  | _ => none }
def fnTraceFewerRow : OpenClaim := { program := "ytdhafappclcijaa", sum := "54e519b204cb0b5df1eb9719c2d69dfc7c8e74008832c506353ecfe5afb5e60e", func := "loop.example/groupmulticast/laws.FnTraceFewer", spec := "fnTraceFewer", apart := false }
def FnTraceFewerSaid : Prop := fnTraceFewerRow.holds Try.pinned (OpenSpec.ofChange fnTraceFewerSpec)

/-- ITS FALSE NEIGHBOUR: 'it returns false'. Refute it at one input. -/
def fnTraceFewerWrong : ChangeSpec := { name := "fnTraceFewer", fn := fun _ => fun
  | [d1, d2] => { results := [.lit (.bool false)], args := [d1, d2] }
  | _ => none }
def FnTraceFewerWrongFalsely : Prop := fnTraceFewerRow.holds Try.pinned (OpenSpec.ofChange fnTraceFewerWrong)

/-- 'laws.FnTraceAgain': WHATEVER THE INPUT: true; the input reads as it did. -/
def fnTraceAgainSpec : ChangeSpec := { name := "fnTraceAgain", fn := fun _ => fun
  | [d] => { results := [.lit (.bool true)], args := [d] }
  | _ => none }
def fnTraceAgainRow : OpenClaim := { program := "ytdhafappclcijaa", sum := "54e519b204cb0b5df1eb9719c2d69dfc7c8e74008832c506353ecfe5afb5e60e", func := "loop.example/groupmulticast/laws.FnTraceAgain", spec := "fnTraceAgain", apart := false }
def FnTraceAgainSaid : Prop := fnTraceAgainRow.holds Try.pinned (OpenSpec.ofChange fnTraceAgainSpec)

/-- ITS FALSE NEIGHBOUR: 'it returns false'. Refute it at one input. -/
def fnTraceAgainWrong : ChangeSpec := { name := "fnTraceAgain", fn := fun _ => fun
  | [d] => { results := [.lit (.bool false)], args := [d] }
  | _ => none }
def FnTraceAgainWrongFalsely : Prop := fnTraceAgainRow.holds Try.pinned (OpenSpec.ofChange fnTraceAgainWrong)

/-- 'laws.FnTraceFollows': WHATEVER THE INPUT: true; the input reads as it did. -/
def fnTraceFollowsSpec : ChangeSpec := { name := "fnTraceFollows", fn := fun _ => fun
  | [d] => { results := [.lit (.bool true)], args := [d] }
  | _ => none }
def fnTraceFollowsRow : OpenClaim := { program := "ytdhafappclcijaa", sum := "54e519b204cb0b5df1eb9719c2d69dfc7c8e74008832c506353ecfe5afb5e60e", func := "loop.example/groupmulticast/laws.FnTraceFollows", spec := "fnTraceFollows", apart := false }
def FnTraceFollowsSaid : Prop := fnTraceFollowsRow.holds Try.pinned (OpenSpec.ofChange fnTraceFollowsSpec)

/-- ITS FALSE NEIGHBOUR: 'it returns false'. Refute it at one input. -/
def fnTraceFollowsWrong : ChangeSpec := { name := "fnTraceFollows", fn := fun _ => fun
  | [d] => { results := [.lit (.bool false)], args := [d] }
  | _ => none }
def FnTraceFollowsWrongFalsely : Prop := fnTraceFollowsRow.holds Try.pinned (OpenSpec.ofChange fnTraceFollowsWrong)

/-- 'laws.FnTraceFollowsPart': WHATEVER THE INPUT: true; the input reads as it did. -/
def fnTraceFollowsPartSpec : ChangeSpec := { name := "fnTraceFollowsPart", fn := fun _ => fun
  | [d1, d2] => { results := [.lit (.bool true)], args := [d1, d2] }
  | _ => none }
def fnTraceFollowsPartRow : OpenClaim := { program := "ytdhafappclcijaa", sum := "54e519b204cb0b5df1eb9719c2d69dfc7c8e74008832c506353ecfe5afb5e60e", func := "loop.example/groupmulticast/laws.FnTraceFollowsPart", spec := "fnTraceFollowsPart", apart := false }
def FnTraceFollowsPartSaid : Prop := fnTraceFollowsPartRow.holds Try.pinned (OpenSpec.ofChange fnTraceFollowsPartSpec)

/-- ITS FALSE NEIGHBOUR: 'it returns false'. Refute it at one input. -/
def fnTraceFollowsPartWrong : ChangeSpec := { name := "fnTraceFollowsPart", fn := fun _ => fun
  | [d1, d2] => { results := [.lit (.bool false)], args := [d1, d2] }
  | _ => none }
def FnTraceFollowsPartWrongFalsely : Prop := fnTraceFollowsPartRow.holds Try.pinned (OpenSpec.ofChange fnTraceFollowsPartWrong)

/-- 'laws.FnTraceRotate': WHATEVER THE INPUT: true; the input reads as it did. -/
def fnTraceRotateSpec : ChangeSpec := { name := "fnTraceRotate", fn := fun _ => fun
  | [d] => { results := [.lit (.bool true)], args := [d] }
  | _ => none }
def fnTraceRotateRow : OpenClaim := { program := "ytdhafappclcijaa", sum := "54e519b204cb0b5df1eb9719c2d69dfc7c8e74008832c506353ecfe5afb5e60e", func := "loop.example/groupmulticast/laws.FnTraceRotate", spec := "fnTraceRotate", inPlace := ["slices.overlaps[int]"], apart := false }
def FnTraceRotateSaid : Prop := fnTraceRotateRow.holds Try.pinned (OpenSpec.ofChange fnTraceRotateSpec)

/-- ITS FALSE NEIGHBOUR: 'it returns false'. Refute it at one input. -/
def fnTraceRotateWrong : ChangeSpec := { name := "fnTraceRotate", fn := fun _ => fun
  | [d] => { results := [.lit (.bool false)], args := [d] }
  | _ => none }
def FnTraceRotateWrongFalsely : Prop := fnTraceRotateRow.holds Try.pinned (OpenSpec.ofChange fnTraceRotateWrong)

/-- 'laws.FnTraceEmpty': WHATEVER THE INPUT: true; the input reads as it did. -/
def fnTraceEmptySpec : ChangeSpec := { name := "fnTraceEmpty", fn := fun _ => fun
  | [d] => { results := [.lit (.bool true)], args := [d] }
  | _ => none }
def fnTraceEmptyRow : OpenClaim := { program := "ytdhafappclcijaa", sum := "54e519b204cb0b5df1eb9719c2d69dfc7c8e74008832c506353ecfe5afb5e60e", func := "loop.example/groupmulticast/laws.FnTraceEmpty", spec := "fnTraceEmpty", apart := false }
def FnTraceEmptySaid : Prop := fnTraceEmptyRow.holds Try.pinned (OpenSpec.ofChange fnTraceEmptySpec)

/-- ITS FALSE NEIGHBOUR: 'it returns false'. Refute it at one input. -/
def fnTraceEmptyWrong : ChangeSpec := { name := "fnTraceEmpty", fn := fun _ => fun
  | [d] => { results := [.lit (.bool false)], args := [d] }
  | _ => none }
def FnTraceEmptyWrongFalsely : Prop := fnTraceEmptyRow.holds Try.pinned (OpenSpec.ofChange fnTraceEmptyWrong)

/- THE SECOND FORM. 'bulk': how many values and letters a reading holds, each counted each time it is reached (what is shared counts as often as it is met; a slice's spare places count too). A statement '..UptoSaid' is the law's where the arguments, and the package variables that the reading takes, are together of bulk at most 1048576: NARROWER than '..Said'. Prove '..Said' where nothing that the law and all that it calls make is longer than what came in: it says more and counts as full. Else prove '..UptoSaid'. A law counts once. -/
mutual
def uptoBulk {H : Type} : DataW H → Nat
  | .lit (.string bytes) => bytes.length + 1
  | .lit _ => 1
  | .nil => 1
  | .ptr d => uptoBulk d + 1
  | .slice elems spare => uptoBulkAll elems + uptoBulkAll spare + 1
  | .agg parts => uptoBulkAll parts + 1
  | .iface _ d => uptoBulk d + 1
  | .map entries => uptoBulkEntries entries + 1
  | .held _ => 1
def uptoBulkAll {H : Type} : List (DataW H) → Nat
  | [] => 0
  | d :: r => uptoBulk d + uptoBulkAll r
def uptoBulkEntries {H : Type} : List (Lit × DataW H) → Nat
  | [] => 0
  | x :: r => uptoBulkEntry x + uptoBulkEntries r
def uptoBulkEntry {H : Type} : Lit × DataW H → Nat
  | (.string bytes, d) => bytes.length + uptoBulk d + 1
  | (_, d) => uptoBulk d + 1
 end
def uptoSmall : (H : Type) → List (DataW H) → Bool := fun _ ds => decide (uptoBulkAll ds ≤ 1048576)
def OpenSpec.upto (s : _root_.Go.ChangeSpec) : _root_.Go.OpenSpec := { _root_.Go.OpenSpec.ofChange s with cond := some uptoSmall }

/-- 'laws.FnTraceOrder', WHERE WHAT IT READS IS OF BULK AT MOST 1048576: true; the input reads as it did. -/
def fnTraceOrderUptoRow : OpenClaim := { program := "ytdhafappclcijaa", sum := "54e519b204cb0b5df1eb9719c2d69dfc7c8e74008832c506353ecfe5afb5e60e", func := "loop.example/groupmulticast/laws.FnTraceOrder", spec := "fnTraceOrder", apart := false, narrowed := true }
def FnTraceOrderUptoSaid : Prop := fnTraceOrderUptoRow.holds Try.pinned (OpenSpec.upto fnTraceOrderSpec)

/-- 'laws.FnTraceCertificate', WHERE WHAT IT READS IS OF BULK AT MOST 1048576: true; the input reads as it did. -/
def fnTraceCertificateUptoRow : OpenClaim := { program := "ytdhafappclcijaa", sum := "54e519b204cb0b5df1eb9719c2d69dfc7c8e74008832c506353ecfe5afb5e60e", func := "loop.example/groupmulticast/laws.FnTraceCertificate", spec := "fnTraceCertificate", inPlace := ["slices.overlaps[int]"], apart := false, narrowed := true }
def FnTraceCertificateUptoSaid : Prop := fnTraceCertificateUptoRow.holds Try.pinned (OpenSpec.upto fnTraceCertificateSpec)

/-- 'laws.FnTraceCycle', WHERE WHAT IT READS IS OF BULK AT MOST 1048576: true; the input reads as it did. -/
def fnTraceCycleUptoRow : OpenClaim := { program := "ytdhafappclcijaa", sum := "54e519b204cb0b5df1eb9719c2d69dfc7c8e74008832c506353ecfe5afb5e60e", func := "loop.example/groupmulticast/laws.FnTraceCycle", spec := "fnTraceCycle", inPlace := ["slices.overlaps[int]"], apart := false, narrowed := true }
def FnTraceCycleUptoSaid : Prop := fnTraceCycleUptoRow.holds Try.pinned (OpenSpec.upto fnTraceCycleSpec)

/-- 'laws.FnTraceCycleSimple', WHERE WHAT IT READS IS OF BULK AT MOST 1048576: true; the input reads as it did. -/
def fnTraceCycleSimpleUptoRow : OpenClaim := { program := "ytdhafappclcijaa", sum := "54e519b204cb0b5df1eb9719c2d69dfc7c8e74008832c506353ecfe5afb5e60e", func := "loop.example/groupmulticast/laws.FnTraceCycleSimple", spec := "fnTraceCycleSimple", inPlace := ["slices.overlaps[int]"], apart := false, narrowed := true }
def FnTraceCycleSimpleUptoSaid : Prop := fnTraceCycleSimpleUptoRow.holds Try.pinned (OpenSpec.upto fnTraceCycleSimpleSpec)

/-- 'laws.FnTraceCyclePair', WHERE WHAT IT READS IS OF BULK AT MOST 1048576: true; the input reads as it did. -/
def fnTraceCyclePairUptoRow : OpenClaim := { program := "ytdhafappclcijaa", sum := "54e519b204cb0b5df1eb9719c2d69dfc7c8e74008832c506353ecfe5afb5e60e", func := "loop.example/groupmulticast/laws.FnTraceCyclePair", spec := "fnTraceCyclePair", apart := false, narrowed := true }
def FnTraceCyclePairUptoSaid : Prop := fnTraceCyclePairUptoRow.holds Try.pinned (OpenSpec.upto fnTraceCyclePairSpec)

/-- 'laws.FnTraceOne', WHERE WHAT IT READS IS OF BULK AT MOST 1048576: true; the input reads as it did. -/
def fnTraceOneUptoRow : OpenClaim := { program := "ytdhafappclcijaa", sum := "54e519b204cb0b5df1eb9719c2d69dfc7c8e74008832c506353ecfe5afb5e60e", func := "loop.example/groupmulticast/laws.FnTraceOne", spec := "fnTraceOne", apart := false, narrowed := true }
def FnTraceOneUptoSaid : Prop := fnTraceOneUptoRow.holds Try.pinned (OpenSpec.upto fnTraceOneSpec)

/-- 'laws.FnTraceFewer', WHERE WHAT IT READS IS OF BULK AT MOST 1048576: true; the input reads as it did. -/
def fnTraceFewerUptoRow : OpenClaim := { program := "ytdhafappclcijaa", sum := "54e519b204cb0b5df1eb9719c2d69dfc7c8e74008832c506353ecfe5afb5e60e", func := "loop.example/groupmulticast/laws.FnTraceFewer", spec := "fnTraceFewer", apart := false, narrowed := true }
def FnTraceFewerUptoSaid : Prop := fnTraceFewerUptoRow.holds Try.pinned (OpenSpec.upto fnTraceFewerSpec)

/-- 'laws.FnTraceAgain', WHERE WHAT IT READS IS OF BULK AT MOST 1048576: true; the input reads as it did. -/
def fnTraceAgainUptoRow : OpenClaim := { program := "ytdhafappclcijaa", sum := "54e519b204cb0b5df1eb9719c2d69dfc7c8e74008832c506353ecfe5afb5e60e", func := "loop.example/groupmulticast/laws.FnTraceAgain", spec := "fnTraceAgain", apart := false, narrowed := true }
def FnTraceAgainUptoSaid : Prop := fnTraceAgainUptoRow.holds Try.pinned (OpenSpec.upto fnTraceAgainSpec)

/-- 'laws.FnTraceFollows', WHERE WHAT IT READS IS OF BULK AT MOST 1048576: true; the input reads as it did. -/
def fnTraceFollowsUptoRow : OpenClaim := { program := "ytdhafappclcijaa", sum := "54e519b204cb0b5df1eb9719c2d69dfc7c8e74008832c506353ecfe5afb5e60e", func := "loop.example/groupmulticast/laws.FnTraceFollows", spec := "fnTraceFollows", apart := false, narrowed := true }
def FnTraceFollowsUptoSaid : Prop := fnTraceFollowsUptoRow.holds Try.pinned (OpenSpec.upto fnTraceFollowsSpec)

/-- 'laws.FnTraceFollowsPart', WHERE WHAT IT READS IS OF BULK AT MOST 1048576: true; the input reads as it did. -/
def fnTraceFollowsPartUptoRow : OpenClaim := { program := "ytdhafappclcijaa", sum := "54e519b204cb0b5df1eb9719c2d69dfc7c8e74008832c506353ecfe5afb5e60e", func := "loop.example/groupmulticast/laws.FnTraceFollowsPart", spec := "fnTraceFollowsPart", apart := false, narrowed := true }
def FnTraceFollowsPartUptoSaid : Prop := fnTraceFollowsPartUptoRow.holds Try.pinned (OpenSpec.upto fnTraceFollowsPartSpec)

/-- 'laws.FnTraceRotate', WHERE WHAT IT READS IS OF BULK AT MOST 1048576: true; the input reads as it did. -/
def fnTraceRotateUptoRow : OpenClaim := { program := "ytdhafappclcijaa", sum := "54e519b204cb0b5df1eb9719c2d69dfc7c8e74008832c506353ecfe5afb5e60e", func := "loop.example/groupmulticast/laws.FnTraceRotate", spec := "fnTraceRotate", inPlace := ["slices.overlaps[int]"], apart := false, narrowed := true }
def FnTraceRotateUptoSaid : Prop := fnTraceRotateUptoRow.holds Try.pinned (OpenSpec.upto fnTraceRotateSpec)

/-- 'laws.FnTraceEmpty', WHERE WHAT IT READS IS OF BULK AT MOST 1048576: true; the input reads as it did. -/
def fnTraceEmptyUptoRow : OpenClaim := { program := "ytdhafappclcijaa", sum := "54e519b204cb0b5df1eb9719c2d69dfc7c8e74008832c506353ecfe5afb5e60e", func := "loop.example/groupmulticast/laws.FnTraceEmpty", spec := "fnTraceEmpty", apart := false, narrowed := true }
def FnTraceEmptyUptoSaid : Prop := fnTraceEmptyUptoRow.holds Try.pinned (OpenSpec.upto fnTraceEmptySpec)

end Rows
end Go.Proofs.Ytdhafappclcijaa
