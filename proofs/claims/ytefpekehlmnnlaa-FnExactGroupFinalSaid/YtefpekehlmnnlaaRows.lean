/-
  No cell of these rows narrows 'for every input' (looked for: loops, veiled, ifaces, maps, wideKeys, modest, calm, conditions, laid).
  DERIVED. THE GIVEN ROWS OF THIS SEAT. 7 by the template 'for every input the law returns true; each argument reads behind the call as it read before'; 0 by the template 'total and deterministic' (their statements: YtefpekehlmnnlaaTotals.lean).
  GIVEN WITH THE SEED: the statements are not yours to turn. If you find one false, say at which input.
  Laid BY PROGRAM, IN A SANDBOX (cutbox-rows.mjs): the forced cells as the released guide's own fill.sh prints them over the translation 6e87649cc8aa8819… (all of the seat's roots in one cut). By AI agents, Wed Nov 11 2026. No macro, syntax, notation, axiom, sorry.
-/
import Derived.Test.YtefpekehlmnnlaaChecked
import GoSem.Claim
import GoSem.ClaimJoined
import GoSem.ClaimMapViews
import Derived.JoinedTies
import Derived.KernelRfl
namespace Go.Proofs.Ytefpekehlmnnlaa
/- THE CELL 'sum', in the pinned program and in every row, IS THE sha256 OF THE DUMP (.gsa) THAT YtefpekehlmnnlaaProg.lean LOADS. Nothing in Lean hashes anything: it is a label: what it is worth is what the hold of that sum in a sandbox is worth. -/
noncomputable def Try.pinned : Pinned := { name := "ytefpekehlmnnlaa", sum := "6e87649cc8aa8819a1e79f2439fd94411fe6b077c0d745dd84a3b6a16360ae58", checked := Try.checked }
namespace Rows
def none {H : Type} : Left H := { results := [], args := [] }

/-- 'laws.FnExactGroupNew': WHATEVER THE INPUT: true; the input reads as it did. -/
def fnExactGroupNewSpec : ChangeSpec := { name := "fnExactGroupNew", fn := fun _ => fun
  | [d] => { results := [.lit (.bool true)], args := [d] }
  | _ => none }
def fnExactGroupNewRow : OpenClaim := { program := "ytefpekehlmnnlaa", sum := "6e87649cc8aa8819a1e79f2439fd94411fe6b077c0d745dd84a3b6a16360ae58", func := "loop.example/groupmulticast/laws.FnExactGroupNew", spec := "fnExactGroupNew", apart := false }
def FnExactGroupNewSaid : Prop := fnExactGroupNewRow.holds Try.pinned (OpenSpec.ofChange fnExactGroupNewSpec)

/-- ITS FALSE NEIGHBOUR: 'it returns false'. Refute it at one input. -/
def fnExactGroupNewWrong : ChangeSpec := { name := "fnExactGroupNew", fn := fun _ => fun
  | [d] => { results := [.lit (.bool false)], args := [d] }
  | _ => none }
def FnExactGroupNewWrongFalsely : Prop := fnExactGroupNewRow.holds Try.pinned (OpenSpec.ofChange fnExactGroupNewWrong)

/-- 'laws.FnExactGroupValid': WHATEVER THE INPUT: true; the input reads as it did. -/
def fnExactGroupValidSpec : ChangeSpec := { name := "fnExactGroupValid", fn := fun _ => fun
  | [d] => { results := [.lit (.bool true)], args := [d] }
  | _ => none }
def fnExactGroupValidRow : OpenClaim := { program := "ytefpekehlmnnlaa", sum := "6e87649cc8aa8819a1e79f2439fd94411fe6b077c0d745dd84a3b6a16360ae58", func := "loop.example/groupmulticast/laws.FnExactGroupValid", spec := "fnExactGroupValid", unfollowed := true, recurses := true, apart := false }
def FnExactGroupValidSaid : Prop := fnExactGroupValidRow.holds Try.pinned (OpenSpec.ofChange fnExactGroupValidSpec)

/-- ITS FALSE NEIGHBOUR: 'it returns false'. Refute it at one input. -/
def fnExactGroupValidWrong : ChangeSpec := { name := "fnExactGroupValid", fn := fun _ => fun
  | [d] => { results := [.lit (.bool false)], args := [d] }
  | _ => none }
def FnExactGroupValidWrongFalsely : Prop := fnExactGroupValidRow.holds Try.pinned (OpenSpec.ofChange fnExactGroupValidWrong)

/-- 'laws.FnExactGroupPropose': WHATEVER THE INPUT: true; the input reads as it did. -/
def fnExactGroupProposeSpec : ChangeSpec := { name := "fnExactGroupPropose", fn := fun _ => fun
  | [d1, d2] => { results := [.lit (.bool true)], args := [d1, d2] }
  | _ => none }
def fnExactGroupProposeRow : OpenClaim := { program := "ytefpekehlmnnlaa", sum := "6e87649cc8aa8819a1e79f2439fd94411fe6b077c0d745dd84a3b6a16360ae58", func := "loop.example/groupmulticast/laws.FnExactGroupPropose", spec := "fnExactGroupPropose", unfollowed := true, recurses := true, apart := false }
def FnExactGroupProposeSaid : Prop := fnExactGroupProposeRow.holds Try.pinned (OpenSpec.ofChange fnExactGroupProposeSpec)

/-- ITS FALSE NEIGHBOUR: 'it returns false'. Refute it at one input. -/
def fnExactGroupProposeWrong : ChangeSpec := { name := "fnExactGroupPropose", fn := fun _ => fun
  | [d1, d2] => { results := [.lit (.bool false)], args := [d1, d2] }
  | _ => none }
def FnExactGroupProposeWrongFalsely : Prop := fnExactGroupProposeRow.holds Try.pinned (OpenSpec.ofChange fnExactGroupProposeWrong)

/-- 'laws.FnExactGroupFinal': WHATEVER THE INPUT: true; the input reads as it did. -/
def fnExactGroupFinalSpec : ChangeSpec := { name := "fnExactGroupFinal", fn := fun _ => fun
  | [d1, d2, d3] => { results := [.lit (.bool true)], args := [d1, d2, d3] }
  | _ => none }
def fnExactGroupFinalRow : OpenClaim := { program := "ytefpekehlmnnlaa", sum := "6e87649cc8aa8819a1e79f2439fd94411fe6b077c0d745dd84a3b6a16360ae58", func := "loop.example/groupmulticast/laws.FnExactGroupFinal", spec := "fnExactGroupFinal", unfollowed := true, recurses := true, apart := false }
def FnExactGroupFinalSaid : Prop := fnExactGroupFinalRow.holds Try.pinned (OpenSpec.ofChange fnExactGroupFinalSpec)

/-- ITS FALSE NEIGHBOUR: 'it returns false'. Refute it at one input. -/
def fnExactGroupFinalWrong : ChangeSpec := { name := "fnExactGroupFinal", fn := fun _ => fun
  | [d1, d2, d3] => { results := [.lit (.bool false)], args := [d1, d2, d3] }
  | _ => none }
def FnExactGroupFinalWrongFalsely : Prop := fnExactGroupFinalRow.holds Try.pinned (OpenSpec.ofChange fnExactGroupFinalWrong)

/-- 'laws.FnExactGroupBlocked': WHATEVER THE INPUT: true; the input reads as it did. -/
def fnExactGroupBlockedSpec : ChangeSpec := { name := "fnExactGroupBlocked", fn := fun _ => fun
  | [d] => { results := [.lit (.bool true)], args := [d] }
  | _ => none }
def fnExactGroupBlockedRow : OpenClaim := { program := "ytefpekehlmnnlaa", sum := "6e87649cc8aa8819a1e79f2439fd94411fe6b077c0d745dd84a3b6a16360ae58", func := "loop.example/groupmulticast/laws.FnExactGroupBlocked", spec := "fnExactGroupBlocked", unfollowed := true, recurses := true, apart := false }
def FnExactGroupBlockedSaid : Prop := fnExactGroupBlockedRow.holds Try.pinned (OpenSpec.ofChange fnExactGroupBlockedSpec)

/-- ITS FALSE NEIGHBOUR: 'it returns false'. Refute it at one input. -/
def fnExactGroupBlockedWrong : ChangeSpec := { name := "fnExactGroupBlocked", fn := fun _ => fun
  | [d] => { results := [.lit (.bool false)], args := [d] }
  | _ => none }
def FnExactGroupBlockedWrongFalsely : Prop := fnExactGroupBlockedRow.holds Try.pinned (OpenSpec.ofChange fnExactGroupBlockedWrong)

/-- 'laws.FnExactGroupStamp': WHATEVER THE INPUT: true; the input reads as it did. -/
def fnExactGroupStampSpec : ChangeSpec := { name := "fnExactGroupStamp", fn := fun _ => fun
  | [d1, d2] => { results := [.lit (.bool true)], args := [d1, d2] }
  | _ => none }
def fnExactGroupStampRow : OpenClaim := { program := "ytefpekehlmnnlaa", sum := "6e87649cc8aa8819a1e79f2439fd94411fe6b077c0d745dd84a3b6a16360ae58", func := "loop.example/groupmulticast/laws.FnExactGroupStamp", spec := "fnExactGroupStamp", unfollowed := true, recurses := true, apart := false }
def FnExactGroupStampSaid : Prop := fnExactGroupStampRow.holds Try.pinned (OpenSpec.ofChange fnExactGroupStampSpec)

/-- ITS FALSE NEIGHBOUR: 'it returns false'. Refute it at one input. -/
def fnExactGroupStampWrong : ChangeSpec := { name := "fnExactGroupStamp", fn := fun _ => fun
  | [d1, d2] => { results := [.lit (.bool false)], args := [d1, d2] }
  | _ => none }
def FnExactGroupStampWrongFalsely : Prop := fnExactGroupStampRow.holds Try.pinned (OpenSpec.ofChange fnExactGroupStampWrong)

/-- 'laws.FnExactGroupTrace': WHATEVER THE INPUT: true; the input reads as it did. -/
def fnExactGroupTraceSpec : ChangeSpec := { name := "fnExactGroupTrace", fn := fun _ => fun
  | [d] => { results := [.lit (.bool true)], args := [d] }
  | _ => none }
def fnExactGroupTraceRow : OpenClaim := { program := "ytefpekehlmnnlaa", sum := "6e87649cc8aa8819a1e79f2439fd94411fe6b077c0d745dd84a3b6a16360ae58", func := "loop.example/groupmulticast/laws.FnExactGroupTrace", spec := "fnExactGroupTrace", unfollowed := true, recurses := true, apart := false }
def FnExactGroupTraceSaid : Prop := fnExactGroupTraceRow.holds Try.pinned (OpenSpec.ofChange fnExactGroupTraceSpec)

/-- ITS FALSE NEIGHBOUR: 'it returns false'. Refute it at one input. -/
def fnExactGroupTraceWrong : ChangeSpec := { name := "fnExactGroupTrace", fn := fun _ => fun
  | [d] => { results := [.lit (.bool false)], args := [d] }
  | _ => none }
def FnExactGroupTraceWrongFalsely : Prop := fnExactGroupTraceRow.holds Try.pinned (OpenSpec.ofChange fnExactGroupTraceWrong)

/- THE SECOND FORM. 'bulk': how many values and letters a reading holds, each counted each time it is reached (what is shared counts as often as it is met; a slice's spare places count too). A statement '..UptoSaid' is the law's where the arguments, and the package variables that the reading takes, are together of bulk at most 1048576: NARROWER than '..Said'. Prove '..Said' where nothing that the law and all that it calls make is longer than what came in: it says more and counts as full. Else prove '..UptoSaid'. A law counts once. -/
mutual
def uptoBulk {H : Type} : DataW H → Nat
  | .lit (.string bytes) => bytes.length + 1
  | .lit _ => 1
  | .nil => 1
  | .ptr d => uptoBulk d + 1
  | .slice elems spare => uptoBulkAll elems + uptoBulkAll spare + 1
  | .agg parts => uptoBulkAll parts + 1
  | .iface _ d => uptoBulk d + 1
  | .map entries => uptoBulkEntries entries + 1
  | .held _ => 1
def uptoBulkAll {H : Type} : List (DataW H) → Nat
  | [] => 0
  | d :: r => uptoBulk d + uptoBulkAll r
def uptoBulkEntries {H : Type} : List (Lit × DataW H) → Nat
  | [] => 0
  | x :: r => uptoBulkEntry x + uptoBulkEntries r
def uptoBulkEntry {H : Type} : Lit × DataW H → Nat
  | (.string bytes, d) => bytes.length + uptoBulk d + 1
  | (_, d) => uptoBulk d + 1
 end
def uptoSmall : (H : Type) → List (DataW H) → Bool := fun _ ds => decide (uptoBulkAll ds ≤ 1048576)
def OpenSpec.upto (s : _root_.Go.ChangeSpec) : _root_.Go.OpenSpec := { _root_.Go.OpenSpec.ofChange s with cond := some uptoSmall }

/-- 'laws.FnExactGroupNew', WHERE WHAT IT READS IS OF BULK AT MOST 1048576: true; the input reads as it did. -/
def fnExactGroupNewUptoRow : OpenClaim := { program := "ytefpekehlmnnlaa", sum := "6e87649cc8aa8819a1e79f2439fd94411fe6b077c0d745dd84a3b6a16360ae58", func := "loop.example/groupmulticast/laws.FnExactGroupNew", spec := "fnExactGroupNew", apart := false, narrowed := true }
def FnExactGroupNewUptoSaid : Prop := fnExactGroupNewUptoRow.holds Try.pinned (OpenSpec.upto fnExactGroupNewSpec)

/-- 'laws.FnExactGroupValid', WHERE WHAT IT READS IS OF BULK AT MOST 1048576: true; the input reads as it did. -/
def fnExactGroupValidUptoRow : OpenClaim := { program := "ytefpekehlmnnlaa", sum := "6e87649cc8aa8819a1e79f2439fd94411fe6b077c0d745dd84a3b6a16360ae58", func := "loop.example/groupmulticast/laws.FnExactGroupValid", spec := "fnExactGroupValid", unfollowed := true, recurses := true, apart := false, narrowed := true }
def FnExactGroupValidUptoSaid : Prop := fnExactGroupValidUptoRow.holds Try.pinned (OpenSpec.upto fnExactGroupValidSpec)

/-- 'laws.FnExactGroupPropose', WHERE WHAT IT READS IS OF BULK AT MOST 1048576: true; the input reads as it did. -/
def fnExactGroupProposeUptoRow : OpenClaim := { program := "ytefpekehlmnnlaa", sum := "6e87649cc8aa8819a1e79f2439fd94411fe6b077c0d745dd84a3b6a16360ae58", func := "loop.example/groupmulticast/laws.FnExactGroupPropose", spec := "fnExactGroupPropose", unfollowed := true, recurses := true, apart := false, narrowed := true }
def FnExactGroupProposeUptoSaid : Prop := fnExactGroupProposeUptoRow.holds Try.pinned (OpenSpec.upto fnExactGroupProposeSpec)

/-- 'laws.FnExactGroupFinal', WHERE WHAT IT READS IS OF BULK AT MOST 1048576: true; the input reads as it did. -/
def fnExactGroupFinalUptoRow : OpenClaim := { program := "ytefpekehlmnnlaa", sum := "6e87649cc8aa8819a1e79f2439fd94411fe6b077c0d745dd84a3b6a16360ae58", func := "loop.example/groupmulticast/laws.FnExactGroupFinal", spec := "fnExactGroupFinal", unfollowed := true, recurses := true, apart := false, narrowed := true }
def FnExactGroupFinalUptoSaid : Prop := fnExactGroupFinalUptoRow.holds Try.pinned (OpenSpec.upto fnExactGroupFinalSpec)

/-- 'laws.FnExactGroupBlocked', WHERE WHAT IT READS IS OF BULK AT MOST 1048576: true; the input reads as it did. -/
def fnExactGroupBlockedUptoRow : OpenClaim := { program := "ytefpekehlmnnlaa", sum := "6e87649cc8aa8819a1e79f2439fd94411fe6b077c0d745dd84a3b6a16360ae58", func := "loop.example/groupmulticast/laws.FnExactGroupBlocked", spec := "fnExactGroupBlocked", unfollowed := true, recurses := true, apart := false, narrowed := true }
def FnExactGroupBlockedUptoSaid : Prop := fnExactGroupBlockedUptoRow.holds Try.pinned (OpenSpec.upto fnExactGroupBlockedSpec)

/-- 'laws.FnExactGroupStamp', WHERE WHAT IT READS IS OF BULK AT MOST 1048576: true; the input reads as it did. -/
def fnExactGroupStampUptoRow : OpenClaim := { program := "ytefpekehlmnnlaa", sum := "6e87649cc8aa8819a1e79f2439fd94411fe6b077c0d745dd84a3b6a16360ae58", func := "loop.example/groupmulticast/laws.FnExactGroupStamp", spec := "fnExactGroupStamp", unfollowed := true, recurses := true, apart := false, narrowed := true }
def FnExactGroupStampUptoSaid : Prop := fnExactGroupStampUptoRow.holds Try.pinned (OpenSpec.upto fnExactGroupStampSpec)

/-- 'laws.FnExactGroupTrace', WHERE WHAT IT READS IS OF BULK AT MOST 1048576: true; the input reads as it did. -/
def fnExactGroupTraceUptoRow : OpenClaim := { program := "ytefpekehlmnnlaa", sum := "6e87649cc8aa8819a1e79f2439fd94411fe6b077c0d745dd84a3b6a16360ae58", func := "loop.example/groupmulticast/laws.FnExactGroupTrace", spec := "fnExactGroupTrace", unfollowed := true, recurses := true, apart := false, narrowed := true }
def FnExactGroupTraceUptoSaid : Prop := fnExactGroupTraceUptoRow.holds Try.pinned (OpenSpec.upto fnExactGroupTraceSpec)

end Rows
end Go.Proofs.Ytefpekehlmnnlaa
