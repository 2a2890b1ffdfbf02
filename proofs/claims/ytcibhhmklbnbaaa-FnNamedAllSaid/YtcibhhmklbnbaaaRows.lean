/-
  No cell of these rows narrows 'for every input' (looked for: loops, veiled, ifaces, maps, wideKeys, modest, calm, conditions, laid).
  DERIVED. THE GIVEN ROWS OF THIS SEAT. 4 by the template 'for every input the law returns true; each argument reads behind the call as it read before'; 0 by the template 'total and deterministic' (their statements: YtcibhhmklbnbaaaTotals.lean).
  GIVEN WITH THE SEED: the statements are not yours to turn. If you find one false, say at which input.
  Laid BY PROGRAM, IN A SANDBOX (cutbox-rows.mjs): the forced cells as the released guide's own fill.sh prints them over the translation de61da8b494d2bee… (all of the seat's roots in one cut). By AI agents, Wed Nov 11 2026. No macro, syntax, notation, axiom, sorry.
-/
import Derived.Test.YtcibhhmklbnbaaaChecked
import GoSem.Claim
import GoSem.ClaimJoined
import GoSem.ClaimMapViews
import Derived.JoinedTies
import Derived.KernelRfl
namespace Go.Proofs.Ytcibhhmklbnbaaa
/- THE CELL 'sum', in the pinned program and in every row, IS THE sha256 OF THE DUMP (.gsa) THAT YtcibhhmklbnbaaaProg.lean LOADS. Nothing in Lean hashes anything: it is a label: what it is worth is what the hold of that sum in a sandbox is worth. -/
noncomputable def Try.pinned : Pinned := { name := "ytcibhhmklbnbaaa", sum := "de61da8b494d2beeb80a826d48cec8b0c3eed0b8c78465ee6d19b153e532e41c", checked := Try.checked }
namespace Rows
def none {H : Type} : Left H := { results := [], args := [] }

/-- 'laws.FnUnion': WHATEVER THE INPUT: true; the input reads as it did. -/
def fnUnionSpec : ChangeSpec := { name := "fnUnion", fn := fun _ => fun
  | [d] => { results := [.lit (.bool true)], args := [d] }
  | _ => none }
def fnUnionRow : OpenClaim := { program := "ytcibhhmklbnbaaa", sum := "de61da8b494d2beeb80a826d48cec8b0c3eed0b8c78465ee6d19b153e532e41c", func := "loop.example/groupmulticast/laws.FnUnion", spec := "fnUnion", apart := false }
def FnUnionSaid : Prop := fnUnionRow.holds Try.pinned (OpenSpec.ofChange fnUnionSpec)

/-- ITS FALSE NEIGHBOUR: 'it returns false'. Refute it at one input. -/
def fnUnionWrong : ChangeSpec := { name := "fnUnion", fn := fun _ => fun
  | [d] => { results := [.lit (.bool false)], args := [d] }
  | _ => none }
def FnUnionWrongFalsely : Prop := fnUnionRow.holds Try.pinned (OpenSpec.ofChange fnUnionWrong)

/-- 'laws.FnUnionAgain': WHATEVER THE INPUT: true; the input reads as it did. -/
def fnUnionAgainSpec : ChangeSpec := { name := "fnUnionAgain", fn := fun _ => fun
  | [d] => { results := [.lit (.bool true)], args := [d] }
  | _ => none }
def fnUnionAgainRow : OpenClaim := { program := "ytcibhhmklbnbaaa", sum := "de61da8b494d2beeb80a826d48cec8b0c3eed0b8c78465ee6d19b153e532e41c", func := "loop.example/groupmulticast/laws.FnUnionAgain", spec := "fnUnionAgain", apart := false }
def FnUnionAgainSaid : Prop := fnUnionAgainRow.holds Try.pinned (OpenSpec.ofChange fnUnionAgainSpec)

/-- ITS FALSE NEIGHBOUR: 'it returns false'. Refute it at one input. -/
def fnUnionAgainWrong : ChangeSpec := { name := "fnUnionAgain", fn := fun _ => fun
  | [d] => { results := [.lit (.bool false)], args := [d] }
  | _ => none }
def FnUnionAgainWrongFalsely : Prop := fnUnionAgainRow.holds Try.pinned (OpenSpec.ofChange fnUnionAgainWrong)

/-- 'laws.FnNamed': WHATEVER THE INPUT: true; the input reads as it did. -/
def fnNamedSpec : ChangeSpec := { name := "fnNamed", fn := fun _ => fun
  | [d] => { results := [.lit (.bool true)], args := [d] }
  | _ => none }
def fnNamedRow : OpenClaim := { program := "ytcibhhmklbnbaaa", sum := "de61da8b494d2beeb80a826d48cec8b0c3eed0b8c78465ee6d19b153e532e41c", func := "loop.example/groupmulticast/laws.FnNamed", spec := "fnNamed", apart := false }
def FnNamedSaid : Prop := fnNamedRow.holds Try.pinned (OpenSpec.ofChange fnNamedSpec)

/-- ITS FALSE NEIGHBOUR: 'it returns false'. Refute it at one input. -/
def fnNamedWrong : ChangeSpec := { name := "fnNamed", fn := fun _ => fun
  | [d] => { results := [.lit (.bool false)], args := [d] }
  | _ => none }
def FnNamedWrongFalsely : Prop := fnNamedRow.holds Try.pinned (OpenSpec.ofChange fnNamedWrong)

/-- 'laws.FnNamedAll': WHATEVER THE INPUT: true; the input reads as it did. -/
def fnNamedAllSpec : ChangeSpec := { name := "fnNamedAll", fn := fun _ => fun
  | [d] => { results := [.lit (.bool true)], args := [d] }
  | _ => none }
def fnNamedAllRow : OpenClaim := { program := "ytcibhhmklbnbaaa", sum := "de61da8b494d2beeb80a826d48cec8b0c3eed0b8c78465ee6d19b153e532e41c", func := "loop.example/groupmulticast/laws.FnNamedAll", spec := "fnNamedAll", recurses := true, apart := false }
def FnNamedAllSaid : Prop := fnNamedAllRow.holds Try.pinned (OpenSpec.ofChange fnNamedAllSpec)

/-- ITS FALSE NEIGHBOUR: 'it returns false'. Refute it at one input. -/
def fnNamedAllWrong : ChangeSpec := { name := "fnNamedAll", fn := fun _ => fun
  | [d] => { results := [.lit (.bool false)], args := [d] }
  | _ => none }
def FnNamedAllWrongFalsely : Prop := fnNamedAllRow.holds Try.pinned (OpenSpec.ofChange fnNamedAllWrong)

/- THE SECOND FORM. 'bulk': how many values and letters a reading holds, each counted each time it is reached (what is shared counts as often as it is met; a slice's spare places count too). A statement '..UptoSaid' is the law's where the arguments, and the package variables that the reading takes, are together of bulk at most 1048576: NARROWER than '..Said'. Prove '..Said' where nothing that the law and all that it calls make is longer than what came in: it says more and counts as full. Else prove '..UptoSaid'. A law counts once. -/
mutual
def uptoBulk {H : Type} : DataW H → Nat
  | .lit (.string bytes) => bytes.length + 1
  | .lit _ => 1
  | .nil => 1
  | .ptr d => uptoBulk d + 1
  | .slice elems spare => uptoBulkAll elems + uptoBulkAll spare + 1
  | .agg parts => uptoBulkAll parts + 1
  | .iface _ d => uptoBulk d + 1
  | .map entries => uptoBulkEntries entries + 1
  | .held _ => 1
def uptoBulkAll {H : Type} : List (DataW H) → Nat
  | [] => 0
  | d :: r => uptoBulk d + uptoBulkAll r
def uptoBulkEntries {H : Type} : List (Lit × DataW H) → Nat
  | [] => 0
  | x :: r => uptoBulkEntry x + uptoBulkEntries r
def uptoBulkEntry {H : Type} : Lit × DataW H → Nat
  | (.string bytes, d) => bytes.length + uptoBulk d + 1
  | (_, d) => uptoBulk d + 1
 end
def uptoSmall : (H : Type) → List (DataW H) → Bool := fun _ ds => decide (uptoBulkAll ds ≤ 1048576)
def OpenSpec.upto (s : _root_.Go.ChangeSpec) : _root_.Go.OpenSpec := { _root_.Go.OpenSpec.ofChange s with cond := some uptoSmall }

/-- 'laws.FnUnion', WHERE WHAT IT READS IS OF BULK AT MOST 1048576: true; the input reads as it did. -/
def fnUnionUptoRow : OpenClaim := { program := "ytcibhhmklbnbaaa", sum := "de61da8b494d2beeb80a826d48cec8b0c3eed0b8c78465ee6d19b153e532e41c", func := "loop.example/groupmulticast/laws.FnUnion", spec := "fnUnion", apart := false, narrowed := true }
def FnUnionUptoSaid : Prop := fnUnionUptoRow.holds Try.pinned (OpenSpec.upto fnUnionSpec)

/-- 'laws.FnUnionAgain', WHERE WHAT IT READS IS OF BULK AT MOST 1048576: true; the input reads as it did. -/
def fnUnionAgainUptoRow : OpenClaim := { program := "ytcibhhmklbnbaaa", sum := "de61da8b494d2beeb80a826d48cec8b0c3eed0b8c78465ee6d19b153e532e41c", func := "loop.example/groupmulticast/laws.FnUnionAgain", spec := "fnUnionAgain", apart := false, narrowed := true }
def FnUnionAgainUptoSaid : Prop := fnUnionAgainUptoRow.holds Try.pinned (OpenSpec.upto fnUnionAgainSpec)

/-- 'laws.FnNamed', WHERE WHAT IT READS IS OF BULK AT MOST 1048576: true; the input reads as it did. -/
def fnNamedUptoRow : OpenClaim := { program := "ytcibhhmklbnbaaa", sum := "de61da8b494d2beeb80a826d48cec8b0c3eed0b8c78465ee6d19b153e532e41c", func := "loop.example/groupmulticast/laws.FnNamed", spec := "fnNamed", apart := false, narrowed := true }
def FnNamedUptoSaid : Prop := fnNamedUptoRow.holds Try.pinned (OpenSpec.upto fnNamedSpec)

/-- 'laws.FnNamedAll', WHERE WHAT IT READS IS OF BULK AT MOST 1048576: true; the input reads as it did. -/
def fnNamedAllUptoRow : OpenClaim := { program := "ytcibhhmklbnbaaa", sum := "de61da8b494d2beeb80a826d48cec8b0c3eed0b8c78465ee6d19b153e532e41c", func := "loop.example/groupmulticast/laws.FnNamedAll", spec := "fnNamedAll", recurses := true, apart := false, narrowed := true }
def FnNamedAllUptoSaid : Prop := fnNamedAllUptoRow.holds Try.pinned (OpenSpec.upto fnNamedAllSpec)

end Rows
end Go.Proofs.Ytcibhhmklbnbaaa
