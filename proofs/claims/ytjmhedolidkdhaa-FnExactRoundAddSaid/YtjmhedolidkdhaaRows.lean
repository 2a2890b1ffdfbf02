/-
  No cell of these rows narrows 'for every input' (looked for: loops, veiled, ifaces, maps, wideKeys, modest, calm, conditions, laid).
  DERIVED. THE GIVEN ROWS OF THIS SEAT. 5 by the template 'for every input the law returns true; each argument reads behind the call as it read before'; 0 by the template 'total and deterministic' (their statements: YtjmhedolidkdhaaTotals.lean).
  GIVEN WITH THE SEED: the statements are not yours to turn. If you find one false, say at which input.
  Laid BY PROGRAM, IN A SANDBOX (cutbox-rows.mjs): the forced cells as the released guide's own fill.sh prints them over the translation e351e988b8be63df… (all of the seat's roots in one cut). By AI agents, Wed Nov 11 2026. No macro, syntax, notation, axiom, sorry.
-/
import Derived.Test.YtjmhedolidkdhaaChecked
import GoSem.Claim
import GoSem.ClaimJoined
import GoSem.ClaimMapViews
import Derived.JoinedTies
import Derived.KernelRfl
namespace Go.Proofs.Ytjmhedolidkdhaa
/- THE CELL 'sum', in the pinned program and in every row, IS THE sha256 OF THE DUMP (.gsa) THAT YtjmhedolidkdhaaProg.lean LOADS. Nothing in Lean hashes anything: it is a label: what it is worth is what the hold of that sum in a sandbox is worth. -/
noncomputable def Try.pinned : Pinned := { name := "ytjmhedolidkdhaa", sum := "e351e988b8be63dfe84e24bd645ef712dcf6dac4a44d8b2e79341b86446d5986", checked := Try.checked }
namespace Rows
def none {H : Type} : Left H := { results := [], args := [] }

/-- 'laws.FnExactRoundNew': WHATEVER THE INPUT: true; the input reads as it did. -/
def fnExactRoundNewSpec : ChangeSpec := { name := "fnExactRoundNew", fn := fun _ => fun
  | [d1, d2] => { results := [.lit (.bool true)], args := [d1, d2] }
  | _ => none }
def fnExactRoundNewRow : OpenClaim := { program := "ytjmhedolidkdhaa", sum := "e351e988b8be63dfe84e24bd645ef712dcf6dac4a44d8b2e79341b86446d5986", func := "loop.example/groupmulticast/laws.FnExactRoundNew", spec := "fnExactRoundNew", apart := false }
def FnExactRoundNewSaid : Prop := fnExactRoundNewRow.holds Try.pinned (OpenSpec.ofChange fnExactRoundNewSpec)

/-- ITS FALSE NEIGHBOUR: 'it returns false'. Refute it at one input. -/
def fnExactRoundNewWrong : ChangeSpec := { name := "fnExactRoundNew", fn := fun _ => fun
  | [d1, d2] => { results := [.lit (.bool false)], args := [d1, d2] }
  | _ => none }
def FnExactRoundNewWrongFalsely : Prop := fnExactRoundNewRow.holds Try.pinned (OpenSpec.ofChange fnExactRoundNewWrong)

/-- 'laws.FnExactRoundValid': WHATEVER THE INPUT: true; the input reads as it did. -/
def fnExactRoundValidSpec : ChangeSpec := { name := "fnExactRoundValid", fn := fun _ => fun
  | [d] => { results := [.lit (.bool true)], args := [d] }
  | _ => none }
def fnExactRoundValidRow : OpenClaim := { program := "ytjmhedolidkdhaa", sum := "e351e988b8be63dfe84e24bd645ef712dcf6dac4a44d8b2e79341b86446d5986", func := "loop.example/groupmulticast/laws.FnExactRoundValid", spec := "fnExactRoundValid", apart := false }
def FnExactRoundValidSaid : Prop := fnExactRoundValidRow.holds Try.pinned (OpenSpec.ofChange fnExactRoundValidSpec)

/-- ITS FALSE NEIGHBOUR: 'it returns false'. Refute it at one input. -/
def fnExactRoundValidWrong : ChangeSpec := { name := "fnExactRoundValid", fn := fun _ => fun
  | [d] => { results := [.lit (.bool false)], args := [d] }
  | _ => none }
def FnExactRoundValidWrongFalsely : Prop := fnExactRoundValidRow.holds Try.pinned (OpenSpec.ofChange fnExactRoundValidWrong)

/-- 'laws.FnExactRoundAdd': WHATEVER THE INPUT: true; the input reads as it did. -/
def fnExactRoundAddSpec : ChangeSpec := { name := "fnExactRoundAdd", fn := fun _ => fun
  | [d1, d2] => { results := [.lit (.bool true)], args := [d1, d2] }
  | _ => none }
def fnExactRoundAddRow : OpenClaim := { program := "ytjmhedolidkdhaa", sum := "e351e988b8be63dfe84e24bd645ef712dcf6dac4a44d8b2e79341b86446d5986", func := "loop.example/groupmulticast/laws.FnExactRoundAdd", spec := "fnExactRoundAdd", apart := false }
def FnExactRoundAddSaid : Prop := fnExactRoundAddRow.holds Try.pinned (OpenSpec.ofChange fnExactRoundAddSpec)

/-- ITS FALSE NEIGHBOUR: 'it returns false'. Refute it at one input. -/
def fnExactRoundAddWrong : ChangeSpec := { name := "fnExactRoundAdd", fn := fun _ => fun
  | [d1, d2] => { results := [.lit (.bool false)], args := [d1, d2] }
  | _ => none }
def FnExactRoundAddWrongFalsely : Prop := fnExactRoundAddRow.holds Try.pinned (OpenSpec.ofChange fnExactRoundAddWrong)

/-- 'laws.FnExactRoundMissing': WHATEVER THE INPUT: true; the input reads as it did. -/
def fnExactRoundMissingSpec : ChangeSpec := { name := "fnExactRoundMissing", fn := fun _ => fun
  | [d] => { results := [.lit (.bool true)], args := [d] }
  | _ => none }
def fnExactRoundMissingRow : OpenClaim := { program := "ytjmhedolidkdhaa", sum := "e351e988b8be63dfe84e24bd645ef712dcf6dac4a44d8b2e79341b86446d5986", func := "loop.example/groupmulticast/laws.FnExactRoundMissing", spec := "fnExactRoundMissing", apart := false }
def FnExactRoundMissingSaid : Prop := fnExactRoundMissingRow.holds Try.pinned (OpenSpec.ofChange fnExactRoundMissingSpec)

/-- ITS FALSE NEIGHBOUR: 'it returns false'. Refute it at one input. -/
def fnExactRoundMissingWrong : ChangeSpec := { name := "fnExactRoundMissing", fn := fun _ => fun
  | [d] => { results := [.lit (.bool false)], args := [d] }
  | _ => none }
def FnExactRoundMissingWrongFalsely : Prop := fnExactRoundMissingRow.holds Try.pinned (OpenSpec.ofChange fnExactRoundMissingWrong)

/-- 'laws.FnExactRoundFinal': WHATEVER THE INPUT: true; the input reads as it did. -/
def fnExactRoundFinalSpec : ChangeSpec := { name := "fnExactRoundFinal", fn := fun _ => fun
  | [d] => { results := [.lit (.bool true)], args := [d] }
  | _ => none }
def fnExactRoundFinalRow : OpenClaim := { program := "ytjmhedolidkdhaa", sum := "e351e988b8be63dfe84e24bd645ef712dcf6dac4a44d8b2e79341b86446d5986", func := "loop.example/groupmulticast/laws.FnExactRoundFinal", spec := "fnExactRoundFinal", unfollowed := true, recurses := true, apart := false }
def FnExactRoundFinalSaid : Prop := fnExactRoundFinalRow.holds Try.pinned (OpenSpec.ofChange fnExactRoundFinalSpec)

/-- ITS FALSE NEIGHBOUR: 'it returns false'. Refute it at one input. -/
def fnExactRoundFinalWrong : ChangeSpec := { name := "fnExactRoundFinal", fn := fun _ => fun
  | [d] => { results := [.lit (.bool false)], args := [d] }
  | _ => none }
def FnExactRoundFinalWrongFalsely : Prop := fnExactRoundFinalRow.holds Try.pinned (OpenSpec.ofChange fnExactRoundFinalWrong)

/- THE SECOND FORM. 'bulk': how many values and letters a reading holds, each counted each time it is reached (what is shared counts as often as it is met; a slice's spare places count too). A statement '..UptoSaid' is the law's where the arguments, and the package variables that the reading takes, are together of bulk at most 1048576: NARROWER than '..Said'. Prove '..Said' where nothing that the law and all that it calls make is longer than what came in: it says more and counts as full. Else prove '..UptoSaid'. A law counts once. -/
mutual
def uptoBulk {H : Type} : DataW H → Nat
  | .lit (.string bytes) => bytes.length + 1
  | .lit _ => 1
  | .nil => 1
  | .ptr d => uptoBulk d + 1
  | .slice elems spare => uptoBulkAll elems + uptoBulkAll spare + 1
  | .agg parts => uptoBulkAll parts + 1
  | .iface _ d => uptoBulk d + 1
  | .map entries => uptoBulkEntries entries + 1
  | .held _ => 1
def uptoBulkAll {H : Type} : List (DataW H) → Nat
  | [] => 0
  | d :: r => uptoBulk d + uptoBulkAll r
def uptoBulkEntries {H : Type} : List (Lit × DataW H) → Nat
  | [] => 0
  | x :: r => uptoBulkEntry x + uptoBulkEntries r
def uptoBulkEntry {H : Type} : Lit × DataW H → Nat
  | (.string bytes, d) => bytes.length + uptoBulk d + 1
  | (_, d) => uptoBulk d + 1
 end
def uptoSmall : (H : Type) → List (DataW H) → Bool := fun _ ds => decide (uptoBulkAll ds ≤ 1048576)
def OpenSpec.upto (s : _root_.Go.ChangeSpec) : _root_.Go.OpenSpec := { _root_.Go.OpenSpec.ofChange s with cond := some uptoSmall }

/-- 'laws.FnExactRoundNew', WHERE WHAT IT READS IS OF BULK AT MOST 1048576: true; the input reads as it did. -/
def fnExactRoundNewUptoRow : OpenClaim := { program := "ytjmhedolidkdhaa", sum := "e351e988b8be63dfe84e24bd645ef712dcf6dac4a44d8b2e79341b86446d5986", func := "loop.example/groupmulticast/laws.FnExactRoundNew", spec := "fnExactRoundNew", apart := false, narrowed := true }
def FnExactRoundNewUptoSaid : Prop := fnExactRoundNewUptoRow.holds Try.pinned (OpenSpec.upto fnExactRoundNewSpec)

/-- 'laws.FnExactRoundValid', WHERE WHAT IT READS IS OF BULK AT MOST 1048576: true; the input reads as it did. -/
def fnExactRoundValidUptoRow : OpenClaim := { program := "ytjmhedolidkdhaa", sum := "e351e988b8be63dfe84e24bd645ef712dcf6dac4a44d8b2e79341b86446d5986", func := "loop.example/groupmulticast/laws.FnExactRoundValid", spec := "fnExactRoundValid", apart := false, narrowed := true }
def FnExactRoundValidUptoSaid : Prop := fnExactRoundValidUptoRow.holds Try.pinned (OpenSpec.upto fnExactRoundValidSpec)

/-- 'laws.FnExactRoundAdd', WHERE WHAT IT READS IS OF BULK AT MOST 1048576: true; the input reads as it did. -/
def fnExactRoundAddUptoRow : OpenClaim := { program := "ytjmhedolidkdhaa", sum := "e351e988b8be63dfe84e24bd645ef712dcf6dac4a44d8b2e79341b86446d5986", func := "loop.example/groupmulticast/laws.FnExactRoundAdd", spec := "fnExactRoundAdd", apart := false, narrowed := true }
def FnExactRoundAddUptoSaid : Prop := fnExactRoundAddUptoRow.holds Try.pinned (OpenSpec.upto fnExactRoundAddSpec)

/-- 'laws.FnExactRoundMissing', WHERE WHAT IT READS IS OF BULK AT MOST 1048576: true; the input reads as it did. -/
def fnExactRoundMissingUptoRow : OpenClaim := { program := "ytjmhedolidkdhaa", sum := "e351e988b8be63dfe84e24bd645ef712dcf6dac4a44d8b2e79341b86446d5986", func := "loop.example/groupmulticast/laws.FnExactRoundMissing", spec := "fnExactRoundMissing", apart := false, narrowed := true }
def FnExactRoundMissingUptoSaid : Prop := fnExactRoundMissingUptoRow.holds Try.pinned (OpenSpec.upto fnExactRoundMissingSpec)

/-- 'laws.FnExactRoundFinal', WHERE WHAT IT READS IS OF BULK AT MOST 1048576: true; the input reads as it did. -/
def fnExactRoundFinalUptoRow : OpenClaim := { program := "ytjmhedolidkdhaa", sum := "e351e988b8be63dfe84e24bd645ef712dcf6dac4a44d8b2e79341b86446d5986", func := "loop.example/groupmulticast/laws.FnExactRoundFinal", spec := "fnExactRoundFinal", unfollowed := true, recurses := true, apart := false, narrowed := true }
def FnExactRoundFinalUptoSaid : Prop := fnExactRoundFinalUptoRow.holds Try.pinned (OpenSpec.upto fnExactRoundFinalSpec)

end Rows
end Go.Proofs.Ytjmhedolidkdhaa
