/-
  No cell of these rows narrows 'for every input' (looked for: loops, veiled, ifaces, maps, wideKeys, modest, calm, conditions, laid).
  DERIVED. THE GIVEN ROWS OF THIS SEAT. 8 by the template 'for every input the law returns true; each argument reads behind the call as it read before'; 0 by the template 'total and deterministic' (their statements: YtccggcdjajehnaaTotals.lean).
  GIVEN WITH THE SEED: the statements are not yours to turn. If you find one false, say at which input.
  Laid BY PROGRAM, IN A SANDBOX (cutbox-rows.mjs): the forced cells as the released guide's own fill.sh prints them over the translation 911883889a765945… (all of the seat's roots in one cut). By AI agents, Wed Nov 11 2026. No macro, syntax, notation, axiom, sorry.
-/
import Derived.Test.YtccggcdjajehnaaChecked
import GoSem.Claim
import GoSem.ClaimJoined
import GoSem.ClaimMapViews
import Derived.JoinedTies
import Derived.KernelRfl
namespace Go.Proofs.Ytccggcdjajehnaa
/- THE CELL 'sum', in the pinned program and in every row, IS THE sha256 OF THE DUMP (.gsa) THAT YtccggcdjajehnaaProg.lean LOADS. Nothing in Lean hashes anything: it is a label: what it is worth is what the hold of that sum in a sandbox is worth. -/
noncomputable def Try.pinned : Pinned := { name := "ytccggcdjajehnaa", sum := "911883889a765945d98eb44f22fb2e609974a265246ac90d417f04566849fee1", checked := Try.checked }
namespace Rows
def none {H : Type} : Left H := { results := [], args := [] }

/-- 'laws.FnRoundNew': WHATEVER THE INPUT: true; the input reads as it did. -/
def fnRoundNewSpec : ChangeSpec := { name := "fnRoundNew", fn := fun _ => fun
  | [d] => { results := [.lit (.bool true)], args := [d] }
  | _ => none }
def fnRoundNewRow : OpenClaim := { program := "ytccggcdjajehnaa", sum := "911883889a765945d98eb44f22fb2e609974a265246ac90d417f04566849fee1", func := "loop.example/groupmulticast/laws.FnRoundNew", spec := "fnRoundNew", unfollowed := true, recurses := true, apart := false }
def FnRoundNewSaid : Prop := fnRoundNewRow.holds Try.pinned (OpenSpec.ofChange fnRoundNewSpec)

/-- ITS FALSE NEIGHBOUR: 'it returns false'. Refute it at one input. -/
def fnRoundNewWrong : ChangeSpec := { name := "fnRoundNew", fn := fun _ => fun
  | [d] => { results := [.lit (.bool false)], args := [d] }
  | _ => none }
def FnRoundNewWrongFalsely : Prop := fnRoundNewRow.holds Try.pinned (OpenSpec.ofChange fnRoundNewWrong)

/-- 'laws.FnRoundAdd': WHATEVER THE INPUT: true; the input reads as it did. -/
def fnRoundAddSpec : ChangeSpec := { name := "fnRoundAdd", fn := fun _ => fun
  | [d1, d2] => { results := [.lit (.bool true)], args := [d1, d2] }
  | _ => none }
def fnRoundAddRow : OpenClaim := { program := "ytccggcdjajehnaa", sum := "911883889a765945d98eb44f22fb2e609974a265246ac90d417f04566849fee1", func := "loop.example/groupmulticast/laws.FnRoundAdd", spec := "fnRoundAdd", apart := false }
def FnRoundAddSaid : Prop := fnRoundAddRow.holds Try.pinned (OpenSpec.ofChange fnRoundAddSpec)

/-- ITS FALSE NEIGHBOUR: 'it returns false'. Refute it at one input. -/
def fnRoundAddWrong : ChangeSpec := { name := "fnRoundAdd", fn := fun _ => fun
  | [d1, d2] => { results := [.lit (.bool false)], args := [d1, d2] }
  | _ => none }
def FnRoundAddWrongFalsely : Prop := fnRoundAddRow.holds Try.pinned (OpenSpec.ofChange fnRoundAddWrong)

/-- 'laws.FnRoundAddRefused': WHATEVER THE INPUT: true; the input reads as it did. -/
def fnRoundAddRefusedSpec : ChangeSpec := { name := "fnRoundAddRefused", fn := fun _ => fun
  | [d] => { results := [.lit (.bool true)], args := [d] }
  | _ => none }
def fnRoundAddRefusedRow : OpenClaim := { program := "ytccggcdjajehnaa", sum := "911883889a765945d98eb44f22fb2e609974a265246ac90d417f04566849fee1", func := "loop.example/groupmulticast/laws.FnRoundAddRefused", spec := "fnRoundAddRefused", apart := false }
def FnRoundAddRefusedSaid : Prop := fnRoundAddRefusedRow.holds Try.pinned (OpenSpec.ofChange fnRoundAddRefusedSpec)

/-- ITS FALSE NEIGHBOUR: 'it returns false'. Refute it at one input. -/
def fnRoundAddRefusedWrong : ChangeSpec := { name := "fnRoundAddRefused", fn := fun _ => fun
  | [d] => { results := [.lit (.bool false)], args := [d] }
  | _ => none }
def FnRoundAddRefusedWrongFalsely : Prop := fnRoundAddRefusedRow.holds Try.pinned (OpenSpec.ofChange fnRoundAddRefusedWrong)

/-- 'laws.FnRoundAddOrder': WHATEVER THE INPUT: true; the input reads as it did. -/
def fnRoundAddOrderSpec : ChangeSpec := { name := "fnRoundAddOrder", fn := fun _ => fun
  | [d1, d2] => { results := [.lit (.bool true)], args := [d1, d2] }
  | _ => none }
def fnRoundAddOrderRow : OpenClaim := { program := "ytccggcdjajehnaa", sum := "911883889a765945d98eb44f22fb2e609974a265246ac90d417f04566849fee1", func := "loop.example/groupmulticast/laws.FnRoundAddOrder", spec := "fnRoundAddOrder", apart := false }
def FnRoundAddOrderSaid : Prop := fnRoundAddOrderRow.holds Try.pinned (OpenSpec.ofChange fnRoundAddOrderSpec)

/-- ITS FALSE NEIGHBOUR: 'it returns false'. Refute it at one input. -/
def fnRoundAddOrderWrong : ChangeSpec := { name := "fnRoundAddOrder", fn := fun _ => fun
  | [d1, d2] => { results := [.lit (.bool false)], args := [d1, d2] }
  | _ => none }
def FnRoundAddOrderWrongFalsely : Prop := fnRoundAddOrderRow.holds Try.pinned (OpenSpec.ofChange fnRoundAddOrderWrong)

/-- 'laws.FnRoundMissing': WHATEVER THE INPUT: true; the input reads as it did. -/
def fnRoundMissingSpec : ChangeSpec := { name := "fnRoundMissing", fn := fun _ => fun
  | [d] => { results := [.lit (.bool true)], args := [d] }
  | _ => none }
def fnRoundMissingRow : OpenClaim := { program := "ytccggcdjajehnaa", sum := "911883889a765945d98eb44f22fb2e609974a265246ac90d417f04566849fee1", func := "loop.example/groupmulticast/laws.FnRoundMissing", spec := "fnRoundMissing", apart := false }
def FnRoundMissingSaid : Prop := fnRoundMissingRow.holds Try.pinned (OpenSpec.ofChange fnRoundMissingSpec)

/-- ITS FALSE NEIGHBOUR: 'it returns false'. Refute it at one input. -/
def fnRoundMissingWrong : ChangeSpec := { name := "fnRoundMissing", fn := fun _ => fun
  | [d] => { results := [.lit (.bool false)], args := [d] }
  | _ => none }
def FnRoundMissingWrongFalsely : Prop := fnRoundMissingRow.holds Try.pinned (OpenSpec.ofChange fnRoundMissingWrong)

/-- 'laws.FnRoundFinal': WHATEVER THE INPUT: true; the input reads as it did. -/
def fnRoundFinalSpec : ChangeSpec := { name := "fnRoundFinal", fn := fun _ => fun
  | [d] => { results := [.lit (.bool true)], args := [d] }
  | _ => none }
def fnRoundFinalRow : OpenClaim := { program := "ytccggcdjajehnaa", sum := "911883889a765945d98eb44f22fb2e609974a265246ac90d417f04566849fee1", func := "loop.example/groupmulticast/laws.FnRoundFinal", spec := "fnRoundFinal", unfollowed := true, recurses := true, apart := false }
def FnRoundFinalSaid : Prop := fnRoundFinalRow.holds Try.pinned (OpenSpec.ofChange fnRoundFinalSpec)

/-- ITS FALSE NEIGHBOUR: 'it returns false'. Refute it at one input. -/
def fnRoundFinalWrong : ChangeSpec := { name := "fnRoundFinal", fn := fun _ => fun
  | [d] => { results := [.lit (.bool false)], args := [d] }
  | _ => none }
def FnRoundFinalWrongFalsely : Prop := fnRoundFinalRow.holds Try.pinned (OpenSpec.ofChange fnRoundFinalWrong)

/-- 'laws.FnRoundFinalNotLess': WHATEVER THE INPUT: true; the input reads as it did. -/
def fnRoundFinalNotLessSpec : ChangeSpec := { name := "fnRoundFinalNotLess", fn := fun _ => fun
  | [d] => { results := [.lit (.bool true)], args := [d] }
  | _ => none }
def fnRoundFinalNotLessRow : OpenClaim := { program := "ytccggcdjajehnaa", sum := "911883889a765945d98eb44f22fb2e609974a265246ac90d417f04566849fee1", func := "loop.example/groupmulticast/laws.FnRoundFinalNotLess", spec := "fnRoundFinalNotLess", unfollowed := true, recurses := true, apart := false }
def FnRoundFinalNotLessSaid : Prop := fnRoundFinalNotLessRow.holds Try.pinned (OpenSpec.ofChange fnRoundFinalNotLessSpec)

/-- ITS FALSE NEIGHBOUR: 'it returns false'. Refute it at one input. -/
def fnRoundFinalNotLessWrong : ChangeSpec := { name := "fnRoundFinalNotLess", fn := fun _ => fun
  | [d] => { results := [.lit (.bool false)], args := [d] }
  | _ => none }
def FnRoundFinalNotLessWrongFalsely : Prop := fnRoundFinalNotLessRow.holds Try.pinned (OpenSpec.ofChange fnRoundFinalNotLessWrong)

/-- 'laws.FnRoundComplete': WHATEVER THE INPUT: true; the input reads as it did. -/
def fnRoundCompleteSpec : ChangeSpec := { name := "fnRoundComplete", fn := fun _ => fun
  | [d1, d2] => { results := [.lit (.bool true)], args := [d1, d2] }
  | _ => none }
def fnRoundCompleteRow : OpenClaim := { program := "ytccggcdjajehnaa", sum := "911883889a765945d98eb44f22fb2e609974a265246ac90d417f04566849fee1", func := "loop.example/groupmulticast/laws.FnRoundComplete", spec := "fnRoundComplete", unfollowed := true, recurses := true, apart := false }
def FnRoundCompleteSaid : Prop := fnRoundCompleteRow.holds Try.pinned (OpenSpec.ofChange fnRoundCompleteSpec)

/-- ITS FALSE NEIGHBOUR: 'it returns false'. Refute it at one input. -/
def fnRoundCompleteWrong : ChangeSpec := { name := "fnRoundComplete", fn := fun _ => fun
  | [d1, d2] => { results := [.lit (.bool false)], args := [d1, d2] }
  | _ => none }
def FnRoundCompleteWrongFalsely : Prop := fnRoundCompleteRow.holds Try.pinned (OpenSpec.ofChange fnRoundCompleteWrong)

/- THE SECOND FORM. 'bulk': how many values and letters a reading holds, each counted each time it is reached (what is shared counts as often as it is met; a slice's spare places count too). A statement '..UptoSaid' is the law's where the arguments, and the package variables that the reading takes, are together of bulk at most 1048576: NARROWER than '..Said'. Prove '..Said' where nothing that the law and all that it calls make is longer than what came in: it says more and counts as full. Else prove '..UptoSaid'. A law counts once. -/
mutual
def uptoBulk {H : Type} : DataW H → Nat
  | .lit (.string bytes) => bytes.length + 1
  | .lit _ => 1
  | .nil => 1
  | .ptr d => uptoBulk d + 1
  | .slice elems spare => uptoBulkAll elems + uptoBulkAll spare + 1
  | .agg parts => uptoBulkAll parts + 1
  | .iface _ d => uptoBulk d + 1
  | .map entries => uptoBulkEntries entries + 1
  | .held _ => 1
def uptoBulkAll {H : Type} : List (DataW H) → Nat
  | [] => 0
  | d :: r => uptoBulk d + uptoBulkAll r
def uptoBulkEntries {H : Type} : List (Lit × DataW H) → Nat
  | [] => 0
  | x :: r => uptoBulkEntry x + uptoBulkEntries r
def uptoBulkEntry {H : Type} : Lit × DataW H → Nat
  | (.string bytes, d) => bytes.length + uptoBulk d + 1
  | (_, d) => uptoBulk d + 1
 end
def uptoSmall : (H : Type) → List (DataW H) → Bool := fun _ ds => decide (uptoBulkAll ds ≤ 1048576)
def OpenSpec.upto (s : _root_.Go.ChangeSpec) : _root_.Go.OpenSpec := { _root_.Go.OpenSpec.ofChange s with cond := some uptoSmall }

/-- 'laws.FnRoundNew', WHERE WHAT IT READS IS OF BULK AT MOST 1048576: true; the input reads as it did. -/
def fnRoundNewUptoRow : OpenClaim := { program := "ytccggcdjajehnaa", sum := "911883889a765945d98eb44f22fb2e609974a265246ac90d417f04566849fee1", func := "loop.example/groupmulticast/laws.FnRoundNew", spec := "fnRoundNew", unfollowed := true, recurses := true, apart := false, narrowed := true }
def FnRoundNewUptoSaid : Prop := fnRoundNewUptoRow.holds Try.pinned (OpenSpec.upto fnRoundNewSpec)

/-- 'laws.FnRoundAdd', WHERE WHAT IT READS IS OF BULK AT MOST 1048576: true; the input reads as it did. -/
def fnRoundAddUptoRow : OpenClaim := { program := "ytccggcdjajehnaa", sum := "911883889a765945d98eb44f22fb2e609974a265246ac90d417f04566849fee1", func := "loop.example/groupmulticast/laws.FnRoundAdd", spec := "fnRoundAdd", apart := false, narrowed := true }
def FnRoundAddUptoSaid : Prop := fnRoundAddUptoRow.holds Try.pinned (OpenSpec.upto fnRoundAddSpec)

/-- 'laws.FnRoundAddRefused', WHERE WHAT IT READS IS OF BULK AT MOST 1048576: true; the input reads as it did. -/
def fnRoundAddRefusedUptoRow : OpenClaim := { program := "ytccggcdjajehnaa", sum := "911883889a765945d98eb44f22fb2e609974a265246ac90d417f04566849fee1", func := "loop.example/groupmulticast/laws.FnRoundAddRefused", spec := "fnRoundAddRefused", apart := false, narrowed := true }
def FnRoundAddRefusedUptoSaid : Prop := fnRoundAddRefusedUptoRow.holds Try.pinned (OpenSpec.upto fnRoundAddRefusedSpec)

/-- 'laws.FnRoundAddOrder', WHERE WHAT IT READS IS OF BULK AT MOST 1048576: true; the input reads as it did. -/
def fnRoundAddOrderUptoRow : OpenClaim := { program := "ytccggcdjajehnaa", sum := "911883889a765945d98eb44f22fb2e609974a265246ac90d417f04566849fee1", func := "loop.example/groupmulticast/laws.FnRoundAddOrder", spec := "fnRoundAddOrder", apart := false, narrowed := true }
def FnRoundAddOrderUptoSaid : Prop := fnRoundAddOrderUptoRow.holds Try.pinned (OpenSpec.upto fnRoundAddOrderSpec)

/-- 'laws.FnRoundMissing', WHERE WHAT IT READS IS OF BULK AT MOST 1048576: true; the input reads as it did. -/
def fnRoundMissingUptoRow : OpenClaim := { program := "ytccggcdjajehnaa", sum := "911883889a765945d98eb44f22fb2e609974a265246ac90d417f04566849fee1", func := "loop.example/groupmulticast/laws.FnRoundMissing", spec := "fnRoundMissing", apart := false, narrowed := true }
def FnRoundMissingUptoSaid : Prop := fnRoundMissingUptoRow.holds Try.pinned (OpenSpec.upto fnRoundMissingSpec)

/-- 'laws.FnRoundFinal', WHERE WHAT IT READS IS OF BULK AT MOST 1048576: true; the input reads as it did. -/
def fnRoundFinalUptoRow : OpenClaim := { program := "ytccggcdjajehnaa", sum := "911883889a765945d98eb44f22fb2e609974a265246ac90d417f04566849fee1", func := "loop.example/groupmulticast/laws.FnRoundFinal", spec := "fnRoundFinal", unfollowed := true, recurses := true, apart := false, narrowed := true }
def FnRoundFinalUptoSaid : Prop := fnRoundFinalUptoRow.holds Try.pinned (OpenSpec.upto fnRoundFinalSpec)

/-- 'laws.FnRoundFinalNotLess', WHERE WHAT IT READS IS OF BULK AT MOST 1048576: true; the input reads as it did. -/
def fnRoundFinalNotLessUptoRow : OpenClaim := { program := "ytccggcdjajehnaa", sum := "911883889a765945d98eb44f22fb2e609974a265246ac90d417f04566849fee1", func := "loop.example/groupmulticast/laws.FnRoundFinalNotLess", spec := "fnRoundFinalNotLess", unfollowed := true, recurses := true, apart := false, narrowed := true }
def FnRoundFinalNotLessUptoSaid : Prop := fnRoundFinalNotLessUptoRow.holds Try.pinned (OpenSpec.upto fnRoundFinalNotLessSpec)

/-- 'laws.FnRoundComplete', WHERE WHAT IT READS IS OF BULK AT MOST 1048576: true; the input reads as it did. -/
def fnRoundCompleteUptoRow : OpenClaim := { program := "ytccggcdjajehnaa", sum := "911883889a765945d98eb44f22fb2e609974a265246ac90d417f04566849fee1", func := "loop.example/groupmulticast/laws.FnRoundComplete", spec := "fnRoundComplete", unfollowed := true, recurses := true, apart := false, narrowed := true }
def FnRoundCompleteUptoSaid : Prop := fnRoundCompleteUptoRow.holds Try.pinned (OpenSpec.upto fnRoundCompleteSpec)

end Rows
end Go.Proofs.Ytccggcdjajehnaa
