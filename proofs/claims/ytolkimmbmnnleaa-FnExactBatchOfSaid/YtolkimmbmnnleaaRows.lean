/-
  No cell of these rows narrows 'for every input' (looked for: loops, veiled, ifaces, maps, wideKeys, modest, calm, conditions, laid).
  DERIVED. THE GIVEN ROWS OF THIS SEAT. 4 by the template 'for every input the law returns true; each argument reads behind the call as it read before'; 0 by the template 'total and deterministic' (their statements: YtolkimmbmnnleaaTotals.lean).
  GIVEN WITH THE SEED: the statements are not yours to turn. If you find one false, say at which input.
  Laid BY PROGRAM, IN A SANDBOX (cutbox-rows.mjs): the forced cells as the released guide's own fill.sh prints them over the translation db0c81f3fb6b7703… (all of the seat's roots in one cut). By AI agents, Wed Nov 11 2026. No macro, syntax, notation, axiom, sorry.
-/
import Derived.Test.YtolkimmbmnnleaaChecked
import GoSem.Claim
import GoSem.ClaimJoined
import GoSem.ClaimMapViews
import Derived.JoinedTies
import Derived.KernelRfl
namespace Go.Proofs.Ytolkimmbmnnleaa
/- THE CELL 'sum', in the pinned program and in every row, IS THE sha256 OF THE DUMP (.gsa) THAT YtolkimmbmnnleaaProg.lean LOADS. Nothing in Lean hashes anything: it is a label: what it is worth is what the hold of that sum in a sandbox is worth. -/
noncomputable def Try.pinned : Pinned := { name := "ytolkimmbmnnleaa", sum := "db0c81f3fb6b77032abc1f5fee4b7721f1120b0537b2c2d7a6d312910f906a67", checked := Try.checked }
namespace Rows
def none {H : Type} : Left H := { results := [], args := [] }

/-- 'laws.FnExactBatchesValid': WHATEVER THE INPUT: true; the input reads as it did. -/
def fnExactBatchesValidSpec : ChangeSpec := { name := "fnExactBatchesValid", fn := fun _ => fun
  | [d1, d2, d3] => { results := [.lit (.bool true)], args := [d1, d2, d3] }
  | _ => none }
def fnExactBatchesValidRow : OpenClaim := { program := "ytolkimmbmnnleaa", sum := "db0c81f3fb6b77032abc1f5fee4b7721f1120b0537b2c2d7a6d312910f906a67", func := "loop.example/groupmulticast/laws.FnExactBatchesValid", spec := "fnExactBatchesValid", apart := false }
def FnExactBatchesValidSaid : Prop := fnExactBatchesValidRow.holds Try.pinned (OpenSpec.ofChange fnExactBatchesValidSpec)

/-- ITS FALSE NEIGHBOUR: 'it returns false'. Refute it at one input. -/
def fnExactBatchesValidWrong : ChangeSpec := { name := "fnExactBatchesValid", fn := fun _ => fun
  | [d1, d2, d3] => { results := [.lit (.bool false)], args := [d1, d2, d3] }
  | _ => none }
def FnExactBatchesValidWrongFalsely : Prop := fnExactBatchesValidRow.holds Try.pinned (OpenSpec.ofChange fnExactBatchesValidWrong)

/-- 'laws.FnExactBatchCut': WHATEVER THE INPUT: true; the input reads as it did. -/
def fnExactBatchCutSpec : ChangeSpec := { name := "fnExactBatchCut", fn := fun _ => fun
  | [d1, d2, d3] => { results := [.lit (.bool true)], args := [d1, d2, d3] }
  | _ => none }
def fnExactBatchCutRow : OpenClaim := { program := "ytolkimmbmnnleaa", sum := "db0c81f3fb6b77032abc1f5fee4b7721f1120b0537b2c2d7a6d312910f906a67", func := "loop.example/groupmulticast/laws.FnExactBatchCut", spec := "fnExactBatchCut", unfollowed := true, recurses := true, apart := false }
def FnExactBatchCutSaid : Prop := fnExactBatchCutRow.holds Try.pinned (OpenSpec.ofChange fnExactBatchCutSpec)

/-- ITS FALSE NEIGHBOUR: 'it returns false'. Refute it at one input. -/
def fnExactBatchCutWrong : ChangeSpec := { name := "fnExactBatchCut", fn := fun _ => fun
  | [d1, d2, d3] => { results := [.lit (.bool false)], args := [d1, d2, d3] }
  | _ => none }
def FnExactBatchCutWrongFalsely : Prop := fnExactBatchCutRow.holds Try.pinned (OpenSpec.ofChange fnExactBatchCutWrong)

/-- 'laws.FnExactBatchFits': WHATEVER THE INPUT: true; the input reads as it did. -/
def fnExactBatchFitsSpec : ChangeSpec := { name := "fnExactBatchFits", fn := fun _ => fun
  | [d1, d2, d3, d4] => { results := [.lit (.bool true)], args := [d1, d2, d3, d4] }
  | _ => none }
def fnExactBatchFitsRow : OpenClaim := { program := "ytolkimmbmnnleaa", sum := "db0c81f3fb6b77032abc1f5fee4b7721f1120b0537b2c2d7a6d312910f906a67", func := "loop.example/groupmulticast/laws.FnExactBatchFits", spec := "fnExactBatchFits", unfollowed := true, recurses := true, apart := false }
def FnExactBatchFitsSaid : Prop := fnExactBatchFitsRow.holds Try.pinned (OpenSpec.ofChange fnExactBatchFitsSpec)

/-- ITS FALSE NEIGHBOUR: 'it returns false'. Refute it at one input. -/
def fnExactBatchFitsWrong : ChangeSpec := { name := "fnExactBatchFits", fn := fun _ => fun
  | [d1, d2, d3, d4] => { results := [.lit (.bool false)], args := [d1, d2, d3, d4] }
  | _ => none }
def FnExactBatchFitsWrongFalsely : Prop := fnExactBatchFitsRow.holds Try.pinned (OpenSpec.ofChange fnExactBatchFitsWrong)

/-- 'laws.FnExactBatchOf': WHATEVER THE INPUT: true; the input reads as it did. -/
def fnExactBatchOfSpec : ChangeSpec := { name := "fnExactBatchOf", fn := fun _ => fun
  | [d1, d2] => { results := [.lit (.bool true)], args := [d1, d2] }
  | _ => none }
def fnExactBatchOfRow : OpenClaim := { program := "ytolkimmbmnnleaa", sum := "db0c81f3fb6b77032abc1f5fee4b7721f1120b0537b2c2d7a6d312910f906a67", func := "loop.example/groupmulticast/laws.FnExactBatchOf", spec := "fnExactBatchOf", unfollowed := true, recurses := true, apart := false }
def FnExactBatchOfSaid : Prop := fnExactBatchOfRow.holds Try.pinned (OpenSpec.ofChange fnExactBatchOfSpec)

/-- ITS FALSE NEIGHBOUR: 'it returns false'. Refute it at one input. -/
def fnExactBatchOfWrong : ChangeSpec := { name := "fnExactBatchOf", fn := fun _ => fun
  | [d1, d2] => { results := [.lit (.bool false)], args := [d1, d2] }
  | _ => none }
def FnExactBatchOfWrongFalsely : Prop := fnExactBatchOfRow.holds Try.pinned (OpenSpec.ofChange fnExactBatchOfWrong)

/- THE SECOND FORM. 'bulk': how many values and letters a reading holds, each counted each time it is reached (what is shared counts as often as it is met; a slice's spare places count too). A statement '..UptoSaid' is the law's where the arguments, and the package variables that the reading takes, are together of bulk at most 1048576: NARROWER than '..Said'. Prove '..Said' where nothing that the law and all that it calls make is longer than what came in: it says more and counts as full. Else prove '..UptoSaid'. A law counts once. -/
mutual
def uptoBulk {H : Type} : DataW H → Nat
  | .lit (.string bytes) => bytes.length + 1
  | .lit _ => 1
  | .nil => 1
  | .ptr d => uptoBulk d + 1
  | .slice elems spare => uptoBulkAll elems + uptoBulkAll spare + 1
  | .agg parts => uptoBulkAll parts + 1
  | .iface _ d => uptoBulk d + 1
  | .map entries => uptoBulkEntries entries + 1
  | .held _ => 1
def uptoBulkAll {H : Type} : List (DataW H) → Nat
  | [] => 0
  | d :: r => uptoBulk d + uptoBulkAll r
def uptoBulkEntries {H : Type} : List (Lit × DataW H) → Nat
  | [] => 0
  | x :: r => uptoBulkEntry x + uptoBulkEntries r
def uptoBulkEntry {H : Type} : Lit × DataW H → Nat
  | (.string bytes, d) => bytes.length + uptoBulk d + 1
  | (_, d) => uptoBulk d + 1
 end
def uptoSmall : (H : Type) → List (DataW H) → Bool := fun _ ds => decide (uptoBulkAll ds ≤ 1048576)
def OpenSpec.upto (s : _root_.Go.ChangeSpec) : _root_.Go.OpenSpec := { _root_.Go.OpenSpec.ofChange s with cond := some uptoSmall }

/-- 'laws.FnExactBatchesValid', WHERE WHAT IT READS IS OF BULK AT MOST 1048576: true; the input reads as it did. -/
def fnExactBatchesValidUptoRow : OpenClaim := { program := "ytolkimmbmnnleaa", sum := "db0c81f3fb6b77032abc1f5fee4b7721f1120b0537b2c2d7a6d312910f906a67", func := "loop.example/groupmulticast/laws.FnExactBatchesValid", spec := "fnExactBatchesValid", apart := false, narrowed := true }
def FnExactBatchesValidUptoSaid : Prop := fnExactBatchesValidUptoRow.holds Try.pinned (OpenSpec.upto fnExactBatchesValidSpec)

/-- 'laws.FnExactBatchCut', WHERE WHAT IT READS IS OF BULK AT MOST 1048576: true; the input reads as it did. -/
def fnExactBatchCutUptoRow : OpenClaim := { program := "ytolkimmbmnnleaa", sum := "db0c81f3fb6b77032abc1f5fee4b7721f1120b0537b2c2d7a6d312910f906a67", func := "loop.example/groupmulticast/laws.FnExactBatchCut", spec := "fnExactBatchCut", unfollowed := true, recurses := true, apart := false, narrowed := true }
def FnExactBatchCutUptoSaid : Prop := fnExactBatchCutUptoRow.holds Try.pinned (OpenSpec.upto fnExactBatchCutSpec)

/-- 'laws.FnExactBatchFits', WHERE WHAT IT READS IS OF BULK AT MOST 1048576: true; the input reads as it did. -/
def fnExactBatchFitsUptoRow : OpenClaim := { program := "ytolkimmbmnnleaa", sum := "db0c81f3fb6b77032abc1f5fee4b7721f1120b0537b2c2d7a6d312910f906a67", func := "loop.example/groupmulticast/laws.FnExactBatchFits", spec := "fnExactBatchFits", unfollowed := true, recurses := true, apart := false, narrowed := true }
def FnExactBatchFitsUptoSaid : Prop := fnExactBatchFitsUptoRow.holds Try.pinned (OpenSpec.upto fnExactBatchFitsSpec)

/-- 'laws.FnExactBatchOf', WHERE WHAT IT READS IS OF BULK AT MOST 1048576: true; the input reads as it did. -/
def fnExactBatchOfUptoRow : OpenClaim := { program := "ytolkimmbmnnleaa", sum := "db0c81f3fb6b77032abc1f5fee4b7721f1120b0537b2c2d7a6d312910f906a67", func := "loop.example/groupmulticast/laws.FnExactBatchOf", spec := "fnExactBatchOf", unfollowed := true, recurses := true, apart := false, narrowed := true }
def FnExactBatchOfUptoSaid : Prop := fnExactBatchOfUptoRow.holds Try.pinned (OpenSpec.upto fnExactBatchOfSpec)

end Rows
end Go.Proofs.Ytolkimmbmnnleaa
