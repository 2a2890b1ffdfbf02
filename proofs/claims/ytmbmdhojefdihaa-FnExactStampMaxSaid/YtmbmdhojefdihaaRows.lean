/-
  No cell of these rows narrows 'for every input' (looked for: loops, veiled, ifaces, maps, wideKeys, modest, calm, conditions, laid).
  DERIVED. THE GIVEN ROWS OF THIS SEAT. 7 by the template 'for every input the law returns true; each argument reads behind the call as it read before'; 0 by the template 'total and deterministic' (their statements: YtmbmdhojefdihaaTotals.lean).
  GIVEN WITH THE SEED: the statements are not yours to turn. If you find one false, say at which input.
  Laid BY PROGRAM, IN A SANDBOX (cutbox-rows.mjs): the forced cells as the released guide's own fill.sh prints them over the translation f1619eddd6123de8… (all of the seat's roots in one cut). By AI agents, Wed Nov 11 2026. No macro, syntax, notation, axiom, sorry.
-/
import Derived.Test.YtmbmdhojefdihaaChecked
import GoSem.Claim
import GoSem.ClaimJoined
import GoSem.ClaimMapViews
import Derived.JoinedTies
import Derived.KernelRfl
namespace Go.Proofs.Ytmbmdhojefdihaa
/- THE CELL 'sum', in the pinned program and in every row, IS THE sha256 OF THE DUMP (.gsa) THAT YtmbmdhojefdihaaProg.lean LOADS. Nothing in Lean hashes anything: it is a label: what it is worth is what the hold of that sum in a sandbox is worth. -/
noncomputable def Try.pinned : Pinned := { name := "ytmbmdhojefdihaa", sum := "f1619eddd6123de81b92dc79e47d41884f1fb642e24656327bdb2d7c697bd82c", checked := Try.checked }
namespace Rows
def none {H : Type} : Left H := { results := [], args := [] }

/-- 'laws.FnExactStampValid': WHATEVER THE INPUT: true; the input reads as it did. -/
def fnExactStampValidSpec : ChangeSpec := { name := "fnExactStampValid", fn := fun _ => fun
  | [d] => { results := [.lit (.bool true)], args := [d] }
  | _ => none }
def fnExactStampValidRow : OpenClaim := { program := "ytmbmdhojefdihaa", sum := "f1619eddd6123de81b92dc79e47d41884f1fb642e24656327bdb2d7c697bd82c", func := "loop.example/groupmulticast/laws.FnExactStampValid", spec := "fnExactStampValid", apart := false }
def FnExactStampValidSaid : Prop := fnExactStampValidRow.holds Try.pinned (OpenSpec.ofChange fnExactStampValidSpec)

/-- ITS FALSE NEIGHBOUR: 'it returns false'. Refute it at one input. -/
def fnExactStampValidWrong : ChangeSpec := { name := "fnExactStampValid", fn := fun _ => fun
  | [d] => { results := [.lit (.bool false)], args := [d] }
  | _ => none }
def FnExactStampValidWrongFalsely : Prop := fnExactStampValidRow.holds Try.pinned (OpenSpec.ofChange fnExactStampValidWrong)

/-- 'laws.FnExactStampLess': WHATEVER THE INPUT: true; the input reads as it did. -/
def fnExactStampLessSpec : ChangeSpec := { name := "fnExactStampLess", fn := fun _ => fun
  | [d1, d2] => { results := [.lit (.bool true)], args := [d1, d2] }
  | _ => none }
def fnExactStampLessRow : OpenClaim := { program := "ytmbmdhojefdihaa", sum := "f1619eddd6123de81b92dc79e47d41884f1fb642e24656327bdb2d7c697bd82c", func := "loop.example/groupmulticast/laws.FnExactStampLess", spec := "fnExactStampLess", unfollowed := true, recurses := true, apart := false }
def FnExactStampLessSaid : Prop := fnExactStampLessRow.holds Try.pinned (OpenSpec.ofChange fnExactStampLessSpec)

/-- ITS FALSE NEIGHBOUR: 'it returns false'. Refute it at one input. -/
def fnExactStampLessWrong : ChangeSpec := { name := "fnExactStampLess", fn := fun _ => fun
  | [d1, d2] => { results := [.lit (.bool false)], args := [d1, d2] }
  | _ => none }
def FnExactStampLessWrongFalsely : Prop := fnExactStampLessRow.holds Try.pinned (OpenSpec.ofChange fnExactStampLessWrong)

/-- 'laws.FnExactStampMax': WHATEVER THE INPUT: true; the input reads as it did. -/
def fnExactStampMaxSpec : ChangeSpec := { name := "fnExactStampMax", fn := fun _ => fun
  | [d] => { results := [.lit (.bool true)], args := [d] }
  | _ => none }
def fnExactStampMaxRow : OpenClaim := { program := "ytmbmdhojefdihaa", sum := "f1619eddd6123de81b92dc79e47d41884f1fb642e24656327bdb2d7c697bd82c", func := "loop.example/groupmulticast/laws.FnExactStampMax", spec := "fnExactStampMax", unfollowed := true, recurses := true, apart := false }
def FnExactStampMaxSaid : Prop := fnExactStampMaxRow.holds Try.pinned (OpenSpec.ofChange fnExactStampMaxSpec)

/-- ITS FALSE NEIGHBOUR: 'it returns false'. Refute it at one input. -/
def fnExactStampMaxWrong : ChangeSpec := { name := "fnExactStampMax", fn := fun _ => fun
  | [d] => { results := [.lit (.bool false)], args := [d] }
  | _ => none }
def FnExactStampMaxWrongFalsely : Prop := fnExactStampMaxRow.holds Try.pinned (OpenSpec.ofChange fnExactStampMaxWrong)

/-- 'laws.FnExactHybridValid': WHATEVER THE INPUT: true; the input reads as it did. -/
def fnExactHybridValidSpec : ChangeSpec := { name := "fnExactHybridValid", fn := fun _ => fun
  | [d] => { results := [.lit (.bool true)], args := [d] }
  | _ => none }
def fnExactHybridValidRow : OpenClaim := { program := "ytmbmdhojefdihaa", sum := "f1619eddd6123de81b92dc79e47d41884f1fb642e24656327bdb2d7c697bd82c", func := "loop.example/groupmulticast/laws.FnExactHybridValid", spec := "fnExactHybridValid", apart := false }
def FnExactHybridValidSaid : Prop := fnExactHybridValidRow.holds Try.pinned (OpenSpec.ofChange fnExactHybridValidSpec)

/-- ITS FALSE NEIGHBOUR: 'it returns false'. Refute it at one input. -/
def fnExactHybridValidWrong : ChangeSpec := { name := "fnExactHybridValid", fn := fun _ => fun
  | [d] => { results := [.lit (.bool false)], args := [d] }
  | _ => none }
def FnExactHybridValidWrongFalsely : Prop := fnExactHybridValidRow.holds Try.pinned (OpenSpec.ofChange fnExactHybridValidWrong)

/-- 'laws.FnExactHybridLess': WHATEVER THE INPUT: true; the input reads as it did. -/
def fnExactHybridLessSpec : ChangeSpec := { name := "fnExactHybridLess", fn := fun _ => fun
  | [d1, d2] => { results := [.lit (.bool true)], args := [d1, d2] }
  | _ => none }
def fnExactHybridLessRow : OpenClaim := { program := "ytmbmdhojefdihaa", sum := "f1619eddd6123de81b92dc79e47d41884f1fb642e24656327bdb2d7c697bd82c", func := "loop.example/groupmulticast/laws.FnExactHybridLess", spec := "fnExactHybridLess", unfollowed := true, recurses := true, apart := false }
def FnExactHybridLessSaid : Prop := fnExactHybridLessRow.holds Try.pinned (OpenSpec.ofChange fnExactHybridLessSpec)

/-- ITS FALSE NEIGHBOUR: 'it returns false'. Refute it at one input. -/
def fnExactHybridLessWrong : ChangeSpec := { name := "fnExactHybridLess", fn := fun _ => fun
  | [d1, d2] => { results := [.lit (.bool false)], args := [d1, d2] }
  | _ => none }
def FnExactHybridLessWrongFalsely : Prop := fnExactHybridLessRow.holds Try.pinned (OpenSpec.ofChange fnExactHybridLessWrong)

/-- 'laws.FnExactHybridTick': WHATEVER THE INPUT: true; the input reads as it did. -/
def fnExactHybridTickSpec : ChangeSpec := { name := "fnExactHybridTick", fn := fun _ => fun
  | [d1, d2] => { results := [.lit (.bool true)], args := [d1, d2] }
  | _ => none }
def fnExactHybridTickRow : OpenClaim := { program := "ytmbmdhojefdihaa", sum := "f1619eddd6123de81b92dc79e47d41884f1fb642e24656327bdb2d7c697bd82c", func := "loop.example/groupmulticast/laws.FnExactHybridTick", spec := "fnExactHybridTick", apart := false }
def FnExactHybridTickSaid : Prop := fnExactHybridTickRow.holds Try.pinned (OpenSpec.ofChange fnExactHybridTickSpec)

/-- ITS FALSE NEIGHBOUR: 'it returns false'. Refute it at one input. -/
def fnExactHybridTickWrong : ChangeSpec := { name := "fnExactHybridTick", fn := fun _ => fun
  | [d1, d2] => { results := [.lit (.bool false)], args := [d1, d2] }
  | _ => none }
def FnExactHybridTickWrongFalsely : Prop := fnExactHybridTickRow.holds Try.pinned (OpenSpec.ofChange fnExactHybridTickWrong)

/-- 'laws.FnExactHybridMerge': WHATEVER THE INPUT: true; the input reads as it did. -/
def fnExactHybridMergeSpec : ChangeSpec := { name := "fnExactHybridMerge", fn := fun _ => fun
  | [d1, d2, d3] => { results := [.lit (.bool true)], args := [d1, d2, d3] }
  | _ => none }
def fnExactHybridMergeRow : OpenClaim := { program := "ytmbmdhojefdihaa", sum := "f1619eddd6123de81b92dc79e47d41884f1fb642e24656327bdb2d7c697bd82c", func := "loop.example/groupmulticast/laws.FnExactHybridMerge", spec := "fnExactHybridMerge", apart := false }
def FnExactHybridMergeSaid : Prop := fnExactHybridMergeRow.holds Try.pinned (OpenSpec.ofChange fnExactHybridMergeSpec)

/-- ITS FALSE NEIGHBOUR: 'it returns false'. Refute it at one input. -/
def fnExactHybridMergeWrong : ChangeSpec := { name := "fnExactHybridMerge", fn := fun _ => fun
  | [d1, d2, d3] => { results := [.lit (.bool false)], args := [d1, d2, d3] }
  | _ => none }
def FnExactHybridMergeWrongFalsely : Prop := fnExactHybridMergeRow.holds Try.pinned (OpenSpec.ofChange fnExactHybridMergeWrong)

/- THE SECOND FORM. 'bulk': how many values and letters a reading holds, each counted each time it is reached (what is shared counts as often as it is met; a slice's spare places count too). A statement '..UptoSaid' is the law's where the arguments, and the package variables that the reading takes, are together of bulk at most 1048576: NARROWER than '..Said'. Prove '..Said' where nothing that the law and all that it calls make is longer than what came in: it says more and counts as full. Else prove '..UptoSaid'. A law counts once. -/
mutual
def uptoBulk {H : Type} : DataW H → Nat
  | .lit (.string bytes) => bytes.length + 1
  | .lit _ => 1
  | .nil => 1
  | .ptr d => uptoBulk d + 1
  | .slice elems spare => uptoBulkAll elems + uptoBulkAll spare + 1
  | .agg parts => uptoBulkAll parts + 1
  | .iface _ d => uptoBulk d + 1
  | .map entries => uptoBulkEntries entries + 1
  | .held _ => 1
def uptoBulkAll {H : Type} : List (DataW H) → Nat
  | [] => 0
  | d :: r => uptoBulk d + uptoBulkAll r
def uptoBulkEntries {H : Type} : List (Lit × DataW H) → Nat
  | [] => 0
  | x :: r => uptoBulkEntry x + uptoBulkEntries r
def uptoBulkEntry {H : Type} : Lit × DataW H → Nat
  | (.string bytes, d) => bytes.length + uptoBulk d + 1
  | (_, d) => uptoBulk d + 1
 end
def uptoSmall : (H : Type) → List (DataW H) → Bool := fun _ ds => decide (uptoBulkAll ds ≤ 1048576)
def OpenSpec.upto (s : _root_.Go.ChangeSpec) : _root_.Go.OpenSpec := { _root_.Go.OpenSpec.ofChange s with cond := some uptoSmall }

/-- 'laws.FnExactStampValid', WHERE WHAT IT READS IS OF BULK AT MOST 1048576: true; the input reads as it did. -/
def fnExactStampValidUptoRow : OpenClaim := { program := "ytmbmdhojefdihaa", sum := "f1619eddd6123de81b92dc79e47d41884f1fb642e24656327bdb2d7c697bd82c", func := "loop.example/groupmulticast/laws.FnExactStampValid", spec := "fnExactStampValid", apart := false, narrowed := true }
def FnExactStampValidUptoSaid : Prop := fnExactStampValidUptoRow.holds Try.pinned (OpenSpec.upto fnExactStampValidSpec)

/-- 'laws.FnExactStampLess', WHERE WHAT IT READS IS OF BULK AT MOST 1048576: true; the input reads as it did. -/
def fnExactStampLessUptoRow : OpenClaim := { program := "ytmbmdhojefdihaa", sum := "f1619eddd6123de81b92dc79e47d41884f1fb642e24656327bdb2d7c697bd82c", func := "loop.example/groupmulticast/laws.FnExactStampLess", spec := "fnExactStampLess", unfollowed := true, recurses := true, apart := false, narrowed := true }
def FnExactStampLessUptoSaid : Prop := fnExactStampLessUptoRow.holds Try.pinned (OpenSpec.upto fnExactStampLessSpec)

/-- 'laws.FnExactStampMax', WHERE WHAT IT READS IS OF BULK AT MOST 1048576: true; the input reads as it did. -/
def fnExactStampMaxUptoRow : OpenClaim := { program := "ytmbmdhojefdihaa", sum := "f1619eddd6123de81b92dc79e47d41884f1fb642e24656327bdb2d7c697bd82c", func := "loop.example/groupmulticast/laws.FnExactStampMax", spec := "fnExactStampMax", unfollowed := true, recurses := true, apart := false, narrowed := true }
def FnExactStampMaxUptoSaid : Prop := fnExactStampMaxUptoRow.holds Try.pinned (OpenSpec.upto fnExactStampMaxSpec)

/-- 'laws.FnExactHybridValid', WHERE WHAT IT READS IS OF BULK AT MOST 1048576: true; the input reads as it did. -/
def fnExactHybridValidUptoRow : OpenClaim := { program := "ytmbmdhojefdihaa", sum := "f1619eddd6123de81b92dc79e47d41884f1fb642e24656327bdb2d7c697bd82c", func := "loop.example/groupmulticast/laws.FnExactHybridValid", spec := "fnExactHybridValid", apart := false, narrowed := true }
def FnExactHybridValidUptoSaid : Prop := fnExactHybridValidUptoRow.holds Try.pinned (OpenSpec.upto fnExactHybridValidSpec)

/-- 'laws.FnExactHybridLess', WHERE WHAT IT READS IS OF BULK AT MOST 1048576: true; the input reads as it did. -/
def fnExactHybridLessUptoRow : OpenClaim := { program := "ytmbmdhojefdihaa", sum := "f1619eddd6123de81b92dc79e47d41884f1fb642e24656327bdb2d7c697bd82c", func := "loop.example/groupmulticast/laws.FnExactHybridLess", spec := "fnExactHybridLess", unfollowed := true, recurses := true, apart := false, narrowed := true }
def FnExactHybridLessUptoSaid : Prop := fnExactHybridLessUptoRow.holds Try.pinned (OpenSpec.upto fnExactHybridLessSpec)

/-- 'laws.FnExactHybridTick', WHERE WHAT IT READS IS OF BULK AT MOST 1048576: true; the input reads as it did. -/
def fnExactHybridTickUptoRow : OpenClaim := { program := "ytmbmdhojefdihaa", sum := "f1619eddd6123de81b92dc79e47d41884f1fb642e24656327bdb2d7c697bd82c", func := "loop.example/groupmulticast/laws.FnExactHybridTick", spec := "fnExactHybridTick", apart := false, narrowed := true }
def FnExactHybridTickUptoSaid : Prop := fnExactHybridTickUptoRow.holds Try.pinned (OpenSpec.upto fnExactHybridTickSpec)

/-- 'laws.FnExactHybridMerge', WHERE WHAT IT READS IS OF BULK AT MOST 1048576: true; the input reads as it did. -/
def fnExactHybridMergeUptoRow : OpenClaim := { program := "ytmbmdhojefdihaa", sum := "f1619eddd6123de81b92dc79e47d41884f1fb642e24656327bdb2d7c697bd82c", func := "loop.example/groupmulticast/laws.FnExactHybridMerge", spec := "fnExactHybridMerge", apart := false, narrowed := true }
def FnExactHybridMergeUptoSaid : Prop := fnExactHybridMergeUptoRow.holds Try.pinned (OpenSpec.upto fnExactHybridMergeSpec)

end Rows
end Go.Proofs.Ytmbmdhojefdihaa
