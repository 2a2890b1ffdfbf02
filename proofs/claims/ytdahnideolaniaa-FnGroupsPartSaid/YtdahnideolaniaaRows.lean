/-
  No cell of these rows narrows 'for every input' (looked for: loops, veiled, ifaces, maps, wideKeys, modest, calm, conditions, laid).
  DERIVED. THE GIVEN ROWS OF THIS SEAT. 11 by the template 'for every input the law returns true; each argument reads behind the call as it read before'; 0 by the template 'total and deterministic' (their statements: YtdahnideolaniaaTotals.lean).
  GIVEN WITH THE SEED: the statements are not yours to turn. If you find one false, say at which input.
  Laid BY PROGRAM, IN A SANDBOX (cutbox-rows.mjs): the forced cells as the released guide's own fill.sh prints them over the translation 45677c73cc08da0f… (all of the seat's roots in one cut). By AI agents, Wed Nov 11 2026. No macro, syntax, notation, axiom, sorry.
-/
import Derived.Test.YtdahnideolaniaaChecked
import GoSem.Claim
import GoSem.ClaimJoined
import GoSem.ClaimMapViews
import Derived.JoinedTies
import Derived.KernelRfl
namespace Go.Proofs.Ytdahnideolaniaa
/- THE CELL 'sum', in the pinned program and in every row, IS THE sha256 OF THE DUMP (.gsa) THAT YtdahnideolaniaaProg.lean LOADS. Nothing in Lean hashes anything: it is a label: what it is worth is what the hold of that sum in a sandbox is worth. -/
noncomputable def Try.pinned : Pinned := { name := "ytdahnideolaniaa", sum := "45677c73cc08da0fad47efdc2c002565965105b23399f81d0184b2bec21870fe", checked := Try.checked }
namespace Rows
def none {H : Type} : Left H := { results := [], args := [] }

/-- 'laws.FnCommon': WHATEVER THE INPUT: true; the input reads as it did. -/
def fnCommonSpec : ChangeSpec := { name := "fnCommon", fn := fun _ => fun
  | [d] => { results := [.lit (.bool true)], args := [d] }
  | _ => none }
def fnCommonRow : OpenClaim := { program := "ytdahnideolaniaa", sum := "45677c73cc08da0fad47efdc2c002565965105b23399f81d0184b2bec21870fe", func := "loop.example/groupmulticast/laws.FnCommon", spec := "fnCommon", apart := false }
def FnCommonSaid : Prop := fnCommonRow.holds Try.pinned (OpenSpec.ofChange fnCommonSpec)

/-- ITS FALSE NEIGHBOUR: 'it returns false'. Refute it at one input. -/
def fnCommonWrong : ChangeSpec := { name := "fnCommon", fn := fun _ => fun
  | [d] => { results := [.lit (.bool false)], args := [d] }
  | _ => none }
def FnCommonWrongFalsely : Prop := fnCommonRow.holds Try.pinned (OpenSpec.ofChange fnCommonWrong)

/-- 'laws.FnLinked': WHATEVER THE INPUT: true; the input reads as it did. -/
def fnLinkedSpec : ChangeSpec := { name := "fnLinked", fn := fun _ => fun
  | [d] => { results := [.lit (.bool true)], args := [d] }
  | _ => none }
def fnLinkedRow : OpenClaim := { program := "ytdahnideolaniaa", sum := "45677c73cc08da0fad47efdc2c002565965105b23399f81d0184b2bec21870fe", func := "loop.example/groupmulticast/laws.FnLinked", spec := "fnLinked", recurses := true, apart := false }
def FnLinkedSaid : Prop := fnLinkedRow.holds Try.pinned (OpenSpec.ofChange fnLinkedSpec)

/-- ITS FALSE NEIGHBOUR: 'it returns false'. Refute it at one input. -/
def fnLinkedWrong : ChangeSpec := { name := "fnLinked", fn := fun _ => fun
  | [d] => { results := [.lit (.bool false)], args := [d] }
  | _ => none }
def FnLinkedWrongFalsely : Prop := fnLinkedRow.holds Try.pinned (OpenSpec.ofChange fnLinkedWrong)

/-- 'laws.FnLinkedReason': WHATEVER THE INPUT: true; the input reads as it did. -/
def fnLinkedReasonSpec : ChangeSpec := { name := "fnLinkedReason", fn := fun _ => fun
  | [d] => { results := [.lit (.bool true)], args := [d] }
  | _ => none }
def fnLinkedReasonRow : OpenClaim := { program := "ytdahnideolaniaa", sum := "45677c73cc08da0fad47efdc2c002565965105b23399f81d0184b2bec21870fe", func := "loop.example/groupmulticast/laws.FnLinkedReason", spec := "fnLinkedReason", recurses := true, apart := false }
def FnLinkedReasonSaid : Prop := fnLinkedReasonRow.holds Try.pinned (OpenSpec.ofChange fnLinkedReasonSpec)

/-- ITS FALSE NEIGHBOUR: 'it returns false'. Refute it at one input. -/
def fnLinkedReasonWrong : ChangeSpec := { name := "fnLinkedReason", fn := fun _ => fun
  | [d] => { results := [.lit (.bool false)], args := [d] }
  | _ => none }
def FnLinkedReasonWrongFalsely : Prop := fnLinkedReasonRow.holds Try.pinned (OpenSpec.ofChange fnLinkedReasonWrong)

/-- 'laws.FnLinkedSame': WHATEVER THE INPUT: true; the input reads as it did. -/
def fnLinkedSameSpec : ChangeSpec := { name := "fnLinkedSame", fn := fun _ => fun
  | [d1, d2] => { results := [.lit (.bool true)], args := [d1, d2] }
  | _ => none }
def fnLinkedSameRow : OpenClaim := { program := "ytdahnideolaniaa", sum := "45677c73cc08da0fad47efdc2c002565965105b23399f81d0184b2bec21870fe", func := "loop.example/groupmulticast/laws.FnLinkedSame", spec := "fnLinkedSame", recurses := true, apart := false }
def FnLinkedSameSaid : Prop := fnLinkedSameRow.holds Try.pinned (OpenSpec.ofChange fnLinkedSameSpec)

/-- ITS FALSE NEIGHBOUR: 'it returns false'. Refute it at one input. -/
def fnLinkedSameWrong : ChangeSpec := { name := "fnLinkedSame", fn := fun _ => fun
  | [d1, d2] => { results := [.lit (.bool false)], args := [d1, d2] }
  | _ => none }
def FnLinkedSameWrongFalsely : Prop := fnLinkedSameRow.holds Try.pinned (OpenSpec.ofChange fnLinkedSameWrong)

/-- 'laws.FnGroupsPart': WHATEVER THE INPUT: true; the input reads as it did. -/
def fnGroupsPartSpec : ChangeSpec := { name := "fnGroupsPart", fn := fun _ => fun
  | [d1, d2] => { results := [.lit (.bool true)], args := [d1, d2] }
  | _ => none }
def fnGroupsPartRow : OpenClaim := { program := "ytdahnideolaniaa", sum := "45677c73cc08da0fad47efdc2c002565965105b23399f81d0184b2bec21870fe", func := "loop.example/groupmulticast/laws.FnGroupsPart", spec := "fnGroupsPart", apart := false }
def FnGroupsPartSaid : Prop := fnGroupsPartRow.holds Try.pinned (OpenSpec.ofChange fnGroupsPartSpec)

/-- ITS FALSE NEIGHBOUR: 'it returns false'. Refute it at one input. -/
def fnGroupsPartWrong : ChangeSpec := { name := "fnGroupsPart", fn := fun _ => fun
  | [d1, d2] => { results := [.lit (.bool false)], args := [d1, d2] }
  | _ => none }
def FnGroupsPartWrongFalsely : Prop := fnGroupsPartRow.holds Try.pinned (OpenSpec.ofChange fnGroupsPartWrong)

/-- 'laws.FnLinkedGrow': WHATEVER THE INPUT: true; the input reads as it did. -/
def fnLinkedGrowSpec : ChangeSpec := { name := "fnLinkedGrow", fn := fun _ => fun
  | [d1, d2] => { results := [.lit (.bool true)], args := [d1, d2] }
  | _ => none }
def fnLinkedGrowRow : OpenClaim := { program := "ytdahnideolaniaa", sum := "45677c73cc08da0fad47efdc2c002565965105b23399f81d0184b2bec21870fe", func := "loop.example/groupmulticast/laws.FnLinkedGrow", spec := "fnLinkedGrow", recurses := true, apart := false }
def FnLinkedGrowSaid : Prop := fnLinkedGrowRow.holds Try.pinned (OpenSpec.ofChange fnLinkedGrowSpec)

/-- ITS FALSE NEIGHBOUR: 'it returns false'. Refute it at one input. -/
def fnLinkedGrowWrong : ChangeSpec := { name := "fnLinkedGrow", fn := fun _ => fun
  | [d1, d2] => { results := [.lit (.bool false)], args := [d1, d2] }
  | _ => none }
def FnLinkedGrowWrongFalsely : Prop := fnLinkedGrowRow.holds Try.pinned (OpenSpec.ofChange fnLinkedGrowWrong)

/-- 'laws.FnExactGroupsValid': WHATEVER THE INPUT: true; the input reads as it did. -/
def fnExactGroupsValidSpec : ChangeSpec := { name := "fnExactGroupsValid", fn := fun _ => fun
  | [d] => { results := [.lit (.bool true)], args := [d] }
  | _ => none }
def fnExactGroupsValidRow : OpenClaim := { program := "ytdahnideolaniaa", sum := "45677c73cc08da0fad47efdc2c002565965105b23399f81d0184b2bec21870fe", func := "loop.example/groupmulticast/laws.FnExactGroupsValid", spec := "fnExactGroupsValid", apart := false }
def FnExactGroupsValidSaid : Prop := fnExactGroupsValidRow.holds Try.pinned (OpenSpec.ofChange fnExactGroupsValidSpec)

/-- ITS FALSE NEIGHBOUR: 'it returns false'. Refute it at one input. -/
def fnExactGroupsValidWrong : ChangeSpec := { name := "fnExactGroupsValid", fn := fun _ => fun
  | [d] => { results := [.lit (.bool false)], args := [d] }
  | _ => none }
def FnExactGroupsValidWrongFalsely : Prop := fnExactGroupsValidRow.holds Try.pinned (OpenSpec.ofChange fnExactGroupsValidWrong)

/-- 'laws.FnExactGroupsCommon': WHATEVER THE INPUT: true; the input reads as it did. -/
def fnExactGroupsCommonSpec : ChangeSpec := { name := "fnExactGroupsCommon", fn := fun _ => fun
  | [d1, d2] => { results := [.lit (.bool true)], args := [d1, d2] }
  | _ => none }
def fnExactGroupsCommonRow : OpenClaim := { program := "ytdahnideolaniaa", sum := "45677c73cc08da0fad47efdc2c002565965105b23399f81d0184b2bec21870fe", func := "loop.example/groupmulticast/laws.FnExactGroupsCommon", spec := "fnExactGroupsCommon", apart := false }
def FnExactGroupsCommonSaid : Prop := fnExactGroupsCommonRow.holds Try.pinned (OpenSpec.ofChange fnExactGroupsCommonSpec)

/-- ITS FALSE NEIGHBOUR: 'it returns false'. Refute it at one input. -/
def fnExactGroupsCommonWrong : ChangeSpec := { name := "fnExactGroupsCommon", fn := fun _ => fun
  | [d1, d2] => { results := [.lit (.bool false)], args := [d1, d2] }
  | _ => none }
def FnExactGroupsCommonWrongFalsely : Prop := fnExactGroupsCommonRow.holds Try.pinned (OpenSpec.ofChange fnExactGroupsCommonWrong)

/-- 'laws.FnExactGroupsUnion': WHATEVER THE INPUT: true; the input reads as it did. -/
def fnExactGroupsUnionSpec : ChangeSpec := { name := "fnExactGroupsUnion", fn := fun _ => fun
  | [d1, d2] => { results := [.lit (.bool true)], args := [d1, d2] }
  | _ => none }
def fnExactGroupsUnionRow : OpenClaim := { program := "ytdahnideolaniaa", sum := "45677c73cc08da0fad47efdc2c002565965105b23399f81d0184b2bec21870fe", func := "loop.example/groupmulticast/laws.FnExactGroupsUnion", spec := "fnExactGroupsUnion", apart := false }
def FnExactGroupsUnionSaid : Prop := fnExactGroupsUnionRow.holds Try.pinned (OpenSpec.ofChange fnExactGroupsUnionSpec)

/-- ITS FALSE NEIGHBOUR: 'it returns false'. Refute it at one input. -/
def fnExactGroupsUnionWrong : ChangeSpec := { name := "fnExactGroupsUnion", fn := fun _ => fun
  | [d1, d2] => { results := [.lit (.bool false)], args := [d1, d2] }
  | _ => none }
def FnExactGroupsUnionWrongFalsely : Prop := fnExactGroupsUnionRow.holds Try.pinned (OpenSpec.ofChange fnExactGroupsUnionWrong)

/-- 'laws.FnExactGroupsNamed': WHATEVER THE INPUT: true; the input reads as it did. -/
def fnExactGroupsNamedSpec : ChangeSpec := { name := "fnExactGroupsNamed", fn := fun _ => fun
  | [d1, d2] => { results := [.lit (.bool true)], args := [d1, d2] }
  | _ => none }
def fnExactGroupsNamedRow : OpenClaim := { program := "ytdahnideolaniaa", sum := "45677c73cc08da0fad47efdc2c002565965105b23399f81d0184b2bec21870fe", func := "loop.example/groupmulticast/laws.FnExactGroupsNamed", spec := "fnExactGroupsNamed", apart := false }
def FnExactGroupsNamedSaid : Prop := fnExactGroupsNamedRow.holds Try.pinned (OpenSpec.ofChange fnExactGroupsNamedSpec)

/-- ITS FALSE NEIGHBOUR: 'it returns false'. Refute it at one input. -/
def fnExactGroupsNamedWrong : ChangeSpec := { name := "fnExactGroupsNamed", fn := fun _ => fun
  | [d1, d2] => { results := [.lit (.bool false)], args := [d1, d2] }
  | _ => none }
def FnExactGroupsNamedWrongFalsely : Prop := fnExactGroupsNamedRow.holds Try.pinned (OpenSpec.ofChange fnExactGroupsNamedWrong)

/-- 'laws.FnExactGroupsLinked': WHATEVER THE INPUT: true; the input reads as it did. -/
def fnExactGroupsLinkedSpec : ChangeSpec := { name := "fnExactGroupsLinked", fn := fun _ => fun
  | [d1, d2] => { results := [.lit (.bool true)], args := [d1, d2] }
  | _ => none }
def fnExactGroupsLinkedRow : OpenClaim := { program := "ytdahnideolaniaa", sum := "45677c73cc08da0fad47efdc2c002565965105b23399f81d0184b2bec21870fe", func := "loop.example/groupmulticast/laws.FnExactGroupsLinked", spec := "fnExactGroupsLinked", recurses := true, apart := false }
def FnExactGroupsLinkedSaid : Prop := fnExactGroupsLinkedRow.holds Try.pinned (OpenSpec.ofChange fnExactGroupsLinkedSpec)

/-- ITS FALSE NEIGHBOUR: 'it returns false'. Refute it at one input. -/
def fnExactGroupsLinkedWrong : ChangeSpec := { name := "fnExactGroupsLinked", fn := fun _ => fun
  | [d1, d2] => { results := [.lit (.bool false)], args := [d1, d2] }
  | _ => none }
def FnExactGroupsLinkedWrongFalsely : Prop := fnExactGroupsLinkedRow.holds Try.pinned (OpenSpec.ofChange fnExactGroupsLinkedWrong)

/- THE SECOND FORM. 'bulk': how many values and letters a reading holds, each counted each time it is reached (what is shared counts as often as it is met; a slice's spare places count too). A statement '..UptoSaid' is the law's where the arguments, and the package variables that the reading takes, are together of bulk at most 1048576: NARROWER than '..Said'. Prove '..Said' where nothing that the law and all that it calls make is longer than what came in: it says more and counts as full. Else prove '..UptoSaid'. A law counts once. -/
mutual
def uptoBulk {H : Type} : DataW H → Nat
  | .lit (.string bytes) => bytes.length + 1
  | .lit _ => 1
  | .nil => 1
  | .ptr d => uptoBulk d + 1
  | .slice elems spare => uptoBulkAll elems + uptoBulkAll spare + 1
  | .agg parts => uptoBulkAll parts + 1
  | .iface _ d => uptoBulk d + 1
  | .map entries => uptoBulkEntries entries + 1
  | .held _ => 1
def uptoBulkAll {H : Type} : List (DataW H) → Nat
  | [] => 0
  | d :: r => uptoBulk d + uptoBulkAll r
def uptoBulkEntries {H : Type} : List (Lit × DataW H) → Nat
  | [] => 0
  | x :: r => uptoBulkEntry x + uptoBulkEntries r
def uptoBulkEntry {H : Type} : Lit × DataW H → Nat
  | (.string bytes, d) => bytes.length + uptoBulk d + 1
  | (_, d) => uptoBulk d + 1
 end
def uptoSmall : (H : Type) → List (DataW H) → Bool := fun _ ds => decide (uptoBulkAll ds ≤ 1048576)
def OpenSpec.upto (s : _root_.Go.ChangeSpec) : _root_.Go.OpenSpec := { _root_.Go.OpenSpec.ofChange s with cond := some uptoSmall }

/-- 'laws.FnCommon', WHERE WHAT IT READS IS OF BULK AT MOST 1048576: true; the input reads as it did. -/
def fnCommonUptoRow : OpenClaim := { program := "ytdahnideolaniaa", sum := "45677c73cc08da0fad47efdc2c002565965105b23399f81d0184b2bec21870fe", func := "loop.example/groupmulticast/laws.FnCommon", spec := "fnCommon", apart := false, narrowed := true }
def FnCommonUptoSaid : Prop := fnCommonUptoRow.holds Try.pinned (OpenSpec.upto fnCommonSpec)

/-- 'laws.FnLinked', WHERE WHAT IT READS IS OF BULK AT MOST 1048576: true; the input reads as it did. -/
def fnLinkedUptoRow : OpenClaim := { program := "ytdahnideolaniaa", sum := "45677c73cc08da0fad47efdc2c002565965105b23399f81d0184b2bec21870fe", func := "loop.example/groupmulticast/laws.FnLinked", spec := "fnLinked", recurses := true, apart := false, narrowed := true }
def FnLinkedUptoSaid : Prop := fnLinkedUptoRow.holds Try.pinned (OpenSpec.upto fnLinkedSpec)

/-- 'laws.FnLinkedReason', WHERE WHAT IT READS IS OF BULK AT MOST 1048576: true; the input reads as it did. -/
def fnLinkedReasonUptoRow : OpenClaim := { program := "ytdahnideolaniaa", sum := "45677c73cc08da0fad47efdc2c002565965105b23399f81d0184b2bec21870fe", func := "loop.example/groupmulticast/laws.FnLinkedReason", spec := "fnLinkedReason", recurses := true, apart := false, narrowed := true }
def FnLinkedReasonUptoSaid : Prop := fnLinkedReasonUptoRow.holds Try.pinned (OpenSpec.upto fnLinkedReasonSpec)

/-- 'laws.FnLinkedSame', WHERE WHAT IT READS IS OF BULK AT MOST 1048576: true; the input reads as it did. -/
def fnLinkedSameUptoRow : OpenClaim := { program := "ytdahnideolaniaa", sum := "45677c73cc08da0fad47efdc2c002565965105b23399f81d0184b2bec21870fe", func := "loop.example/groupmulticast/laws.FnLinkedSame", spec := "fnLinkedSame", recurses := true, apart := false, narrowed := true }
def FnLinkedSameUptoSaid : Prop := fnLinkedSameUptoRow.holds Try.pinned (OpenSpec.upto fnLinkedSameSpec)

/-- 'laws.FnGroupsPart', WHERE WHAT IT READS IS OF BULK AT MOST 1048576: true; the input reads as it did. -/
def fnGroupsPartUptoRow : OpenClaim := { program := "ytdahnideolaniaa", sum := "45677c73cc08da0fad47efdc2c002565965105b23399f81d0184b2bec21870fe", func := "loop.example/groupmulticast/laws.FnGroupsPart", spec := "fnGroupsPart", apart := false, narrowed := true }
def FnGroupsPartUptoSaid : Prop := fnGroupsPartUptoRow.holds Try.pinned (OpenSpec.upto fnGroupsPartSpec)

/-- 'laws.FnLinkedGrow', WHERE WHAT IT READS IS OF BULK AT MOST 1048576: true; the input reads as it did. -/
def fnLinkedGrowUptoRow : OpenClaim := { program := "ytdahnideolaniaa", sum := "45677c73cc08da0fad47efdc2c002565965105b23399f81d0184b2bec21870fe", func := "loop.example/groupmulticast/laws.FnLinkedGrow", spec := "fnLinkedGrow", recurses := true, apart := false, narrowed := true }
def FnLinkedGrowUptoSaid : Prop := fnLinkedGrowUptoRow.holds Try.pinned (OpenSpec.upto fnLinkedGrowSpec)

/-- 'laws.FnExactGroupsValid', WHERE WHAT IT READS IS OF BULK AT MOST 1048576: true; the input reads as it did. -/
def fnExactGroupsValidUptoRow : OpenClaim := { program := "ytdahnideolaniaa", sum := "45677c73cc08da0fad47efdc2c002565965105b23399f81d0184b2bec21870fe", func := "loop.example/groupmulticast/laws.FnExactGroupsValid", spec := "fnExactGroupsValid", apart := false, narrowed := true }
def FnExactGroupsValidUptoSaid : Prop := fnExactGroupsValidUptoRow.holds Try.pinned (OpenSpec.upto fnExactGroupsValidSpec)

/-- 'laws.FnExactGroupsCommon', WHERE WHAT IT READS IS OF BULK AT MOST 1048576: true; the input reads as it did. -/
def fnExactGroupsCommonUptoRow : OpenClaim := { program := "ytdahnideolaniaa", sum := "45677c73cc08da0fad47efdc2c002565965105b23399f81d0184b2bec21870fe", func := "loop.example/groupmulticast/laws.FnExactGroupsCommon", spec := "fnExactGroupsCommon", apart := false, narrowed := true }
def FnExactGroupsCommonUptoSaid : Prop := fnExactGroupsCommonUptoRow.holds Try.pinned (OpenSpec.upto fnExactGroupsCommonSpec)

/-- 'laws.FnExactGroupsUnion', WHERE WHAT IT READS IS OF BULK AT MOST 1048576: true; the input reads as it did. -/
def fnExactGroupsUnionUptoRow : OpenClaim := { program := "ytdahnideolaniaa", sum := "45677c73cc08da0fad47efdc2c002565965105b23399f81d0184b2bec21870fe", func := "loop.example/groupmulticast/laws.FnExactGroupsUnion", spec := "fnExactGroupsUnion", apart := false, narrowed := true }
def FnExactGroupsUnionUptoSaid : Prop := fnExactGroupsUnionUptoRow.holds Try.pinned (OpenSpec.upto fnExactGroupsUnionSpec)

/-- 'laws.FnExactGroupsNamed', WHERE WHAT IT READS IS OF BULK AT MOST 1048576: true; the input reads as it did. -/
def fnExactGroupsNamedUptoRow : OpenClaim := { program := "ytdahnideolaniaa", sum := "45677c73cc08da0fad47efdc2c002565965105b23399f81d0184b2bec21870fe", func := "loop.example/groupmulticast/laws.FnExactGroupsNamed", spec := "fnExactGroupsNamed", apart := false, narrowed := true }
def FnExactGroupsNamedUptoSaid : Prop := fnExactGroupsNamedUptoRow.holds Try.pinned (OpenSpec.upto fnExactGroupsNamedSpec)

/-- 'laws.FnExactGroupsLinked', WHERE WHAT IT READS IS OF BULK AT MOST 1048576: true; the input reads as it did. -/
def fnExactGroupsLinkedUptoRow : OpenClaim := { program := "ytdahnideolaniaa", sum := "45677c73cc08da0fad47efdc2c002565965105b23399f81d0184b2bec21870fe", func := "loop.example/groupmulticast/laws.FnExactGroupsLinked", spec := "fnExactGroupsLinked", recurses := true, apart := false, narrowed := true }
def FnExactGroupsLinkedUptoSaid : Prop := fnExactGroupsLinkedUptoRow.holds Try.pinned (OpenSpec.upto fnExactGroupsLinkedSpec)

end Rows
end Go.Proofs.Ytdahnideolaniaa
