/-
  No cell of these rows narrows 'for every input' (looked for: loops, veiled, ifaces, maps, wideKeys, modest, calm, conditions, laid).
  DERIVED. THE GIVEN ROWS OF THIS SEAT. 6 by the template 'for every input the law returns true; each argument reads behind the call as it read before'; 0 by the template 'total and deterministic' (their statements: YtgeihcbiahnnaaaTotals.lean).
  GIVEN WITH THE SEED: the statements are not yours to turn. If you find one false, say at which input.
  Laid BY PROGRAM, IN A SANDBOX (cutbox-rows.mjs): the forced cells as the released guide's own fill.sh prints them over the translation 79481f142bfd6c1d… (all of the seat's roots in one cut). By AI agents, Wed Nov 11 2026. No macro, syntax, notation, axiom, sorry.
-/
import Derived.Test.YtgeihcbiahnnaaaChecked
import GoSem.Claim
import GoSem.ClaimJoined
import GoSem.ClaimMapViews
import Derived.JoinedTies
import Derived.KernelRfl
namespace Go.Proofs.Ytgeihcbiahnnaaa
/- THE CELL 'sum', in the pinned program and in every row, IS THE sha256 OF THE DUMP (.gsa) THAT YtgeihcbiahnnaaaProg.lean LOADS. Nothing in Lean hashes anything: it is a label: what it is worth is what the hold of that sum in a sandbox is worth. -/
noncomputable def Try.pinned : Pinned := { name := "ytgeihcbiahnnaaa", sum := "79481f142bfd6c1d6c09b79b2fddf45879c4b4618cd2be6a05becdd6ef00481c", checked := Try.checked }
namespace Rows
def none {H : Type} : Left H := { results := [], args := [] }

/-- 'laws.FnExactCreditsNew': WHATEVER THE INPUT: true; the input reads as it did. -/
def fnExactCreditsNewSpec : ChangeSpec := { name := "fnExactCreditsNew", fn := fun _ => fun
  | [d1, d2] => { results := [.lit (.bool true)], args := [d1, d2] }
  | _ => none }
def fnExactCreditsNewRow : OpenClaim := { program := "ytgeihcbiahnnaaa", sum := "79481f142bfd6c1d6c09b79b2fddf45879c4b4618cd2be6a05becdd6ef00481c", func := "loop.example/groupmulticast/laws.FnExactCreditsNew", spec := "fnExactCreditsNew", unfollowed := true, recurses := true, apart := false }
def FnExactCreditsNewSaid : Prop := fnExactCreditsNewRow.holds Try.pinned (OpenSpec.ofChange fnExactCreditsNewSpec)

/-- ITS FALSE NEIGHBOUR: 'it returns false'. Refute it at one input. -/
def fnExactCreditsNewWrong : ChangeSpec := { name := "fnExactCreditsNew", fn := fun _ => fun
  | [d1, d2] => { results := [.lit (.bool false)], args := [d1, d2] }
  | _ => none }
def FnExactCreditsNewWrongFalsely : Prop := fnExactCreditsNewRow.holds Try.pinned (OpenSpec.ofChange fnExactCreditsNewWrong)

/-- 'laws.FnExactCreditsValid': WHATEVER THE INPUT: true; the input reads as it did. -/
def fnExactCreditsValidSpec : ChangeSpec := { name := "fnExactCreditsValid", fn := fun _ => fun
  | [d] => { results := [.lit (.bool true)], args := [d] }
  | _ => none }
def fnExactCreditsValidRow : OpenClaim := { program := "ytgeihcbiahnnaaa", sum := "79481f142bfd6c1d6c09b79b2fddf45879c4b4618cd2be6a05becdd6ef00481c", func := "loop.example/groupmulticast/laws.FnExactCreditsValid", spec := "fnExactCreditsValid", unfollowed := true, recurses := true, apart := false }
def FnExactCreditsValidSaid : Prop := fnExactCreditsValidRow.holds Try.pinned (OpenSpec.ofChange fnExactCreditsValidSpec)

/-- ITS FALSE NEIGHBOUR: 'it returns false'. Refute it at one input. -/
def fnExactCreditsValidWrong : ChangeSpec := { name := "fnExactCreditsValid", fn := fun _ => fun
  | [d] => { results := [.lit (.bool false)], args := [d] }
  | _ => none }
def FnExactCreditsValidWrongFalsely : Prop := fnExactCreditsValidRow.holds Try.pinned (OpenSpec.ofChange fnExactCreditsValidWrong)

/-- 'laws.FnExactCreditsAsk': WHATEVER THE INPUT: true; the input reads as it did. -/
def fnExactCreditsAskSpec : ChangeSpec := { name := "fnExactCreditsAsk", fn := fun _ => fun
  | [d1, d2, d3] => { results := [.lit (.bool true)], args := [d1, d2, d3] }
  | _ => none }
def fnExactCreditsAskRow : OpenClaim := { program := "ytgeihcbiahnnaaa", sum := "79481f142bfd6c1d6c09b79b2fddf45879c4b4618cd2be6a05becdd6ef00481c", func := "loop.example/groupmulticast/laws.FnExactCreditsAsk", spec := "fnExactCreditsAsk", unfollowed := true, recurses := true, apart := false }
def FnExactCreditsAskSaid : Prop := fnExactCreditsAskRow.holds Try.pinned (OpenSpec.ofChange fnExactCreditsAskSpec)

/-- ITS FALSE NEIGHBOUR: 'it returns false'. Refute it at one input. -/
def fnExactCreditsAskWrong : ChangeSpec := { name := "fnExactCreditsAsk", fn := fun _ => fun
  | [d1, d2, d3] => { results := [.lit (.bool false)], args := [d1, d2, d3] }
  | _ => none }
def FnExactCreditsAskWrongFalsely : Prop := fnExactCreditsAskRow.holds Try.pinned (OpenSpec.ofChange fnExactCreditsAskWrong)

/-- 'laws.FnExactCreditsGive': WHATEVER THE INPUT: true; the input reads as it did. -/
def fnExactCreditsGiveSpec : ChangeSpec := { name := "fnExactCreditsGive", fn := fun _ => fun
  | [d1, d2] => { results := [.lit (.bool true)], args := [d1, d2] }
  | _ => none }
def fnExactCreditsGiveRow : OpenClaim := { program := "ytgeihcbiahnnaaa", sum := "79481f142bfd6c1d6c09b79b2fddf45879c4b4618cd2be6a05becdd6ef00481c", func := "loop.example/groupmulticast/laws.FnExactCreditsGive", spec := "fnExactCreditsGive", unfollowed := true, recurses := true, apart := false }
def FnExactCreditsGiveSaid : Prop := fnExactCreditsGiveRow.holds Try.pinned (OpenSpec.ofChange fnExactCreditsGiveSpec)

/-- ITS FALSE NEIGHBOUR: 'it returns false'. Refute it at one input. -/
def fnExactCreditsGiveWrong : ChangeSpec := { name := "fnExactCreditsGive", fn := fun _ => fun
  | [d1, d2] => { results := [.lit (.bool false)], args := [d1, d2] }
  | _ => none }
def FnExactCreditsGiveWrongFalsely : Prop := fnExactCreditsGiveRow.holds Try.pinned (OpenSpec.ofChange fnExactCreditsGiveWrong)

/-- 'laws.FnExactCreditsStuck': WHATEVER THE INPUT: true; the input reads as it did. -/
def fnExactCreditsStuckSpec : ChangeSpec := { name := "fnExactCreditsStuck", fn := fun _ => fun
  | [d] => { results := [.lit (.bool true)], args := [d] }
  | _ => none }
def fnExactCreditsStuckRow : OpenClaim := { program := "ytgeihcbiahnnaaa", sum := "79481f142bfd6c1d6c09b79b2fddf45879c4b4618cd2be6a05becdd6ef00481c", func := "loop.example/groupmulticast/laws.FnExactCreditsStuck", spec := "fnExactCreditsStuck", unfollowed := true, recurses := true, apart := false }
def FnExactCreditsStuckSaid : Prop := fnExactCreditsStuckRow.holds Try.pinned (OpenSpec.ofChange fnExactCreditsStuckSpec)

/-- ITS FALSE NEIGHBOUR: 'it returns false'. Refute it at one input. -/
def fnExactCreditsStuckWrong : ChangeSpec := { name := "fnExactCreditsStuck", fn := fun _ => fun
  | [d] => { results := [.lit (.bool false)], args := [d] }
  | _ => none }
def FnExactCreditsStuckWrongFalsely : Prop := fnExactCreditsStuckRow.holds Try.pinned (OpenSpec.ofChange fnExactCreditsStuckWrong)

/-- 'laws.FnExactCreditsOrdered': WHATEVER THE INPUT: true; the input reads as it did. -/
def fnExactCreditsOrderedSpec : ChangeSpec := { name := "fnExactCreditsOrdered", fn := fun _ => fun
  | [d] => { results := [.lit (.bool true)], args := [d] }
  | _ => none }
def fnExactCreditsOrderedRow : OpenClaim := { program := "ytgeihcbiahnnaaa", sum := "79481f142bfd6c1d6c09b79b2fddf45879c4b4618cd2be6a05becdd6ef00481c", func := "loop.example/groupmulticast/laws.FnExactCreditsOrdered", spec := "fnExactCreditsOrdered", unfollowed := true, recurses := true, apart := false }
def FnExactCreditsOrderedSaid : Prop := fnExactCreditsOrderedRow.holds Try.pinned (OpenSpec.ofChange fnExactCreditsOrderedSpec)

/-- ITS FALSE NEIGHBOUR: 'it returns false'. Refute it at one input. -/
def fnExactCreditsOrderedWrong : ChangeSpec := { name := "fnExactCreditsOrdered", fn := fun _ => fun
  | [d] => { results := [.lit (.bool false)], args := [d] }
  | _ => none }
def FnExactCreditsOrderedWrongFalsely : Prop := fnExactCreditsOrderedRow.holds Try.pinned (OpenSpec.ofChange fnExactCreditsOrderedWrong)

/- THE SECOND FORM. 'bulk': how many values and letters a reading holds, each counted each time it is reached (what is shared counts as often as it is met; a slice's spare places count too). A statement '..UptoSaid' is the law's where the arguments, and the package variables that the reading takes, are together of bulk at most 1048576: NARROWER than '..Said'. Prove '..Said' where nothing that the law and all that it calls make is longer than what came in: it says more and counts as full. Else prove '..UptoSaid'. A law counts once. -/
mutual
def uptoBulk {H : Type} : DataW H → Nat
  | .lit (.string bytes) => bytes.length + 1
  | .lit _ => 1
  | .nil => 1
  | .ptr d => uptoBulk d + 1
  | .slice elems spare => uptoBulkAll elems + uptoBulkAll spare + 1
  | .agg parts => uptoBulkAll parts + 1
  | .iface _ d => uptoBulk d + 1
  | .map entries => uptoBulkEntries entries + 1
  | .held _ => 1
def uptoBulkAll {H : Type} : List (DataW H) → Nat
  | [] => 0
  | d :: r => uptoBulk d + uptoBulkAll r
def uptoBulkEntries {H : Type} : List (Lit × DataW H) → Nat
  | [] => 0
  | x :: r => uptoBulkEntry x + uptoBulkEntries r
def uptoBulkEntry {H : Type} : Lit × DataW H → Nat
  | (.string bytes, d) => bytes.length + uptoBulk d + 1
  | (_, d) => uptoBulk d + 1
 end
def uptoSmall : (H : Type) → List (DataW H) → Bool := fun _ ds => decide (uptoBulkAll ds ≤ 1048576)
def OpenSpec.upto (s : _root_.Go.ChangeSpec) : _root_.Go.OpenSpec := { _root_.Go.OpenSpec.ofChange s with cond := some uptoSmall }

/-- 'laws.FnExactCreditsNew', WHERE WHAT IT READS IS OF BULK AT MOST 1048576: true; the input reads as it did. -/
def fnExactCreditsNewUptoRow : OpenClaim := { program := "ytgeihcbiahnnaaa", sum := "79481f142bfd6c1d6c09b79b2fddf45879c4b4618cd2be6a05becdd6ef00481c", func := "loop.example/groupmulticast/laws.FnExactCreditsNew", spec := "fnExactCreditsNew", unfollowed := true, recurses := true, apart := false, narrowed := true }
def FnExactCreditsNewUptoSaid : Prop := fnExactCreditsNewUptoRow.holds Try.pinned (OpenSpec.upto fnExactCreditsNewSpec)

/-- 'laws.FnExactCreditsValid', WHERE WHAT IT READS IS OF BULK AT MOST 1048576: true; the input reads as it did. -/
def fnExactCreditsValidUptoRow : OpenClaim := { program := "ytgeihcbiahnnaaa", sum := "79481f142bfd6c1d6c09b79b2fddf45879c4b4618cd2be6a05becdd6ef00481c", func := "loop.example/groupmulticast/laws.FnExactCreditsValid", spec := "fnExactCreditsValid", unfollowed := true, recurses := true, apart := false, narrowed := true }
def FnExactCreditsValidUptoSaid : Prop := fnExactCreditsValidUptoRow.holds Try.pinned (OpenSpec.upto fnExactCreditsValidSpec)

/-- 'laws.FnExactCreditsAsk', WHERE WHAT IT READS IS OF BULK AT MOST 1048576: true; the input reads as it did. -/
def fnExactCreditsAskUptoRow : OpenClaim := { program := "ytgeihcbiahnnaaa", sum := "79481f142bfd6c1d6c09b79b2fddf45879c4b4618cd2be6a05becdd6ef00481c", func := "loop.example/groupmulticast/laws.FnExactCreditsAsk", spec := "fnExactCreditsAsk", unfollowed := true, recurses := true, apart := false, narrowed := true }
def FnExactCreditsAskUptoSaid : Prop := fnExactCreditsAskUptoRow.holds Try.pinned (OpenSpec.upto fnExactCreditsAskSpec)

/-- 'laws.FnExactCreditsGive', WHERE WHAT IT READS IS OF BULK AT MOST 1048576: true; the input reads as it did. -/
def fnExactCreditsGiveUptoRow : OpenClaim := { program := "ytgeihcbiahnnaaa", sum := "79481f142bfd6c1d6c09b79b2fddf45879c4b4618cd2be6a05becdd6ef00481c", func := "loop.example/groupmulticast/laws.FnExactCreditsGive", spec := "fnExactCreditsGive", unfollowed := true, recurses := true, apart := false, narrowed := true }
def FnExactCreditsGiveUptoSaid : Prop := fnExactCreditsGiveUptoRow.holds Try.pinned (OpenSpec.upto fnExactCreditsGiveSpec)

/-- 'laws.FnExactCreditsStuck', WHERE WHAT IT READS IS OF BULK AT MOST 1048576: true; the input reads as it did. -/
def fnExactCreditsStuckUptoRow : OpenClaim := { program := "ytgeihcbiahnnaaa", sum := "79481f142bfd6c1d6c09b79b2fddf45879c4b4618cd2be6a05becdd6ef00481c", func := "loop.example/groupmulticast/laws.FnExactCreditsStuck", spec := "fnExactCreditsStuck", unfollowed := true, recurses := true, apart := false, narrowed := true }
def FnExactCreditsStuckUptoSaid : Prop := fnExactCreditsStuckUptoRow.holds Try.pinned (OpenSpec.upto fnExactCreditsStuckSpec)

/-- 'laws.FnExactCreditsOrdered', WHERE WHAT IT READS IS OF BULK AT MOST 1048576: true; the input reads as it did. -/
def fnExactCreditsOrderedUptoRow : OpenClaim := { program := "ytgeihcbiahnnaaa", sum := "79481f142bfd6c1d6c09b79b2fddf45879c4b4618cd2be6a05becdd6ef00481c", func := "loop.example/groupmulticast/laws.FnExactCreditsOrdered", spec := "fnExactCreditsOrdered", unfollowed := true, recurses := true, apart := false, narrowed := true }
def FnExactCreditsOrderedUptoSaid : Prop := fnExactCreditsOrderedUptoRow.holds Try.pinned (OpenSpec.upto fnExactCreditsOrderedSpec)

end Rows
end Go.Proofs.Ytgeihcbiahnnaaa
