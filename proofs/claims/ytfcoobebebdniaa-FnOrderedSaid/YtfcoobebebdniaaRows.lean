/-
  No cell of these rows narrows 'for every input' (looked for: loops, veiled, ifaces, maps, wideKeys, modest, calm, conditions, laid).
  DERIVED. THE GIVEN ROWS OF THIS SEAT. 13 by the template 'for every input the law returns true; each argument reads behind the call as it read before'; 0 by the template 'total and deterministic' (their statements: YtfcoobebebdniaaTotals.lean).
  GIVEN WITH THE SEED: the statements are not yours to turn. If you find one false, say at which input.
  Laid BY PROGRAM, IN A SANDBOX (cutbox-rows.mjs): the forced cells as the released guide's own fill.sh prints them over the translation 934669ae14abc301… (all of the seat's roots in one cut). By AI agents, Wed Nov 11 2026. No macro, syntax, notation, axiom, sorry.
-/
import Derived.Test.YtfcoobebebdniaaChecked
import GoSem.Claim
import GoSem.ClaimJoined
import GoSem.ClaimMapViews
import Derived.JoinedTies
import Derived.KernelRfl
namespace Go.Proofs.Ytfcoobebebdniaa
/- THE CELL 'sum', in the pinned program and in every row, IS THE sha256 OF THE DUMP (.gsa) THAT YtfcoobebebdniaaProg.lean LOADS. Nothing in Lean hashes anything: it is a label: what it is worth is what the hold of that sum in a sandbox is worth. -/
noncomputable def Try.pinned : Pinned := { name := "ytfcoobebebdniaa", sum := "934669ae14abc3019265b57be507db6fd4472bb94ea1fed1313f79316df611ff", checked := Try.checked }
namespace Rows
def none {H : Type} : Left H := { results := [], args := [] }

/-- 'laws.FnCreditsNew': WHATEVER THE INPUT: true; the input reads as it did. -/
def fnCreditsNewSpec : ChangeSpec := { name := "fnCreditsNew", fn := fun _ => fun
  | [d] => { results := [.lit (.bool true)], args := [d] }
  | _ => none }
def fnCreditsNewRow : OpenClaim := { program := "ytfcoobebebdniaa", sum := "934669ae14abc3019265b57be507db6fd4472bb94ea1fed1313f79316df611ff", func := "loop.example/groupmulticast/laws.FnCreditsNew", spec := "fnCreditsNew", unfollowed := true, recurses := true, apart := false }
def FnCreditsNewSaid : Prop := fnCreditsNewRow.holds Try.pinned (OpenSpec.ofChange fnCreditsNewSpec)

/-- ITS FALSE NEIGHBOUR: 'it returns false'. Refute it at one input. -/
def fnCreditsNewWrong : ChangeSpec := { name := "fnCreditsNew", fn := fun _ => fun
  | [d] => { results := [.lit (.bool false)], args := [d] }
  | _ => none }
def FnCreditsNewWrongFalsely : Prop := fnCreditsNewRow.holds Try.pinned (OpenSpec.ofChange fnCreditsNewWrong)

/-- 'laws.FnCreditsKept': WHATEVER THE INPUT: true; the input reads as it did. -/
def fnCreditsKeptSpec : ChangeSpec := { name := "fnCreditsKept", fn := fun _ => fun
  | [d] => { results := [.lit (.bool true)], args := [d] }
  | _ => none }
def fnCreditsKeptRow : OpenClaim := { program := "ytfcoobebebdniaa", sum := "934669ae14abc3019265b57be507db6fd4472bb94ea1fed1313f79316df611ff", func := "loop.example/groupmulticast/laws.FnCreditsKept", spec := "fnCreditsKept", unfollowed := true, recurses := true, apart := false }
def FnCreditsKeptSaid : Prop := fnCreditsKeptRow.holds Try.pinned (OpenSpec.ofChange fnCreditsKeptSpec)

/-- ITS FALSE NEIGHBOUR: 'it returns false'. Refute it at one input. -/
def fnCreditsKeptWrong : ChangeSpec := { name := "fnCreditsKept", fn := fun _ => fun
  | [d] => { results := [.lit (.bool false)], args := [d] }
  | _ => none }
def FnCreditsKeptWrongFalsely : Prop := fnCreditsKeptRow.holds Try.pinned (OpenSpec.ofChange fnCreditsKeptWrong)

/-- 'laws.FnCreditsAsk': WHATEVER THE INPUT: true; the input reads as it did. -/
def fnCreditsAskSpec : ChangeSpec := { name := "fnCreditsAsk", fn := fun _ => fun
  | [d] => { results := [.lit (.bool true)], args := [d] }
  | _ => none }
def fnCreditsAskRow : OpenClaim := { program := "ytfcoobebebdniaa", sum := "934669ae14abc3019265b57be507db6fd4472bb94ea1fed1313f79316df611ff", func := "loop.example/groupmulticast/laws.FnCreditsAsk", spec := "fnCreditsAsk", unfollowed := true, recurses := true, apart := false }
def FnCreditsAskSaid : Prop := fnCreditsAskRow.holds Try.pinned (OpenSpec.ofChange fnCreditsAskSpec)

/-- ITS FALSE NEIGHBOUR: 'it returns false'. Refute it at one input. -/
def fnCreditsAskWrong : ChangeSpec := { name := "fnCreditsAsk", fn := fun _ => fun
  | [d] => { results := [.lit (.bool false)], args := [d] }
  | _ => none }
def FnCreditsAskWrongFalsely : Prop := fnCreditsAskRow.holds Try.pinned (OpenSpec.ofChange fnCreditsAskWrong)

/-- 'laws.FnCreditsAskRefused': WHATEVER THE INPUT: true; the input reads as it did. -/
def fnCreditsAskRefusedSpec : ChangeSpec := { name := "fnCreditsAskRefused", fn := fun _ => fun
  | [d] => { results := [.lit (.bool true)], args := [d] }
  | _ => none }
def fnCreditsAskRefusedRow : OpenClaim := { program := "ytfcoobebebdniaa", sum := "934669ae14abc3019265b57be507db6fd4472bb94ea1fed1313f79316df611ff", func := "loop.example/groupmulticast/laws.FnCreditsAskRefused", spec := "fnCreditsAskRefused", unfollowed := true, recurses := true, apart := false }
def FnCreditsAskRefusedSaid : Prop := fnCreditsAskRefusedRow.holds Try.pinned (OpenSpec.ofChange fnCreditsAskRefusedSpec)

/-- ITS FALSE NEIGHBOUR: 'it returns false'. Refute it at one input. -/
def fnCreditsAskRefusedWrong : ChangeSpec := { name := "fnCreditsAskRefused", fn := fun _ => fun
  | [d] => { results := [.lit (.bool false)], args := [d] }
  | _ => none }
def FnCreditsAskRefusedWrongFalsely : Prop := fnCreditsAskRefusedRow.holds Try.pinned (OpenSpec.ofChange fnCreditsAskRefusedWrong)

/-- 'laws.FnCreditsGive': WHATEVER THE INPUT: true; the input reads as it did. -/
def fnCreditsGiveSpec : ChangeSpec := { name := "fnCreditsGive", fn := fun _ => fun
  | [d] => { results := [.lit (.bool true)], args := [d] }
  | _ => none }
def fnCreditsGiveRow : OpenClaim := { program := "ytfcoobebebdniaa", sum := "934669ae14abc3019265b57be507db6fd4472bb94ea1fed1313f79316df611ff", func := "loop.example/groupmulticast/laws.FnCreditsGive", spec := "fnCreditsGive", unfollowed := true, recurses := true, apart := false }
def FnCreditsGiveSaid : Prop := fnCreditsGiveRow.holds Try.pinned (OpenSpec.ofChange fnCreditsGiveSpec)

/-- ITS FALSE NEIGHBOUR: 'it returns false'. Refute it at one input. -/
def fnCreditsGiveWrong : ChangeSpec := { name := "fnCreditsGive", fn := fun _ => fun
  | [d] => { results := [.lit (.bool false)], args := [d] }
  | _ => none }
def FnCreditsGiveWrongFalsely : Prop := fnCreditsGiveRow.holds Try.pinned (OpenSpec.ofChange fnCreditsGiveWrong)

/-- 'laws.FnCreditsGiveRefused': WHATEVER THE INPUT: true; the input reads as it did. -/
def fnCreditsGiveRefusedSpec : ChangeSpec := { name := "fnCreditsGiveRefused", fn := fun _ => fun
  | [d] => { results := [.lit (.bool true)], args := [d] }
  | _ => none }
def fnCreditsGiveRefusedRow : OpenClaim := { program := "ytfcoobebebdniaa", sum := "934669ae14abc3019265b57be507db6fd4472bb94ea1fed1313f79316df611ff", func := "loop.example/groupmulticast/laws.FnCreditsGiveRefused", spec := "fnCreditsGiveRefused", unfollowed := true, recurses := true, apart := false }
def FnCreditsGiveRefusedSaid : Prop := fnCreditsGiveRefusedRow.holds Try.pinned (OpenSpec.ofChange fnCreditsGiveRefusedSpec)

/-- ITS FALSE NEIGHBOUR: 'it returns false'. Refute it at one input. -/
def fnCreditsGiveRefusedWrong : ChangeSpec := { name := "fnCreditsGiveRefused", fn := fun _ => fun
  | [d] => { results := [.lit (.bool false)], args := [d] }
  | _ => none }
def FnCreditsGiveRefusedWrongFalsely : Prop := fnCreditsGiveRefusedRow.holds Try.pinned (OpenSpec.ofChange fnCreditsGiveRefusedWrong)

/-- 'laws.FnStuck': WHATEVER THE INPUT: true; the input reads as it did. -/
def fnStuckSpec : ChangeSpec := { name := "fnStuck", fn := fun _ => fun
  | [d] => { results := [.lit (.bool true)], args := [d] }
  | _ => none }
def fnStuckRow : OpenClaim := { program := "ytfcoobebebdniaa", sum := "934669ae14abc3019265b57be507db6fd4472bb94ea1fed1313f79316df611ff", func := "loop.example/groupmulticast/laws.FnStuck", spec := "fnStuck", unfollowed := true, recurses := true, apart := false }
def FnStuckSaid : Prop := fnStuckRow.holds Try.pinned (OpenSpec.ofChange fnStuckSpec)

/-- ITS FALSE NEIGHBOUR: 'it returns false'. Refute it at one input. -/
def fnStuckWrong : ChangeSpec := { name := "fnStuck", fn := fun _ => fun
  | [d] => { results := [.lit (.bool false)], args := [d] }
  | _ => none }
def FnStuckWrongFalsely : Prop := fnStuckRow.holds Try.pinned (OpenSpec.ofChange fnStuckWrong)

/-- 'laws.FnStuckNever': WHATEVER THE INPUT: true; the input reads as it did. -/
def fnStuckNeverSpec : ChangeSpec := { name := "fnStuckNever", fn := fun _ => fun
  | [d] => { results := [.lit (.bool true)], args := [d] }
  | _ => none }
def fnStuckNeverRow : OpenClaim := { program := "ytfcoobebebdniaa", sum := "934669ae14abc3019265b57be507db6fd4472bb94ea1fed1313f79316df611ff", func := "loop.example/groupmulticast/laws.FnStuckNever", spec := "fnStuckNever", unfollowed := true, recurses := true, apart := false }
def FnStuckNeverSaid : Prop := fnStuckNeverRow.holds Try.pinned (OpenSpec.ofChange fnStuckNeverSpec)

/-- ITS FALSE NEIGHBOUR: 'it returns false'. Refute it at one input. -/
def fnStuckNeverWrong : ChangeSpec := { name := "fnStuckNever", fn := fun _ => fun
  | [d] => { results := [.lit (.bool false)], args := [d] }
  | _ => none }
def FnStuckNeverWrongFalsely : Prop := fnStuckNeverRow.holds Try.pinned (OpenSpec.ofChange fnStuckNeverWrong)

/-- 'laws.FnOrderedAsk': WHATEVER THE INPUT: true; the input reads as it did. -/
def fnOrderedAskSpec : ChangeSpec := { name := "fnOrderedAsk", fn := fun _ => fun
  | [d] => { results := [.lit (.bool true)], args := [d] }
  | _ => none }
def fnOrderedAskRow : OpenClaim := { program := "ytfcoobebebdniaa", sum := "934669ae14abc3019265b57be507db6fd4472bb94ea1fed1313f79316df611ff", func := "loop.example/groupmulticast/laws.FnOrderedAsk", spec := "fnOrderedAsk", unfollowed := true, recurses := true, apart := false }
def FnOrderedAskSaid : Prop := fnOrderedAskRow.holds Try.pinned (OpenSpec.ofChange fnOrderedAskSpec)

/-- ITS FALSE NEIGHBOUR: 'it returns false'. Refute it at one input. -/
def fnOrderedAskWrong : ChangeSpec := { name := "fnOrderedAsk", fn := fun _ => fun
  | [d] => { results := [.lit (.bool false)], args := [d] }
  | _ => none }
def FnOrderedAskWrongFalsely : Prop := fnOrderedAskRow.holds Try.pinned (OpenSpec.ofChange fnOrderedAskWrong)

/-- 'laws.FnOrderedGive': WHATEVER THE INPUT: true; the input reads as it did. -/
def fnOrderedGiveSpec : ChangeSpec := { name := "fnOrderedGive", fn := fun _ => fun
  | [d] => { results := [.lit (.bool true)], args := [d] }
  | _ => none }
def fnOrderedGiveRow : OpenClaim := { program := "ytfcoobebebdniaa", sum := "934669ae14abc3019265b57be507db6fd4472bb94ea1fed1313f79316df611ff", func := "loop.example/groupmulticast/laws.FnOrderedGive", spec := "fnOrderedGive", unfollowed := true, recurses := true, apart := false }
def FnOrderedGiveSaid : Prop := fnOrderedGiveRow.holds Try.pinned (OpenSpec.ofChange fnOrderedGiveSpec)

/-- ITS FALSE NEIGHBOUR: 'it returns false'. Refute it at one input. -/
def fnOrderedGiveWrong : ChangeSpec := { name := "fnOrderedGive", fn := fun _ => fun
  | [d] => { results := [.lit (.bool false)], args := [d] }
  | _ => none }
def FnOrderedGiveWrongFalsely : Prop := fnOrderedGiveRow.holds Try.pinned (OpenSpec.ofChange fnOrderedGiveWrong)

/-- 'laws.FnOrdered': WHATEVER THE INPUT: true; the input reads as it did. -/
def fnOrderedSpec : ChangeSpec := { name := "fnOrdered", fn := fun _ => fun
  | [d] => { results := [.lit (.bool true)], args := [d] }
  | _ => none }
def fnOrderedRow : OpenClaim := { program := "ytfcoobebebdniaa", sum := "934669ae14abc3019265b57be507db6fd4472bb94ea1fed1313f79316df611ff", func := "loop.example/groupmulticast/laws.FnOrdered", spec := "fnOrdered", unfollowed := true, recurses := true, apart := false }
def FnOrderedSaid : Prop := fnOrderedRow.holds Try.pinned (OpenSpec.ofChange fnOrderedSpec)

/-- ITS FALSE NEIGHBOUR: 'it returns false'. Refute it at one input. -/
def fnOrderedWrong : ChangeSpec := { name := "fnOrdered", fn := fun _ => fun
  | [d] => { results := [.lit (.bool false)], args := [d] }
  | _ => none }
def FnOrderedWrongFalsely : Prop := fnOrderedRow.holds Try.pinned (OpenSpec.ofChange fnOrderedWrong)

/-- 'laws.FnCreditsRound': WHATEVER THE INPUT: true; the input reads as it did. -/
def fnCreditsRoundSpec : ChangeSpec := { name := "fnCreditsRound", fn := fun _ => fun
  | [d] => { results := [.lit (.bool true)], args := [d] }
  | _ => none }
def fnCreditsRoundRow : OpenClaim := { program := "ytfcoobebebdniaa", sum := "934669ae14abc3019265b57be507db6fd4472bb94ea1fed1313f79316df611ff", func := "loop.example/groupmulticast/laws.FnCreditsRound", spec := "fnCreditsRound", unfollowed := true, recurses := true, apart := false }
def FnCreditsRoundSaid : Prop := fnCreditsRoundRow.holds Try.pinned (OpenSpec.ofChange fnCreditsRoundSpec)

/-- ITS FALSE NEIGHBOUR: 'it returns false'. Refute it at one input. -/
def fnCreditsRoundWrong : ChangeSpec := { name := "fnCreditsRound", fn := fun _ => fun
  | [d] => { results := [.lit (.bool false)], args := [d] }
  | _ => none }
def FnCreditsRoundWrongFalsely : Prop := fnCreditsRoundRow.holds Try.pinned (OpenSpec.ofChange fnCreditsRoundWrong)

/-- 'laws.FnStuckGive': WHATEVER THE INPUT: true; the input reads as it did. -/
def fnStuckGiveSpec : ChangeSpec := { name := "fnStuckGive", fn := fun _ => fun
  | [d] => { results := [.lit (.bool true)], args := [d] }
  | _ => none }
def fnStuckGiveRow : OpenClaim := { program := "ytfcoobebebdniaa", sum := "934669ae14abc3019265b57be507db6fd4472bb94ea1fed1313f79316df611ff", func := "loop.example/groupmulticast/laws.FnStuckGive", spec := "fnStuckGive", unfollowed := true, recurses := true, apart := false }
def FnStuckGiveSaid : Prop := fnStuckGiveRow.holds Try.pinned (OpenSpec.ofChange fnStuckGiveSpec)

/-- ITS FALSE NEIGHBOUR: 'it returns false'. Refute it at one input. -/
def fnStuckGiveWrong : ChangeSpec := { name := "fnStuckGive", fn := fun _ => fun
  | [d] => { results := [.lit (.bool false)], args := [d] }
  | _ => none }
def FnStuckGiveWrongFalsely : Prop := fnStuckGiveRow.holds Try.pinned (OpenSpec.ofChange fnStuckGiveWrong)

/- THE SECOND FORM. 'bulk': how many values and letters a reading holds, each counted each time it is reached (what is shared counts as often as it is met; a slice's spare places count too). A statement '..UptoSaid' is the law's where the arguments, and the package variables that the reading takes, are together of bulk at most 1048576: NARROWER than '..Said'. Prove '..Said' where nothing that the law and all that it calls make is longer than what came in: it says more and counts as full. Else prove '..UptoSaid'. A law counts once. -/
mutual
def uptoBulk {H : Type} : DataW H → Nat
  | .lit (.string bytes) => bytes.length + 1
  | .lit _ => 1
  | .nil => 1
  | .ptr d => uptoBulk d + 1
  | .slice elems spare => uptoBulkAll elems + uptoBulkAll spare + 1
  | .agg parts => uptoBulkAll parts + 1
  | .iface _ d => uptoBulk d + 1
  | .map entries => uptoBulkEntries entries + 1
  | .held _ => 1
def uptoBulkAll {H : Type} : List (DataW H) → Nat
  | [] => 0
  | d :: r => uptoBulk d + uptoBulkAll r
def uptoBulkEntries {H : Type} : List (Lit × DataW H) → Nat
  | [] => 0
  | x :: r => uptoBulkEntry x + uptoBulkEntries r
def uptoBulkEntry {H : Type} : Lit × DataW H → Nat
  | (.string bytes, d) => bytes.length + uptoBulk d + 1
  | (_, d) => uptoBulk d + 1
 end
def uptoSmall : (H : Type) → List (DataW H) → Bool := fun _ ds => decide (uptoBulkAll ds ≤ 1048576)
def OpenSpec.upto (s : _root_.Go.ChangeSpec) : _root_.Go.OpenSpec := { _root_.Go.OpenSpec.ofChange s with cond := some uptoSmall }

/-- 'laws.FnCreditsNew', WHERE WHAT IT READS IS OF BULK AT MOST 1048576: true; the input reads as it did. -/
def fnCreditsNewUptoRow : OpenClaim := { program := "ytfcoobebebdniaa", sum := "934669ae14abc3019265b57be507db6fd4472bb94ea1fed1313f79316df611ff", func := "loop.example/groupmulticast/laws.FnCreditsNew", spec := "fnCreditsNew", unfollowed := true, recurses := true, apart := false, narrowed := true }
def FnCreditsNewUptoSaid : Prop := fnCreditsNewUptoRow.holds Try.pinned (OpenSpec.upto fnCreditsNewSpec)

/-- 'laws.FnCreditsKept', WHERE WHAT IT READS IS OF BULK AT MOST 1048576: true; the input reads as it did. -/
def fnCreditsKeptUptoRow : OpenClaim := { program := "ytfcoobebebdniaa", sum := "934669ae14abc3019265b57be507db6fd4472bb94ea1fed1313f79316df611ff", func := "loop.example/groupmulticast/laws.FnCreditsKept", spec := "fnCreditsKept", unfollowed := true, recurses := true, apart := false, narrowed := true }
def FnCreditsKeptUptoSaid : Prop := fnCreditsKeptUptoRow.holds Try.pinned (OpenSpec.upto fnCreditsKeptSpec)

/-- 'laws.FnCreditsAsk', WHERE WHAT IT READS IS OF BULK AT MOST 1048576: true; the input reads as it did. -/
def fnCreditsAskUptoRow : OpenClaim := { program := "ytfcoobebebdniaa", sum := "934669ae14abc3019265b57be507db6fd4472bb94ea1fed1313f79316df611ff", func := "loop.example/groupmulticast/laws.FnCreditsAsk", spec := "fnCreditsAsk", unfollowed := true, recurses := true, apart := false, narrowed := true }
def FnCreditsAskUptoSaid : Prop := fnCreditsAskUptoRow.holds Try.pinned (OpenSpec.upto fnCreditsAskSpec)

/-- 'laws.FnCreditsAskRefused', WHERE WHAT IT READS IS OF BULK AT MOST 1048576: true; the input reads as it did. -/
def fnCreditsAskRefusedUptoRow : OpenClaim := { program := "ytfcoobebebdniaa", sum := "934669ae14abc3019265b57be507db6fd4472bb94ea1fed1313f79316df611ff", func := "loop.example/groupmulticast/laws.FnCreditsAskRefused", spec := "fnCreditsAskRefused", unfollowed := true, recurses := true, apart := false, narrowed := true }
def FnCreditsAskRefusedUptoSaid : Prop := fnCreditsAskRefusedUptoRow.holds Try.pinned (OpenSpec.upto fnCreditsAskRefusedSpec)

/-- 'laws.FnCreditsGive', WHERE WHAT IT READS IS OF BULK AT MOST 1048576: true; the input reads as it did. -/
def fnCreditsGiveUptoRow : OpenClaim := { program := "ytfcoobebebdniaa", sum := "934669ae14abc3019265b57be507db6fd4472bb94ea1fed1313f79316df611ff", func := "loop.example/groupmulticast/laws.FnCreditsGive", spec := "fnCreditsGive", unfollowed := true, recurses := true, apart := false, narrowed := true }
def FnCreditsGiveUptoSaid : Prop := fnCreditsGiveUptoRow.holds Try.pinned (OpenSpec.upto fnCreditsGiveSpec)

/-- 'laws.FnCreditsGiveRefused', WHERE WHAT IT READS IS OF BULK AT MOST 1048576: true; the input reads as it did. -/
def fnCreditsGiveRefusedUptoRow : OpenClaim := { program := "ytfcoobebebdniaa", sum := "934669ae14abc3019265b57be507db6fd4472bb94ea1fed1313f79316df611ff", func := "loop.example/groupmulticast/laws.FnCreditsGiveRefused", spec := "fnCreditsGiveRefused", unfollowed := true, recurses := true, apart := false, narrowed := true }
def FnCreditsGiveRefusedUptoSaid : Prop := fnCreditsGiveRefusedUptoRow.holds Try.pinned (OpenSpec.upto fnCreditsGiveRefusedSpec)

/-- 'laws.FnStuck', WHERE WHAT IT READS IS OF BULK AT MOST 1048576: true; the input reads as it did. -/
def fnStuckUptoRow : OpenClaim := { program := "ytfcoobebebdniaa", sum := "934669ae14abc3019265b57be507db6fd4472bb94ea1fed1313f79316df611ff", func := "loop.example/groupmulticast/laws.FnStuck", spec := "fnStuck", unfollowed := true, recurses := true, apart := false, narrowed := true }
def FnStuckUptoSaid : Prop := fnStuckUptoRow.holds Try.pinned (OpenSpec.upto fnStuckSpec)

/-- 'laws.FnStuckNever', WHERE WHAT IT READS IS OF BULK AT MOST 1048576: true; the input reads as it did. -/
def fnStuckNeverUptoRow : OpenClaim := { program := "ytfcoobebebdniaa", sum := "934669ae14abc3019265b57be507db6fd4472bb94ea1fed1313f79316df611ff", func := "loop.example/groupmulticast/laws.FnStuckNever", spec := "fnStuckNever", unfollowed := true, recurses := true, apart := false, narrowed := true }
def FnStuckNeverUptoSaid : Prop := fnStuckNeverUptoRow.holds Try.pinned (OpenSpec.upto fnStuckNeverSpec)

/-- 'laws.FnOrderedAsk', WHERE WHAT IT READS IS OF BULK AT MOST 1048576: true; the input reads as it did. -/
def fnOrderedAskUptoRow : OpenClaim := { program := "ytfcoobebebdniaa", sum := "934669ae14abc3019265b57be507db6fd4472bb94ea1fed1313f79316df611ff", func := "loop.example/groupmulticast/laws.FnOrderedAsk", spec := "fnOrderedAsk", unfollowed := true, recurses := true, apart := false, narrowed := true }
def FnOrderedAskUptoSaid : Prop := fnOrderedAskUptoRow.holds Try.pinned (OpenSpec.upto fnOrderedAskSpec)

/-- 'laws.FnOrderedGive', WHERE WHAT IT READS IS OF BULK AT MOST 1048576: true; the input reads as it did. -/
def fnOrderedGiveUptoRow : OpenClaim := { program := "ytfcoobebebdniaa", sum := "934669ae14abc3019265b57be507db6fd4472bb94ea1fed1313f79316df611ff", func := "loop.example/groupmulticast/laws.FnOrderedGive", spec := "fnOrderedGive", unfollowed := true, recurses := true, apart := false, narrowed := true }
def FnOrderedGiveUptoSaid : Prop := fnOrderedGiveUptoRow.holds Try.pinned (OpenSpec.upto fnOrderedGiveSpec)

/-- 'laws.FnOrdered', WHERE WHAT IT READS IS OF BULK AT MOST 1048576: true; the input reads as it did. -/
def fnOrderedUptoRow : OpenClaim := { program := "ytfcoobebebdniaa", sum := "934669ae14abc3019265b57be507db6fd4472bb94ea1fed1313f79316df611ff", func := "loop.example/groupmulticast/laws.FnOrdered", spec := "fnOrdered", unfollowed := true, recurses := true, apart := false, narrowed := true }
def FnOrderedUptoSaid : Prop := fnOrderedUptoRow.holds Try.pinned (OpenSpec.upto fnOrderedSpec)

/-- 'laws.FnCreditsRound', WHERE WHAT IT READS IS OF BULK AT MOST 1048576: true; the input reads as it did. -/
def fnCreditsRoundUptoRow : OpenClaim := { program := "ytfcoobebebdniaa", sum := "934669ae14abc3019265b57be507db6fd4472bb94ea1fed1313f79316df611ff", func := "loop.example/groupmulticast/laws.FnCreditsRound", spec := "fnCreditsRound", unfollowed := true, recurses := true, apart := false, narrowed := true }
def FnCreditsRoundUptoSaid : Prop := fnCreditsRoundUptoRow.holds Try.pinned (OpenSpec.upto fnCreditsRoundSpec)

/-- 'laws.FnStuckGive', WHERE WHAT IT READS IS OF BULK AT MOST 1048576: true; the input reads as it did. -/
def fnStuckGiveUptoRow : OpenClaim := { program := "ytfcoobebebdniaa", sum := "934669ae14abc3019265b57be507db6fd4472bb94ea1fed1313f79316df611ff", func := "loop.example/groupmulticast/laws.FnStuckGive", spec := "fnStuckGive", unfollowed := true, recurses := true, apart := false, narrowed := true }
def FnStuckGiveUptoSaid : Prop := fnStuckGiveUptoRow.holds Try.pinned (OpenSpec.upto fnStuckGiveSpec)

end Rows
end Go.Proofs.Ytfcoobebebdniaa
