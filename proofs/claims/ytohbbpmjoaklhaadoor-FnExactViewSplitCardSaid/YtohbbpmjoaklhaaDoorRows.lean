/-
  NARROWER THAN 'FOR EVERY INPUT', by the rows' own cells (each row's printed sentence says how): FnExactViewJoin: ifaces, laid · FnExactViewLeave: ifaces, laid · FnExactViewSplit: ifaces, laid · FnExactViewMerge: ifaces, laid · FnExactViewMajority: ifaces, laid.
  DERIVED. THE GIVEN ROWS OF THIS SEAT. 5 by the template 'for every input the law returns true; each argument reads behind the call as it read before'; 0 by the template 'total and deterministic' (their statements: YtohbbpmjoaklhaaDoorTotals.lean).
  GIVEN WITH THE SEED: the statements are not yours to turn. If you find one false, say at which input.
  Laid BY PROGRAM, IN A SANDBOX (cutbox-rows.mjs): the forced cells as the released guide's own fill.sh prints them over the translation 9191882bf2377dc5… (all of the seat's roots in one cut). By AI agents, Wed Nov 11 2026. No macro, syntax, notation, axiom, sorry.
-/
import Derived.Test.YtohbbpmjoaklhaaDoorChecked
import GoSem.Claim
import GoSem.ClaimJoined
import GoSem.ClaimMapViews
import Derived.JoinedTies
import Derived.KernelRfl
namespace Go.Proofs.YtohbbpmjoaklhaaDoor
/- THE CELL 'sum', in the pinned program and in every row, IS THE sha256 OF THE DUMP (.gsa) THAT YtohbbpmjoaklhaaDoorProg.lean LOADS. Nothing in Lean hashes anything: it is a label: what it is worth is what the hold of that sum in a sandbox is worth. -/
noncomputable def Tryd.pinned : Pinned := { name := "ytohbbpmjoaklhaadoor", sum := "9191882bf2377dc56366722bf3831a904982aeda45b9d7f0ea5ba133f37aaade", checked := Tryd.checked }
namespace Rows
def none {H : Type} : Left H := { results := [], args := [] }

/- WHAT THE LISTED PACKAGE-LEVEL VARIABLES READ AS WHEN THE CALL BEGINS. Each datum BY PROGRAM (the guide's laid-datum.mjs) off the statement by which the dump's own 'gosem.cut.vars' lays the variable. In a bare row this is a premise. The card (YtohbbpmjoaklhaaDoorCards.lean) ties it to the program's text. -/
def laid_loop_example_groupmulticast_impl_errNoView {H : Type} : DataW H := .iface "*errors.errorString" (.ptr (.agg [.lit (.string [116, 104, 101, 32, 118, 105, 101, 119, 32, 119, 111, 117, 108, 100, 32, 98, 101, 32, 105, 110, 118, 97, 108, 105, 100])]))
def laid_loop_example_groupmulticast_impl_errIsMember {H : Type} : DataW H := .iface "*errors.errorString" (.ptr (.agg [.lit (.string [97, 108, 114, 101, 97, 100, 121, 32, 97, 32, 109, 101, 109, 98, 101, 114])]))
def laid_loop_example_groupmulticast_impl_errNotMember {H : Type} : DataW H := .iface "*errors.errorString" (.ptr (.agg [.lit (.string [110, 111, 116, 32, 97, 32, 109, 101, 109, 98, 101, 114])]))

/-- 'laws.FnExactViewJoin': WHATEVER THE INPUT: true; the input reads as it did. -/
def fnExactViewJoinSpec : ChangeSpec := { name := "fnExactViewJoin", vars := ["loop.example/groupmulticast/impl.errIsMember", "loop.example/groupmulticast/impl.errNoView"], fn := fun _ => fun
  | [d1, d2, g1, g2] => { results := [.lit (.bool true)], args := [d1, d2], vars := [g1, g2] }
  | _ => none }
def fnExactViewJoinRow : OpenClaim := { program := "ytohbbpmjoaklhaadoor", sum := "9191882bf2377dc56366722bf3831a904982aeda45b9d7f0ea5ba133f37aaade", func := "loop.example/groupmulticast/laws.FnExactViewJoin", spec := "fnExactViewJoin", inPlace := ["internal/reflectlite.TypeOf"], unfollowed := true, recurses := true, named := ["loop.example/groupmulticast/impl.errIsMember", "loop.example/groupmulticast/impl.errNoView"], ifaces := true, apart := false, laid := [("loop.example/groupmulticast/impl.errNoView", laid_loop_example_groupmulticast_impl_errNoView), ("loop.example/groupmulticast/impl.errIsMember", laid_loop_example_groupmulticast_impl_errIsMember)] }
def FnExactViewJoinSaid : Prop := fnExactViewJoinRow.holds Tryd.pinned (OpenSpec.ofChange fnExactViewJoinSpec)

/-- ITS FALSE NEIGHBOUR: 'it returns false'. Refute it at one input. -/
def fnExactViewJoinWrong : ChangeSpec := { name := "fnExactViewJoin", vars := ["loop.example/groupmulticast/impl.errIsMember", "loop.example/groupmulticast/impl.errNoView"], fn := fun _ => fun
  | [d1, d2, g1, g2] => { results := [.lit (.bool false)], args := [d1, d2], vars := [g1, g2] }
  | _ => none }
def FnExactViewJoinWrongFalsely : Prop := fnExactViewJoinRow.holds Tryd.pinned (OpenSpec.ofChange fnExactViewJoinWrong)

/-- 'laws.FnExactViewLeave': WHATEVER THE INPUT: true; the input reads as it did. -/
def fnExactViewLeaveSpec : ChangeSpec := { name := "fnExactViewLeave", vars := ["loop.example/groupmulticast/impl.errNotMember", "loop.example/groupmulticast/impl.errNoView"], fn := fun _ => fun
  | [d1, d2, g1, g2] => { results := [.lit (.bool true)], args := [d1, d2], vars := [g1, g2] }
  | _ => none }
def fnExactViewLeaveRow : OpenClaim := { program := "ytohbbpmjoaklhaadoor", sum := "9191882bf2377dc56366722bf3831a904982aeda45b9d7f0ea5ba133f37aaade", func := "loop.example/groupmulticast/laws.FnExactViewLeave", spec := "fnExactViewLeave", inPlace := ["internal/reflectlite.TypeOf"], unfollowed := true, recurses := true, named := ["loop.example/groupmulticast/impl.errNotMember", "loop.example/groupmulticast/impl.errNoView"], ifaces := true, apart := false, laid := [("loop.example/groupmulticast/impl.errNoView", laid_loop_example_groupmulticast_impl_errNoView), ("loop.example/groupmulticast/impl.errNotMember", laid_loop_example_groupmulticast_impl_errNotMember)] }
def FnExactViewLeaveSaid : Prop := fnExactViewLeaveRow.holds Tryd.pinned (OpenSpec.ofChange fnExactViewLeaveSpec)

/-- ITS FALSE NEIGHBOUR: 'it returns false'. Refute it at one input. -/
def fnExactViewLeaveWrong : ChangeSpec := { name := "fnExactViewLeave", vars := ["loop.example/groupmulticast/impl.errNotMember", "loop.example/groupmulticast/impl.errNoView"], fn := fun _ => fun
  | [d1, d2, g1, g2] => { results := [.lit (.bool false)], args := [d1, d2], vars := [g1, g2] }
  | _ => none }
def FnExactViewLeaveWrongFalsely : Prop := fnExactViewLeaveRow.holds Tryd.pinned (OpenSpec.ofChange fnExactViewLeaveWrong)

/-- 'laws.FnExactViewSplit': WHATEVER THE INPUT: true; the input reads as it did. -/
def fnExactViewSplitSpec : ChangeSpec := { name := "fnExactViewSplit", vars := ["loop.example/groupmulticast/impl.errNoView"], fn := fun _ => fun
  | [d1, d2, g1] => { results := [.lit (.bool true)], args := [d1, d2], vars := [g1] }
  | _ => none }
def fnExactViewSplitRow : OpenClaim := { program := "ytohbbpmjoaklhaadoor", sum := "9191882bf2377dc56366722bf3831a904982aeda45b9d7f0ea5ba133f37aaade", func := "loop.example/groupmulticast/laws.FnExactViewSplit", spec := "fnExactViewSplit", inPlace := ["internal/reflectlite.TypeOf"], unfollowed := true, recurses := true, named := ["loop.example/groupmulticast/impl.errNoView"], ifaces := true, apart := false, laid := [("loop.example/groupmulticast/impl.errNoView", laid_loop_example_groupmulticast_impl_errNoView)] }
def FnExactViewSplitSaid : Prop := fnExactViewSplitRow.holds Tryd.pinned (OpenSpec.ofChange fnExactViewSplitSpec)

/-- ITS FALSE NEIGHBOUR: 'it returns false'. Refute it at one input. -/
def fnExactViewSplitWrong : ChangeSpec := { name := "fnExactViewSplit", vars := ["loop.example/groupmulticast/impl.errNoView"], fn := fun _ => fun
  | [d1, d2, g1] => { results := [.lit (.bool false)], args := [d1, d2], vars := [g1] }
  | _ => none }
def FnExactViewSplitWrongFalsely : Prop := fnExactViewSplitRow.holds Tryd.pinned (OpenSpec.ofChange fnExactViewSplitWrong)

/-- 'laws.FnExactViewMerge': WHATEVER THE INPUT: true; the input reads as it did. -/
def fnExactViewMergeSpec : ChangeSpec := { name := "fnExactViewMerge", vars := ["loop.example/groupmulticast/impl.errIsMember", "loop.example/groupmulticast/impl.errNoView"], fn := fun _ => fun
  | [d1, d2, g1, g2] => { results := [.lit (.bool true)], args := [d1, d2], vars := [g1, g2] }
  | _ => none }
def fnExactViewMergeRow : OpenClaim := { program := "ytohbbpmjoaklhaadoor", sum := "9191882bf2377dc56366722bf3831a904982aeda45b9d7f0ea5ba133f37aaade", func := "loop.example/groupmulticast/laws.FnExactViewMerge", spec := "fnExactViewMerge", inPlace := ["internal/reflectlite.TypeOf"], unfollowed := true, recurses := true, named := ["loop.example/groupmulticast/impl.errIsMember", "loop.example/groupmulticast/impl.errNoView"], ifaces := true, apart := false, laid := [("loop.example/groupmulticast/impl.errNoView", laid_loop_example_groupmulticast_impl_errNoView), ("loop.example/groupmulticast/impl.errIsMember", laid_loop_example_groupmulticast_impl_errIsMember)] }
def FnExactViewMergeSaid : Prop := fnExactViewMergeRow.holds Tryd.pinned (OpenSpec.ofChange fnExactViewMergeSpec)

/-- ITS FALSE NEIGHBOUR: 'it returns false'. Refute it at one input. -/
def fnExactViewMergeWrong : ChangeSpec := { name := "fnExactViewMerge", vars := ["loop.example/groupmulticast/impl.errIsMember", "loop.example/groupmulticast/impl.errNoView"], fn := fun _ => fun
  | [d1, d2, g1, g2] => { results := [.lit (.bool false)], args := [d1, d2], vars := [g1, g2] }
  | _ => none }
def FnExactViewMergeWrongFalsely : Prop := fnExactViewMergeRow.holds Tryd.pinned (OpenSpec.ofChange fnExactViewMergeWrong)

/-- 'laws.FnExactViewMajority': WHATEVER THE INPUT: true; the input reads as it did. -/
def fnExactViewMajoritySpec : ChangeSpec := { name := "fnExactViewMajority", vars := ["loop.example/groupmulticast/impl.errNotMember"], fn := fun _ => fun
  | [d1, d2, g1] => { results := [.lit (.bool true)], args := [d1, d2], vars := [g1] }
  | _ => none }
def fnExactViewMajorityRow : OpenClaim := { program := "ytohbbpmjoaklhaadoor", sum := "9191882bf2377dc56366722bf3831a904982aeda45b9d7f0ea5ba133f37aaade", func := "loop.example/groupmulticast/laws.FnExactViewMajority", spec := "fnExactViewMajority", inPlace := ["internal/reflectlite.TypeOf"], unfollowed := true, recurses := true, named := ["loop.example/groupmulticast/impl.errNotMember"], ifaces := true, apart := false, laid := [("loop.example/groupmulticast/impl.errNotMember", laid_loop_example_groupmulticast_impl_errNotMember)] }
def FnExactViewMajoritySaid : Prop := fnExactViewMajorityRow.holds Tryd.pinned (OpenSpec.ofChange fnExactViewMajoritySpec)

/-- ITS FALSE NEIGHBOUR: 'it returns false'. Refute it at one input. -/
def fnExactViewMajorityWrong : ChangeSpec := { name := "fnExactViewMajority", vars := ["loop.example/groupmulticast/impl.errNotMember"], fn := fun _ => fun
  | [d1, d2, g1] => { results := [.lit (.bool false)], args := [d1, d2], vars := [g1] }
  | _ => none }
def FnExactViewMajorityWrongFalsely : Prop := fnExactViewMajorityRow.holds Tryd.pinned (OpenSpec.ofChange fnExactViewMajorityWrong)

/- THE SECOND FORM. 'bulk': how many values and letters a reading holds, each counted each time it is reached (what is shared counts as often as it is met; a slice's spare places count too). A statement '..UptoSaid' is the law's where the arguments, and the package variables that the reading takes, are together of bulk at most 1048576: NARROWER than '..Said'. Prove '..Said' where nothing that the law and all that it calls make is longer than what came in: it says more and counts as full. Else prove '..UptoSaid'. A law counts once. -/
mutual
def uptoBulk {H : Type} : DataW H → Nat
  | .lit (.string bytes) => bytes.length + 1
  | .lit _ => 1
  | .nil => 1
  | .ptr d => uptoBulk d + 1
  | .slice elems spare => uptoBulkAll elems + uptoBulkAll spare + 1
  | .agg parts => uptoBulkAll parts + 1
  | .iface _ d => uptoBulk d + 1
  | .map entries => uptoBulkEntries entries + 1
  | .held _ => 1
def uptoBulkAll {H : Type} : List (DataW H) → Nat
  | [] => 0
  | d :: r => uptoBulk d + uptoBulkAll r
def uptoBulkEntries {H : Type} : List (Lit × DataW H) → Nat
  | [] => 0
  | x :: r => uptoBulkEntry x + uptoBulkEntries r
def uptoBulkEntry {H : Type} : Lit × DataW H → Nat
  | (.string bytes, d) => bytes.length + uptoBulk d + 1
  | (_, d) => uptoBulk d + 1
 end
def uptoSmall : (H : Type) → List (DataW H) → Bool := fun _ ds => decide (uptoBulkAll ds ≤ 1048576)
def OpenSpec.upto (s : _root_.Go.ChangeSpec) : _root_.Go.OpenSpec := { _root_.Go.OpenSpec.ofChange s with cond := some uptoSmall }

/-- 'laws.FnExactViewJoin', WHERE WHAT IT READS IS OF BULK AT MOST 1048576: true; the input reads as it did. -/
def fnExactViewJoinUptoRow : OpenClaim := { program := "ytohbbpmjoaklhaadoor", sum := "9191882bf2377dc56366722bf3831a904982aeda45b9d7f0ea5ba133f37aaade", func := "loop.example/groupmulticast/laws.FnExactViewJoin", spec := "fnExactViewJoin", inPlace := ["internal/reflectlite.TypeOf"], unfollowed := true, recurses := true, named := ["loop.example/groupmulticast/impl.errIsMember", "loop.example/groupmulticast/impl.errNoView"], ifaces := true, apart := false, laid := [("loop.example/groupmulticast/impl.errNoView", laid_loop_example_groupmulticast_impl_errNoView), ("loop.example/groupmulticast/impl.errIsMember", laid_loop_example_groupmulticast_impl_errIsMember)], narrowed := true }
def FnExactViewJoinUptoSaid : Prop := fnExactViewJoinUptoRow.holds Tryd.pinned (OpenSpec.upto fnExactViewJoinSpec)

/-- 'laws.FnExactViewLeave', WHERE WHAT IT READS IS OF BULK AT MOST 1048576: true; the input reads as it did. -/
def fnExactViewLeaveUptoRow : OpenClaim := { program := "ytohbbpmjoaklhaadoor", sum := "9191882bf2377dc56366722bf3831a904982aeda45b9d7f0ea5ba133f37aaade", func := "loop.example/groupmulticast/laws.FnExactViewLeave", spec := "fnExactViewLeave", inPlace := ["internal/reflectlite.TypeOf"], unfollowed := true, recurses := true, named := ["loop.example/groupmulticast/impl.errNotMember", "loop.example/groupmulticast/impl.errNoView"], ifaces := true, apart := false, laid := [("loop.example/groupmulticast/impl.errNoView", laid_loop_example_groupmulticast_impl_errNoView), ("loop.example/groupmulticast/impl.errNotMember", laid_loop_example_groupmulticast_impl_errNotMember)], narrowed := true }
def FnExactViewLeaveUptoSaid : Prop := fnExactViewLeaveUptoRow.holds Tryd.pinned (OpenSpec.upto fnExactViewLeaveSpec)

/-- 'laws.FnExactViewSplit', WHERE WHAT IT READS IS OF BULK AT MOST 1048576: true; the input reads as it did. -/
def fnExactViewSplitUptoRow : OpenClaim := { program := "ytohbbpmjoaklhaadoor", sum := "9191882bf2377dc56366722bf3831a904982aeda45b9d7f0ea5ba133f37aaade", func := "loop.example/groupmulticast/laws.FnExactViewSplit", spec := "fnExactViewSplit", inPlace := ["internal/reflectlite.TypeOf"], unfollowed := true, recurses := true, named := ["loop.example/groupmulticast/impl.errNoView"], ifaces := true, apart := false, laid := [("loop.example/groupmulticast/impl.errNoView", laid_loop_example_groupmulticast_impl_errNoView)], narrowed := true }
def FnExactViewSplitUptoSaid : Prop := fnExactViewSplitUptoRow.holds Tryd.pinned (OpenSpec.upto fnExactViewSplitSpec)

/-- 'laws.FnExactViewMerge', WHERE WHAT IT READS IS OF BULK AT MOST 1048576: true; the input reads as it did. -/
def fnExactViewMergeUptoRow : OpenClaim := { program := "ytohbbpmjoaklhaadoor", sum := "9191882bf2377dc56366722bf3831a904982aeda45b9d7f0ea5ba133f37aaade", func := "loop.example/groupmulticast/laws.FnExactViewMerge", spec := "fnExactViewMerge", inPlace := ["internal/reflectlite.TypeOf"], unfollowed := true, recurses := true, named := ["loop.example/groupmulticast/impl.errIsMember", "loop.example/groupmulticast/impl.errNoView"], ifaces := true, apart := false, laid := [("loop.example/groupmulticast/impl.errNoView", laid_loop_example_groupmulticast_impl_errNoView), ("loop.example/groupmulticast/impl.errIsMember", laid_loop_example_groupmulticast_impl_errIsMember)], narrowed := true }
def FnExactViewMergeUptoSaid : Prop := fnExactViewMergeUptoRow.holds Tryd.pinned (OpenSpec.upto fnExactViewMergeSpec)

/-- 'laws.FnExactViewMajority', WHERE WHAT IT READS IS OF BULK AT MOST 1048576: true; the input reads as it did. -/
def fnExactViewMajorityUptoRow : OpenClaim := { program := "ytohbbpmjoaklhaadoor", sum := "9191882bf2377dc56366722bf3831a904982aeda45b9d7f0ea5ba133f37aaade", func := "loop.example/groupmulticast/laws.FnExactViewMajority", spec := "fnExactViewMajority", inPlace := ["internal/reflectlite.TypeOf"], unfollowed := true, recurses := true, named := ["loop.example/groupmulticast/impl.errNotMember"], ifaces := true, apart := false, laid := [("loop.example/groupmulticast/impl.errNotMember", laid_loop_example_groupmulticast_impl_errNotMember)], narrowed := true }
def FnExactViewMajorityUptoSaid : Prop := fnExactViewMajorityUptoRow.holds Tryd.pinned (OpenSpec.upto fnExactViewMajoritySpec)

end Rows
end Go.Proofs.YtohbbpmjoaklhaaDoor
