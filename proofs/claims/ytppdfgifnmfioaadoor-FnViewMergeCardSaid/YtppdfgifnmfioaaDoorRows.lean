/-
  NARROWER THAN 'FOR EVERY INPUT', by the rows' own cells (each row's printed sentence says how): FnViewJoin: ifaces, laid · FnViewLeave: ifaces, laid · FnViewBack: ifaces, laid · FnViewMajority: ifaces, laid · FnViewMajorityNext: ifaces, laid · FnViewSplit: ifaces, laid · FnViewSplitMerge: ifaces, laid · FnViewMerge: ifaces, laid · FnViewJoinOrder: ifaces, laid · FnViewAlone: ifaces, laid.
  DERIVED. THE GIVEN ROWS OF THIS SEAT. 10 by the template 'for every input the law returns true; each argument reads behind the call as it read before'; 0 by the template 'total and deterministic' (their statements: YtppdfgifnmfioaaDoorTotals.lean).
  GIVEN WITH THE SEED: the statements are not yours to turn. If you find one false, say at which input.
  Laid BY PROGRAM, IN A SANDBOX (cutbox-rows.mjs): the forced cells as the released guide's own fill.sh prints them over the translation 571b53508ad3d26f… (all of the seat's roots in one cut). By AI agents, Wed Nov 11 2026. No macro, syntax, notation, axiom, sorry.
-/
import Derived.Test.YtppdfgifnmfioaaDoorChecked
import GoSem.Claim
import GoSem.ClaimJoined
import GoSem.ClaimMapViews
import Derived.JoinedTies
import Derived.KernelRfl
namespace Go.Proofs.YtppdfgifnmfioaaDoor
/- THE CELL 'sum', in the pinned program and in every row, IS THE sha256 OF THE DUMP (.gsa) THAT YtppdfgifnmfioaaDoorProg.lean LOADS. Nothing in Lean hashes anything: it is a label: what it is worth is what the hold of that sum in a sandbox is worth. -/
noncomputable def Tryd.pinned : Pinned := { name := "ytppdfgifnmfioaadoor", sum := "571b53508ad3d26fdae33f97c191747ac5650c1e9915844c1e0419fac754eb06", checked := Tryd.checked }
namespace Rows
def none {H : Type} : Left H := { results := [], args := [] }

/- WHAT THE LISTED PACKAGE-LEVEL VARIABLES READ AS WHEN THE CALL BEGINS. Each datum BY PROGRAM (the guide's laid-datum.mjs) off the statement by which the dump's own 'gosem.cut.vars' lays the variable. In a bare row this is a premise. The card (YtppdfgifnmfioaaDoorCards.lean) ties it to the program's text. -/
def laid_loop_example_groupmulticast_impl_errNoView {H : Type} : DataW H := .iface "*errors.errorString" (.ptr (.agg [.lit (.string [116, 104, 101, 32, 118, 105, 101, 119, 32, 119, 111, 117, 108, 100, 32, 98, 101, 32, 105, 110, 118, 97, 108, 105, 100])]))
def laid_loop_example_groupmulticast_impl_errIsMember {H : Type} : DataW H := .iface "*errors.errorString" (.ptr (.agg [.lit (.string [97, 108, 114, 101, 97, 100, 121, 32, 97, 32, 109, 101, 109, 98, 101, 114])]))
def laid_loop_example_groupmulticast_impl_errNotMember {H : Type} : DataW H := .iface "*errors.errorString" (.ptr (.agg [.lit (.string [110, 111, 116, 32, 97, 32, 109, 101, 109, 98, 101, 114])]))

/-- 'laws.FnViewJoin': WHATEVER THE INPUT: true; the input reads as it did. -/
def fnViewJoinSpec : ChangeSpec := { name := "fnViewJoin", vars := ["loop.example/groupmulticast/impl.errIsMember", "loop.example/groupmulticast/impl.errNoView"], fn := fun _ => fun
  | [d, g1, g2] => { results := [.lit (.bool true)], args := [d], vars := [g1, g2] }
  | _ => none }
def fnViewJoinRow : OpenClaim := { program := "ytppdfgifnmfioaadoor", sum := "571b53508ad3d26fdae33f97c191747ac5650c1e9915844c1e0419fac754eb06", func := "loop.example/groupmulticast/laws.FnViewJoin", spec := "fnViewJoin", inPlace := ["internal/reflectlite.TypeOf"], unfollowed := true, recurses := true, named := ["loop.example/groupmulticast/impl.errIsMember", "loop.example/groupmulticast/impl.errNoView"], ifaces := true, apart := false, laid := [("loop.example/groupmulticast/impl.errNoView", laid_loop_example_groupmulticast_impl_errNoView), ("loop.example/groupmulticast/impl.errIsMember", laid_loop_example_groupmulticast_impl_errIsMember)] }
def FnViewJoinSaid : Prop := fnViewJoinRow.holds Tryd.pinned (OpenSpec.ofChange fnViewJoinSpec)

/-- ITS FALSE NEIGHBOUR: 'it returns false'. Refute it at one input. -/
def fnViewJoinWrong : ChangeSpec := { name := "fnViewJoin", vars := ["loop.example/groupmulticast/impl.errIsMember", "loop.example/groupmulticast/impl.errNoView"], fn := fun _ => fun
  | [d, g1, g2] => { results := [.lit (.bool false)], args := [d], vars := [g1, g2] }
  | _ => none }
def FnViewJoinWrongFalsely : Prop := fnViewJoinRow.holds Tryd.pinned (OpenSpec.ofChange fnViewJoinWrong)

/-- 'laws.FnViewLeave': WHATEVER THE INPUT: true; the input reads as it did. -/
def fnViewLeaveSpec : ChangeSpec := { name := "fnViewLeave", vars := ["loop.example/groupmulticast/impl.errNotMember", "loop.example/groupmulticast/impl.errNoView"], fn := fun _ => fun
  | [d, g1, g2] => { results := [.lit (.bool true)], args := [d], vars := [g1, g2] }
  | _ => none }
def fnViewLeaveRow : OpenClaim := { program := "ytppdfgifnmfioaadoor", sum := "571b53508ad3d26fdae33f97c191747ac5650c1e9915844c1e0419fac754eb06", func := "loop.example/groupmulticast/laws.FnViewLeave", spec := "fnViewLeave", inPlace := ["internal/reflectlite.TypeOf"], unfollowed := true, recurses := true, named := ["loop.example/groupmulticast/impl.errNotMember", "loop.example/groupmulticast/impl.errNoView"], ifaces := true, apart := false, laid := [("loop.example/groupmulticast/impl.errNoView", laid_loop_example_groupmulticast_impl_errNoView), ("loop.example/groupmulticast/impl.errNotMember", laid_loop_example_groupmulticast_impl_errNotMember)] }
def FnViewLeaveSaid : Prop := fnViewLeaveRow.holds Tryd.pinned (OpenSpec.ofChange fnViewLeaveSpec)

/-- ITS FALSE NEIGHBOUR: 'it returns false'. Refute it at one input. -/
def fnViewLeaveWrong : ChangeSpec := { name := "fnViewLeave", vars := ["loop.example/groupmulticast/impl.errNotMember", "loop.example/groupmulticast/impl.errNoView"], fn := fun _ => fun
  | [d, g1, g2] => { results := [.lit (.bool false)], args := [d], vars := [g1, g2] }
  | _ => none }
def FnViewLeaveWrongFalsely : Prop := fnViewLeaveRow.holds Tryd.pinned (OpenSpec.ofChange fnViewLeaveWrong)

/-- 'laws.FnViewBack': WHATEVER THE INPUT: true; the input reads as it did. -/
def fnViewBackSpec : ChangeSpec := { name := "fnViewBack", vars := ["loop.example/groupmulticast/impl.errNotMember", "loop.example/groupmulticast/impl.errNoView", "loop.example/groupmulticast/impl.errIsMember"], fn := fun _ => fun
  | [d, g1, g2, g3] => { results := [.lit (.bool true)], args := [d], vars := [g1, g2, g3] }
  | _ => none }
def fnViewBackRow : OpenClaim := { program := "ytppdfgifnmfioaadoor", sum := "571b53508ad3d26fdae33f97c191747ac5650c1e9915844c1e0419fac754eb06", func := "loop.example/groupmulticast/laws.FnViewBack", spec := "fnViewBack", inPlace := ["internal/reflectlite.TypeOf"], unfollowed := true, recurses := true, named := ["loop.example/groupmulticast/impl.errNotMember", "loop.example/groupmulticast/impl.errNoView", "loop.example/groupmulticast/impl.errIsMember"], ifaces := true, apart := false, laid := [("loop.example/groupmulticast/impl.errNoView", laid_loop_example_groupmulticast_impl_errNoView), ("loop.example/groupmulticast/impl.errIsMember", laid_loop_example_groupmulticast_impl_errIsMember), ("loop.example/groupmulticast/impl.errNotMember", laid_loop_example_groupmulticast_impl_errNotMember)] }
def FnViewBackSaid : Prop := fnViewBackRow.holds Tryd.pinned (OpenSpec.ofChange fnViewBackSpec)

/-- ITS FALSE NEIGHBOUR: 'it returns false'. Refute it at one input. -/
def fnViewBackWrong : ChangeSpec := { name := "fnViewBack", vars := ["loop.example/groupmulticast/impl.errNotMember", "loop.example/groupmulticast/impl.errNoView", "loop.example/groupmulticast/impl.errIsMember"], fn := fun _ => fun
  | [d, g1, g2, g3] => { results := [.lit (.bool false)], args := [d], vars := [g1, g2, g3] }
  | _ => none }
def FnViewBackWrongFalsely : Prop := fnViewBackRow.holds Tryd.pinned (OpenSpec.ofChange fnViewBackWrong)

/-- 'laws.FnViewMajority': WHATEVER THE INPUT: true; the input reads as it did. -/
def fnViewMajoritySpec : ChangeSpec := { name := "fnViewMajority", vars := ["loop.example/groupmulticast/impl.errNotMember"], fn := fun _ => fun
  | [d1, d2, g1] => { results := [.lit (.bool true)], args := [d1, d2], vars := [g1] }
  | _ => none }
def fnViewMajorityRow : OpenClaim := { program := "ytppdfgifnmfioaadoor", sum := "571b53508ad3d26fdae33f97c191747ac5650c1e9915844c1e0419fac754eb06", func := "loop.example/groupmulticast/laws.FnViewMajority", spec := "fnViewMajority", inPlace := ["internal/reflectlite.TypeOf"], unfollowed := true, recurses := true, named := ["loop.example/groupmulticast/impl.errNotMember"], ifaces := true, apart := false, laid := [("loop.example/groupmulticast/impl.errNotMember", laid_loop_example_groupmulticast_impl_errNotMember)] }
def FnViewMajoritySaid : Prop := fnViewMajorityRow.holds Tryd.pinned (OpenSpec.ofChange fnViewMajoritySpec)

/-- ITS FALSE NEIGHBOUR: 'it returns false'. Refute it at one input. -/
def fnViewMajorityWrong : ChangeSpec := { name := "fnViewMajority", vars := ["loop.example/groupmulticast/impl.errNotMember"], fn := fun _ => fun
  | [d1, d2, g1] => { results := [.lit (.bool false)], args := [d1, d2], vars := [g1] }
  | _ => none }
def FnViewMajorityWrongFalsely : Prop := fnViewMajorityRow.holds Tryd.pinned (OpenSpec.ofChange fnViewMajorityWrong)

/-- 'laws.FnViewMajorityNext': WHATEVER THE INPUT: true; the input reads as it did. -/
def fnViewMajorityNextSpec : ChangeSpec := { name := "fnViewMajorityNext", vars := ["loop.example/groupmulticast/impl.errIsMember", "loop.example/groupmulticast/impl.errNoView", "loop.example/groupmulticast/impl.errNotMember"], fn := fun _ => fun
  | [d1, d2, g1, g2, g3] => { results := [.lit (.bool true)], args := [d1, d2], vars := [g1, g2, g3] }
  | _ => none }
def fnViewMajorityNextRow : OpenClaim := { program := "ytppdfgifnmfioaadoor", sum := "571b53508ad3d26fdae33f97c191747ac5650c1e9915844c1e0419fac754eb06", func := "loop.example/groupmulticast/laws.FnViewMajorityNext", spec := "fnViewMajorityNext", inPlace := ["internal/reflectlite.TypeOf"], unfollowed := true, recurses := true, named := ["loop.example/groupmulticast/impl.errIsMember", "loop.example/groupmulticast/impl.errNoView", "loop.example/groupmulticast/impl.errNotMember"], ifaces := true, apart := false, laid := [("loop.example/groupmulticast/impl.errNoView", laid_loop_example_groupmulticast_impl_errNoView), ("loop.example/groupmulticast/impl.errIsMember", laid_loop_example_groupmulticast_impl_errIsMember), ("loop.example/groupmulticast/impl.errNotMember", laid_loop_example_groupmulticast_impl_errNotMember)] }
def FnViewMajorityNextSaid : Prop := fnViewMajorityNextRow.holds Tryd.pinned (OpenSpec.ofChange fnViewMajorityNextSpec)

/-- ITS FALSE NEIGHBOUR: 'it returns false'. Refute it at one input. -/
def fnViewMajorityNextWrong : ChangeSpec := { name := "fnViewMajorityNext", vars := ["loop.example/groupmulticast/impl.errIsMember", "loop.example/groupmulticast/impl.errNoView", "loop.example/groupmulticast/impl.errNotMember"], fn := fun _ => fun
  | [d1, d2, g1, g2, g3] => { results := [.lit (.bool false)], args := [d1, d2], vars := [g1, g2, g3] }
  | _ => none }
def FnViewMajorityNextWrongFalsely : Prop := fnViewMajorityNextRow.holds Tryd.pinned (OpenSpec.ofChange fnViewMajorityNextWrong)

/-- 'laws.FnViewSplit': WHATEVER THE INPUT: true; the input reads as it did. -/
def fnViewSplitSpec : ChangeSpec := { name := "fnViewSplit", vars := ["loop.example/groupmulticast/impl.errNoView"], fn := fun _ => fun
  | [d, g1] => { results := [.lit (.bool true)], args := [d], vars := [g1] }
  | _ => none }
def fnViewSplitRow : OpenClaim := { program := "ytppdfgifnmfioaadoor", sum := "571b53508ad3d26fdae33f97c191747ac5650c1e9915844c1e0419fac754eb06", func := "loop.example/groupmulticast/laws.FnViewSplit", spec := "fnViewSplit", inPlace := ["internal/reflectlite.TypeOf"], unfollowed := true, recurses := true, named := ["loop.example/groupmulticast/impl.errNoView"], ifaces := true, apart := false, laid := [("loop.example/groupmulticast/impl.errNoView", laid_loop_example_groupmulticast_impl_errNoView)] }
def FnViewSplitSaid : Prop := fnViewSplitRow.holds Tryd.pinned (OpenSpec.ofChange fnViewSplitSpec)

/-- ITS FALSE NEIGHBOUR: 'it returns false'. Refute it at one input. -/
def fnViewSplitWrong : ChangeSpec := { name := "fnViewSplit", vars := ["loop.example/groupmulticast/impl.errNoView"], fn := fun _ => fun
  | [d, g1] => { results := [.lit (.bool false)], args := [d], vars := [g1] }
  | _ => none }
def FnViewSplitWrongFalsely : Prop := fnViewSplitRow.holds Tryd.pinned (OpenSpec.ofChange fnViewSplitWrong)

/-- 'laws.FnViewSplitMerge': WHATEVER THE INPUT: true; the input reads as it did. -/
def fnViewSplitMergeSpec : ChangeSpec := { name := "fnViewSplitMerge", vars := ["loop.example/groupmulticast/impl.errNoView", "loop.example/groupmulticast/impl.errIsMember"], fn := fun _ => fun
  | [d, g1, g2] => { results := [.lit (.bool true)], args := [d], vars := [g1, g2] }
  | _ => none }
def fnViewSplitMergeRow : OpenClaim := { program := "ytppdfgifnmfioaadoor", sum := "571b53508ad3d26fdae33f97c191747ac5650c1e9915844c1e0419fac754eb06", func := "loop.example/groupmulticast/laws.FnViewSplitMerge", spec := "fnViewSplitMerge", inPlace := ["internal/reflectlite.TypeOf"], unfollowed := true, recurses := true, named := ["loop.example/groupmulticast/impl.errNoView", "loop.example/groupmulticast/impl.errIsMember"], ifaces := true, apart := false, laid := [("loop.example/groupmulticast/impl.errNoView", laid_loop_example_groupmulticast_impl_errNoView), ("loop.example/groupmulticast/impl.errIsMember", laid_loop_example_groupmulticast_impl_errIsMember)] }
def FnViewSplitMergeSaid : Prop := fnViewSplitMergeRow.holds Tryd.pinned (OpenSpec.ofChange fnViewSplitMergeSpec)

/-- ITS FALSE NEIGHBOUR: 'it returns false'. Refute it at one input. -/
def fnViewSplitMergeWrong : ChangeSpec := { name := "fnViewSplitMerge", vars := ["loop.example/groupmulticast/impl.errNoView", "loop.example/groupmulticast/impl.errIsMember"], fn := fun _ => fun
  | [d, g1, g2] => { results := [.lit (.bool false)], args := [d], vars := [g1, g2] }
  | _ => none }
def FnViewSplitMergeWrongFalsely : Prop := fnViewSplitMergeRow.holds Tryd.pinned (OpenSpec.ofChange fnViewSplitMergeWrong)

/-- 'laws.FnViewMerge': WHATEVER THE INPUT: true; the input reads as it did. -/
def fnViewMergeSpec : ChangeSpec := { name := "fnViewMerge", vars := ["loop.example/groupmulticast/impl.errIsMember", "loop.example/groupmulticast/impl.errNoView"], fn := fun _ => fun
  | [d, g1, g2] => { results := [.lit (.bool true)], args := [d], vars := [g1, g2] }
  | _ => none }
def fnViewMergeRow : OpenClaim := { program := "ytppdfgifnmfioaadoor", sum := "571b53508ad3d26fdae33f97c191747ac5650c1e9915844c1e0419fac754eb06", func := "loop.example/groupmulticast/laws.FnViewMerge", spec := "fnViewMerge", inPlace := ["internal/reflectlite.TypeOf"], unfollowed := true, recurses := true, named := ["loop.example/groupmulticast/impl.errIsMember", "loop.example/groupmulticast/impl.errNoView"], ifaces := true, apart := false, laid := [("loop.example/groupmulticast/impl.errNoView", laid_loop_example_groupmulticast_impl_errNoView), ("loop.example/groupmulticast/impl.errIsMember", laid_loop_example_groupmulticast_impl_errIsMember)] }
def FnViewMergeSaid : Prop := fnViewMergeRow.holds Tryd.pinned (OpenSpec.ofChange fnViewMergeSpec)

/-- ITS FALSE NEIGHBOUR: 'it returns false'. Refute it at one input. -/
def fnViewMergeWrong : ChangeSpec := { name := "fnViewMerge", vars := ["loop.example/groupmulticast/impl.errIsMember", "loop.example/groupmulticast/impl.errNoView"], fn := fun _ => fun
  | [d, g1, g2] => { results := [.lit (.bool false)], args := [d], vars := [g1, g2] }
  | _ => none }
def FnViewMergeWrongFalsely : Prop := fnViewMergeRow.holds Tryd.pinned (OpenSpec.ofChange fnViewMergeWrong)

/-- 'laws.FnViewJoinOrder': WHATEVER THE INPUT: true; the input reads as it did. -/
def fnViewJoinOrderSpec : ChangeSpec := { name := "fnViewJoinOrder", vars := ["loop.example/groupmulticast/impl.errIsMember", "loop.example/groupmulticast/impl.errNoView"], fn := fun _ => fun
  | [d1, d2, g1, g2] => { results := [.lit (.bool true)], args := [d1, d2], vars := [g1, g2] }
  | _ => none }
def fnViewJoinOrderRow : OpenClaim := { program := "ytppdfgifnmfioaadoor", sum := "571b53508ad3d26fdae33f97c191747ac5650c1e9915844c1e0419fac754eb06", func := "loop.example/groupmulticast/laws.FnViewJoinOrder", spec := "fnViewJoinOrder", inPlace := ["internal/reflectlite.TypeOf"], unfollowed := true, recurses := true, named := ["loop.example/groupmulticast/impl.errIsMember", "loop.example/groupmulticast/impl.errNoView"], ifaces := true, apart := false, laid := [("loop.example/groupmulticast/impl.errNoView", laid_loop_example_groupmulticast_impl_errNoView), ("loop.example/groupmulticast/impl.errIsMember", laid_loop_example_groupmulticast_impl_errIsMember)] }
def FnViewJoinOrderSaid : Prop := fnViewJoinOrderRow.holds Tryd.pinned (OpenSpec.ofChange fnViewJoinOrderSpec)

/-- ITS FALSE NEIGHBOUR: 'it returns false'. Refute it at one input. -/
def fnViewJoinOrderWrong : ChangeSpec := { name := "fnViewJoinOrder", vars := ["loop.example/groupmulticast/impl.errIsMember", "loop.example/groupmulticast/impl.errNoView"], fn := fun _ => fun
  | [d1, d2, g1, g2] => { results := [.lit (.bool false)], args := [d1, d2], vars := [g1, g2] }
  | _ => none }
def FnViewJoinOrderWrongFalsely : Prop := fnViewJoinOrderRow.holds Tryd.pinned (OpenSpec.ofChange fnViewJoinOrderWrong)

/-- 'laws.FnViewAlone': WHATEVER THE INPUT: true; the input reads as it did. -/
def fnViewAloneSpec : ChangeSpec := { name := "fnViewAlone", vars := ["loop.example/groupmulticast/impl.errNotMember", "loop.example/groupmulticast/impl.errNoView"], fn := fun _ => fun
  | [d, g1, g2] => { results := [.lit (.bool true)], args := [d], vars := [g1, g2] }
  | _ => none }
def fnViewAloneRow : OpenClaim := { program := "ytppdfgifnmfioaadoor", sum := "571b53508ad3d26fdae33f97c191747ac5650c1e9915844c1e0419fac754eb06", func := "loop.example/groupmulticast/laws.FnViewAlone", spec := "fnViewAlone", inPlace := ["internal/reflectlite.TypeOf"], unfollowed := true, recurses := true, named := ["loop.example/groupmulticast/impl.errNotMember", "loop.example/groupmulticast/impl.errNoView"], ifaces := true, apart := false, laid := [("loop.example/groupmulticast/impl.errNoView", laid_loop_example_groupmulticast_impl_errNoView), ("loop.example/groupmulticast/impl.errNotMember", laid_loop_example_groupmulticast_impl_errNotMember)] }
def FnViewAloneSaid : Prop := fnViewAloneRow.holds Tryd.pinned (OpenSpec.ofChange fnViewAloneSpec)

/-- ITS FALSE NEIGHBOUR: 'it returns false'. Refute it at one input. -/
def fnViewAloneWrong : ChangeSpec := { name := "fnViewAlone", vars := ["loop.example/groupmulticast/impl.errNotMember", "loop.example/groupmulticast/impl.errNoView"], fn := fun _ => fun
  | [d, g1, g2] => { results := [.lit (.bool false)], args := [d], vars := [g1, g2] }
  | _ => none }
def FnViewAloneWrongFalsely : Prop := fnViewAloneRow.holds Tryd.pinned (OpenSpec.ofChange fnViewAloneWrong)

/- THE SECOND FORM. 'bulk': how many values and letters a reading holds, each counted each time it is reached (what is shared counts as often as it is met; a slice's spare places count too). A statement '..UptoSaid' is the law's where the arguments, and the package variables that the reading takes, are together of bulk at most 1048576: NARROWER than '..Said'. Prove '..Said' where nothing that the law and all that it calls make is longer than what came in: it says more and counts as full. Else prove '..UptoSaid'. A law counts once. -/
mutual
def uptoBulk {H : Type} : DataW H → Nat
  | .lit (.string bytes) => bytes.length + 1
  | .lit _ => 1
  | .nil => 1
  | .ptr d => uptoBulk d + 1
  | .slice elems spare => uptoBulkAll elems + uptoBulkAll spare + 1
  | .agg parts => uptoBulkAll parts + 1
  | .iface _ d => uptoBulk d + 1
  | .map entries => uptoBulkEntries entries + 1
  | .held _ => 1
def uptoBulkAll {H : Type} : List (DataW H) → Nat
  | [] => 0
  | d :: r => uptoBulk d + uptoBulkAll r
def uptoBulkEntries {H : Type} : List (Lit × DataW H) → Nat
  | [] => 0
  | x :: r => uptoBulkEntry x + uptoBulkEntries r
def uptoBulkEntry {H : Type} : Lit × DataW H → Nat
  | (.string bytes, d) => bytes.length + uptoBulk d + 1
  | (_, d) => uptoBulk d + 1
 end
def uptoSmall : (H : Type) → List (DataW H) → Bool := fun _ ds => decide (uptoBulkAll ds ≤ 1048576)
def OpenSpec.upto (s : _root_.Go.ChangeSpec) : _root_.Go.OpenSpec := { _root_.Go.OpenSpec.ofChange s with cond := some uptoSmall }

/-- 'laws.FnViewJoin', WHERE WHAT IT READS IS OF BULK AT MOST 1048576: true; the input reads as it did. -/
def fnViewJoinUptoRow : OpenClaim := { program := "ytppdfgifnmfioaadoor", sum := "571b53508ad3d26fdae33f97c191747ac5650c1e9915844c1e0419fac754eb06", func := "loop.example/groupmulticast/laws.FnViewJoin", spec := "fnViewJoin", inPlace := ["internal/reflectlite.TypeOf"], unfollowed := true, recurses := true, named := ["loop.example/groupmulticast/impl.errIsMember", "loop.example/groupmulticast/impl.errNoView"], ifaces := true, apart := false, laid := [("loop.example/groupmulticast/impl.errNoView", laid_loop_example_groupmulticast_impl_errNoView), ("loop.example/groupmulticast/impl.errIsMember", laid_loop_example_groupmulticast_impl_errIsMember)], narrowed := true }
def FnViewJoinUptoSaid : Prop := fnViewJoinUptoRow.holds Tryd.pinned (OpenSpec.upto fnViewJoinSpec)

/-- 'laws.FnViewLeave', WHERE WHAT IT READS IS OF BULK AT MOST 1048576: true; the input reads as it did. -/
def fnViewLeaveUptoRow : OpenClaim := { program := "ytppdfgifnmfioaadoor", sum := "571b53508ad3d26fdae33f97c191747ac5650c1e9915844c1e0419fac754eb06", func := "loop.example/groupmulticast/laws.FnViewLeave", spec := "fnViewLeave", inPlace := ["internal/reflectlite.TypeOf"], unfollowed := true, recurses := true, named := ["loop.example/groupmulticast/impl.errNotMember", "loop.example/groupmulticast/impl.errNoView"], ifaces := true, apart := false, laid := [("loop.example/groupmulticast/impl.errNoView", laid_loop_example_groupmulticast_impl_errNoView), ("loop.example/groupmulticast/impl.errNotMember", laid_loop_example_groupmulticast_impl_errNotMember)], narrowed := true }
def FnViewLeaveUptoSaid : Prop := fnViewLeaveUptoRow.holds Tryd.pinned (OpenSpec.upto fnViewLeaveSpec)

/-- 'laws.FnViewBack', WHERE WHAT IT READS IS OF BULK AT MOST 1048576: true; the input reads as it did. -/
def fnViewBackUptoRow : OpenClaim := { program := "ytppdfgifnmfioaadoor", sum := "571b53508ad3d26fdae33f97c191747ac5650c1e9915844c1e0419fac754eb06", func := "loop.example/groupmulticast/laws.FnViewBack", spec := "fnViewBack", inPlace := ["internal/reflectlite.TypeOf"], unfollowed := true, recurses := true, named := ["loop.example/groupmulticast/impl.errNotMember", "loop.example/groupmulticast/impl.errNoView", "loop.example/groupmulticast/impl.errIsMember"], ifaces := true, apart := false, laid := [("loop.example/groupmulticast/impl.errNoView", laid_loop_example_groupmulticast_impl_errNoView), ("loop.example/groupmulticast/impl.errIsMember", laid_loop_example_groupmulticast_impl_errIsMember), ("loop.example/groupmulticast/impl.errNotMember", laid_loop_example_groupmulticast_impl_errNotMember)], narrowed := true }
def FnViewBackUptoSaid : Prop := fnViewBackUptoRow.holds Tryd.pinned (OpenSpec.upto fnViewBackSpec)

/-- 'laws.FnViewMajority', WHERE WHAT IT READS IS OF BULK AT MOST 1048576: true; the input reads as it did. -/
def fnViewMajorityUptoRow : OpenClaim := { program := "ytppdfgifnmfioaadoor", sum := "571b53508ad3d26fdae33f97c191747ac5650c1e9915844c1e0419fac754eb06", func := "loop.example/groupmulticast/laws.FnViewMajority", spec := "fnViewMajority", inPlace := ["internal/reflectlite.TypeOf"], unfollowed := true, recurses := true, named := ["loop.example/groupmulticast/impl.errNotMember"], ifaces := true, apart := false, laid := [("loop.example/groupmulticast/impl.errNotMember", laid_loop_example_groupmulticast_impl_errNotMember)], narrowed := true }
def FnViewMajorityUptoSaid : Prop := fnViewMajorityUptoRow.holds Tryd.pinned (OpenSpec.upto fnViewMajoritySpec)

/-- 'laws.FnViewMajorityNext', WHERE WHAT IT READS IS OF BULK AT MOST 1048576: true; the input reads as it did. -/
def fnViewMajorityNextUptoRow : OpenClaim := { program := "ytppdfgifnmfioaadoor", sum := "571b53508ad3d26fdae33f97c191747ac5650c1e9915844c1e0419fac754eb06", func := "loop.example/groupmulticast/laws.FnViewMajorityNext", spec := "fnViewMajorityNext", inPlace := ["internal/reflectlite.TypeOf"], unfollowed := true, recurses := true, named := ["loop.example/groupmulticast/impl.errIsMember", "loop.example/groupmulticast/impl.errNoView", "loop.example/groupmulticast/impl.errNotMember"], ifaces := true, apart := false, laid := [("loop.example/groupmulticast/impl.errNoView", laid_loop_example_groupmulticast_impl_errNoView), ("loop.example/groupmulticast/impl.errIsMember", laid_loop_example_groupmulticast_impl_errIsMember), ("loop.example/groupmulticast/impl.errNotMember", laid_loop_example_groupmulticast_impl_errNotMember)], narrowed := true }
def FnViewMajorityNextUptoSaid : Prop := fnViewMajorityNextUptoRow.holds Tryd.pinned (OpenSpec.upto fnViewMajorityNextSpec)

/-- 'laws.FnViewSplit', WHERE WHAT IT READS IS OF BULK AT MOST 1048576: true; the input reads as it did. -/
def fnViewSplitUptoRow : OpenClaim := { program := "ytppdfgifnmfioaadoor", sum := "571b53508ad3d26fdae33f97c191747ac5650c1e9915844c1e0419fac754eb06", func := "loop.example/groupmulticast/laws.FnViewSplit", spec := "fnViewSplit", inPlace := ["internal/reflectlite.TypeOf"], unfollowed := true, recurses := true, named := ["loop.example/groupmulticast/impl.errNoView"], ifaces := true, apart := false, laid := [("loop.example/groupmulticast/impl.errNoView", laid_loop_example_groupmulticast_impl_errNoView)], narrowed := true }
def FnViewSplitUptoSaid : Prop := fnViewSplitUptoRow.holds Tryd.pinned (OpenSpec.upto fnViewSplitSpec)

/-- 'laws.FnViewSplitMerge', WHERE WHAT IT READS IS OF BULK AT MOST 1048576: true; the input reads as it did. -/
def fnViewSplitMergeUptoRow : OpenClaim := { program := "ytppdfgifnmfioaadoor", sum := "571b53508ad3d26fdae33f97c191747ac5650c1e9915844c1e0419fac754eb06", func := "loop.example/groupmulticast/laws.FnViewSplitMerge", spec := "fnViewSplitMerge", inPlace := ["internal/reflectlite.TypeOf"], unfollowed := true, recurses := true, named := ["loop.example/groupmulticast/impl.errNoView", "loop.example/groupmulticast/impl.errIsMember"], ifaces := true, apart := false, laid := [("loop.example/groupmulticast/impl.errNoView", laid_loop_example_groupmulticast_impl_errNoView), ("loop.example/groupmulticast/impl.errIsMember", laid_loop_example_groupmulticast_impl_errIsMember)], narrowed := true }
def FnViewSplitMergeUptoSaid : Prop := fnViewSplitMergeUptoRow.holds Tryd.pinned (OpenSpec.upto fnViewSplitMergeSpec)

/-- 'laws.FnViewMerge', WHERE WHAT IT READS IS OF BULK AT MOST 1048576: true; the input reads as it did. -/
def fnViewMergeUptoRow : OpenClaim := { program := "ytppdfgifnmfioaadoor", sum := "571b53508ad3d26fdae33f97c191747ac5650c1e9915844c1e0419fac754eb06", func := "loop.example/groupmulticast/laws.FnViewMerge", spec := "fnViewMerge", inPlace := ["internal/reflectlite.TypeOf"], unfollowed := true, recurses := true, named := ["loop.example/groupmulticast/impl.errIsMember", "loop.example/groupmulticast/impl.errNoView"], ifaces := true, apart := false, laid := [("loop.example/groupmulticast/impl.errNoView", laid_loop_example_groupmulticast_impl_errNoView), ("loop.example/groupmulticast/impl.errIsMember", laid_loop_example_groupmulticast_impl_errIsMember)], narrowed := true }
def FnViewMergeUptoSaid : Prop := fnViewMergeUptoRow.holds Tryd.pinned (OpenSpec.upto fnViewMergeSpec)

/-- 'laws.FnViewJoinOrder', WHERE WHAT IT READS IS OF BULK AT MOST 1048576: true; the input reads as it did. -/
def fnViewJoinOrderUptoRow : OpenClaim := { program := "ytppdfgifnmfioaadoor", sum := "571b53508ad3d26fdae33f97c191747ac5650c1e9915844c1e0419fac754eb06", func := "loop.example/groupmulticast/laws.FnViewJoinOrder", spec := "fnViewJoinOrder", inPlace := ["internal/reflectlite.TypeOf"], unfollowed := true, recurses := true, named := ["loop.example/groupmulticast/impl.errIsMember", "loop.example/groupmulticast/impl.errNoView"], ifaces := true, apart := false, laid := [("loop.example/groupmulticast/impl.errNoView", laid_loop_example_groupmulticast_impl_errNoView), ("loop.example/groupmulticast/impl.errIsMember", laid_loop_example_groupmulticast_impl_errIsMember)], narrowed := true }
def FnViewJoinOrderUptoSaid : Prop := fnViewJoinOrderUptoRow.holds Tryd.pinned (OpenSpec.upto fnViewJoinOrderSpec)

/-- 'laws.FnViewAlone', WHERE WHAT IT READS IS OF BULK AT MOST 1048576: true; the input reads as it did. -/
def fnViewAloneUptoRow : OpenClaim := { program := "ytppdfgifnmfioaadoor", sum := "571b53508ad3d26fdae33f97c191747ac5650c1e9915844c1e0419fac754eb06", func := "loop.example/groupmulticast/laws.FnViewAlone", spec := "fnViewAlone", inPlace := ["internal/reflectlite.TypeOf"], unfollowed := true, recurses := true, named := ["loop.example/groupmulticast/impl.errNotMember", "loop.example/groupmulticast/impl.errNoView"], ifaces := true, apart := false, laid := [("loop.example/groupmulticast/impl.errNoView", laid_loop_example_groupmulticast_impl_errNoView), ("loop.example/groupmulticast/impl.errNotMember", laid_loop_example_groupmulticast_impl_errNotMember)], narrowed := true }
def FnViewAloneUptoSaid : Prop := fnViewAloneUptoRow.holds Tryd.pinned (OpenSpec.upto fnViewAloneSpec)

end Rows
end Go.Proofs.YtppdfgifnmfioaaDoor
