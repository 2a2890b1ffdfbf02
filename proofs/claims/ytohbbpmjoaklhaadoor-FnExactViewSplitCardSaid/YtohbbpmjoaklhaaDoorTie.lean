/-
  DERIVED. GIVEN WITH THE SEED: THE PROGRAM's TIES (one call each: nine closed facts by the kernel) AND EACH ROW's TIE, after the 31st guide's Derived/Test/Toyas{Tie, Card}.lean. No idea stands in it: it is a product of the set-up. Laid BY PROGRAM, IN A SANDBOX (cutbox-door.mjs). By AI agents, Wed Nov 11 2026. No macro, syntax, notation, axiom, sorry.
-/
import Derived.Test.YtohbbpmjoaklhaaDoorRows
import Derived.LaidByTextLater
import Derived.SevenTiedAt
import Derived.LaidSub
import Derived.LaidOnce
namespace Go.Proofs.YtohbbpmjoaklhaaDoor
open Go
set_option maxRecDepth 100000
theorem seatTie1 : Tryd.prog.laidByTextLater [("loop.example/groupmulticast/impl.errNoView", Rows.laid_loop_example_groupmulticast_impl_errNoView), ("loop.example/groupmulticast/impl.errIsMember", Rows.laid_loop_example_groupmulticast_impl_errIsMember), ("loop.example/groupmulticast/impl.errNotMember", Rows.laid_loop_example_groupmulticast_impl_errNotMember)] [.sentinel, .sentinel, .sentinel] true :=
  Program.laidByTextLater_by_one 66 8 2 (by kernel_rfl) (by kernel_rfl) (by kernel_rfl) (by kernel_rfl) (by kernel_rfl) (by kernel_rfl) (fun _ _ => by kernel_rfl)
theorem noOwnUnsafe : Tryd.pinned.checked.prog.headLifts.contains "ownunsafe" = false := by kernel_rfl
theorem tie : Tryd.prog.laidByTextLater [("loop.example/groupmulticast/impl.errNoView", Rows.laid_loop_example_groupmulticast_impl_errNoView), ("loop.example/groupmulticast/impl.errIsMember", Rows.laid_loop_example_groupmulticast_impl_errIsMember)] [.sentinel, .sentinel] true :=
  Program.laidByTextLater.sub seatTie1 ["loop.example/groupmulticast/impl.errNoView", "loop.example/groupmulticast/impl.errIsMember"] (by kernel_rfl) (by kernel_rfl)
theorem fnExactViewJoin_row_tie : Rows.fnExactViewJoinRow.laidByTextAt .later Tryd.pinned [.sentinel, .sentinel] true :=
  OpenClaim.laidByTextAt_later rfl rfl tie noOwnUnsafe
theorem fnExactViewMerge_row_tie : Rows.fnExactViewMergeRow.laidByTextAt .later Tryd.pinned [.sentinel, .sentinel] true :=
  OpenClaim.laidByTextAt_later rfl rfl tie noOwnUnsafe
theorem tie2 : Tryd.prog.laidByTextLater [("loop.example/groupmulticast/impl.errNoView", Rows.laid_loop_example_groupmulticast_impl_errNoView), ("loop.example/groupmulticast/impl.errNotMember", Rows.laid_loop_example_groupmulticast_impl_errNotMember)] [.sentinel, .sentinel] true :=
  Program.laidByTextLater.sub seatTie1 ["loop.example/groupmulticast/impl.errNoView", "loop.example/groupmulticast/impl.errNotMember"] (by kernel_rfl) (by kernel_rfl)
theorem fnExactViewLeave_row_tie : Rows.fnExactViewLeaveRow.laidByTextAt .later Tryd.pinned [.sentinel, .sentinel] true :=
  OpenClaim.laidByTextAt_later rfl rfl tie2 noOwnUnsafe
theorem tie3 : Tryd.prog.laidByTextLater [("loop.example/groupmulticast/impl.errNoView", Rows.laid_loop_example_groupmulticast_impl_errNoView)] [.sentinel] true :=
  Program.laidByTextLater.sub seatTie1 ["loop.example/groupmulticast/impl.errNoView"] (by kernel_rfl) (by kernel_rfl)
theorem fnExactViewSplit_row_tie : Rows.fnExactViewSplitRow.laidByTextAt .later Tryd.pinned [.sentinel] true :=
  OpenClaim.laidByTextAt_later rfl rfl tie3 noOwnUnsafe
theorem tie4 : Tryd.prog.laidByTextLater [("loop.example/groupmulticast/impl.errNotMember", Rows.laid_loop_example_groupmulticast_impl_errNotMember)] [.sentinel] true :=
  Program.laidByTextLater.sub seatTie1 ["loop.example/groupmulticast/impl.errNotMember"] (by kernel_rfl) (by kernel_rfl)
theorem fnExactViewMajority_row_tie : Rows.fnExactViewMajorityRow.laidByTextAt .later Tryd.pinned [.sentinel] true :=
  OpenClaim.laidByTextAt_later rfl rfl tie4 noOwnUnsafe
theorem fnExactViewJoinUpto_row_tie : Rows.fnExactViewJoinUptoRow.laidByTextAt .later Tryd.pinned [.sentinel, .sentinel] true :=
  OpenClaim.laidByTextAt_later rfl rfl tie noOwnUnsafe
theorem fnExactViewLeaveUpto_row_tie : Rows.fnExactViewLeaveUptoRow.laidByTextAt .later Tryd.pinned [.sentinel, .sentinel] true :=
  OpenClaim.laidByTextAt_later rfl rfl tie2 noOwnUnsafe
theorem fnExactViewSplitUpto_row_tie : Rows.fnExactViewSplitUptoRow.laidByTextAt .later Tryd.pinned [.sentinel] true :=
  OpenClaim.laidByTextAt_later rfl rfl tie3 noOwnUnsafe
theorem fnExactViewMergeUpto_row_tie : Rows.fnExactViewMergeUptoRow.laidByTextAt .later Tryd.pinned [.sentinel, .sentinel] true :=
  OpenClaim.laidByTextAt_later rfl rfl tie noOwnUnsafe
theorem fnExactViewMajorityUpto_row_tie : Rows.fnExactViewMajorityUptoRow.laidByTextAt .later Tryd.pinned [.sentinel] true :=
  OpenClaim.laidByTextAt_later rfl rfl tie4 noOwnUnsafe
end Go.Proofs.YtohbbpmjoaklhaaDoor
