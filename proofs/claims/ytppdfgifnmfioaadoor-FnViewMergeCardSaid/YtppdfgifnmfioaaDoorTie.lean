/-
  DERIVED. GIVEN WITH THE SEED: THE PROGRAM's TIES (one call each: nine closed facts by the kernel) AND EACH ROW's TIE, after the 31st guide's Derived/Test/Toyas{Tie, Card}.lean. No idea stands in it: it is a product of the set-up. Laid BY PROGRAM, IN A SANDBOX (cutbox-door.mjs). By AI agents, Wed Nov 11 2026. No macro, syntax, notation, axiom, sorry.
-/
import Derived.Test.YtppdfgifnmfioaaDoorRows
import Derived.LaidByTextLater
import Derived.SevenTiedAt
import Derived.LaidSub
import Derived.LaidOnce
namespace Go.Proofs.YtppdfgifnmfioaaDoor
open Go
set_option maxRecDepth 100000
theorem seatTie1 : Tryd.prog.laidByTextLater [("loop.example/groupmulticast/impl.errNoView", Rows.laid_loop_example_groupmulticast_impl_errNoView), ("loop.example/groupmulticast/impl.errIsMember", Rows.laid_loop_example_groupmulticast_impl_errIsMember), ("loop.example/groupmulticast/impl.errNotMember", Rows.laid_loop_example_groupmulticast_impl_errNotMember)] [.sentinel, .sentinel, .sentinel] true :=
  Program.laidByTextLater_by_one 66 8 2 (by kernel_rfl) (by kernel_rfl) (by kernel_rfl) (by kernel_rfl) (by kernel_rfl) (by kernel_rfl) (fun _ _ => by kernel_rfl)
theorem noOwnUnsafe : Tryd.pinned.checked.prog.headLifts.contains "ownunsafe" = false := by kernel_rfl
theorem tie : Tryd.prog.laidByTextLater [("loop.example/groupmulticast/impl.errNoView", Rows.laid_loop_example_groupmulticast_impl_errNoView), ("loop.example/groupmulticast/impl.errIsMember", Rows.laid_loop_example_groupmulticast_impl_errIsMember)] [.sentinel, .sentinel] true :=
  Program.laidByTextLater.sub seatTie1 ["loop.example/groupmulticast/impl.errNoView", "loop.example/groupmulticast/impl.errIsMember"] (by kernel_rfl) (by kernel_rfl)
theorem fnViewJoin_row_tie : Rows.fnViewJoinRow.laidByTextAt .later Tryd.pinned [.sentinel, .sentinel] true :=
  OpenClaim.laidByTextAt_later rfl rfl tie noOwnUnsafe
theorem fnViewSplitMerge_row_tie : Rows.fnViewSplitMergeRow.laidByTextAt .later Tryd.pinned [.sentinel, .sentinel] true :=
  OpenClaim.laidByTextAt_later rfl rfl tie noOwnUnsafe
theorem fnViewMerge_row_tie : Rows.fnViewMergeRow.laidByTextAt .later Tryd.pinned [.sentinel, .sentinel] true :=
  OpenClaim.laidByTextAt_later rfl rfl tie noOwnUnsafe
theorem fnViewJoinOrder_row_tie : Rows.fnViewJoinOrderRow.laidByTextAt .later Tryd.pinned [.sentinel, .sentinel] true :=
  OpenClaim.laidByTextAt_later rfl rfl tie noOwnUnsafe
theorem tie2 : Tryd.prog.laidByTextLater [("loop.example/groupmulticast/impl.errNoView", Rows.laid_loop_example_groupmulticast_impl_errNoView), ("loop.example/groupmulticast/impl.errNotMember", Rows.laid_loop_example_groupmulticast_impl_errNotMember)] [.sentinel, .sentinel] true :=
  Program.laidByTextLater.sub seatTie1 ["loop.example/groupmulticast/impl.errNoView", "loop.example/groupmulticast/impl.errNotMember"] (by kernel_rfl) (by kernel_rfl)
theorem fnViewLeave_row_tie : Rows.fnViewLeaveRow.laidByTextAt .later Tryd.pinned [.sentinel, .sentinel] true :=
  OpenClaim.laidByTextAt_later rfl rfl tie2 noOwnUnsafe
theorem fnViewAlone_row_tie : Rows.fnViewAloneRow.laidByTextAt .later Tryd.pinned [.sentinel, .sentinel] true :=
  OpenClaim.laidByTextAt_later rfl rfl tie2 noOwnUnsafe
theorem tie3 : Tryd.prog.laidByTextLater [("loop.example/groupmulticast/impl.errNoView", Rows.laid_loop_example_groupmulticast_impl_errNoView), ("loop.example/groupmulticast/impl.errIsMember", Rows.laid_loop_example_groupmulticast_impl_errIsMember), ("loop.example/groupmulticast/impl.errNotMember", Rows.laid_loop_example_groupmulticast_impl_errNotMember)] [.sentinel, .sentinel, .sentinel] true :=
  Program.laidByTextLater.sub seatTie1 ["loop.example/groupmulticast/impl.errNoView", "loop.example/groupmulticast/impl.errIsMember", "loop.example/groupmulticast/impl.errNotMember"] (by kernel_rfl) (by kernel_rfl)
theorem fnViewBack_row_tie : Rows.fnViewBackRow.laidByTextAt .later Tryd.pinned [.sentinel, .sentinel, .sentinel] true :=
  OpenClaim.laidByTextAt_later rfl rfl tie3 noOwnUnsafe
theorem fnViewMajorityNext_row_tie : Rows.fnViewMajorityNextRow.laidByTextAt .later Tryd.pinned [.sentinel, .sentinel, .sentinel] true :=
  OpenClaim.laidByTextAt_later rfl rfl tie3 noOwnUnsafe
theorem tie4 : Tryd.prog.laidByTextLater [("loop.example/groupmulticast/impl.errNotMember", Rows.laid_loop_example_groupmulticast_impl_errNotMember)] [.sentinel] true :=
  Program.laidByTextLater.sub seatTie1 ["loop.example/groupmulticast/impl.errNotMember"] (by kernel_rfl) (by kernel_rfl)
theorem fnViewMajority_row_tie : Rows.fnViewMajorityRow.laidByTextAt .later Tryd.pinned [.sentinel] true :=
  OpenClaim.laidByTextAt_later rfl rfl tie4 noOwnUnsafe
theorem tie5 : Tryd.prog.laidByTextLater [("loop.example/groupmulticast/impl.errNoView", Rows.laid_loop_example_groupmulticast_impl_errNoView)] [.sentinel] true :=
  Program.laidByTextLater.sub seatTie1 ["loop.example/groupmulticast/impl.errNoView"] (by kernel_rfl) (by kernel_rfl)
theorem fnViewSplit_row_tie : Rows.fnViewSplitRow.laidByTextAt .later Tryd.pinned [.sentinel] true :=
  OpenClaim.laidByTextAt_later rfl rfl tie5 noOwnUnsafe
theorem fnViewJoinUpto_row_tie : Rows.fnViewJoinUptoRow.laidByTextAt .later Tryd.pinned [.sentinel, .sentinel] true :=
  OpenClaim.laidByTextAt_later rfl rfl tie noOwnUnsafe
theorem fnViewLeaveUpto_row_tie : Rows.fnViewLeaveUptoRow.laidByTextAt .later Tryd.pinned [.sentinel, .sentinel] true :=
  OpenClaim.laidByTextAt_later rfl rfl tie2 noOwnUnsafe
theorem fnViewBackUpto_row_tie : Rows.fnViewBackUptoRow.laidByTextAt .later Tryd.pinned [.sentinel, .sentinel, .sentinel] true :=
  OpenClaim.laidByTextAt_later rfl rfl tie3 noOwnUnsafe
theorem fnViewMajorityUpto_row_tie : Rows.fnViewMajorityUptoRow.laidByTextAt .later Tryd.pinned [.sentinel] true :=
  OpenClaim.laidByTextAt_later rfl rfl tie4 noOwnUnsafe
theorem fnViewMajorityNextUpto_row_tie : Rows.fnViewMajorityNextUptoRow.laidByTextAt .later Tryd.pinned [.sentinel, .sentinel, .sentinel] true :=
  OpenClaim.laidByTextAt_later rfl rfl tie3 noOwnUnsafe
theorem fnViewSplitUpto_row_tie : Rows.fnViewSplitUptoRow.laidByTextAt .later Tryd.pinned [.sentinel] true :=
  OpenClaim.laidByTextAt_later rfl rfl tie5 noOwnUnsafe
theorem fnViewSplitMergeUpto_row_tie : Rows.fnViewSplitMergeUptoRow.laidByTextAt .later Tryd.pinned [.sentinel, .sentinel] true :=
  OpenClaim.laidByTextAt_later rfl rfl tie noOwnUnsafe
theorem fnViewMergeUpto_row_tie : Rows.fnViewMergeUptoRow.laidByTextAt .later Tryd.pinned [.sentinel, .sentinel] true :=
  OpenClaim.laidByTextAt_later rfl rfl tie noOwnUnsafe
theorem fnViewJoinOrderUpto_row_tie : Rows.fnViewJoinOrderUptoRow.laidByTextAt .later Tryd.pinned [.sentinel, .sentinel] true :=
  OpenClaim.laidByTextAt_later rfl rfl tie noOwnUnsafe
theorem fnViewAloneUpto_row_tie : Rows.fnViewAloneUptoRow.laidByTextAt .later Tryd.pinned [.sentinel, .sentinel] true :=
  OpenClaim.laidByTextAt_later rfl rfl tie2 noOwnUnsafe
end Go.Proofs.YtppdfgifnmfioaaDoor
