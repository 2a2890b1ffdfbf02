/-
  DERIVED. GIVEN WITH THE SEED: THE CARDS: each row of YtppdfgifnmfioaaDoorRows.lean that lists a variable, with what it lists TIED to the program's text (the seventh form; the later family's looks); each row that meets fmt, with fmt's text TOLD by the authors' own Lean function (tested against real Go, not proved from fmt's source: count such statements apart). THE CARD IS WHAT COUNTS. Prove the row's statement (the work); the ties are given (YtppdfgifnmfioaaDoorTie.lean); close each card by the builder's one call (the guide's Derived/Test/ToyasCard.lean, 'card_holds'). Laid BY PROGRAM, IN A SANDBOX (cutbox-door.mjs). By AI agents, Wed Nov 11 2026. No macro, syntax, notation, axiom, sorry.
-/
import Derived.Test.YtppdfgifnmfioaaDoorRows
import GoSem.ClaimSeven
namespace Go.Proofs.YtppdfgifnmfioaaDoor
namespace Rows

/-- THE TIED CARD OF 'laws.FnViewJoin'. -/
def fnViewJoinCard : Claim7 := { stood := { row := fnViewJoinRow, standIns := [], harness := (true, "0d33a1fe0624cc18a60537c046f7f6c423da8268692db69d67d51c41da8c9453"), looks := true }, kinds := [], alts := [], laidByText := true, laidKinds := [.sentinel, .sentinel], laidTests := true, laidLooks := .later }
def FnViewJoinCardSaid : Prop := Claim7.holds Tryd.pinned (.plain (OpenSpec.ofChange fnViewJoinSpec)) fnViewJoinCard

/-- THE TIED CARD OF 'laws.FnViewLeave'. -/
def fnViewLeaveCard : Claim7 := { stood := { row := fnViewLeaveRow, standIns := [], harness := (true, "0d33a1fe0624cc18a60537c046f7f6c423da8268692db69d67d51c41da8c9453"), looks := true }, kinds := [], alts := [], laidByText := true, laidKinds := [.sentinel, .sentinel], laidTests := true, laidLooks := .later }
def FnViewLeaveCardSaid : Prop := Claim7.holds Tryd.pinned (.plain (OpenSpec.ofChange fnViewLeaveSpec)) fnViewLeaveCard

/-- THE TIED CARD OF 'laws.FnViewBack'. -/
def fnViewBackCard : Claim7 := { stood := { row := fnViewBackRow, standIns := [], harness := (true, "0d33a1fe0624cc18a60537c046f7f6c423da8268692db69d67d51c41da8c9453"), looks := true }, kinds := [], alts := [], laidByText := true, laidKinds := [.sentinel, .sentinel, .sentinel], laidTests := true, laidLooks := .later }
def FnViewBackCardSaid : Prop := Claim7.holds Tryd.pinned (.plain (OpenSpec.ofChange fnViewBackSpec)) fnViewBackCard

/-- THE TIED CARD OF 'laws.FnViewMajority'. -/
def fnViewMajorityCard : Claim7 := { stood := { row := fnViewMajorityRow, standIns := [], harness := (true, "0d33a1fe0624cc18a60537c046f7f6c423da8268692db69d67d51c41da8c9453"), looks := true }, kinds := [], alts := [], laidByText := true, laidKinds := [.sentinel], laidTests := true, laidLooks := .later }
def FnViewMajorityCardSaid : Prop := Claim7.holds Tryd.pinned (.plain (OpenSpec.ofChange fnViewMajoritySpec)) fnViewMajorityCard

/-- THE TIED CARD OF 'laws.FnViewMajorityNext'. -/
def fnViewMajorityNextCard : Claim7 := { stood := { row := fnViewMajorityNextRow, standIns := [], harness := (true, "0d33a1fe0624cc18a60537c046f7f6c423da8268692db69d67d51c41da8c9453"), looks := true }, kinds := [], alts := [], laidByText := true, laidKinds := [.sentinel, .sentinel, .sentinel], laidTests := true, laidLooks := .later }
def FnViewMajorityNextCardSaid : Prop := Claim7.holds Tryd.pinned (.plain (OpenSpec.ofChange fnViewMajorityNextSpec)) fnViewMajorityNextCard

/-- THE TIED CARD OF 'laws.FnViewSplit'. -/
def fnViewSplitCard : Claim7 := { stood := { row := fnViewSplitRow, standIns := [], harness := (true, "0d33a1fe0624cc18a60537c046f7f6c423da8268692db69d67d51c41da8c9453"), looks := true }, kinds := [], alts := [], laidByText := true, laidKinds := [.sentinel], laidTests := true, laidLooks := .later }
def FnViewSplitCardSaid : Prop := Claim7.holds Tryd.pinned (.plain (OpenSpec.ofChange fnViewSplitSpec)) fnViewSplitCard

/-- THE TIED CARD OF 'laws.FnViewSplitMerge'. -/
def fnViewSplitMergeCard : Claim7 := { stood := { row := fnViewSplitMergeRow, standIns := [], harness := (true, "0d33a1fe0624cc18a60537c046f7f6c423da8268692db69d67d51c41da8c9453"), looks := true }, kinds := [], alts := [], laidByText := true, laidKinds := [.sentinel, .sentinel], laidTests := true, laidLooks := .later }
def FnViewSplitMergeCardSaid : Prop := Claim7.holds Tryd.pinned (.plain (OpenSpec.ofChange fnViewSplitMergeSpec)) fnViewSplitMergeCard

/-- THE TIED CARD OF 'laws.FnViewMerge'. -/
def fnViewMergeCard : Claim7 := { stood := { row := fnViewMergeRow, standIns := [], harness := (true, "0d33a1fe0624cc18a60537c046f7f6c423da8268692db69d67d51c41da8c9453"), looks := true }, kinds := [], alts := [], laidByText := true, laidKinds := [.sentinel, .sentinel], laidTests := true, laidLooks := .later }
def FnViewMergeCardSaid : Prop := Claim7.holds Tryd.pinned (.plain (OpenSpec.ofChange fnViewMergeSpec)) fnViewMergeCard

/-- THE TIED CARD OF 'laws.FnViewJoinOrder'. -/
def fnViewJoinOrderCard : Claim7 := { stood := { row := fnViewJoinOrderRow, standIns := [], harness := (true, "0d33a1fe0624cc18a60537c046f7f6c423da8268692db69d67d51c41da8c9453"), looks := true }, kinds := [], alts := [], laidByText := true, laidKinds := [.sentinel, .sentinel], laidTests := true, laidLooks := .later }
def FnViewJoinOrderCardSaid : Prop := Claim7.holds Tryd.pinned (.plain (OpenSpec.ofChange fnViewJoinOrderSpec)) fnViewJoinOrderCard

/-- THE TIED CARD OF 'laws.FnViewAlone'. -/
def fnViewAloneCard : Claim7 := { stood := { row := fnViewAloneRow, standIns := [], harness := (true, "0d33a1fe0624cc18a60537c046f7f6c423da8268692db69d67d51c41da8c9453"), looks := true }, kinds := [], alts := [], laidByText := true, laidKinds := [.sentinel, .sentinel], laidTests := true, laidLooks := .later }
def FnViewAloneCardSaid : Prop := Claim7.holds Tryd.pinned (.plain (OpenSpec.ofChange fnViewAloneSpec)) fnViewAloneCard

/-- THE SECOND FORM's CARD OF 'laws.FnViewJoin'. -/
def fnViewJoinUptoCard : Claim7 := { stood := { row := fnViewJoinUptoRow, standIns := [], harness := (true, "0d33a1fe0624cc18a60537c046f7f6c423da8268692db69d67d51c41da8c9453"), looks := true }, kinds := [], alts := [], laidByText := true, laidKinds := [.sentinel, .sentinel], laidTests := true, laidLooks := .later }
def FnViewJoinUptoCardSaid : Prop := Claim7.holds Tryd.pinned (.plain (OpenSpec.upto fnViewJoinSpec)) fnViewJoinUptoCard

/-- THE SECOND FORM's CARD OF 'laws.FnViewLeave'. -/
def fnViewLeaveUptoCard : Claim7 := { stood := { row := fnViewLeaveUptoRow, standIns := [], harness := (true, "0d33a1fe0624cc18a60537c046f7f6c423da8268692db69d67d51c41da8c9453"), looks := true }, kinds := [], alts := [], laidByText := true, laidKinds := [.sentinel, .sentinel], laidTests := true, laidLooks := .later }
def FnViewLeaveUptoCardSaid : Prop := Claim7.holds Tryd.pinned (.plain (OpenSpec.upto fnViewLeaveSpec)) fnViewLeaveUptoCard

/-- THE SECOND FORM's CARD OF 'laws.FnViewBack'. -/
def fnViewBackUptoCard : Claim7 := { stood := { row := fnViewBackUptoRow, standIns := [], harness := (true, "0d33a1fe0624cc18a60537c046f7f6c423da8268692db69d67d51c41da8c9453"), looks := true }, kinds := [], alts := [], laidByText := true, laidKinds := [.sentinel, .sentinel, .sentinel], laidTests := true, laidLooks := .later }
def FnViewBackUptoCardSaid : Prop := Claim7.holds Tryd.pinned (.plain (OpenSpec.upto fnViewBackSpec)) fnViewBackUptoCard

/-- THE SECOND FORM's CARD OF 'laws.FnViewMajority'. -/
def fnViewMajorityUptoCard : Claim7 := { stood := { row := fnViewMajorityUptoRow, standIns := [], harness := (true, "0d33a1fe0624cc18a60537c046f7f6c423da8268692db69d67d51c41da8c9453"), looks := true }, kinds := [], alts := [], laidByText := true, laidKinds := [.sentinel], laidTests := true, laidLooks := .later }
def FnViewMajorityUptoCardSaid : Prop := Claim7.holds Tryd.pinned (.plain (OpenSpec.upto fnViewMajoritySpec)) fnViewMajorityUptoCard

/-- THE SECOND FORM's CARD OF 'laws.FnViewMajorityNext'. -/
def fnViewMajorityNextUptoCard : Claim7 := { stood := { row := fnViewMajorityNextUptoRow, standIns := [], harness := (true, "0d33a1fe0624cc18a60537c046f7f6c423da8268692db69d67d51c41da8c9453"), looks := true }, kinds := [], alts := [], laidByText := true, laidKinds := [.sentinel, .sentinel, .sentinel], laidTests := true, laidLooks := .later }
def FnViewMajorityNextUptoCardSaid : Prop := Claim7.holds Tryd.pinned (.plain (OpenSpec.upto fnViewMajorityNextSpec)) fnViewMajorityNextUptoCard

/-- THE SECOND FORM's CARD OF 'laws.FnViewSplit'. -/
def fnViewSplitUptoCard : Claim7 := { stood := { row := fnViewSplitUptoRow, standIns := [], harness := (true, "0d33a1fe0624cc18a60537c046f7f6c423da8268692db69d67d51c41da8c9453"), looks := true }, kinds := [], alts := [], laidByText := true, laidKinds := [.sentinel], laidTests := true, laidLooks := .later }
def FnViewSplitUptoCardSaid : Prop := Claim7.holds Tryd.pinned (.plain (OpenSpec.upto fnViewSplitSpec)) fnViewSplitUptoCard

/-- THE SECOND FORM's CARD OF 'laws.FnViewSplitMerge'. -/
def fnViewSplitMergeUptoCard : Claim7 := { stood := { row := fnViewSplitMergeUptoRow, standIns := [], harness := (true, "0d33a1fe0624cc18a60537c046f7f6c423da8268692db69d67d51c41da8c9453"), looks := true }, kinds := [], alts := [], laidByText := true, laidKinds := [.sentinel, .sentinel], laidTests := true, laidLooks := .later }
def FnViewSplitMergeUptoCardSaid : Prop := Claim7.holds Tryd.pinned (.plain (OpenSpec.upto fnViewSplitMergeSpec)) fnViewSplitMergeUptoCard

/-- THE SECOND FORM's CARD OF 'laws.FnViewMerge'. -/
def fnViewMergeUptoCard : Claim7 := { stood := { row := fnViewMergeUptoRow, standIns := [], harness := (true, "0d33a1fe0624cc18a60537c046f7f6c423da8268692db69d67d51c41da8c9453"), looks := true }, kinds := [], alts := [], laidByText := true, laidKinds := [.sentinel, .sentinel], laidTests := true, laidLooks := .later }
def FnViewMergeUptoCardSaid : Prop := Claim7.holds Tryd.pinned (.plain (OpenSpec.upto fnViewMergeSpec)) fnViewMergeUptoCard

/-- THE SECOND FORM's CARD OF 'laws.FnViewJoinOrder'. -/
def fnViewJoinOrderUptoCard : Claim7 := { stood := { row := fnViewJoinOrderUptoRow, standIns := [], harness := (true, "0d33a1fe0624cc18a60537c046f7f6c423da8268692db69d67d51c41da8c9453"), looks := true }, kinds := [], alts := [], laidByText := true, laidKinds := [.sentinel, .sentinel], laidTests := true, laidLooks := .later }
def FnViewJoinOrderUptoCardSaid : Prop := Claim7.holds Tryd.pinned (.plain (OpenSpec.upto fnViewJoinOrderSpec)) fnViewJoinOrderUptoCard

/-- THE SECOND FORM's CARD OF 'laws.FnViewAlone'. -/
def fnViewAloneUptoCard : Claim7 := { stood := { row := fnViewAloneUptoRow, standIns := [], harness := (true, "0d33a1fe0624cc18a60537c046f7f6c423da8268692db69d67d51c41da8c9453"), looks := true }, kinds := [], alts := [], laidByText := true, laidKinds := [.sentinel, .sentinel], laidTests := true, laidLooks := .later }
def FnViewAloneUptoCardSaid : Prop := Claim7.holds Tryd.pinned (.plain (OpenSpec.upto fnViewAloneSpec)) fnViewAloneUptoCard
end Rows
end Go.Proofs.YtppdfgifnmfioaaDoor
