/-
  DERIVED. GIVEN WITH THE SEED: THE CARDS: each row of YtohbbpmjoaklhaaDoorRows.lean that lists a variable, with what it lists TIED to the program's text (the seventh form; the later family's looks); each row that meets fmt, with fmt's text TOLD by the authors' own Lean function (tested against real Go, not proved from fmt's source: count such statements apart). THE CARD IS WHAT COUNTS. Prove the row's statement (the work); the ties are given (YtohbbpmjoaklhaaDoorTie.lean); close each card by the builder's one call (the guide's Derived/Test/ToyasCard.lean, 'card_holds'). Laid BY PROGRAM, IN A SANDBOX (cutbox-door.mjs). By AI agents, Wed Nov 11 2026. No macro, syntax, notation, axiom, sorry.
-/
import Derived.Test.YtohbbpmjoaklhaaDoorRows
import GoSem.ClaimSeven
namespace Go.Proofs.YtohbbpmjoaklhaaDoor
namespace Rows

/-- THE TIED CARD OF 'laws.FnExactViewJoin'. -/
def fnExactViewJoinCard : Claim7 := { stood := { row := fnExactViewJoinRow, standIns := [], harness := (true, "390ed4b71d838d5542a7836a0dcda62ee32da9d4bef911e97087dbf3fbec8b02"), looks := true }, kinds := [], alts := [], laidByText := true, laidKinds := [.sentinel, .sentinel], laidTests := true, laidLooks := .later }
def FnExactViewJoinCardSaid : Prop := Claim7.holds Tryd.pinned (.plain (OpenSpec.ofChange fnExactViewJoinSpec)) fnExactViewJoinCard

/-- THE TIED CARD OF 'laws.FnExactViewLeave'. -/
def fnExactViewLeaveCard : Claim7 := { stood := { row := fnExactViewLeaveRow, standIns := [], harness := (true, "390ed4b71d838d5542a7836a0dcda62ee32da9d4bef911e97087dbf3fbec8b02"), looks := true }, kinds := [], alts := [], laidByText := true, laidKinds := [.sentinel, .sentinel], laidTests := true, laidLooks := .later }
def FnExactViewLeaveCardSaid : Prop := Claim7.holds Tryd.pinned (.plain (OpenSpec.ofChange fnExactViewLeaveSpec)) fnExactViewLeaveCard

/-- THE TIED CARD OF 'laws.FnExactViewSplit'. -/
def fnExactViewSplitCard : Claim7 := { stood := { row := fnExactViewSplitRow, standIns := [], harness := (true, "390ed4b71d838d5542a7836a0dcda62ee32da9d4bef911e97087dbf3fbec8b02"), looks := true }, kinds := [], alts := [], laidByText := true, laidKinds := [.sentinel], laidTests := true, laidLooks := .later }
def FnExactViewSplitCardSaid : Prop := Claim7.holds Tryd.pinned (.plain (OpenSpec.ofChange fnExactViewSplitSpec)) fnExactViewSplitCard

/-- THE TIED CARD OF 'laws.FnExactViewMerge'. -/
def fnExactViewMergeCard : Claim7 := { stood := { row := fnExactViewMergeRow, standIns := [], harness := (true, "390ed4b71d838d5542a7836a0dcda62ee32da9d4bef911e97087dbf3fbec8b02"), looks := true }, kinds := [], alts := [], laidByText := true, laidKinds := [.sentinel, .sentinel], laidTests := true, laidLooks := .later }
def FnExactViewMergeCardSaid : Prop := Claim7.holds Tryd.pinned (.plain (OpenSpec.ofChange fnExactViewMergeSpec)) fnExactViewMergeCard

/-- THE TIED CARD OF 'laws.FnExactViewMajority'. -/
def fnExactViewMajorityCard : Claim7 := { stood := { row := fnExactViewMajorityRow, standIns := [], harness := (true, "390ed4b71d838d5542a7836a0dcda62ee32da9d4bef911e97087dbf3fbec8b02"), looks := true }, kinds := [], alts := [], laidByText := true, laidKinds := [.sentinel], laidTests := true, laidLooks := .later }
def FnExactViewMajorityCardSaid : Prop := Claim7.holds Tryd.pinned (.plain (OpenSpec.ofChange fnExactViewMajoritySpec)) fnExactViewMajorityCard

/-- THE SECOND FORM's CARD OF 'laws.FnExactViewJoin'. -/
def fnExactViewJoinUptoCard : Claim7 := { stood := { row := fnExactViewJoinUptoRow, standIns := [], harness := (true, "390ed4b71d838d5542a7836a0dcda62ee32da9d4bef911e97087dbf3fbec8b02"), looks := true }, kinds := [], alts := [], laidByText := true, laidKinds := [.sentinel, .sentinel], laidTests := true, laidLooks := .later }
def FnExactViewJoinUptoCardSaid : Prop := Claim7.holds Tryd.pinned (.plain (OpenSpec.upto fnExactViewJoinSpec)) fnExactViewJoinUptoCard

/-- THE SECOND FORM's CARD OF 'laws.FnExactViewLeave'. -/
def fnExactViewLeaveUptoCard : Claim7 := { stood := { row := fnExactViewLeaveUptoRow, standIns := [], harness := (true, "390ed4b71d838d5542a7836a0dcda62ee32da9d4bef911e97087dbf3fbec8b02"), looks := true }, kinds := [], alts := [], laidByText := true, laidKinds := [.sentinel, .sentinel], laidTests := true, laidLooks := .later }
def FnExactViewLeaveUptoCardSaid : Prop := Claim7.holds Tryd.pinned (.plain (OpenSpec.upto fnExactViewLeaveSpec)) fnExactViewLeaveUptoCard

/-- THE SECOND FORM's CARD OF 'laws.FnExactViewSplit'. -/
def fnExactViewSplitUptoCard : Claim7 := { stood := { row := fnExactViewSplitUptoRow, standIns := [], harness := (true, "390ed4b71d838d5542a7836a0dcda62ee32da9d4bef911e97087dbf3fbec8b02"), looks := true }, kinds := [], alts := [], laidByText := true, laidKinds := [.sentinel], laidTests := true, laidLooks := .later }
def FnExactViewSplitUptoCardSaid : Prop := Claim7.holds Tryd.pinned (.plain (OpenSpec.upto fnExactViewSplitSpec)) fnExactViewSplitUptoCard

/-- THE SECOND FORM's CARD OF 'laws.FnExactViewMerge'. -/
def fnExactViewMergeUptoCard : Claim7 := { stood := { row := fnExactViewMergeUptoRow, standIns := [], harness := (true, "390ed4b71d838d5542a7836a0dcda62ee32da9d4bef911e97087dbf3fbec8b02"), looks := true }, kinds := [], alts := [], laidByText := true, laidKinds := [.sentinel, .sentinel], laidTests := true, laidLooks := .later }
def FnExactViewMergeUptoCardSaid : Prop := Claim7.holds Tryd.pinned (.plain (OpenSpec.upto fnExactViewMergeSpec)) fnExactViewMergeUptoCard

/-- THE SECOND FORM's CARD OF 'laws.FnExactViewMajority'. -/
def fnExactViewMajorityUptoCard : Claim7 := { stood := { row := fnExactViewMajorityUptoRow, standIns := [], harness := (true, "390ed4b71d838d5542a7836a0dcda62ee32da9d4bef911e97087dbf3fbec8b02"), looks := true }, kinds := [], alts := [], laidByText := true, laidKinds := [.sentinel], laidTests := true, laidLooks := .later }
def FnExactViewMajorityUptoCardSaid : Prop := Claim7.holds Tryd.pinned (.plain (OpenSpec.upto fnExactViewMajoritySpec)) fnExactViewMajorityUptoCard
end Rows
end Go.Proofs.YtohbbpmjoaklhaaDoor
