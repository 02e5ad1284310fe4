/-
  DERIVED. GIVEN WITH THE SEED: THE CARDS: each row of YtlhjcdkkmloamaaGreatDoorRows.lean that lists a variable, with what it lists TIED to the program's text (the seventh form; the later family's looks); each row that meets fmt, with fmt's text TOLD by the authors' own Lean function (tested against real Go, not proved from fmt's source: count such statements apart). THE CARD IS WHAT COUNTS. Prove the row's statement (the work); the ties are given (YtlhjcdkkmloamaaGreatDoorTie.lean); close each card by the builder's one call (the guide's Derived/Test/ToyasCard.lean, 'card_holds'). Laid BY PROGRAM, IN A SANDBOX (cutbox-door.mjs). By AI agents, Wed Nov 11 2026. No macro, syntax, notation, axiom, sorry.
-/
import Derived.Test.YtlhjcdkkmloamaaGreatDoorRows
import GoSem.ClaimSeven
namespace Go.Proofs.YtlhjcdkkmloamaaGreatDoor
namespace Rows

/-- THE TIED CARD OF 'tidewaiterlaw11.SpacePrefix'. -/
def spacePrefixCard : Claim7 := { stood := { row := spacePrefixRow, standIns := [], harness := (true, "3b5be80d032bd57675754f0a24e94c58254a191658cf2a647328447a9701ae9f"), looks := true }, kinds := [], alts := [], laidByText := true, laidKinds := [.data, .data, .data, .data, .sentinel, .sentinel, .pinned], laidTests := true, laidLooks := .later }
def SpacePrefixCardSaid : Prop := Claim7.holds Tryz.pinned (.plain (OpenSpec.ofChange spacePrefixSpec)) spacePrefixCard

/-- THE SECOND FORM's CARD OF 'tidewaiterlaw11.SpacePrefix'. -/
def spacePrefixUptoCard : Claim7 := { stood := { row := spacePrefixUptoRow, standIns := [], harness := (true, "3b5be80d032bd57675754f0a24e94c58254a191658cf2a647328447a9701ae9f"), looks := true }, kinds := [], alts := [], laidByText := true, laidKinds := [.data, .data, .data, .data, .sentinel, .sentinel, .pinned], laidTests := true, laidLooks := .later }
def SpacePrefixUptoCardSaid : Prop := Claim7.holds Tryz.pinned (.plain (OpenSpec.upto spacePrefixSpec)) spacePrefixUptoCard
end Rows
end Go.Proofs.YtlhjcdkkmloamaaGreatDoor
