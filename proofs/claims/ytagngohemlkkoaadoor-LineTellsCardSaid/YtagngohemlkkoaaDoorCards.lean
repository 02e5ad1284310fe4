/-
  DERIVED. GIVEN WITH THE SEED: THE CARDS: each row of YtagngohemlkkoaaDoorRows.lean that lists a variable, with what it lists TIED to the program's text (the seventh form; the later family's looks); each row that meets fmt, with fmt's text TOLD by the authors' own Lean function (tested against real Go, not proved from fmt's source: count such statements apart). THE CARD IS WHAT COUNTS. Prove the row's statement (the work); the ties are given (YtagngohemlkkoaaDoorTie.lean); close each card by the builder's one call (the guide's Derived/Test/ToyasCard.lean, 'card_holds'). Laid BY PROGRAM, IN A SANDBOX (cutbox-door.mjs). By AI agents, Wed Nov 11 2026. No macro, syntax, notation, axiom, sorry.
-/
import Derived.Test.YtagngohemlkkoaaDoorRows
import GoSem.ClaimSeven
namespace Go.Proofs.YtagngohemlkkoaaDoor
namespace Rows

/-- THE TIED CARD OF 'tidewaiterlaw15.LineNames'. -/
def lineNamesCard : Claim7 := { stood := { row := lineNamesRow, standIns := [], harness := (true, "489eb7b68f5f5b4d45678b96ac834af2c74df94b87d89dcaeeb4011d78fae381"), looks := false }, kinds := [], alts := [], laidByText := true, laidKinds := [.data, .data, .data], laidTests := true, laidLooks := .later }
def LineNamesCardSaid : Prop := Claim7.holds Tryd.pinned (.plain (OpenSpec.ofChange lineNamesSpec)) lineNamesCard

/-- THE TIED CARD OF 'tidewaiterlaw15.LineTells'. -/
def lineTellsCard : Claim7 := { stood := { row := lineTellsRow, standIns := [], harness := (true, "489eb7b68f5f5b4d45678b96ac834af2c74df94b87d89dcaeeb4011d78fae381"), looks := false }, kinds := [], alts := [], laidByText := true, laidKinds := [.data, .data, .data], laidTests := true, laidLooks := .later }
def LineTellsCardSaid : Prop := Claim7.holds Tryd.pinned (.plain (OpenSpec.ofChange lineTellsSpec)) lineTellsCard

/-- THE TIED CARD OF 'tidewaiterlaw15.LineBack'. -/
def lineBackCard : Claim7 := { stood := { row := lineBackRow, standIns := [], harness := (true, "489eb7b68f5f5b4d45678b96ac834af2c74df94b87d89dcaeeb4011d78fae381"), looks := false }, kinds := [], alts := [], laidByText := true, laidKinds := [.data, .data, .data], laidTests := true, laidLooks := .later }
def LineBackCardSaid : Prop := Claim7.holds Tryd.pinned (.plain (OpenSpec.ofChange lineBackSpec)) lineBackCard

/-- THE TIED CARD OF 'tidewaiterlaw15.LineJudges'. -/
def lineJudgesCard : Claim7 := { stood := { row := lineJudgesRow, standIns := [], harness := (true, "489eb7b68f5f5b4d45678b96ac834af2c74df94b87d89dcaeeb4011d78fae381"), looks := false }, kinds := [], alts := [], laidByText := true, laidKinds := [.data, .data, .data], laidTests := true, laidLooks := .later }
def LineJudgesCardSaid : Prop := Claim7.holds Tryd.pinned (.plain (OpenSpec.ofChange lineJudgesSpec)) lineJudgesCard

/-- THE SECOND FORM's CARD OF 'tidewaiterlaw15.LineNames'. -/
def lineNamesUptoCard : Claim7 := { stood := { row := lineNamesUptoRow, standIns := [], harness := (true, "489eb7b68f5f5b4d45678b96ac834af2c74df94b87d89dcaeeb4011d78fae381"), looks := false }, kinds := [], alts := [], laidByText := true, laidKinds := [.data, .data, .data], laidTests := true, laidLooks := .later }
def LineNamesUptoCardSaid : Prop := Claim7.holds Tryd.pinned (.plain (OpenSpec.upto lineNamesSpec)) lineNamesUptoCard

/-- THE SECOND FORM's CARD OF 'tidewaiterlaw15.LineTells'. -/
def lineTellsUptoCard : Claim7 := { stood := { row := lineTellsUptoRow, standIns := [], harness := (true, "489eb7b68f5f5b4d45678b96ac834af2c74df94b87d89dcaeeb4011d78fae381"), looks := false }, kinds := [], alts := [], laidByText := true, laidKinds := [.data, .data, .data], laidTests := true, laidLooks := .later }
def LineTellsUptoCardSaid : Prop := Claim7.holds Tryd.pinned (.plain (OpenSpec.upto lineTellsSpec)) lineTellsUptoCard

/-- THE SECOND FORM's CARD OF 'tidewaiterlaw15.LineBack'. -/
def lineBackUptoCard : Claim7 := { stood := { row := lineBackUptoRow, standIns := [], harness := (true, "489eb7b68f5f5b4d45678b96ac834af2c74df94b87d89dcaeeb4011d78fae381"), looks := false }, kinds := [], alts := [], laidByText := true, laidKinds := [.data, .data, .data], laidTests := true, laidLooks := .later }
def LineBackUptoCardSaid : Prop := Claim7.holds Tryd.pinned (.plain (OpenSpec.upto lineBackSpec)) lineBackUptoCard

/-- THE SECOND FORM's CARD OF 'tidewaiterlaw15.LineJudges'. -/
def lineJudgesUptoCard : Claim7 := { stood := { row := lineJudgesUptoRow, standIns := [], harness := (true, "489eb7b68f5f5b4d45678b96ac834af2c74df94b87d89dcaeeb4011d78fae381"), looks := false }, kinds := [], alts := [], laidByText := true, laidKinds := [.data, .data, .data], laidTests := true, laidLooks := .later }
def LineJudgesUptoCardSaid : Prop := Claim7.holds Tryd.pinned (.plain (OpenSpec.upto lineJudgesSpec)) lineJudgesUptoCard
end Rows
end Go.Proofs.YtagngohemlkkoaaDoor
