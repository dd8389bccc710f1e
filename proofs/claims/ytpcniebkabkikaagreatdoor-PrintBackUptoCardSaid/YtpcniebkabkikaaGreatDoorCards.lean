/-
  DERIVED. GIVEN WITH THE SEED: THE CARDS: each row of YtpcniebkabkikaaGreatDoorRows.lean that lists a variable, with what it lists TIED to the program's text (the seventh form; the later family's looks); each row that meets fmt, with fmt's text TOLD by the authors' own Lean function (tested against real Go, not proved from fmt's source: count such statements apart). THE CARD IS WHAT COUNTS. Prove the row's statement (the work); the ties are given (YtpcniebkabkikaaGreatDoorTie.lean); close each card by the builder's one call (the guide's Derived/Test/ToyasCard.lean, 'card_holds'). Laid BY PROGRAM, IN A SANDBOX (cutbox-door.mjs). By AI agents, Wed Nov 11 2026. No macro, syntax, notation, axiom, sorry.
-/
import Derived.Test.YtpcniebkabkikaaGreatDoorRows
import GoSem.ClaimSeven
namespace Go.Proofs.YtpcniebkabkikaaGreatDoor
namespace Rows

/-- THE TIED CARD OF 'louverlaw06.PrintSources'. -/
def printSourcesCard : Claim7 := { stood := { row := printSourcesRow, standIns := [], harness := (true, "94ce259657371a8e8aa55fb7a27d33e29c449cbff21fcd00a7aee6abbada3f7f"), looks := true }, kinds := [], alts := [], laidByText := true, laidKinds := [.data, .data, .data, .sentinel, .sentinel, .data], laidTests := true, laidLooks := .later }
def PrintSourcesCardSaid : Prop := Claim7.holds Tryz.pinned (.plain (OpenSpec.ofChange printSourcesSpec)) printSourcesCard

/-- THE TIED CARD OF 'louverlaw06.PrintExprs'. -/
def printExprsCard : Claim7 := { stood := { row := printExprsRow, standIns := [], harness := (true, "94ce259657371a8e8aa55fb7a27d33e29c449cbff21fcd00a7aee6abbada3f7f"), looks := true }, kinds := [], alts := [], laidByText := true, laidKinds := [.data, .data, .data, .sentinel, .sentinel, .data], laidTests := true, laidLooks := .later }
def PrintExprsCardSaid : Prop := Claim7.holds Tryz.pinned (.plain (OpenSpec.ofChange printExprsSpec)) printExprsCard

/-- THE TIED CARD OF 'louverlaw06.PrintKnown'. -/
def printKnownCard : Claim7 := { stood := { row := printKnownRow, standIns := [], harness := (true, "94ce259657371a8e8aa55fb7a27d33e29c449cbff21fcd00a7aee6abbada3f7f"), looks := true }, kinds := [], alts := [], laidByText := true, laidKinds := [.data, .data, .data, .sentinel, .sentinel, .data], laidTests := true, laidLooks := .later }
def PrintKnownCardSaid : Prop := Claim7.holds Tryz.pinned (.plain (OpenSpec.ofChange printKnownSpec)) printKnownCard

/-- THE TIED CARD OF 'louverlaw06.PrintBack'. -/
def printBackCard : Claim7 := { stood := { row := printBackRow, standIns := [], harness := (true, "94ce259657371a8e8aa55fb7a27d33e29c449cbff21fcd00a7aee6abbada3f7f"), looks := true }, kinds := [], alts := [], laidByText := true, laidKinds := [.data, .data, .data, .sentinel, .sentinel, .data], laidTests := true, laidLooks := .later }
def PrintBackCardSaid : Prop := Claim7.holds Tryz.pinned (.plain (OpenSpec.ofChange printBackSpec)) printBackCard

/-- THE TIED CARD OF 'louverlaw06.PrintBare'. -/
def printBareCard : Claim7 := { stood := { row := printBareRow, standIns := [], harness := (true, "94ce259657371a8e8aa55fb7a27d33e29c449cbff21fcd00a7aee6abbada3f7f"), looks := true }, kinds := [], alts := [], laidByText := true, laidKinds := [.data, .data, .data, .sentinel, .sentinel, .data], laidTests := true, laidLooks := .later }
def PrintBareCardSaid : Prop := Claim7.holds Tryz.pinned (.plain (OpenSpec.ofChange printBareSpec)) printBareCard

/-- THE SECOND FORM's CARD OF 'louverlaw06.PrintSources'. -/
def printSourcesUptoCard : Claim7 := { stood := { row := printSourcesUptoRow, standIns := [], harness := (true, "94ce259657371a8e8aa55fb7a27d33e29c449cbff21fcd00a7aee6abbada3f7f"), looks := true }, kinds := [], alts := [], laidByText := true, laidKinds := [.data, .data, .data, .sentinel, .sentinel, .data], laidTests := true, laidLooks := .later }
def PrintSourcesUptoCardSaid : Prop := Claim7.holds Tryz.pinned (.plain (OpenSpec.upto printSourcesSpec)) printSourcesUptoCard

/-- THE SECOND FORM's CARD OF 'louverlaw06.PrintExprs'. -/
def printExprsUptoCard : Claim7 := { stood := { row := printExprsUptoRow, standIns := [], harness := (true, "94ce259657371a8e8aa55fb7a27d33e29c449cbff21fcd00a7aee6abbada3f7f"), looks := true }, kinds := [], alts := [], laidByText := true, laidKinds := [.data, .data, .data, .sentinel, .sentinel, .data], laidTests := true, laidLooks := .later }
def PrintExprsUptoCardSaid : Prop := Claim7.holds Tryz.pinned (.plain (OpenSpec.upto printExprsSpec)) printExprsUptoCard

/-- THE SECOND FORM's CARD OF 'louverlaw06.PrintKnown'. -/
def printKnownUptoCard : Claim7 := { stood := { row := printKnownUptoRow, standIns := [], harness := (true, "94ce259657371a8e8aa55fb7a27d33e29c449cbff21fcd00a7aee6abbada3f7f"), looks := true }, kinds := [], alts := [], laidByText := true, laidKinds := [.data, .data, .data, .sentinel, .sentinel, .data], laidTests := true, laidLooks := .later }
def PrintKnownUptoCardSaid : Prop := Claim7.holds Tryz.pinned (.plain (OpenSpec.upto printKnownSpec)) printKnownUptoCard

/-- THE SECOND FORM's CARD OF 'louverlaw06.PrintBack'. -/
def printBackUptoCard : Claim7 := { stood := { row := printBackUptoRow, standIns := [], harness := (true, "94ce259657371a8e8aa55fb7a27d33e29c449cbff21fcd00a7aee6abbada3f7f"), looks := true }, kinds := [], alts := [], laidByText := true, laidKinds := [.data, .data, .data, .sentinel, .sentinel, .data], laidTests := true, laidLooks := .later }
def PrintBackUptoCardSaid : Prop := Claim7.holds Tryz.pinned (.plain (OpenSpec.upto printBackSpec)) printBackUptoCard

/-- THE SECOND FORM's CARD OF 'louverlaw06.PrintBare'. -/
def printBareUptoCard : Claim7 := { stood := { row := printBareUptoRow, standIns := [], harness := (true, "94ce259657371a8e8aa55fb7a27d33e29c449cbff21fcd00a7aee6abbada3f7f"), looks := true }, kinds := [], alts := [], laidByText := true, laidKinds := [.data, .data, .data, .sentinel, .sentinel, .data], laidTests := true, laidLooks := .later }
def PrintBareUptoCardSaid : Prop := Claim7.holds Tryz.pinned (.plain (OpenSpec.upto printBareSpec)) printBareUptoCard
end Rows
end Go.Proofs.YtpcniebkabkikaaGreatDoor
