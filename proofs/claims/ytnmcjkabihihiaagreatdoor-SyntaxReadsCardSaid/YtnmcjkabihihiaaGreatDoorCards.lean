/-
  DERIVED. GIVEN WITH THE SEED: THE CARDS: each row of YtnmcjkabihihiaaGreatDoorRows.lean that lists a variable, with what it lists TIED to the program's text (the seventh form; the later family's looks); each row that meets fmt, with fmt's text TOLD by the authors' own Lean function (tested against real Go, not proved from fmt's source: count such statements apart). THE CARD IS WHAT COUNTS. Prove the row's statement (the work); the ties are given (YtnmcjkabihihiaaGreatDoorTie.lean); close each card by the builder's one call (the guide's Derived/Test/ToyasCard.lean, 'card_holds'). Laid BY PROGRAM, IN A SANDBOX (cutbox-door.mjs). By AI agents, Wed Nov 11 2026. No macro, syntax, notation, axiom, sorry.
-/
import Derived.Test.YtnmcjkabihihiaaGreatDoorRows
import GoSem.ClaimSeven
namespace Go.Proofs.YtnmcjkabihihiaaGreatDoor
namespace Rows

/-- THE TIED CARD OF 'louverlaw05.SyntaxReads'. -/
def syntaxReadsCard : Claim7 := { stood := { row := syntaxReadsRow, standIns := [], harness := (true, "fe71b668fa7b612d04252ad37617987a220ae177a4f7a49d1e278da44a65a867"), looks := true }, kinds := [], alts := [], laidByText := true, laidKinds := [.data, .data, .data, .sentinel, .sentinel], laidTests := true, laidLooks := .later }
def SyntaxReadsCardSaid : Prop := Claim7.holds Tryz.pinned (.plain (OpenSpec.ofChange syntaxReadsSpec)) syntaxReadsCard

/-- THE TIED CARD OF 'louverlaw05.SyntaxWhole'. -/
def syntaxWholeCard : Claim7 := { stood := { row := syntaxWholeRow, standIns := [], harness := (true, "fe71b668fa7b612d04252ad37617987a220ae177a4f7a49d1e278da44a65a867"), looks := true }, kinds := [], alts := [], laidByText := true, laidKinds := [.data, .data, .data, .sentinel, .sentinel], laidTests := true, laidLooks := .later }
def SyntaxWholeCardSaid : Prop := Claim7.holds Tryz.pinned (.plain (OpenSpec.ofChange syntaxWholeSpec)) syntaxWholeCard

/-- THE TIED CARD OF 'louverlaw05.SyntaxBlanks'. -/
def syntaxBlanksCard : Claim7 := { stood := { row := syntaxBlanksRow, standIns := [], harness := (true, "fe71b668fa7b612d04252ad37617987a220ae177a4f7a49d1e278da44a65a867"), looks := true }, kinds := [], alts := [], laidByText := true, laidKinds := [.data, .data, .data, .sentinel, .sentinel], laidTests := true, laidLooks := .later }
def SyntaxBlanksCardSaid : Prop := Claim7.holds Tryz.pinned (.plain (OpenSpec.ofChange syntaxBlanksSpec)) syntaxBlanksCard

/-- THE TIED CARD OF 'louverlaw05.SyntaxAhead'. -/
def syntaxAheadCard : Claim7 := { stood := { row := syntaxAheadRow, standIns := [], harness := (true, "fe71b668fa7b612d04252ad37617987a220ae177a4f7a49d1e278da44a65a867"), looks := true }, kinds := [], alts := [], laidByText := true, laidKinds := [.data, .data, .data, .sentinel, .sentinel], laidTests := true, laidLooks := .later }
def SyntaxAheadCardSaid : Prop := Claim7.holds Tryz.pinned (.plain (OpenSpec.ofChange syntaxAheadSpec)) syntaxAheadCard

/-- THE SECOND FORM's CARD OF 'louverlaw05.SyntaxReads'. -/
def syntaxReadsUptoCard : Claim7 := { stood := { row := syntaxReadsUptoRow, standIns := [], harness := (true, "fe71b668fa7b612d04252ad37617987a220ae177a4f7a49d1e278da44a65a867"), looks := true }, kinds := [], alts := [], laidByText := true, laidKinds := [.data, .data, .data, .sentinel, .sentinel], laidTests := true, laidLooks := .later }
def SyntaxReadsUptoCardSaid : Prop := Claim7.holds Tryz.pinned (.plain (OpenSpec.upto syntaxReadsSpec)) syntaxReadsUptoCard

/-- THE SECOND FORM's CARD OF 'louverlaw05.SyntaxWhole'. -/
def syntaxWholeUptoCard : Claim7 := { stood := { row := syntaxWholeUptoRow, standIns := [], harness := (true, "fe71b668fa7b612d04252ad37617987a220ae177a4f7a49d1e278da44a65a867"), looks := true }, kinds := [], alts := [], laidByText := true, laidKinds := [.data, .data, .data, .sentinel, .sentinel], laidTests := true, laidLooks := .later }
def SyntaxWholeUptoCardSaid : Prop := Claim7.holds Tryz.pinned (.plain (OpenSpec.upto syntaxWholeSpec)) syntaxWholeUptoCard

/-- THE SECOND FORM's CARD OF 'louverlaw05.SyntaxBlanks'. -/
def syntaxBlanksUptoCard : Claim7 := { stood := { row := syntaxBlanksUptoRow, standIns := [], harness := (true, "fe71b668fa7b612d04252ad37617987a220ae177a4f7a49d1e278da44a65a867"), looks := true }, kinds := [], alts := [], laidByText := true, laidKinds := [.data, .data, .data, .sentinel, .sentinel], laidTests := true, laidLooks := .later }
def SyntaxBlanksUptoCardSaid : Prop := Claim7.holds Tryz.pinned (.plain (OpenSpec.upto syntaxBlanksSpec)) syntaxBlanksUptoCard

/-- THE SECOND FORM's CARD OF 'louverlaw05.SyntaxAhead'. -/
def syntaxAheadUptoCard : Claim7 := { stood := { row := syntaxAheadUptoRow, standIns := [], harness := (true, "fe71b668fa7b612d04252ad37617987a220ae177a4f7a49d1e278da44a65a867"), looks := true }, kinds := [], alts := [], laidByText := true, laidKinds := [.data, .data, .data, .sentinel, .sentinel], laidTests := true, laidLooks := .later }
def SyntaxAheadUptoCardSaid : Prop := Claim7.holds Tryz.pinned (.plain (OpenSpec.upto syntaxAheadSpec)) syntaxAheadUptoCard
end Rows
end Go.Proofs.YtnmcjkabihihiaaGreatDoor
