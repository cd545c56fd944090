/-
  DERIVED. GIVEN WITH THE SEED: THE CARDS: each row of YtibnafngkcpafaaGreatDoorRows.lean that lists a variable, with what it lists TIED to the program's text (the seventh form; the later family's looks); each row that meets fmt, with fmt's text TOLD by the authors' own Lean function (tested against real Go, not proved from fmt's source: count such statements apart). THE CARD IS WHAT COUNTS. Prove the row's statement (the work); the ties are given (YtibnafngkcpafaaGreatDoorTie.lean); close each card by the builder's one call (the guide's Derived/Test/ToyasCard.lean, 'card_holds'). Laid BY PROGRAM, IN A SANDBOX (cutbox-door.mjs). By AI agents, Wed Nov 11 2026. No macro, syntax, notation, axiom, sorry.
-/
import Derived.Test.YtibnafngkcpafaaGreatDoorRows
import GoSem.ClaimSeven
namespace Go.Proofs.YtibnafngkcpafaaGreatDoor
namespace Rows

/-- THE TIED CARD OF 'quirelaw05.ZipNames'. -/
def zipNamesCard : Claim7 := { stood := { row := zipNamesRow, standIns := [], harness := (true, "5675455483b80688540e652530d2edb18f0b37c4da3ddbefe63b4ddda81dbf10"), looks := true }, kinds := [], alts := [], laidByText := true, laidKinds := [.data, .data, .data, .data, .data, .pinned, .pinned], laidTests := true, laidLooks := .later }
def ZipNamesCardSaid : Prop := Claim7.holds Tryz.pinned (.plain (OpenSpec.ofChange zipNamesSpec)) zipNamesCard

/-- THE SECOND FORM's CARD OF 'quirelaw05.ZipNames'. -/
def zipNamesUptoCard : Claim7 := { stood := { row := zipNamesUptoRow, standIns := [], harness := (true, "5675455483b80688540e652530d2edb18f0b37c4da3ddbefe63b4ddda81dbf10"), looks := true }, kinds := [], alts := [], laidByText := true, laidKinds := [.data, .data, .data, .data, .data, .pinned, .pinned], laidTests := true, laidLooks := .later }
def ZipNamesUptoCardSaid : Prop := Claim7.holds Tryz.pinned (.plain (OpenSpec.upto zipNamesSpec)) zipNamesUptoCard
end Rows
end Go.Proofs.YtibnafngkcpafaaGreatDoor
