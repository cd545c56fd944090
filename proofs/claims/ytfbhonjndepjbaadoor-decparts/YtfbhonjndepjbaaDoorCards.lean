/-
  DERIVED. GIVEN WITH THE SEED: THE CARDS: each row of YtfbhonjndepjbaaDoorRows.lean that lists a variable, with what it lists TIED to the program's text (the seventh form; the later family's looks); each row that meets fmt, with fmt's text TOLD by the authors' own Lean function (tested against real Go, not proved from fmt's source: count such statements apart). THE CARD IS WHAT COUNTS. Prove the row's statement (the work); the ties are given (YtfbhonjndepjbaaDoorTie.lean); close each card by the builder's one call (the guide's Derived/Test/ToyasCard.lean, 'card_holds'). Laid BY PROGRAM, IN A SANDBOX (cutbox-door.mjs). By AI agents, Wed Nov 11 2026. No macro, syntax, notation, axiom, sorry.
-/
import Derived.Test.YtfbhonjndepjbaaDoorRows
import GoSem.ClaimSeven
namespace Go.Proofs.YtfbhonjndepjbaaDoor
namespace Rows

/-- THE TIED CARD OF 'quirelaw09.DecSums'. -/
def decSumsCard : Claim7 := { stood := { row := decSumsRow, standIns := [], harness := (true, "0a6f9fee772ed4e7f0504e9b974758d52781c50c8f9566f6ea9bb96406e7fc48"), looks := false }, kinds := [], alts := [], laidByText := true, laidKinds := [.data, .data, .data], laidTests := true, laidLooks := .later }
def DecSumsCardSaid : Prop := Claim7.holds Tryd.pinned (.plain (OpenSpec.ofChange decSumsSpec)) decSumsCard

/-- THE TIED CARD OF 'quirelaw09.DecParts'. -/
def decPartsCard : Claim7 := { stood := { row := decPartsRow, standIns := [], harness := (true, "0a6f9fee772ed4e7f0504e9b974758d52781c50c8f9566f6ea9bb96406e7fc48"), looks := false }, kinds := [], alts := [], laidByText := true, laidKinds := [.data, .data, .data], laidTests := true, laidLooks := .later }
def DecPartsCardSaid : Prop := Claim7.holds Tryd.pinned (.plain (OpenSpec.ofChange decPartsSpec)) decPartsCard

/-- THE TIED CARD OF 'quirelaw09.DecLooks'. -/
def decLooksCard : Claim7 := { stood := { row := decLooksRow, standIns := [], harness := (true, "0a6f9fee772ed4e7f0504e9b974758d52781c50c8f9566f6ea9bb96406e7fc48"), looks := false }, kinds := [], alts := [], laidByText := true, laidKinds := [.data, .data, .data], laidTests := true, laidLooks := .later }
def DecLooksCardSaid : Prop := Claim7.holds Tryd.pinned (.plain (OpenSpec.ofChange decLooksSpec)) decLooksCard

/-- THE TIED CARD OF 'quirelaw09.DecTexts'. -/
def decTextsCard : Claim7 := { stood := { row := decTextsRow, standIns := [], harness := (true, "0a6f9fee772ed4e7f0504e9b974758d52781c50c8f9566f6ea9bb96406e7fc48"), looks := false }, kinds := [], alts := [], laidByText := true, laidKinds := [.data, .data, .data, .data, .pinned], laidTests := true, laidLooks := .later }
def DecTextsCardSaid : Prop := Claim7.holds Tryd.pinned (.plain (OpenSpec.ofChange decTextsSpec)) decTextsCard

/-- THE TIED CARD OF 'quirelaw09.DecLaws'. -/
def decLawsCard : Claim7 := { stood := { row := decLawsRow, standIns := [], harness := (true, "0a6f9fee772ed4e7f0504e9b974758d52781c50c8f9566f6ea9bb96406e7fc48"), looks := false }, kinds := [], alts := [], laidByText := true, laidKinds := [.data, .data, .data], laidTests := true, laidLooks := .later }
def DecLawsCardSaid : Prop := Claim7.holds Tryd.pinned (.plain (OpenSpec.ofChange decLawsSpec)) decLawsCard

/-- THE TIED CARD OF 'quirelaw09.DecBack'. -/
def decBackCard : Claim7 := { stood := { row := decBackRow, standIns := [], harness := (true, "0a6f9fee772ed4e7f0504e9b974758d52781c50c8f9566f6ea9bb96406e7fc48"), looks := false }, kinds := [], alts := [], laidByText := true, laidKinds := [.data, .data, .data, .data, .pinned], laidTests := true, laidLooks := .later }
def DecBackCardSaid : Prop := Claim7.holds Tryd.pinned (.plain (OpenSpec.ofChange decBackSpec)) decBackCard

/-- THE SECOND FORM's CARD OF 'quirelaw09.DecSums'. -/
def decSumsUptoCard : Claim7 := { stood := { row := decSumsUptoRow, standIns := [], harness := (true, "0a6f9fee772ed4e7f0504e9b974758d52781c50c8f9566f6ea9bb96406e7fc48"), looks := false }, kinds := [], alts := [], laidByText := true, laidKinds := [.data, .data, .data], laidTests := true, laidLooks := .later }
def DecSumsUptoCardSaid : Prop := Claim7.holds Tryd.pinned (.plain (OpenSpec.upto decSumsSpec)) decSumsUptoCard

/-- THE SECOND FORM's CARD OF 'quirelaw09.DecParts'. -/
def decPartsUptoCard : Claim7 := { stood := { row := decPartsUptoRow, standIns := [], harness := (true, "0a6f9fee772ed4e7f0504e9b974758d52781c50c8f9566f6ea9bb96406e7fc48"), looks := false }, kinds := [], alts := [], laidByText := true, laidKinds := [.data, .data, .data], laidTests := true, laidLooks := .later }
def DecPartsUptoCardSaid : Prop := Claim7.holds Tryd.pinned (.plain (OpenSpec.upto decPartsSpec)) decPartsUptoCard

/-- THE SECOND FORM's CARD OF 'quirelaw09.DecLooks'. -/
def decLooksUptoCard : Claim7 := { stood := { row := decLooksUptoRow, standIns := [], harness := (true, "0a6f9fee772ed4e7f0504e9b974758d52781c50c8f9566f6ea9bb96406e7fc48"), looks := false }, kinds := [], alts := [], laidByText := true, laidKinds := [.data, .data, .data], laidTests := true, laidLooks := .later }
def DecLooksUptoCardSaid : Prop := Claim7.holds Tryd.pinned (.plain (OpenSpec.upto decLooksSpec)) decLooksUptoCard

/-- THE SECOND FORM's CARD OF 'quirelaw09.DecTexts'. -/
def decTextsUptoCard : Claim7 := { stood := { row := decTextsUptoRow, standIns := [], harness := (true, "0a6f9fee772ed4e7f0504e9b974758d52781c50c8f9566f6ea9bb96406e7fc48"), looks := false }, kinds := [], alts := [], laidByText := true, laidKinds := [.data, .data, .data, .data, .pinned], laidTests := true, laidLooks := .later }
def DecTextsUptoCardSaid : Prop := Claim7.holds Tryd.pinned (.plain (OpenSpec.upto decTextsSpec)) decTextsUptoCard

/-- THE SECOND FORM's CARD OF 'quirelaw09.DecLaws'. -/
def decLawsUptoCard : Claim7 := { stood := { row := decLawsUptoRow, standIns := [], harness := (true, "0a6f9fee772ed4e7f0504e9b974758d52781c50c8f9566f6ea9bb96406e7fc48"), looks := false }, kinds := [], alts := [], laidByText := true, laidKinds := [.data, .data, .data], laidTests := true, laidLooks := .later }
def DecLawsUptoCardSaid : Prop := Claim7.holds Tryd.pinned (.plain (OpenSpec.upto decLawsSpec)) decLawsUptoCard

/-- THE SECOND FORM's CARD OF 'quirelaw09.DecBack'. -/
def decBackUptoCard : Claim7 := { stood := { row := decBackUptoRow, standIns := [], harness := (true, "0a6f9fee772ed4e7f0504e9b974758d52781c50c8f9566f6ea9bb96406e7fc48"), looks := false }, kinds := [], alts := [], laidByText := true, laidKinds := [.data, .data, .data, .data, .pinned], laidTests := true, laidLooks := .later }
def DecBackUptoCardSaid : Prop := Claim7.holds Tryd.pinned (.plain (OpenSpec.upto decBackSpec)) decBackUptoCard
end Rows
end Go.Proofs.YtfbhonjndepjbaaDoor
