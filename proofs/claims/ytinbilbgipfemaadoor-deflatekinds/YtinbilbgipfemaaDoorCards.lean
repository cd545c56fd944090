/-
  DERIVED. GIVEN WITH THE SEED: THE CARDS: each row of YtinbilbgipfemaaDoorRows.lean that lists a variable, with what it lists TIED to the program's text (the seventh form; the later family's looks); each row that meets fmt, with fmt's text TOLD by the authors' own Lean function (tested against real Go, not proved from fmt's source: count such statements apart). THE CARD IS WHAT COUNTS. Prove the row's statement (the work); the ties are given (YtinbilbgipfemaaDoorTie.lean); close each card by the builder's one call (the guide's Derived/Test/ToyasCard.lean, 'card_holds'). Laid BY PROGRAM, IN A SANDBOX (cutbox-door.mjs). By AI agents, Wed Nov 11 2026. No macro, syntax, notation, axiom, sorry.
-/
import Derived.Test.YtinbilbgipfemaaDoorRows
import GoSem.ClaimSeven
namespace Go.Proofs.YtinbilbgipfemaaDoor
namespace Rows

/-- THE TIED CARD OF 'quirelaw04.DeflateKinds'. -/
def deflateKindsCard : Claim7 := { stood := { row := deflateKindsRow, standIns := [], harness := (true, "fcd146adb7203f68f5d7b2bfcfbc017baa7c786e8a8a88dca776c5dbdc7279f5"), looks := false }, kinds := [], alts := [], laidByText := true, laidKinds := [.data], laidTests := true, laidLooks := .later }
def DeflateKindsCardSaid : Prop := Claim7.holds Tryd.pinned (.plain (OpenSpec.ofChange deflateKindsSpec)) deflateKindsCard

/-- THE TIED CARD OF 'quirelaw04.DeflateParse'. -/
def deflateParseCard : Claim7 := { stood := { row := deflateParseRow, standIns := [], harness := (true, "fcd146adb7203f68f5d7b2bfcfbc017baa7c786e8a8a88dca776c5dbdc7279f5"), looks := false }, kinds := [], alts := [], laidByText := true, laidKinds := [.data], laidTests := true, laidLooks := .later }
def DeflateParseCardSaid : Prop := Claim7.holds Tryd.pinned (.plain (OpenSpec.ofChange deflateParseSpec)) deflateParseCard

/-- THE TIED CARD OF 'quirelaw04.DeflateUnparse'. -/
def deflateUnparseCard : Claim7 := { stood := { row := deflateUnparseRow, standIns := [], harness := (true, "fcd146adb7203f68f5d7b2bfcfbc017baa7c786e8a8a88dca776c5dbdc7279f5"), looks := false }, kinds := [], alts := [], laidByText := true, laidKinds := [.data], laidTests := true, laidLooks := .later }
def DeflateUnparseCardSaid : Prop := Claim7.holds Tryd.pinned (.plain (OpenSpec.ofChange deflateUnparseSpec)) deflateUnparseCard

/-- THE TIED CARD OF 'quirelaw04.DeflateRow'. -/
def deflateRowCard : Claim7 := { stood := { row := deflateRowRow, standIns := [], harness := (true, "fcd146adb7203f68f5d7b2bfcfbc017baa7c786e8a8a88dca776c5dbdc7279f5"), looks := false }, kinds := [], alts := [], laidByText := true, laidKinds := [.data], laidTests := true, laidLooks := .later }
def DeflateRowCardSaid : Prop := Claim7.holds Tryd.pinned (.plain (OpenSpec.ofChange deflateRowSpec)) deflateRowCard

/-- THE SECOND FORM's CARD OF 'quirelaw04.DeflateKinds'. -/
def deflateKindsUptoCard : Claim7 := { stood := { row := deflateKindsUptoRow, standIns := [], harness := (true, "fcd146adb7203f68f5d7b2bfcfbc017baa7c786e8a8a88dca776c5dbdc7279f5"), looks := false }, kinds := [], alts := [], laidByText := true, laidKinds := [.data], laidTests := true, laidLooks := .later }
def DeflateKindsUptoCardSaid : Prop := Claim7.holds Tryd.pinned (.plain (OpenSpec.upto deflateKindsSpec)) deflateKindsUptoCard

/-- THE SECOND FORM's CARD OF 'quirelaw04.DeflateParse'. -/
def deflateParseUptoCard : Claim7 := { stood := { row := deflateParseUptoRow, standIns := [], harness := (true, "fcd146adb7203f68f5d7b2bfcfbc017baa7c786e8a8a88dca776c5dbdc7279f5"), looks := false }, kinds := [], alts := [], laidByText := true, laidKinds := [.data], laidTests := true, laidLooks := .later }
def DeflateParseUptoCardSaid : Prop := Claim7.holds Tryd.pinned (.plain (OpenSpec.upto deflateParseSpec)) deflateParseUptoCard

/-- THE SECOND FORM's CARD OF 'quirelaw04.DeflateUnparse'. -/
def deflateUnparseUptoCard : Claim7 := { stood := { row := deflateUnparseUptoRow, standIns := [], harness := (true, "fcd146adb7203f68f5d7b2bfcfbc017baa7c786e8a8a88dca776c5dbdc7279f5"), looks := false }, kinds := [], alts := [], laidByText := true, laidKinds := [.data], laidTests := true, laidLooks := .later }
def DeflateUnparseUptoCardSaid : Prop := Claim7.holds Tryd.pinned (.plain (OpenSpec.upto deflateUnparseSpec)) deflateUnparseUptoCard

/-- THE SECOND FORM's CARD OF 'quirelaw04.DeflateRow'. -/
def deflateRowUptoCard : Claim7 := { stood := { row := deflateRowUptoRow, standIns := [], harness := (true, "fcd146adb7203f68f5d7b2bfcfbc017baa7c786e8a8a88dca776c5dbdc7279f5"), looks := false }, kinds := [], alts := [], laidByText := true, laidKinds := [.data], laidTests := true, laidLooks := .later }
def DeflateRowUptoCardSaid : Prop := Claim7.holds Tryd.pinned (.plain (OpenSpec.upto deflateRowSpec)) deflateRowUptoCard
end Rows
end Go.Proofs.YtinbilbgipfemaaDoor
