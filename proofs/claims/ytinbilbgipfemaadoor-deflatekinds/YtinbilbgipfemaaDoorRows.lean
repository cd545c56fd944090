/-
  NARROWER THAN 'FOR EVERY INPUT', by the rows' own cells (each row's printed sentence says how): DeflateKinds: laid · DeflateParse: laid · DeflateUnparse: laid · DeflateRow: laid.
  DERIVED. THE GIVEN ROWS OF THIS SEAT. 4 by the template 'for every input the law returns true; each argument reads behind the call as it read before'; 0 by the template 'total and deterministic' (their statements: YtinbilbgipfemaaDoorTotals.lean).
  GIVEN WITH THE SEED: the statements are not yours to turn. If you find one false, say at which input.
  Laid BY PROGRAM, IN A SANDBOX (cutbox-rows.mjs): the forced cells as the released guide's own fill.sh prints them over the translation 66c3f3791ecb01b3… (all of the seat's roots in one cut). By AI agents, Wed Nov 11 2026. No macro, syntax, notation, axiom, sorry.
-/
import Derived.Test.YtinbilbgipfemaaDoorChecked
import GoSem.Claim
import GoSem.ClaimJoined
import GoSem.ClaimMapViews
import Derived.JoinedTies
import Derived.KernelRfl
namespace Go.Proofs.YtinbilbgipfemaaDoor
/- THE CELL 'sum', in the pinned program and in every row, IS THE sha256 OF THE DUMP (.gsa) THAT YtinbilbgipfemaaDoorProg.lean LOADS. Nothing in Lean hashes anything: it is a label: what it is worth is what the hold of that sum in a sandbox is worth. -/
noncomputable def Tryd.pinned : Pinned := { name := "ytinbilbgipfemaadoor", sum := "66c3f3791ecb01b3ecb6ef91a8ccf11a790588d0025b89319a9ab940b1996d90", checked := Tryd.checked }
namespace Rows
def none {H : Type} : Left H := { results := [], args := [] }

/- WHAT THE LISTED PACKAGE-LEVEL VARIABLES READ AS WHEN THE CALL BEGINS. Each datum BY PROGRAM (the guide's laid-datum.mjs) off the statement by which the dump's own 'gosem.cut.vars' lays the variable. In a bare row this is a premise. The card (YtinbilbgipfemaaDoorCards.lean) ties it to the program's text. -/
def laid_quire_deflate_lengthOrder {H : Type} : DataW H := .agg [.lit (.int .i64 16), .lit (.int .i64 17), .lit (.int .i64 18), .lit (.int .i64 0), .lit (.int .i64 8), .lit (.int .i64 7), .lit (.int .i64 9), .lit (.int .i64 6), .lit (.int .i64 10), .lit (.int .i64 5), .lit (.int .i64 11), .lit (.int .i64 4), .lit (.int .i64 12), .lit (.int .i64 3), .lit (.int .i64 13), .lit (.int .i64 2), .lit (.int .i64 14), .lit (.int .i64 1), .lit (.int .i64 15)]

/-- 'quirelaw04.DeflateKinds': WHATEVER THE INPUT: true; the input reads as it did. -/
def deflateKindsSpec : ChangeSpec := { name := "deflateKinds", fn := fun _ => fun
  | [d1, d2] => { results := [.lit (.bool true)], args := [d1, d2] }
  | _ => none }
def deflateKindsRow : OpenClaim := { program := "ytinbilbgipfemaadoor", sum := "66c3f3791ecb01b3ecb6ef91a8ccf11a790588d0025b89319a9ab940b1996d90", func := "quire/quirelaw04.DeflateKinds", spec := "deflateKinds", unfollowed := true, recurses := true, named := ["quire/deflate.lengthOrder"], apart := false, laid := [("quire/deflate.lengthOrder", laid_quire_deflate_lengthOrder)] }
def DeflateKindsSaid : Prop := deflateKindsRow.holds Tryd.pinned (OpenSpec.ofChange deflateKindsSpec)

/-- ITS FALSE NEIGHBOUR: 'it returns false'. Refute it at one input. -/
def deflateKindsWrong : ChangeSpec := { name := "deflateKinds", fn := fun _ => fun
  | [d1, d2] => { results := [.lit (.bool false)], args := [d1, d2] }
  | _ => none }
def DeflateKindsWrongFalsely : Prop := deflateKindsRow.holds Tryd.pinned (OpenSpec.ofChange deflateKindsWrong)

/-- 'quirelaw04.DeflateParse': WHATEVER THE INPUT: true; the input reads as it did. -/
def deflateParseSpec : ChangeSpec := { name := "deflateParse", fn := fun _ => fun
  | [d] => { results := [.lit (.bool true)], args := [d] }
  | _ => none }
def deflateParseRow : OpenClaim := { program := "ytinbilbgipfemaadoor", sum := "66c3f3791ecb01b3ecb6ef91a8ccf11a790588d0025b89319a9ab940b1996d90", func := "quire/quirelaw04.DeflateParse", spec := "deflateParse", unfollowed := true, recurses := true, named := ["quire/deflate.lengthOrder"], apart := false, laid := [("quire/deflate.lengthOrder", laid_quire_deflate_lengthOrder)] }
def DeflateParseSaid : Prop := deflateParseRow.holds Tryd.pinned (OpenSpec.ofChange deflateParseSpec)

/-- ITS FALSE NEIGHBOUR: 'it returns false'. Refute it at one input. -/
def deflateParseWrong : ChangeSpec := { name := "deflateParse", fn := fun _ => fun
  | [d] => { results := [.lit (.bool false)], args := [d] }
  | _ => none }
def DeflateParseWrongFalsely : Prop := deflateParseRow.holds Tryd.pinned (OpenSpec.ofChange deflateParseWrong)

/-- 'quirelaw04.DeflateUnparse': WHATEVER THE INPUT: true; the input reads as it did. -/
def deflateUnparseSpec : ChangeSpec := { name := "deflateUnparse", fn := fun _ => fun
  | [d] => { results := [.lit (.bool true)], args := [d] }
  | _ => none }
def deflateUnparseRow : OpenClaim := { program := "ytinbilbgipfemaadoor", sum := "66c3f3791ecb01b3ecb6ef91a8ccf11a790588d0025b89319a9ab940b1996d90", func := "quire/quirelaw04.DeflateUnparse", spec := "deflateUnparse", unfollowed := true, recurses := true, named := ["quire/deflate.lengthOrder"], apart := false, laid := [("quire/deflate.lengthOrder", laid_quire_deflate_lengthOrder)] }
def DeflateUnparseSaid : Prop := deflateUnparseRow.holds Tryd.pinned (OpenSpec.ofChange deflateUnparseSpec)

/-- ITS FALSE NEIGHBOUR: 'it returns false'. Refute it at one input. -/
def deflateUnparseWrong : ChangeSpec := { name := "deflateUnparse", fn := fun _ => fun
  | [d] => { results := [.lit (.bool false)], args := [d] }
  | _ => none }
def DeflateUnparseWrongFalsely : Prop := deflateUnparseRow.holds Tryd.pinned (OpenSpec.ofChange deflateUnparseWrong)

/-- 'quirelaw04.DeflateRow': WHATEVER THE INPUT: true; the input reads as it did. -/
def deflateRowSpec : ChangeSpec := { name := "deflateRow", fn := fun _ => fun
  | [d] => { results := [.lit (.bool true)], args := [d] }
  | _ => none }
def deflateRowRow : OpenClaim := { program := "ytinbilbgipfemaadoor", sum := "66c3f3791ecb01b3ecb6ef91a8ccf11a790588d0025b89319a9ab940b1996d90", func := "quire/quirelaw04.DeflateRow", spec := "deflateRow", unfollowed := true, recurses := true, named := ["quire/deflate.lengthOrder"], apart := false, laid := [("quire/deflate.lengthOrder", laid_quire_deflate_lengthOrder)] }
def DeflateRowSaid : Prop := deflateRowRow.holds Tryd.pinned (OpenSpec.ofChange deflateRowSpec)

/-- ITS FALSE NEIGHBOUR: 'it returns false'. Refute it at one input. -/
def deflateRowWrong : ChangeSpec := { name := "deflateRow", fn := fun _ => fun
  | [d] => { results := [.lit (.bool false)], args := [d] }
  | _ => none }
def DeflateRowWrongFalsely : Prop := deflateRowRow.holds Tryd.pinned (OpenSpec.ofChange deflateRowWrong)

/- THE SECOND FORM. 'bulk': how many values and letters a reading holds, each counted each time it is reached (what is shared counts as often as it is met; a slice's spare places count too). A statement '..UptoSaid' is the law's where the arguments, and the package variables that the reading takes, are together of bulk at most 1048576: NARROWER than '..Said'. Prove '..Said' where nothing that the law and all that it calls make is longer than what came in: it says more and counts as full. Else prove '..UptoSaid'. A law counts once. -/
mutual
def uptoBulk {H : Type} : DataW H → Nat
  | .lit (.string bytes) => bytes.length + 1
  | .lit _ => 1
  | .nil => 1
  | .ptr d => uptoBulk d + 1
  | .slice elems spare => uptoBulkAll elems + uptoBulkAll spare + 1
  | .agg parts => uptoBulkAll parts + 1
  | .iface _ d => uptoBulk d + 1
  | .map entries => uptoBulkEntries entries + 1
  | .held _ => 1
def uptoBulkAll {H : Type} : List (DataW H) → Nat
  | [] => 0
  | d :: r => uptoBulk d + uptoBulkAll r
def uptoBulkEntries {H : Type} : List (Lit × DataW H) → Nat
  | [] => 0
  | x :: r => uptoBulkEntry x + uptoBulkEntries r
def uptoBulkEntry {H : Type} : Lit × DataW H → Nat
  | (.string bytes, d) => bytes.length + uptoBulk d + 1
  | (_, d) => uptoBulk d + 1
 end
def uptoSmall : (H : Type) → List (DataW H) → Bool := fun _ ds => decide (uptoBulkAll ds ≤ 1048576)
def OpenSpec.upto (s : _root_.Go.ChangeSpec) : _root_.Go.OpenSpec := { _root_.Go.OpenSpec.ofChange s with cond := some uptoSmall }

/-- 'quirelaw04.DeflateKinds', WHERE WHAT IT READS IS OF BULK AT MOST 1048576: true; the input reads as it did. -/
def deflateKindsUptoRow : OpenClaim := { program := "ytinbilbgipfemaadoor", sum := "66c3f3791ecb01b3ecb6ef91a8ccf11a790588d0025b89319a9ab940b1996d90", func := "quire/quirelaw04.DeflateKinds", spec := "deflateKinds", unfollowed := true, recurses := true, named := ["quire/deflate.lengthOrder"], apart := false, laid := [("quire/deflate.lengthOrder", laid_quire_deflate_lengthOrder)], narrowed := true }
def DeflateKindsUptoSaid : Prop := deflateKindsUptoRow.holds Tryd.pinned (OpenSpec.upto deflateKindsSpec)

/-- 'quirelaw04.DeflateParse', WHERE WHAT IT READS IS OF BULK AT MOST 1048576: true; the input reads as it did. -/
def deflateParseUptoRow : OpenClaim := { program := "ytinbilbgipfemaadoor", sum := "66c3f3791ecb01b3ecb6ef91a8ccf11a790588d0025b89319a9ab940b1996d90", func := "quire/quirelaw04.DeflateParse", spec := "deflateParse", unfollowed := true, recurses := true, named := ["quire/deflate.lengthOrder"], apart := false, laid := [("quire/deflate.lengthOrder", laid_quire_deflate_lengthOrder)], narrowed := true }
def DeflateParseUptoSaid : Prop := deflateParseUptoRow.holds Tryd.pinned (OpenSpec.upto deflateParseSpec)

/-- 'quirelaw04.DeflateUnparse', WHERE WHAT IT READS IS OF BULK AT MOST 1048576: true; the input reads as it did. -/
def deflateUnparseUptoRow : OpenClaim := { program := "ytinbilbgipfemaadoor", sum := "66c3f3791ecb01b3ecb6ef91a8ccf11a790588d0025b89319a9ab940b1996d90", func := "quire/quirelaw04.DeflateUnparse", spec := "deflateUnparse", unfollowed := true, recurses := true, named := ["quire/deflate.lengthOrder"], apart := false, laid := [("quire/deflate.lengthOrder", laid_quire_deflate_lengthOrder)], narrowed := true }
def DeflateUnparseUptoSaid : Prop := deflateUnparseUptoRow.holds Tryd.pinned (OpenSpec.upto deflateUnparseSpec)

/-- 'quirelaw04.DeflateRow', WHERE WHAT IT READS IS OF BULK AT MOST 1048576: true; the input reads as it did. -/
def deflateRowUptoRow : OpenClaim := { program := "ytinbilbgipfemaadoor", sum := "66c3f3791ecb01b3ecb6ef91a8ccf11a790588d0025b89319a9ab940b1996d90", func := "quire/quirelaw04.DeflateRow", spec := "deflateRow", unfollowed := true, recurses := true, named := ["quire/deflate.lengthOrder"], apart := false, laid := [("quire/deflate.lengthOrder", laid_quire_deflate_lengthOrder)], narrowed := true }
def DeflateRowUptoSaid : Prop := deflateRowUptoRow.holds Tryd.pinned (OpenSpec.upto deflateRowSpec)

end Rows
end Go.Proofs.YtinbilbgipfemaaDoor
