/-
  NARROWER THAN 'FOR EVERY INPUT', by the rows' own cells (each row's printed sentence says how): InflateReads: laid · InflateTables: laid · InflateBehind: laid · InflateMost: laid.
  DERIVED. THE GIVEN ROWS OF THIS SEAT. 4 by the template 'for every input the law returns true; each argument reads behind the call as it read before'; 0 by the template 'total and deterministic' (their statements: YtiheajlgaehfmaaDoorTotals.lean).
  GIVEN WITH THE SEED: the statements are not yours to turn. If you find one false, say at which input.
  Laid BY PROGRAM, IN A SANDBOX (cutbox-rows.mjs): the forced cells as the released guide's own fill.sh prints them over the translation 628acc1142b08827… (all of the seat's roots in one cut). By AI agents, Wed Nov 11 2026. No macro, syntax, notation, axiom, sorry.
-/
import Derived.Test.YtiheajlgaehfmaaDoorChecked
import GoSem.Claim
import GoSem.ClaimJoined
import GoSem.ClaimMapViews
import Derived.JoinedTies
import Derived.KernelRfl
namespace Go.Proofs.YtiheajlgaehfmaaDoor
/- THE CELL 'sum', in the pinned program and in every row, IS THE sha256 OF THE DUMP (.gsa) THAT YtiheajlgaehfmaaDoorProg.lean LOADS. Nothing in Lean hashes anything: it is a label: what it is worth is what the hold of that sum in a sandbox is worth. -/
noncomputable def Tryd.pinned : Pinned := { name := "ytiheajlgaehfmaadoor", sum := "628acc1142b0882757f6f7d350d2c4b45344aa988ebe8d63bea1bf0254eb2865", checked := Tryd.checked }
namespace Rows
def none {H : Type} : Left H := { results := [], args := [] }

/- WHAT THE LISTED PACKAGE-LEVEL VARIABLES READ AS WHEN THE CALL BEGINS. Each datum BY PROGRAM (the guide's laid-datum.mjs) off the statement by which the dump's own 'gosem.cut.vars' lays the variable. In a bare row this is a premise. The card (YtiheajlgaehfmaaDoorCards.lean) ties it to the program's text. -/
def laid_quire_inflate_lengthOrder {H : Type} : DataW H := .agg [.lit (.int .i64 16), .lit (.int .i64 17), .lit (.int .i64 18), .lit (.int .i64 0), .lit (.int .i64 8), .lit (.int .i64 7), .lit (.int .i64 9), .lit (.int .i64 6), .lit (.int .i64 10), .lit (.int .i64 5), .lit (.int .i64 11), .lit (.int .i64 4), .lit (.int .i64 12), .lit (.int .i64 3), .lit (.int .i64 13), .lit (.int .i64 2), .lit (.int .i64 14), .lit (.int .i64 1), .lit (.int .i64 15)]

/-- 'quirelaw03.InflateReads': WHATEVER THE INPUT: true; the input reads as it did. -/
def inflateReadsSpec : ChangeSpec := { name := "inflateReads", fn := fun _ => fun
  | [d1, d2] => { results := [.lit (.bool true)], args := [d1, d2] }
  | _ => none }
def inflateReadsRow : OpenClaim := { program := "ytiheajlgaehfmaadoor", sum := "628acc1142b0882757f6f7d350d2c4b45344aa988ebe8d63bea1bf0254eb2865", func := "quire/quirelaw03.InflateReads", spec := "inflateReads", unfollowed := true, recurses := true, named := ["quire/inflate.lengthOrder"], apart := false, laid := [("quire/inflate.lengthOrder", laid_quire_inflate_lengthOrder)] }
def InflateReadsSaid : Prop := inflateReadsRow.holds Tryd.pinned (OpenSpec.ofChange inflateReadsSpec)

/-- ITS FALSE NEIGHBOUR: 'it returns false'. Refute it at one input. -/
def inflateReadsWrong : ChangeSpec := { name := "inflateReads", fn := fun _ => fun
  | [d1, d2] => { results := [.lit (.bool false)], args := [d1, d2] }
  | _ => none }
def InflateReadsWrongFalsely : Prop := inflateReadsRow.holds Tryd.pinned (OpenSpec.ofChange inflateReadsWrong)

/-- 'quirelaw03.InflateTables': WHATEVER THE INPUT: true; the input reads as it did. -/
def inflateTablesSpec : ChangeSpec := { name := "inflateTables", fn := fun _ => fun
  | [d] => { results := [.lit (.bool true)], args := [d] }
  | _ => none }
def inflateTablesRow : OpenClaim := { program := "ytiheajlgaehfmaadoor", sum := "628acc1142b0882757f6f7d350d2c4b45344aa988ebe8d63bea1bf0254eb2865", func := "quire/quirelaw03.InflateTables", spec := "inflateTables", unfollowed := true, recurses := true, named := ["quire/inflate.lengthOrder"], apart := false, laid := [("quire/inflate.lengthOrder", laid_quire_inflate_lengthOrder)] }
def InflateTablesSaid : Prop := inflateTablesRow.holds Tryd.pinned (OpenSpec.ofChange inflateTablesSpec)

/-- ITS FALSE NEIGHBOUR: 'it returns false'. Refute it at one input. -/
def inflateTablesWrong : ChangeSpec := { name := "inflateTables", fn := fun _ => fun
  | [d] => { results := [.lit (.bool false)], args := [d] }
  | _ => none }
def InflateTablesWrongFalsely : Prop := inflateTablesRow.holds Tryd.pinned (OpenSpec.ofChange inflateTablesWrong)

/-- 'quirelaw03.InflateBehind': WHATEVER THE INPUT: true; the input reads as it did. -/
def inflateBehindSpec : ChangeSpec := { name := "inflateBehind", fn := fun _ => fun
  | [d1, d2, d3] => { results := [.lit (.bool true)], args := [d1, d2, d3] }
  | _ => none }
def inflateBehindRow : OpenClaim := { program := "ytiheajlgaehfmaadoor", sum := "628acc1142b0882757f6f7d350d2c4b45344aa988ebe8d63bea1bf0254eb2865", func := "quire/quirelaw03.InflateBehind", spec := "inflateBehind", unfollowed := true, recurses := true, named := ["quire/inflate.lengthOrder"], apart := false, laid := [("quire/inflate.lengthOrder", laid_quire_inflate_lengthOrder)] }
def InflateBehindSaid : Prop := inflateBehindRow.holds Tryd.pinned (OpenSpec.ofChange inflateBehindSpec)

/-- ITS FALSE NEIGHBOUR: 'it returns false'. Refute it at one input. -/
def inflateBehindWrong : ChangeSpec := { name := "inflateBehind", fn := fun _ => fun
  | [d1, d2, d3] => { results := [.lit (.bool false)], args := [d1, d2, d3] }
  | _ => none }
def InflateBehindWrongFalsely : Prop := inflateBehindRow.holds Tryd.pinned (OpenSpec.ofChange inflateBehindWrong)

/-- 'quirelaw03.InflateMost': WHATEVER THE INPUT: true; the input reads as it did. -/
def inflateMostSpec : ChangeSpec := { name := "inflateMost", fn := fun _ => fun
  | [d] => { results := [.lit (.bool true)], args := [d] }
  | _ => none }
def inflateMostRow : OpenClaim := { program := "ytiheajlgaehfmaadoor", sum := "628acc1142b0882757f6f7d350d2c4b45344aa988ebe8d63bea1bf0254eb2865", func := "quire/quirelaw03.InflateMost", spec := "inflateMost", unfollowed := true, recurses := true, named := ["quire/inflate.lengthOrder"], apart := false, laid := [("quire/inflate.lengthOrder", laid_quire_inflate_lengthOrder)] }
def InflateMostSaid : Prop := inflateMostRow.holds Tryd.pinned (OpenSpec.ofChange inflateMostSpec)

/-- ITS FALSE NEIGHBOUR: 'it returns false'. Refute it at one input. -/
def inflateMostWrong : ChangeSpec := { name := "inflateMost", fn := fun _ => fun
  | [d] => { results := [.lit (.bool false)], args := [d] }
  | _ => none }
def InflateMostWrongFalsely : Prop := inflateMostRow.holds Tryd.pinned (OpenSpec.ofChange inflateMostWrong)

/- THE SECOND FORM. 'bulk': how many values and letters a reading holds, each counted each time it is reached (what is shared counts as often as it is met; a slice's spare places count too). A statement '..UptoSaid' is the law's where the arguments, and the package variables that the reading takes, are together of bulk at most 1048576: NARROWER than '..Said'. Prove '..Said' where nothing that the law and all that it calls make is longer than what came in: it says more and counts as full. Else prove '..UptoSaid'. A law counts once. -/
mutual
def uptoBulk {H : Type} : DataW H → Nat
  | .lit (.string bytes) => bytes.length + 1
  | .lit _ => 1
  | .nil => 1
  | .ptr d => uptoBulk d + 1
  | .slice elems spare => uptoBulkAll elems + uptoBulkAll spare + 1
  | .agg parts => uptoBulkAll parts + 1
  | .iface _ d => uptoBulk d + 1
  | .map entries => uptoBulkEntries entries + 1
  | .held _ => 1
def uptoBulkAll {H : Type} : List (DataW H) → Nat
  | [] => 0
  | d :: r => uptoBulk d + uptoBulkAll r
def uptoBulkEntries {H : Type} : List (Lit × DataW H) → Nat
  | [] => 0
  | x :: r => uptoBulkEntry x + uptoBulkEntries r
def uptoBulkEntry {H : Type} : Lit × DataW H → Nat
  | (.string bytes, d) => bytes.length + uptoBulk d + 1
  | (_, d) => uptoBulk d + 1
 end
def uptoSmall : (H : Type) → List (DataW H) → Bool := fun _ ds => decide (uptoBulkAll ds ≤ 1048576)
def OpenSpec.upto (s : _root_.Go.ChangeSpec) : _root_.Go.OpenSpec := { _root_.Go.OpenSpec.ofChange s with cond := some uptoSmall }

/-- 'quirelaw03.InflateReads', WHERE WHAT IT READS IS OF BULK AT MOST 1048576: true; the input reads as it did. -/
def inflateReadsUptoRow : OpenClaim := { program := "ytiheajlgaehfmaadoor", sum := "628acc1142b0882757f6f7d350d2c4b45344aa988ebe8d63bea1bf0254eb2865", func := "quire/quirelaw03.InflateReads", spec := "inflateReads", unfollowed := true, recurses := true, named := ["quire/inflate.lengthOrder"], apart := false, laid := [("quire/inflate.lengthOrder", laid_quire_inflate_lengthOrder)], narrowed := true }
def InflateReadsUptoSaid : Prop := inflateReadsUptoRow.holds Tryd.pinned (OpenSpec.upto inflateReadsSpec)

/-- 'quirelaw03.InflateTables', WHERE WHAT IT READS IS OF BULK AT MOST 1048576: true; the input reads as it did. -/
def inflateTablesUptoRow : OpenClaim := { program := "ytiheajlgaehfmaadoor", sum := "628acc1142b0882757f6f7d350d2c4b45344aa988ebe8d63bea1bf0254eb2865", func := "quire/quirelaw03.InflateTables", spec := "inflateTables", unfollowed := true, recurses := true, named := ["quire/inflate.lengthOrder"], apart := false, laid := [("quire/inflate.lengthOrder", laid_quire_inflate_lengthOrder)], narrowed := true }
def InflateTablesUptoSaid : Prop := inflateTablesUptoRow.holds Tryd.pinned (OpenSpec.upto inflateTablesSpec)

/-- 'quirelaw03.InflateBehind', WHERE WHAT IT READS IS OF BULK AT MOST 1048576: true; the input reads as it did. -/
def inflateBehindUptoRow : OpenClaim := { program := "ytiheajlgaehfmaadoor", sum := "628acc1142b0882757f6f7d350d2c4b45344aa988ebe8d63bea1bf0254eb2865", func := "quire/quirelaw03.InflateBehind", spec := "inflateBehind", unfollowed := true, recurses := true, named := ["quire/inflate.lengthOrder"], apart := false, laid := [("quire/inflate.lengthOrder", laid_quire_inflate_lengthOrder)], narrowed := true }
def InflateBehindUptoSaid : Prop := inflateBehindUptoRow.holds Tryd.pinned (OpenSpec.upto inflateBehindSpec)

/-- 'quirelaw03.InflateMost', WHERE WHAT IT READS IS OF BULK AT MOST 1048576: true; the input reads as it did. -/
def inflateMostUptoRow : OpenClaim := { program := "ytiheajlgaehfmaadoor", sum := "628acc1142b0882757f6f7d350d2c4b45344aa988ebe8d63bea1bf0254eb2865", func := "quire/quirelaw03.InflateMost", spec := "inflateMost", unfollowed := true, recurses := true, named := ["quire/inflate.lengthOrder"], apart := false, laid := [("quire/inflate.lengthOrder", laid_quire_inflate_lengthOrder)], narrowed := true }
def InflateMostUptoSaid : Prop := inflateMostUptoRow.holds Tryd.pinned (OpenSpec.upto inflateMostSpec)

end Rows
end Go.Proofs.YtiheajlgaehfmaaDoor
