/-
  No cell of these rows narrows 'for every input' (looked for: loops, veiled, ifaces, maps, wideKeys, modest, calm, conditions, laid).
  DERIVED. THE GIVEN ROWS OF THIS SEAT. 5 by the template 'for every input the law returns true; each argument reads behind the call as it read before'; 0 by the template 'total and deterministic' (their statements: YtckopbcpjecjhaaTotals.lean).
  GIVEN WITH THE SEED: the statements are not yours to turn. If you find one false, say at which input.
  Laid BY PROGRAM, IN A SANDBOX (cutbox-rows.mjs): the forced cells as the released guide's own fill.sh prints them over the translation 6ba1bc90bfe079cb… (all of the seat's roots in one cut). By AI agents, Wed Nov 11 2026. No macro, syntax, notation, axiom, sorry.
-/
import Derived.Test.YtckopbcpjecjhaaChecked
import GoSem.Claim
import GoSem.ClaimJoined
import GoSem.ClaimMapViews
import Derived.JoinedTies
import Derived.KernelRfl
namespace Go.Proofs.Ytckopbcpjecjhaa
/- THE CELL 'sum', in the pinned program and in every row, IS THE sha256 OF THE DUMP (.gsa) THAT YtckopbcpjecjhaaProg.lean LOADS. Nothing in Lean hashes anything: it is a label: what it is worth is what the hold of that sum in a sandbox is worth. -/
noncomputable def Try.pinned : Pinned := { name := "ytckopbcpjecjhaa", sum := "6ba1bc90bfe079cb72c7d48f22fc51ff0a00aac21cab4bb2958c031784d0674f", checked := Try.checked }
namespace Rows
def none {H : Type} : Left H := { results := [], args := [] }

/-- 'quirelaw06.UtfTexts': WHATEVER THE INPUT: true; the input reads as it did. -/
def utfTextsSpec : ChangeSpec := { name := "utfTexts", fn := fun _ => fun
  | [d] => { results := [.lit (.bool true)], args := [d] }
  | _ => none }
def utfTextsRow : OpenClaim := { program := "ytckopbcpjecjhaa", sum := "6ba1bc90bfe079cb72c7d48f22fc51ff0a00aac21cab4bb2958c031784d0674f", func := "quire/quirelaw06.UtfTexts", spec := "utfTexts", inPlace := ["internal/abi.NoEscape"], apart := false }
def UtfTextsSaid : Prop := utfTextsRow.holds Try.pinned (OpenSpec.ofChange utfTextsSpec)

/-- ITS FALSE NEIGHBOUR: 'it returns false'. Refute it at one input. -/
def utfTextsWrong : ChangeSpec := { name := "utfTexts", fn := fun _ => fun
  | [d] => { results := [.lit (.bool false)], args := [d] }
  | _ => none }
def UtfTextsWrongFalsely : Prop := utfTextsRow.holds Try.pinned (OpenSpec.ofChange utfTextsWrong)

/-- 'quirelaw06.UtfCuts': WHATEVER THE INPUT: true; the input reads as it did. -/
def utfCutsSpec : ChangeSpec := { name := "utfCuts", fn := fun _ => fun
  | [d1, d2, d3, d4] => { results := [.lit (.bool true)], args := [d1, d2, d3, d4] }
  | _ => none }
def utfCutsRow : OpenClaim := { program := "ytckopbcpjecjhaa", sum := "6ba1bc90bfe079cb72c7d48f22fc51ff0a00aac21cab4bb2958c031784d0674f", func := "quire/quirelaw06.UtfCuts", spec := "utfCuts", inPlace := ["internal/abi.NoEscape"], apart := false }
def UtfCutsSaid : Prop := utfCutsRow.holds Try.pinned (OpenSpec.ofChange utfCutsSpec)

/-- ITS FALSE NEIGHBOUR: 'it returns false'. Refute it at one input. -/
def utfCutsWrong : ChangeSpec := { name := "utfCuts", fn := fun _ => fun
  | [d1, d2, d3, d4] => { results := [.lit (.bool false)], args := [d1, d2, d3, d4] }
  | _ => none }
def UtfCutsWrongFalsely : Prop := utfCutsRow.holds Try.pinned (OpenSpec.ofChange utfCutsWrong)

/-- 'quirelaw06.UtfTurns': WHATEVER THE INPUT: true; the input reads as it did. -/
def utfTurnsSpec : ChangeSpec := { name := "utfTurns", fn := fun _ => fun
  | [d1, d2] => { results := [.lit (.bool true)], args := [d1, d2] }
  | _ => none }
def utfTurnsRow : OpenClaim := { program := "ytckopbcpjecjhaa", sum := "6ba1bc90bfe079cb72c7d48f22fc51ff0a00aac21cab4bb2958c031784d0674f", func := "quire/quirelaw06.UtfTurns", spec := "utfTurns", inPlace := ["internal/abi.NoEscape"], apart := false }
def UtfTurnsSaid : Prop := utfTurnsRow.holds Try.pinned (OpenSpec.ofChange utfTurnsSpec)

/-- ITS FALSE NEIGHBOUR: 'it returns false'. Refute it at one input. -/
def utfTurnsWrong : ChangeSpec := { name := "utfTurns", fn := fun _ => fun
  | [d1, d2] => { results := [.lit (.bool false)], args := [d1, d2] }
  | _ => none }
def UtfTurnsWrongFalsely : Prop := utfTurnsRow.holds Try.pinned (OpenSpec.ofChange utfTurnsWrong)

/-- 'quirelaw06.UtfBack': WHATEVER THE INPUT: true; the input reads as it did. -/
def utfBackSpec : ChangeSpec := { name := "utfBack", fn := fun _ => fun
  | [d1, d2, d3] => { results := [.lit (.bool true)], args := [d1, d2, d3] }
  | _ => none }
def utfBackRow : OpenClaim := { program := "ytckopbcpjecjhaa", sum := "6ba1bc90bfe079cb72c7d48f22fc51ff0a00aac21cab4bb2958c031784d0674f", func := "quire/quirelaw06.UtfBack", spec := "utfBack", inPlace := ["internal/abi.NoEscape"], apart := false }
def UtfBackSaid : Prop := utfBackRow.holds Try.pinned (OpenSpec.ofChange utfBackSpec)

/-- ITS FALSE NEIGHBOUR: 'it returns false'. Refute it at one input. -/
def utfBackWrong : ChangeSpec := { name := "utfBack", fn := fun _ => fun
  | [d1, d2, d3] => { results := [.lit (.bool false)], args := [d1, d2, d3] }
  | _ => none }
def UtfBackWrongFalsely : Prop := utfBackRow.holds Try.pinned (OpenSpec.ofChange utfBackWrong)

/-- 'quirelaw06.UtfTwice': WHATEVER THE INPUT: true; the input reads as it did. -/
def utfTwiceSpec : ChangeSpec := { name := "utfTwice", fn := fun _ => fun
  | [d] => { results := [.lit (.bool true)], args := [d] }
  | _ => none }
def utfTwiceRow : OpenClaim := { program := "ytckopbcpjecjhaa", sum := "6ba1bc90bfe079cb72c7d48f22fc51ff0a00aac21cab4bb2958c031784d0674f", func := "quire/quirelaw06.UtfTwice", spec := "utfTwice", inPlace := ["internal/abi.NoEscape"], apart := false }
def UtfTwiceSaid : Prop := utfTwiceRow.holds Try.pinned (OpenSpec.ofChange utfTwiceSpec)

/-- ITS FALSE NEIGHBOUR: 'it returns false'. Refute it at one input. -/
def utfTwiceWrong : ChangeSpec := { name := "utfTwice", fn := fun _ => fun
  | [d] => { results := [.lit (.bool false)], args := [d] }
  | _ => none }
def UtfTwiceWrongFalsely : Prop := utfTwiceRow.holds Try.pinned (OpenSpec.ofChange utfTwiceWrong)

/- THE SECOND FORM. 'bulk': how many values and letters a reading holds, each counted each time it is reached (what is shared counts as often as it is met; a slice's spare places count too). A statement '..UptoSaid' is the law's where the arguments, and the package variables that the reading takes, are together of bulk at most 1048576: NARROWER than '..Said'. Prove '..Said' where nothing that the law and all that it calls make is longer than what came in: it says more and counts as full. Else prove '..UptoSaid'. A law counts once. -/
mutual
def uptoBulk {H : Type} : DataW H → Nat
  | .lit (.string bytes) => bytes.length + 1
  | .lit _ => 1
  | .nil => 1
  | .ptr d => uptoBulk d + 1
  | .slice elems spare => uptoBulkAll elems + uptoBulkAll spare + 1
  | .agg parts => uptoBulkAll parts + 1
  | .iface _ d => uptoBulk d + 1
  | .map entries => uptoBulkEntries entries + 1
  | .held _ => 1
def uptoBulkAll {H : Type} : List (DataW H) → Nat
  | [] => 0
  | d :: r => uptoBulk d + uptoBulkAll r
def uptoBulkEntries {H : Type} : List (Lit × DataW H) → Nat
  | [] => 0
  | x :: r => uptoBulkEntry x + uptoBulkEntries r
def uptoBulkEntry {H : Type} : Lit × DataW H → Nat
  | (.string bytes, d) => bytes.length + uptoBulk d + 1
  | (_, d) => uptoBulk d + 1
 end
def uptoSmall : (H : Type) → List (DataW H) → Bool := fun _ ds => decide (uptoBulkAll ds ≤ 1048576)
def OpenSpec.upto (s : _root_.Go.ChangeSpec) : _root_.Go.OpenSpec := { _root_.Go.OpenSpec.ofChange s with cond := some uptoSmall }

/-- 'quirelaw06.UtfTexts', WHERE WHAT IT READS IS OF BULK AT MOST 1048576: true; the input reads as it did. -/
def utfTextsUptoRow : OpenClaim := { program := "ytckopbcpjecjhaa", sum := "6ba1bc90bfe079cb72c7d48f22fc51ff0a00aac21cab4bb2958c031784d0674f", func := "quire/quirelaw06.UtfTexts", spec := "utfTexts", inPlace := ["internal/abi.NoEscape"], apart := false, narrowed := true }
def UtfTextsUptoSaid : Prop := utfTextsUptoRow.holds Try.pinned (OpenSpec.upto utfTextsSpec)

/-- 'quirelaw06.UtfCuts', WHERE WHAT IT READS IS OF BULK AT MOST 1048576: true; the input reads as it did. -/
def utfCutsUptoRow : OpenClaim := { program := "ytckopbcpjecjhaa", sum := "6ba1bc90bfe079cb72c7d48f22fc51ff0a00aac21cab4bb2958c031784d0674f", func := "quire/quirelaw06.UtfCuts", spec := "utfCuts", inPlace := ["internal/abi.NoEscape"], apart := false, narrowed := true }
def UtfCutsUptoSaid : Prop := utfCutsUptoRow.holds Try.pinned (OpenSpec.upto utfCutsSpec)

/-- 'quirelaw06.UtfTurns', WHERE WHAT IT READS IS OF BULK AT MOST 1048576: true; the input reads as it did. -/
def utfTurnsUptoRow : OpenClaim := { program := "ytckopbcpjecjhaa", sum := "6ba1bc90bfe079cb72c7d48f22fc51ff0a00aac21cab4bb2958c031784d0674f", func := "quire/quirelaw06.UtfTurns", spec := "utfTurns", inPlace := ["internal/abi.NoEscape"], apart := false, narrowed := true }
def UtfTurnsUptoSaid : Prop := utfTurnsUptoRow.holds Try.pinned (OpenSpec.upto utfTurnsSpec)

/-- 'quirelaw06.UtfBack', WHERE WHAT IT READS IS OF BULK AT MOST 1048576: true; the input reads as it did. -/
def utfBackUptoRow : OpenClaim := { program := "ytckopbcpjecjhaa", sum := "6ba1bc90bfe079cb72c7d48f22fc51ff0a00aac21cab4bb2958c031784d0674f", func := "quire/quirelaw06.UtfBack", spec := "utfBack", inPlace := ["internal/abi.NoEscape"], apart := false, narrowed := true }
def UtfBackUptoSaid : Prop := utfBackUptoRow.holds Try.pinned (OpenSpec.upto utfBackSpec)

/-- 'quirelaw06.UtfTwice', WHERE WHAT IT READS IS OF BULK AT MOST 1048576: true; the input reads as it did. -/
def utfTwiceUptoRow : OpenClaim := { program := "ytckopbcpjecjhaa", sum := "6ba1bc90bfe079cb72c7d48f22fc51ff0a00aac21cab4bb2958c031784d0674f", func := "quire/quirelaw06.UtfTwice", spec := "utfTwice", inPlace := ["internal/abi.NoEscape"], apart := false, narrowed := true }
def UtfTwiceUptoSaid : Prop := utfTwiceUptoRow.holds Try.pinned (OpenSpec.upto utfTwiceSpec)

end Rows
end Go.Proofs.Ytckopbcpjecjhaa
