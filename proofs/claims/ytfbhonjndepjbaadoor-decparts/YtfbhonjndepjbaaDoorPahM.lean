import Derived.Test.YtfbhonjndepjbaaDoorWdvM
import Derived.Test.YtfbhonjndepjbaaDoorSh2
import Derived.Lib.IndexBytes
import Derived.WalkLawsBesides
/- Texts as lists of bytes, and the signs that a text begins with. -/
namespace Go.Proofs.YtfbhonjndepjbaaDoor
open Go.RowKit

/-- A text of bytes. -/
def bs (l : List UInt8) : ByteArray := ⟨l.toArray⟩
theorem bs_size (l : List UInt8) : (bs l).size = l.length := by simp [bs, ByteArray.size]
theorem drop_step (l : List UInt8) (k : Nat) (h : k < (bs l).size) : l.drop k = (bs l)[k] :: l.drop (k + 1) := by
  have h' : k < l.length := by rw [bs_size] at h; exact h
  rw [List.drop_eq_getElem_cons h']
  rfl
end Go.Proofs.YtfbhonjndepjbaaDoor
/- dec's digitsAhead, exponent. -/
namespace Go.Proofs.YtfbhonjndepjbaaDoor
open Go.RowKit

end Go.Proofs.YtfbhonjndepjbaaDoor
/- dec's exponent, whole. -/
namespace Go.Proofs.YtfbhonjndepjbaaDoor
open Go.RowKit

end Go.Proofs.YtfbhonjndepjbaaDoor
/- dec's read: a number's text, taken apart. -/
namespace Go.Proofs.YtfbhonjndepjbaaDoor
open Go.RowKit

/-- A number's text: its sign, the digits ahead of the point and behind it, the exponent. -/
structure Wr where
  neg : Bool
  whole : List UInt8
  part : List UInt8
  e : Int
def Wr.cells (x : Wr) : Array Value := #[.bool x.neg, .string (bs x.whole), .string (bs x.part), .int .i64 x.e]
def Wr.v (x : Wr) : Value := .agg x.cells
end Go.Proofs.YtfbhonjndepjbaaDoor
/- dec's read, whole. -/
namespace Go.Proofs.YtfbhonjndepjbaaDoor
open Go.RowKit

end Go.Proofs.YtfbhonjndepjbaaDoor
