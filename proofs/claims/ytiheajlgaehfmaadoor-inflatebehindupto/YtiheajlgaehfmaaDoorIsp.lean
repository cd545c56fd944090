/- What a DEFLATE stream tells, as plain recursions over the place of the next bit and the bytes that have come. -/
import Derived.Test.YtiheajlgaehfmaaDoorNext
import Derived.Test.YtiheajlgaehfmaaDoorRfl
namespace Go.Proofs.YtiheajlgaehfmaaDoor
open Go.RowKit

def takeS (bs : List Int) (pos n : Nat) : Except Int (Nat × Nat) := if pos + n ≤ 8 * bs.length then .ok (orFold (upto (bitF bs pos) n), pos + n) else .error 10
def bytesS (bs : List Int) (pos n : Nat) : Except Int (List Int × Nat) := if (pos + 7) / 8 + n ≤ bs.length then .ok ((bs.drop ((pos + 7) / 8)).take n, (pos + 7) / 8 * 8 + 8 * n) else .error 10
def nextS (zs bs : List Int) (pos : Nat) : Except Int (Nat × Nat) := if (nextOf zs bs pos).2.1 = 0 then .ok ((nextOf zs bs pos).1, pos + (nextOf zs bs pos).2.2) else .error (nextOf zs bs pos).2.1

/-! ### the tables -/
def litBits (s : Nat) : Nat := if s < 265 then 0 else (s - 261) / 4
def litBase : Nat → Nat
  | 0 => 3
  | k + 1 => litBase k + 2 ^ litBits (257 + k)
/-- A length's symbol: its base, its extra bits. -/
def litS (sym : Int) : Option (Nat × Nat) := if sym < 257 ∨ 285 < sym then none else if sym = 285 then some (258, 0) else some (litBase (sym.toNat - 257), litBits sym.toNat)
def distBits (s : Nat) : Nat := if s < 4 then 0 else s / 2 - 1
def distBase : Nat → Nat
  | 0 => 1
  | k + 1 => distBase k + 2 ^ distBits k
def distS (sym : Int) : Option (Nat × Nat) := if sym < 0 ∨ 29 < sym then none else some (distBase sym.toNat, distBits sym.toNat)
def fixLitAt (i : Nat) : Int := if 256 ≤ i ∧ i < 280 then 7 else if 144 ≤ i ∧ i < 256 then 9 else 8
def fixLit : List Int := upto fixLitAt 288
def fixDist : List Int := upto (fun _ => (5 : Int)) 32

/-! ### blocks -/
/-- Bytes are copied from so far behind. -/
def copyS (far : Nat) : Nat → List Int → List Int
  | 0, out => out
  | n + 1, out => copyS far n (out ++ [out[out.length - far]?.getD 0])
def storedS (bs : List Int) (most pos : Nat) (out : List Int) : Except Int (Nat × List Int) := do
  let (b, pos) ← bytesS bs pos 4
  let n := (b[0]?.getD 0).toNat ||| (b[1]?.getD 0).toNat * 256
  let m := (b[2]?.getD 0).toNat ||| (b[3]?.getD 0).toNat * 256
  if n + m ≠ 65535 ∨ n &&& m ≠ 0 then .error 12
  else if most < out.length + n then .error 3
  else
    let (b, pos) ← bytesS bs pos n
    .ok (pos, out ++ b)
/-- A copy: the literals' symbol was read. -/
def copiedS (dz bs : List Int) (most : Nat) (sym pos : Nat) (out : List Int) : Except Int (Nat × List Int) :=
  match litS sym with
  | none => .error 12
  | some (base, extra) => do
    let (x, pos) ← takeS bs pos extra
    let (d, pos) ← nextS dz bs pos
    match distS d with
    | none => .error 12
    | some (dbase, dextra) => do
      let (y, pos) ← takeS bs pos dextra
      if out.length < dbase + y then .error 12
      else if most < out.length + (base + x) then .error 3
      else .ok (pos, copyS (dbase + y) (base + x) out)
/-- A block's symbols: one step. none: the block's end. -/
def symStep (lz dz bs : List Int) (most pos : Nat) (out : List Int) : Except Int (Option Unit × Nat × List Int) := do
  let (x, pos) ← nextS lz bs pos
  if x = 256 then .ok (none, pos, out)
  else if x < 256 then (if out.length < most then .ok (some (), pos, out ++ [(x : Int)]) else .error 3)
  else do
    let (pos, out) ← copiedS dz bs most x pos out
    .ok (some (), pos, out)
def symsS (lz dz bs : List Int) (most : Nat) : Nat → Nat → List Int → Except Int (Nat × List Int)
  | 0, _, _ => .error 99
  | f + 1, pos, out =>
    match symStep lz dz bs most pos out with
    | .error e => .error e
    | .ok (none, pos, out) => .ok (pos, out)
    | .ok (some _, pos, out) => symsS lz dz bs most f pos out
/-- A row of lengths by code lengths: one step. -/
def rowStep (cz bs : List Int) (many pos : Nat) (l : List Int) : Except Int (Nat × List Int) := do
  let (x, pos) ← nextS cz bs pos
  if x < 16 then .ok (pos, l ++ [(x : Int)])
  else if x = 16 ∧ l.length = 0 then .error 12
  else
    let v := if x = 16 then l[l.length - 1]?.getD 0 else 0
    let (k, pos) ← takeS bs pos (if x = 18 then 7 else if x = 17 then 3 else 2)
    let n := (if x = 18 then 11 else 3) + k
    if many < l.length + n then .error 12 else .ok (pos, l ++ List.replicate n v)
def rowS (cz bs : List Int) (many : Nat) : Nat → Nat → List Int → Except Int (Nat × List Int)
  | 0, _, _ => .error 99
  | f + 1, pos, l => if l.length < many then (match rowStep cz bs many pos l with | .error e => .error e | .ok (pos, l) => rowS cz bs many f pos l) else .ok (pos, l)
def orderL : List Nat := [16, 17, 18, 0, 8, 7, 9, 6, 10, 5, 11, 4, 12, 3, 13, 2, 14, 1, 15]
/-- The code lengths' lengths, k of them from place i on. -/
def clS (bs : List Int) : Nat → Nat → Nat → List Int → Except Int (Nat × List Int)
  | 0, _, pos, l => .ok (pos, l)
  | k + 1, i, pos, l => match takeS bs pos 3 with | .error e => .error e | .ok (x, pos) => clS bs k (i + 1) pos (l.set (orderL[i]?.getD 0) (x : Int))
def dynS (bs : List Int) (most pos : Nat) (out : List Int) : Except Int (Nat × List Int) := do
  let (a, pos) ← takeS bs pos 5
  let (b, pos) ← takeS bs pos 5
  let (c, pos) ← takeS bs pos 4
  if 286 < 257 + a ∨ 30 < 1 + b then .error 12
  else do
    let (pos, cl) ← clS bs (4 + c) 0 pos (List.replicate 19 0)
    if fullB cl = false then .error 11
    else do
      let (pos, row) ← rowS cl bs (257 + a + (1 + b)) (8 * bs.length + 1) pos []
      if row[256]?.getD 0 = 0 then .error 12
      else if errOf (row.take (257 + a)) ≠ 0 then .error (errOf (row.take (257 + a)))
      else if errOf (row.drop (257 + a)) ≠ 0 then .error (errOf (row.drop (257 + a)))
      else symsS (row.take (257 + a)) (row.drop (257 + a)) bs most (8 * bs.length + 1) pos out
def blockS (bs : List Int) (most kind pos : Nat) (out : List Int) : Except Int (Nat × List Int) :=
  if kind = 0 then storedS bs most pos out
  else if kind = 1 then symsS fixLit fixDist bs most (8 * bs.length + 1) pos out
  else if kind = 2 then dynS bs most pos out
  else .error 12
/-- One block, its head too; true: the last. -/
def headS (bs : List Int) (most pos : Nat) (out : List Int) : Except Int (Bool × Nat × List Int) := do
  let (h, pos) ← takeS bs pos 1
  let (kind, pos) ← takeS bs pos 2
  let (pos, out) ← blockS bs most kind pos out
  .ok (decide (h = 1), pos, out)
def inflS (bs : List Int) (most : Nat) : Nat → Nat → List Int → Except Int (Nat × List Int)
  | 0, _, _ => .error 99
  | f + 1, pos, out =>
    match headS bs most pos out with
    | .error e => .error e
    | .ok (true, pos, out) => .ok (pos, out)
    | .ok (false, pos, out) => inflS bs most f pos out
/-- The whole: any error, or the bytes and how many were taken. -/
def inflateS (bs : List Int) (most : Int) : Except Int (List Int × Nat) :=
  if most < 0 then .error 1
  else match inflS bs most.toNat (8 * bs.length + 1) 0 [] with
    | .error e => .error e
    | .ok (pos, out) => .ok (out, (pos + 7) / 8)
end Go.Proofs.YtiheajlgaehfmaaDoor
