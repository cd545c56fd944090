import Derived.Test.YtnblbakjfpfipaaGreatDoorRpq
import Derived.Test.YtnblbakjfpfipaaGreatDoorRcg
import Derived.Test.YtnblbakjfpfipaaGreatDoorWthp
/- CellsParse, walked. -/
namespace Go.Proofs.YtnblbakjfpfipaaGreatDoor
open Go.RowKit

def ref5 (s : ByteArray) (c r : Int) (a b : Bool) : Array Value := #[.string s, .int .i64 c, .int .i64 r, .bool a, .bool b]
set_option maxRecDepth 100000 in
set_option maxHeartbeats 4000000 in
theorem cparse_raw (l : List UInt8) (sA cs ds : ByteArray) (ac ar cc cr dc dr er gr : Int) (aa ab ca cb da db : Bool) (w : World) (hE : Env w)
    (HA : ∀ W, Hid (Calls Tryz.prog 21 #[.string (bs l)] W fun e w' => e = .returned (.tuple #[.agg #[.string sA, .int .i64 ac, .int .i64 ar, .bool aa, .bool ab], .int .i64 er]) ∧ Below W.heap.size W w'))
    (HB : ∀ W, Hid (Calls Tryz.prog 22 #[.string (bs l)] W fun e w' => e = .returned (.tuple #[.agg #[.string sA, .int .i64 ac, .int .i64 ar, .bool aa, .bool ab], .int .i64 er]) ∧ Below W.heap.size W w'))
    (HC : ∀ W, Hid (Calls Tryz.prog 23 #[.string (bs l)] W fun e w' => e = .returned (.tuple #[.agg #[.string cs, .int .i64 cc, .int .i64 cr, .bool ca, .bool cb], .agg #[.string ds, .int .i64 dc, .int .i64 dr, .bool da, .bool db], .int .i64 gr]) ∧ Below W.heap.size W w'))
    (HD : ∀ W, Hid (Calls Tryz.prog 24 #[.string (bs l)] W fun e w' => e = .returned (.tuple #[.agg #[.string cs, .int .i64 cc, .int .i64 cr, .bool ca, .bool cb], .agg #[.string ds, .int .i64 dc, .int .i64 dr, .bool da, .bool db], .int .i64 gr]) ∧ Below W.heap.size W w'))
    (HL : ∀ W, Env W → Hid (Calls Tryz.prog 20 #[] W fun e w' => e = .returned (.bool true) ∧ Below W.heap.size W w')) :
    Calls Tryz.prog 4 #[.string (bs l)] w fun e w' => e = .returned (.bool true) ∧ Below w.heap.size w w' := by
  have HEW : Hid (Env w) := hE
  clear hE
  go_enter Tryz.func4, Tryz.ntmps4
  go_wp2_with fail
  refine Calls.mono (HA _).out ?_
  rintro _ w1 ⟨rfl, b1⟩
  clear HA
  go_wp2_with fail
  refine Calls.mono (HB _).out ?_
  rintro _ w2 ⟨rfl, b2⟩
  clear HB
  have hA2 := (Row.new w1 23 #[.string sA, .int .i64 ac, .int .i64 ar, .bool aa, .bool ab]).below b2 (Row.new w1 23 #[.string sA, .int .i64 ac, .int .i64 ar, .bool aa, .bool ab]).lt
  have hB2 : Below w.heap.size w w2 := (below_allocS b1 _).trans (b2.mono (below_allocS b1 _).size)
  clear b1 b2
  go_wp2_with fail
  refine Calls.mono (HC _).out ?_
  rintro _ w3 ⟨rfl, b3⟩
  clear HC
  have hA3 := (hA2.alloc (.cells #[.string sA, .int .i64 ac, .int .i64 ar, .bool aa, .bool ab] 23)).below b3 (hA2.alloc _).lt
  have hB3 := (Row.new w2 23 #[.string sA, .int .i64 ac, .int .i64 ar, .bool aa, .bool ab]).below b3 (Row.new w2 23 _).lt
  have hW3 : Below w.heap.size w w3 := (below_allocS hB2 _).trans (b3.mono (below_allocS hB2 _).size)
  clear hA2 hB2 b3
  go_wp2_with fail
  refine Calls.mono (HD _).out ?_
  rintro _ w4 ⟨rfl, b4⟩
  clear HD
  have hA4 := ((hA3.alloc (.cells #[.string cs, .int .i64 cc, .int .i64 cr, .bool ca, .bool cb] 23)).alloc (.cells #[.string ds, .int .i64 dc, .int .i64 dr, .bool da, .bool db] 23)).below b4 ((hA3.alloc _).alloc _).lt
  have hB4 := ((hB3.alloc (.cells #[.string cs, .int .i64 cc, .int .i64 cr, .bool ca, .bool cb] 23)).alloc (.cells #[.string ds, .int .i64 dc, .int .i64 dr, .bool da, .bool db] 23)).below b4 ((hB3.alloc _).alloc _).lt
  have hC4 := ((Row.new w3 23 #[.string cs, .int .i64 cc, .int .i64 cr, .bool ca, .bool cb]).alloc (.cells #[.string ds, .int .i64 dc, .int .i64 dr, .bool da, .bool db] 23)).below b4 ((Row.new w3 23 _).alloc _).lt
  have hD4 := (Row.new1 w3 (.cells #[.string cs, .int .i64 cc, .int .i64 cr, .bool ca, .bool cb] 23) 23 #[.string ds, .int .i64 dc, .int .i64 dr, .bool da, .bool db]).below b4 (Row.new1 w3 (.cells #[.string cs, .int .i64 cc, .int .i64 cr, .bool ca, .bool cb] 23) 23 _).lt
  have hW4 : Below w.heap.size w w4 := (below_allocS (below_allocS hW3 _) _).trans (b4.mono (below_allocS (below_allocS hW3 _) _).size)
  clear hA3 hB3 hW3 b4
  have hU := below_allocS (below_allocS hW4 (.cells #[.string cs, .int .i64 cc, .int .i64 cr, .bool ca, .bool cb] 23)) (.cells #[.string ds, .int .i64 dc, .int .i64 dr, .bool da, .bool db] 23)
  have hEU := HEW.out.below hU
  obtain ⟨a0, a1, a2, a3, a4⟩ := ((hA4.alloc (.cells #[.string cs, .int .i64 cc, .int .i64 cr, .bool ca, .bool cb] 23)).alloc (.cells #[.string ds, .int .i64 dc, .int .i64 dr, .bool da, .bool db] 23)).five
  obtain ⟨b0, b1, b2, b3, b4⟩ := ((hB4.alloc (.cells #[.string cs, .int .i64 cc, .int .i64 cr, .bool ca, .bool cb] 23)).alloc (.cells #[.string ds, .int .i64 dc, .int .i64 dr, .bool da, .bool db] 23)).five
  obtain ⟨c0, c1, c2, c3, c4⟩ := ((hC4.alloc (.cells #[.string cs, .int .i64 cc, .int .i64 cr, .bool ca, .bool cb] 23)).alloc (.cells #[.string ds, .int .i64 dc, .int .i64 dr, .bool da, .bool db] 23)).five
  obtain ⟨d0, d1, d2, d3, d4⟩ := ((hD4.alloc (.cells #[.string cs, .int .i64 cc, .int .i64 cr, .bool ca, .bool cb] 23)).alloc (.cells #[.string ds, .int .i64 dc, .int .i64 dr, .bool da, .bool db] 23)).five
  have HAL := HL _ hEU
  clear hA4 hB4 hC4 hD4 hW4 HEW HL hEU
  have sa := same23 sA ac ar aa ab
  have sc := same23 cs cc cr ca cb
  have sd := same23 ds dc dr da db
  go_wp2_with fail
  refine Calls.mono HAL.out ?_
  rintro _ w5 ⟨rfl, b5⟩
  have hF := hU.trans (b5.mono hU.size)
  clear hU HAL b5
  go_wp2
  go_ret
  exact ⟨rfl, hF⟩
theorem cparse_any (l : List UInt8) (hl : l.length ≤ 140737488351232) (w : World) (hE : Env w) :
    Calls Tryz.prog 4 #[.string (bs l)] w fun e w' => e = .returned (.bool true) ∧ Below w.heap.size w w' :=
  cparse_raw l _ _ _ _ _ _ _ _ _ _ _ _ _ _ _ _ _ w hE (fun W => parse_any l hl W) (fun W => refParse_any cell_keeps l hl W) (fun W => parseRange_any l hl W) (fun W => refRange_any cell_keeps l hl W) (fun W hW => alive_any W hW)
end Go.Proofs.YtnblbakjfpfipaaGreatDoor
