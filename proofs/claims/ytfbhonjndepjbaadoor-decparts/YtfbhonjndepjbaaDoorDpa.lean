import Derived.Test.YtfbhonjndepjbaaDoorDdg
import Derived.Test.YtfbhonjndepjbaaDoorWsuM
import Derived.Test.YtfbhonjndepjbaaDoorPahM
/- dec's Parse. -/
namespace Go.Proofs.YtfbhonjndepjbaaDoor
open Go.RowKit Go.Shelf

attribute [local go_sem] Oper.semAt_some

theorem ret_cells {fn : Func} {p q : Tmp} {ty tz : TypeId} (h : fn.results = #[.cell p ty, .cell q tz]) {tmps : Array Value} {w : World} {g g2 : Nat} {v v2 : Value}
    (hp : tmps.getD p undef = .pointer (some ⟨g, 0, none⟩)) (hq : tmps.getD q undef = .pointer (some ⟨g2, 0, none⟩)) (hl : (loadVar ty ⟨g, 0, none⟩).run Tryd.prog w = .ok v w) (hl2 : (loadVar tz ⟨g2, 0, none⟩).run Tryd.prog w = .ok v2 w) :
    (results fn tmps).run Tryd.prog w = .ok (.tuple #[v, v2]) w := by
  have hp' : tmps[p]?.getD undef = .pointer (some ⟨g, 0, none⟩) := by simpa using hp
  have hq' : tmps[q]?.getD undef = .pointer (some ⟨g2, 0, none⟩) := by simpa using hq
  simp [results, h, hp', hq', asAddr, hl, hl2]
theorem decV_formP (o : Option (Int × Int)) : ∃ c e er : Int, decV o = .tuple #[.agg #[.int .i64 c, .int .i64 e], .int .i64 er] := by
  cases o with
  | none => exact ⟨0, 0, 30, rfl⟩
  | some p => exact ⟨p.1, p.2, 0, rfl⟩
end Go.Proofs.YtfbhonjndepjbaaDoor
