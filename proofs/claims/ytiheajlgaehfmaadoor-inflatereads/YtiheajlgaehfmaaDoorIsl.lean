import Derived.Test.YtiheajlgaehfmaaDoorRrtM
/- How a copy is told, case by case. -/
namespace Go.Proofs.YtiheajlgaehfmaaDoor
theorem copiedS_none {dz bs : List Int} {most sym pos : Nat} {out : List Int} (hl : litS (sym : Int) = none) : copiedS dz bs most sym pos out = .error 12 := by
  unfold copiedS
  rw [hl]
theorem copiedS_take {dz bs : List Int} {most sym pos base extra : Nat} {out : List Int} {er : Int} (hl : litS (sym : Int) = some (base, extra)) (h2 : takeS bs pos extra = .error er) : copiedS dz bs most sym pos out = .error er := by
  unfold copiedS
  rw [hl]
  simp only [h2, bind, Except.bind]
theorem copiedS_next {dz bs : List Int} {most sym pos base extra x p2 : Nat} {out : List Int} {er : Int} (hl : litS (sym : Int) = some (base, extra)) (h2 : takeS bs pos extra = .ok (x, p2)) (h3 : nextS dz bs p2 = .error er) : copiedS dz bs most sym pos out = .error er := by
  unfold copiedS
  rw [hl]
  simp only [h2, h3, bind, Except.bind]
theorem copiedS_dist {dz bs : List Int} {most sym pos base extra x p2 d p3 : Nat} {out : List Int} (hl : litS (sym : Int) = some (base, extra)) (h2 : takeS bs pos extra = .ok (x, p2)) (h3 : nextS dz bs p2 = .ok (d, p3)) (h4 : distS (d : Int) = none) : copiedS dz bs most sym pos out = .error 12 := by
  unfold copiedS
  rw [hl]
  simp only [h2, h3, h4, bind, Except.bind]
theorem copiedS_take2 {dz bs : List Int} {most sym pos base extra x p2 d p3 db de : Nat} {out : List Int} {er : Int} (hl : litS (sym : Int) = some (base, extra)) (h2 : takeS bs pos extra = .ok (x, p2)) (h3 : nextS dz bs p2 = .ok (d, p3)) (h4 : distS (d : Int) = some (db, de)) (h5 : takeS bs p3 de = .error er) : copiedS dz bs most sym pos out = .error er := by
  unfold copiedS
  rw [hl]
  simp only [h2, h3, h4, h5, bind, Except.bind]
theorem copiedS_all {dz bs : List Int} {most sym pos base extra x p2 d p3 db de y p4 : Nat} {out : List Int} (hl : litS (sym : Int) = some (base, extra)) (h2 : takeS bs pos extra = .ok (x, p2)) (h3 : nextS dz bs p2 = .ok (d, p3)) (h4 : distS (d : Int) = some (db, de)) (h5 : takeS bs p3 de = .ok (y, p4)) :
    copiedS dz bs most sym pos out = if out.length < db + y then .error 12 else if most < out.length + (base + x) then .error 3 else .ok (p4, copyS (db + y) (base + x) out) := by
  unfold copiedS
  rw [hl]
  simp only [h2, h3, h4, h5, bind, Except.bind]
end Go.Proofs.YtiheajlgaehfmaaDoor
