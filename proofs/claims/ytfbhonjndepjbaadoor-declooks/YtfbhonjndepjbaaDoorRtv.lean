import Derived.Test.YtfbhonjndepjbaaDoorRptM
import Derived.Test.YtfbhonjndepjbaaDoorRtmM
/- Times: its digits in memory, and a round of it (pure). -/
namespace Go.Proofs.YtfbhonjndepjbaaDoor
open Go.RowKit

/-- Digits as cells. -/
def dcell (ds : List Int) : Array Value := (ds.map (Value.int .i64)).toArray
theorem dcell_get (ds : List Int) (m : Nat) (h : m < ds.length) : (dcell ds)[m]? = some (.int .i64 (ds[m]?.getD 0)) := by
  unfold dcell
  rw [List.getElem?_toArray, List.getElem?_map, List.getElem?_eq_getElem h]
  rfl
theorem dcell_set (ds : List Int) (m : Nat) (v : Int) : (dcell ds).setIfInBounds m (.int .i64 v) = dcell (ds.set m v) := by
  unfold dcell
  rw [List.map_set, List.setIfInBounds_toArray]
theorem dcell_zeros (n : Nat) : madeCells #[.int .i64 0] n = dcell (List.replicate n 0) := by
  apply Array.toList_inj.1
  rw [made_zeros]
  rfl
/-- What lies in memory while a product is made. -/
structure TiSt (w : World) (na nb : Bool) (va vb : Value) (ds : List Int) (wr : World) : Prop where
  ra : Row wr w.heap.size 45 #[.bool na, va]
  rb : Row wr (w.heap.size + 1) 45 #[.bool nb, vb]
  rz : Row wr (w.heap.size + 1 + 1) 45 #[.bool false, .slice none 0 0]
  rd : Row wr (w.heap.size + 1 + 1 + 1) 3 (dcell ds)
  be : Below w.heap.size w wr
theorem TiSt.drew {w : World} {na nb : Bool} {va vb : Value} {ds : List Int} {wr : World} (h : TiSt w na nb va vb ds wr) : TiSt w na nb va vb ds wr.drew := ⟨h.ra, h.rb, h.rz, h.rd, h.be.drew⟩
theorem Row.other {W : World} {B : Nat} {t : TypeId} {cs : Array Value} (h : Row W B t cs) {K : Nat} (hk : B ≠ K) (i : Nat) (v : Value) : Row (W.setCell ⟨K, i, none⟩ v) B t cs :=
  h.kept ((Kept.refl (fun b => b ≠ K) W).setCell (p := ⟨K, i, none⟩) (by simp) v) hk
theorem TiSt.set {w : World} {na nb : Bool} {va vb : Value} {ds : List Int} {wr : World} (h : TiSt w na nb va vb ds wr) (m : Nat) (v : Int) : TiSt w na nb va vb (ds.set m v) (wr.setCell ⟨w.heap.size + 1 + 1 + 1, m, none⟩ (.int .i64 v)) :=
  ⟨h.ra.other (by omega) _ _, h.rb.other (by omega) _ _, h.rz.other (by omega) _ _, by rw [← dcell_set]; exact Row.set m _ h.rd, below_set h.be m _ (by omega)⟩
theorem TiSt.at {w : World} {na nb : Bool} {va vb : Value} {ds : List Int} {wr : World} (h : TiSt w na nb va vb ds wr) (m : Nat) (hm : m < ds.length) : wr.cell? ⟨w.heap.size + 1 + 1 + 1, m, none⟩ = some (.int .i64 (ds[m]?.getD 0)) := h.rd.cell (dcell_get ds m hm)
theorem TiSt.dg {w : World} {na nb : Bool} {va vb : Value} {ds : List Int} {wr : World} (h : TiSt w na nb va vb ds wr) {n : Nat} (hn : ds.length = n) : DgAt wr (.slice (some ⟨w.heap.size + 1 + 1 + 1, 0, none⟩) n n) ds := by
  subst hn
  refine ⟨.inr ⟨w.heap.size + 1 + 1 + 1, 0, ds.length, rfl, h.rd.lt, fun j hj => ?_⟩, _, _, rfl, Nat.le_refl _, fun e => by simp at e⟩
  rw [Nat.zero_add]
  exact h.at j hj
/-- The outer loop: i digits are taken. -/
structure OuAt (da db ds : List Int) (i : Nat) : Prop where
  dg : DgL ds
  val : dval ds = dval (da.take i) * dval db
theorem OuAt.start (da db : List Int) (n : Nat) : OuAt da db (List.replicate n 0) 0 :=
  ⟨fun d hd => by rw [(List.mem_replicate.1 hd).2]; omega, by rw [dval_zeros (fun d hd => (List.mem_replicate.1 hd).2)]; simp [dval]⟩
theorem OuAt.first {da db ds : List Int} {i : Nat} (h : OuAt da db ds i) : PrAt (dval (da.take i) * dval db) (da[i]?.getD 0) i db ds 0 := by
  refine ⟨by rw [h.val]; simp [dval], fun m => (h.dg.get m).1, fun m => ?_⟩
  have := (h.dg.get m).2
  split <;> omega
theorem OuAt.next {da db ds : List Int} {i k : Nat} (hi : i < da.length) (ha : DgL da) (hb : DgL db) (h : CaAt (dval (da.take i) * dval db + da[i]?.getD 0 * 10 ^ i * dval db) ds k) (hl : k + 1 = ds.length) (hk : k = da.length + db.length) : OuAt da db ds (i + 1) := by
  rw [← Int.add_mul, ← dval_take_succ da i hi] at h
  refine ⟨h.digits hl ?_, h.val⟩
  have d1 : DgL (da.take (i + 1)) := fun d hd => ha d (List.mem_of_mem_take hd)
  have h1 := dval_lt d1
  have h2 := dval_lt hb
  have h3 := dval_nonneg d1
  have h4 := dval_nonneg hb
  have h5 : (10 : Int) ^ (da.take (i + 1)).length ≤ 10 ^ da.length := by
    have : (10 : Nat) ^ (da.take (i + 1)).length ≤ 10 ^ da.length := Nat.pow_le_pow_right (by decide) (by rw [List.length_take]; omega)
    exact_mod_cast this
  have h6 : (0 : Int) < 10 ^ da.length := Int.pow_pos (by decide)
  have h7 : (0 : Int) < 10 ^ db.length := Int.pow_pos (by decide)
  rw [hk, Int.pow_add]
  generalize (10 : Int) ^ da.length = p at *
  generalize (10 : Int) ^ db.length = q at *
  generalize dval (da.take (i + 1)) = x at *
  generalize dval db = y at *
  have e1 : x * y ≤ x * q := Int.mul_le_mul_of_nonneg_left (by omega) h3
  have e2 : x * q < p * q := Int.mul_lt_mul_of_pos_right (by omega) h7
  omega
end Go.Proofs.YtfbhonjndepjbaaDoor
