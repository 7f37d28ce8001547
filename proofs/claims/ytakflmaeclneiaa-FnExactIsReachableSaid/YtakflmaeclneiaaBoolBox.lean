/-
  Walks and plain lemmas for the laws of this seat: what single Go functions return, for every argument.
-/
import Derived.Laws.Rows
import Derived.Laws.CopyOwn
import Derived.Test.YtakflmaeclneiaaBase
import Derived.Test.YtakflmaeclneiaaMem
namespace Go.Proofs.Ytakflmaeclneiaa
open Go.RowKit

/-- a new variable of an array type, its zero value known as a row -/
theorem wpList_alloc_row {P : Program} {ops : Array Oper} {rest : List Oper} {o : Oper} {a : Act} {w : World} {Q : Exit → Act → World → Prop} (hgd : o.guard = none) (ty : TypeId) (ho : o.op = .alloc ty)
    (z : Array Value) (hz : (P.info? ty).map (·.zero) = some (some (.agg z)))
    (h : wpList P ops Q rest (a.put o.dst (.pointer (some ⟨w.heap.size, 0, none⟩))) (w.alloc (.cells z ty))) : wpList P ops Q (o :: rest) a w := by
  refine wpList_plain hgd fun _ hK => ?_
  cases hq : P.info? ty with
  | none => simp [hq] at hz
  | some i =>
    have hzi : i.zero = some (.agg z) := by simpa [hq] using hz
    unfold Oper.wp execOp
    simp only [ho]
    simp [Instr.alloc, zeroValue, typeInfo, hq, hzi, Value.cells, newVar, newRow]
    exact hK _ _ h
def bArr (F : List Bool) : Array Value := (F.map Value.bool).toArray
theorem bArr_size (F : List Bool) : (bArr F).size = F.length := by simp [bArr]
/-- block g is a box that holds the bools -/
def BoxB (t : TypeId) (g : Nat) (F : List Bool) (w : World) : Prop := w.heap[g]? = some (.cells (bArr F) t (0, 0))
theorem BoxB.lt {t : TypeId} {g : Nat} {F : List Bool} {w : World} (h : BoxB t g F w) : g < w.heap.size := (Array.getElem?_eq_some_iff.1 h).1
theorem BoxB.below {t : TypeId} {g B : Nat} {F : List Bool} {w w' : World} (h : BoxB t g F w) (hb : Below B w w') (hg : g < B) : BoxB t g F w' := (hb.block g hg).trans h
theorem BoxB.new (w : World) (t : TypeId) (F : List Bool) : BoxB t w.heap.size F (w.alloc (.cells (bArr F) t)) := Go.heap_alloc_new w _
theorem BoxB.alloc {t : TypeId} {g : Nat} {F : List Bool} {w : World} (h : BoxB t g F w) (o : Obj) : BoxB t g F (w.alloc o) := (show (w.heap.push o)[g]? = _ by rw [Array.getElem?_push, if_neg (Nat.ne_of_lt h.lt)]; exact h)
theorem BoxB.cell {t : TypeId} {g : Nat} {F : List Bool} {w : World} (h : BoxB t g F w) (j : Nat) (hj : j < F.length) : w.cell? ⟨g, j, none⟩ = some (.bool (F.getD j false)) := by
  rw [cell_of_row w g j _ t _ h]
  unfold bArr
  rw [List.getD_eq_getElem?_getD, List.getElem?_eq_getElem hj]
  simp [hj]
theorem BoxB.frozen {t : TypeId} {g : Nat} {F : List Bool} {w : World} (h : BoxB t g F w) (j : Nat) : w.frozen? ⟨g, j, none⟩ = false := frozen_of_row w g j _ t h
theorem map_set_arr (F : List Bool) (j : Nat) (b : Bool) : (bArr F).setIfInBounds j (.bool b) = bArr (F.set j b) := by
  unfold bArr
  rw [List.map_set, List.setIfInBounds_toArray]
theorem BoxB.set {t : TypeId} {g : Nat} {F : List Bool} {w : World} (h : BoxB t g F w) (j : Nat) (b : Bool) : BoxB t g (F.set j b) (w.setCell ⟨g, j, none⟩ (.bool b)) := by
  have := heap_setCell_same w g j _ t (.bool b) h
  rwa [map_set_arr] at this
theorem BoxB.other {t : TypeId} {g : Nat} {F : List Bool} {w : World} (h : BoxB t g F w) (g' j : Nat) (v : Value) (hne : g ≠ g') : BoxB t g F (w.setCell ⟨g', j, none⟩ v) := (heap_setCell_other w ⟨g', j, none⟩ g v hne).trans h
theorem BoxB.row {t : TypeId} {g : Nat} {F G : List Bool} {w : World} (h : BoxB t g F w) : BoxB t g G (w.setRow g (bArr G)) := setRow_heap w g _ _ t _ h
theorem BoxB.rowOther {t : TypeId} {g g' : Nat} {F : List Bool} {cs : Array Value} {w : World} (h : BoxB t g F w) (hne : g ≠ g') : BoxB t g F (w.setRow g' cs) := (setRow_other w g' g cs hne).trans h
theorem bools_one (F : List Bool) : (bArr F).all (·.oneCell') = true := by
  unfold bArr
  rw [Array.all_eq_true_iff_forall_mem]
  intro v hv
  simp only [List.mem_toArray, List.mem_map] at hv
  obtain ⟨b, _, rfl⟩ := hv
  rfl
theorem getD_set_true (F : List Bool) (d j : Nat) (hd : d < F.length) : (F.set d true).getD j false = (F.getD j false || decide (j = d)) := by
  rw [List.getD_eq_getElem?_getD, List.getD_eq_getElem?_getD, List.getElem?_set]
  by_cases e : d = j
  · subst e; simp [hd]
  · rw [if_neg e, decide_eq_false (fun h => e h.symm), Bool.or_false]
theorem getD_set_any (F : List Bool) (d j : Nat) (b : Bool) (hd : d < F.length) : (F.set d b).getD j false = if j = d then b else F.getD j false := by
  rw [List.getD_eq_getElem?_getD, List.getD_eq_getElem?_getD, List.getElem?_set]
  by_cases e : d = j
  · subst e; simp [hd]
  · rw [if_neg e, if_neg (fun h => e h.symm)]
theorem getD_rep (n j : Nat) : (List.replicate n false).getD j false = false := by
  rw [List.getD_eq_getElem?_getD, List.getElem?_replicate]
  split <;> rfl
theorem BoxB.drew {t : TypeId} {g : Nat} {F : List Bool} {w : World} (h : BoxB t g F w) : BoxB t g F w.drew := h

end Go.Proofs.Ytakflmaeclneiaa
