/-
  Walks and plain lemmas for the laws of this seat: what single Go functions return, for every argument.
-/
import Derived.Laws.Rows
import Derived.Laws.CopyOwn
import Derived.Test.YtakflmaeclneiaaDoorBase
import Derived.Test.YtakflmaeclneiaaDoorMem
import Derived.Test.YtakflmaeclneiaaDoorRels
import Derived.Test.YtakflmaeclneiaaDoorAft
import Derived.Test.YtakflmaeclneiaaDoorFactVI
namespace Go.Proofs.YtakflmaeclneiaaDoor
open Go.RowKit

set_option maxHeartbeats 1600000 in
set_option maxRecDepth 100000 in
theorem implPositionCount_any (v : Value) (l : List Rel) (w : World) (hl : RelsAt w w.heap.size v l) :
    Calls Tryd.prog 11 #[v] w fun e w' => e = .returned (.int .i64 (posCnt l)) ∧ Below w.heap.size w w' := by
  have HL := Lib.hid hl
  obtain ⟨A, c, rfl, hlc, hcm, -⟩ := hl
  unfold maxLen at hcm
  cases hv : validRels l with
  | false =>
    have HF := Lib.hid (posCnt_no hv)
    have hcon := implAreValid_at2 l false hv (.slice A l.length c) w HL.out
    clear hv
    go_enter Tryd.func11, Tryd.ntmps11
    go_wp2_with (go_at_call 23; refine hcon.mono ?_; rintro e w1 ⟨rfl, hb1⟩)
    go_ret
    exact ⟨ret_int HF.out.symm, hb1⟩
  | true =>
    have HR := Lib.hid hv
    have hcon := implAreValid_at2 l true hv (.slice A l.length c) w HL.out
    have hlen := vrels_len hv
    clear hv
    go_enter Tryd.func11, Tryd.ntmps11
    go_wp2_with fail
    refine hcon.mono ?_
    rintro e w1 ⟨rfl, hb1⟩
    have hz1 := hb1.size
    clear hcon
    go_wp2
    go_loopw [3, 11] (fun n j wr => ∃ m : Nat, m ≤ l.length ∧ j = .int .i64 (m : Int) ∧ n = .int .i64 (arSum (l.take m)) ∧ Below w.heap.size w wr) (fun _ j _ => l.length - (intOf j).toNat)
    case atStart => exact ⟨0, by omega, rfl, by simp [arSum], hb1⟩
    case round =>
      obtain ⟨m, hm, rfl, rfl, hW⟩ := hrel
      have hz := hW.size
      by_cases hlt : m < l.length
      · obtain ⟨b, off, rfl, hb, c0, c1, c2⟩ := RelsAt.elem (HL.out.below hW (Nat.le_refl _)) m hlt
        have HT := Lib.hid (arSum_take l m (by omega))
        have hbd := arSum_small HR.out m
        have hbe := validRels_ar HR.out l[m] (List.getElem_mem (by omega))
        generalize arSum (l.take m) = S at *
        generalize l[m].arity = a at *
        generalize l[m].name = nm at *
        generalize l[m].source = sr at *
        go_wp2
        go_roundw
        case rel => exact ⟨m + 1, by omega, by go_num, by rw [HT.out], hW.alloc hz _⟩
        case measure => simp [intOf]; omega
      · obtain rfl : m = l.length := by omega
        have HF := Lib.hid (show arSum (l.take l.length) = posCnt l by rw [posCnt_yes HR.out, List.take_length])
        have hbd := arSum_small HR.out l.length
        generalize arSum (l.take l.length) = S at *
        go_wp2
        go_ret
        exact ⟨ret_int HF.out, hW⟩
theorem implPositionCount_at (l : List Rel) (q : Int) (hq : posCnt l = q) (v : Value) (w : World) (hl : RelsAt w w.heap.size v l) :
    Calls Tryd.prog 11 #[v] w fun e w' => e = .returned (.int .i64 q) ∧ Below w.heap.size w w' := by
  subst hq; exact implPositionCount_any v l w hl
theorem implPositionCount_c (v : Value) (l : List Rel) (w : World) (hl : RelationS_at w w.heap.size v l) (_ : RelationS_wf l) (_ : RelationS_sz l ≤ 1048576) :
    Calls Tryd.prog 11 #[v] w fun e w' => e = .returned (.int .i64 (posCnt l)) ∧ Below w.heap.size w w' := implPositionCount_any v l w hl

theorem implIsIndex_at (i n : Int) (q : Bool) (hq : decide (0 ≤ i ∧ i < n) = q) (w : World) :
    Calls Tryd.prog 24 #[.int .i64 i, .int .i64 n] w fun e w' => e = .returned (.bool q) ∧ w = w' := by
  by_cases h1 : 0 ≤ i
  · have hd1 : decide (0 ≤ i) = true := decide_eq_true h1
    have hd2 : decide (i < n) = q := by rw [← hq]; exact decide_eq_decide.2 ⟨fun h => ⟨h1, h⟩, fun h => h.2⟩
    clear hq h1
    go_enter Tryd.func24, Tryd.ntmps24
    go_wp2
    go_ret
    exact ⟨rfl, rfl⟩
  · have hd1 : decide (0 ≤ i) = false := decide_eq_false h1
    have HQ := Lib.hid (show false = q by rw [← hq]; exact (decide_eq_false fun h => h1 h.1).symm)
    clear hq h1
    go_enter Tryd.func24, Tryd.ntmps24
    go_wp2
    go_ret
    exact ⟨ret_bool HQ.out, rfl⟩

set_option maxHeartbeats 1600000 in
set_option maxRecDepth 100000 in
theorem implPositionIndex_any (v : Value) (l : List Rel) (r i : Int) (w : World) (hl : RelsAt w w.heap.size v l) (hr0 : -9223372036854775808 ≤ r ∧ r ≤ 9223372036854775807) (hi0 : -9223372036854775808 ≤ i ∧ i ≤ 9223372036854775807) :
    Calls Tryd.prog 7 #[v, .int .i64 r, .int .i64 i] w fun e w' => e = .returned (.int .i64 (posIx l r i)) ∧ Below w.heap.size w w' := by
  have HL := Lib.hid hl
  obtain ⟨A, c, rfl, hlc, hcm, -⟩ := hl
  unfold maxLen at hcm
  cases hv : validRels l with
  | false =>
    have HF := Lib.hid (posIx_rels (r := r) (i := i) hv)
    have hcon := implAreValid_at2 l false hv (.slice A l.length c) w HL.out
    clear hv
    go_enter Tryd.func7, Tryd.ntmps7
    go_wp2_with (go_at_call 23; refine hcon.mono ?_; rintro e w1 ⟨rfl, hb1⟩)
    go_ret
    exact ⟨ret_int HF.out.symm, hb1⟩
  | true =>
    have HR := Lib.hid hv
    have hcon := implAreValid_at2 l true hv (.slice A l.length c) w HL.out
    have hlen := vrels_len hv
    clear hv
    by_cases hr : 0 ≤ r ∧ r < l.length
    · obtain ⟨k, rfl⟩ : ∃ k : Nat, r = (k : Int) := ⟨r.toNat, by omega⟩
      have hk : k < l.length := by omega
      have hin1 := fun w => implIsIndex_at (k : Int) (l.length : Int) true (decide_eq_true hr) w
      obtain ⟨b, off, rfl, hb, -, c1, -⟩ := RelsAt.elem HL.out k hk
      have ha : l[k].arity = arityAt l (k : Int) := by rw [arityAt_in (by simpa using hk)]; rfl
      have hab := arityAt_bd HR.out hr
      rw [ha] at c1
      have C1 := Lib.hid c1
      clear c1 ha
      by_cases hi : 0 ≤ i ∧ i < arityAt l (k : Int)
      · have hin2 := fun w => implIsIndex_at i (arityAt l (k : Int)) true (decide_eq_true hi) w
        have HF := Lib.hid (show posIx l (k : Int) i = arSum (l.take k) + i by rw [posIx_yes (l := l) (r := k) (i := i) ⟨HR.out, hr, hi⟩]; simp)
        have hbd := arSum_small HR.out k
        have htk : (l.take k).length = k := by rw [List.length_take]; omega
        have HTK := Lib.hid (show RelsAt w w.heap.size (.slice (some ⟨b, off, none⟩) k c) (l.take k) by
          have := SliceAt.take HL.out k (by omega)
          rwa [htk] at this)
        have hcnt := fun w' (hb : Below w.heap.size w w') => implPositionCount_at (l.take k) (arSum (l.take k)) (posCnt_yes (validRels_take HR.out k (by omega))) (.slice (some ⟨b, off, none⟩) k c) w' ((HTK.out.below hb (Nat.le_refl _)).more hb.size)
        generalize arSum (l.take k) = S at *
        generalize arityAt l (k : Int) = q at *
        clear htk
        go_enter Tryd.func7, Tryd.ntmps7
        go_wp2_with fail
        refine hcon.mono ?_
        rintro e w1 ⟨rfl, hb1⟩
        have f2 := (hb1.cell (p := ⟨b, off + k * 3 + 1, none⟩) hb).trans C1.out
        go_wp2_with fail
        refine (hin1 w1).mono ?_
        rintro e w2 ⟨rfl, rfl⟩
        go_wp2_with fail
        refine (hin2 w1).mono ?_
        rintro e w3 ⟨rfl, rfl⟩
        clear f2 hin1 hin2 hcon
        have hz1 := hb1.size
        go_wp2_with fail
        refine (hcnt w1 hb1).mono ?_
        rintro e w4 ⟨rfl, hb4⟩
        go_wp2
        go_ret
        exact ⟨ret_int HF.out.symm, hb1.trans (hb4.mono hz1)⟩
      · have hin2 := fun w => implIsIndex_at i (arityAt l (k : Int)) false (decide_eq_false hi) w
        have HF := Lib.hid (posIx_col (l := l) (r := k) (i := i) hi)
        generalize arityAt l (k : Int) = q at *
        clear hi
        go_enter Tryd.func7, Tryd.ntmps7
        go_wp2_with fail
        refine hcon.mono ?_
        rintro e w1 ⟨rfl, hb1⟩
        have f2 := (hb1.cell (p := ⟨b, off + k * 3 + 1, none⟩) hb).trans C1.out
        go_wp2_with fail
        refine (hin1 w1).mono ?_
        rintro e w2 ⟨rfl, rfl⟩
        go_wp2_with fail
        refine (hin2 w1).mono ?_
        rintro e w3 ⟨rfl, rfl⟩
        go_wp2
        go_ret
        exact ⟨ret_int HF.out.symm, hb1⟩
    · have HF := Lib.hid (posIx_rel (l := l) (r := r) (i := i) hr)
      have hin1 := fun w => implIsIndex_at r (l.length : Int) false (decide_eq_false hr) w
      clear hr
      go_enter Tryd.func7, Tryd.ntmps7
      go_wp2_with fail
      refine hcon.mono ?_
      rintro e w1 ⟨rfl, hb1⟩
      go_wp2_with fail
      refine (hin1 w1).mono ?_
      rintro e w2 ⟨rfl, rfl⟩
      go_wp2
      go_ret
      exact ⟨ret_int HF.out.symm, hb1⟩
theorem implPositionIndex_at (l : List Rel) (r i q : Int) (hq : posIx l r i = q) (v : Value) (w : World) (hl : RelsAt w w.heap.size v l) (hr0 : -9223372036854775808 ≤ r ∧ r ≤ 9223372036854775807) (hi0 : -9223372036854775808 ≤ i ∧ i ≤ 9223372036854775807) :
    Calls Tryd.prog 7 #[v, .int .i64 r, .int .i64 i] w fun e w' => e = .returned (.int .i64 q) ∧ Below w.heap.size w w' := by
  subst hq; exact implPositionIndex_any v l r i w hl hr0 hi0
theorem implPositionIndex_c (v : Value) (l : List Rel) (r i : Int) (w : World) (hl : RelationS_at w w.heap.size v l) (_ : RelationS_wf l) (_ : RelationS_sz l ≤ 1048576) (hr0 : -9223372036854775808 ≤ r ∧ r ≤ 9223372036854775807) (hi0 : -9223372036854775808 ≤ i ∧ i ≤ 9223372036854775807) :
    Calls Tryd.prog 7 #[v, .int .i64 r, .int .i64 i] w fun e w' => e = .returned (.int .i64 (posIx l r i)) ∧ Below w.heap.size w w' := implPositionIndex_any v l r i w hl hr0 hi0

/-- a new variable of an array type, its zero value known as a row -/
theorem wpList_alloc_row {P : Program} {ops : Array Oper} {rest : List Oper} {o : Oper} {a : Act} {w : World} {Q : Exit → Act → World → Prop} (hgd : o.guard = none) (ty : TypeId) (ho : o.op = .alloc ty)
    (z : Array Value) (hz : (P.info? ty).map (·.zero) = some (some (.agg z)))
    (h : wpList P ops Q rest (a.put o.dst (.pointer (some ⟨w.heap.size, 0, none⟩))) (w.alloc (.cells z ty))) : wpList P ops Q (o :: rest) a w := by
  refine wpList_plain hgd fun _ hK => ?_
  cases hq : P.info? ty with
  | none => simp [hq] at hz
  | some i =>
    have hzi : i.zero = some (.agg z) := by simpa [hq] using hz
    unfold Oper.wp execOp
    simp only [ho]
    simp [Instr.alloc, zeroValue, typeInfo, hq, hzi, Value.cells, newVar, newRow]
    exact hK _ _ h
def bArr (F : List Bool) : Array Value := (F.map Value.bool).toArray
theorem bArr_size (F : List Bool) : (bArr F).size = F.length := by simp [bArr]
/-- block g is a box that holds the bools -/
def BoxB (t : TypeId) (g : Nat) (F : List Bool) (w : World) : Prop := w.heap[g]? = some (.cells (bArr F) t (0, 0))
theorem BoxB.lt {t : TypeId} {g : Nat} {F : List Bool} {w : World} (h : BoxB t g F w) : g < w.heap.size := (Array.getElem?_eq_some_iff.1 h).1
theorem BoxB.below {t : TypeId} {g B : Nat} {F : List Bool} {w w' : World} (h : BoxB t g F w) (hb : Below B w w') (hg : g < B) : BoxB t g F w' := (hb.block g hg).trans h
theorem BoxB.new (w : World) (t : TypeId) (F : List Bool) : BoxB t w.heap.size F (w.alloc (.cells (bArr F) t)) := Go.heap_alloc_new w _
theorem BoxB.alloc {t : TypeId} {g : Nat} {F : List Bool} {w : World} (h : BoxB t g F w) (o : Obj) : BoxB t g F (w.alloc o) := (show (w.heap.push o)[g]? = _ by rw [Array.getElem?_push, if_neg (Nat.ne_of_lt h.lt)]; exact h)
theorem BoxB.cell {t : TypeId} {g : Nat} {F : List Bool} {w : World} (h : BoxB t g F w) (j : Nat) (hj : j < F.length) : w.cell? ⟨g, j, none⟩ = some (.bool (F.getD j false)) := by
  rw [cell_of_row w g j _ t _ h]
  unfold bArr
  rw [List.getD_eq_getElem?_getD, List.getElem?_eq_getElem hj]
  simp [hj]
theorem BoxB.frozen {t : TypeId} {g : Nat} {F : List Bool} {w : World} (h : BoxB t g F w) (j : Nat) : w.frozen? ⟨g, j, none⟩ = false := frozen_of_row w g j _ t h
theorem map_set_arr (F : List Bool) (j : Nat) (b : Bool) : (bArr F).setIfInBounds j (.bool b) = bArr (F.set j b) := by
  unfold bArr
  rw [List.map_set, List.setIfInBounds_toArray]
theorem BoxB.set {t : TypeId} {g : Nat} {F : List Bool} {w : World} (h : BoxB t g F w) (j : Nat) (b : Bool) : BoxB t g (F.set j b) (w.setCell ⟨g, j, none⟩ (.bool b)) := by
  have := heap_setCell_same w g j _ t (.bool b) h
  rwa [map_set_arr] at this
theorem BoxB.other {t : TypeId} {g : Nat} {F : List Bool} {w : World} (h : BoxB t g F w) (g' j : Nat) (v : Value) (hne : g ≠ g') : BoxB t g F (w.setCell ⟨g', j, none⟩ v) := (heap_setCell_other w ⟨g', j, none⟩ g v hne).trans h
theorem BoxB.row {t : TypeId} {g : Nat} {F G : List Bool} {w : World} (h : BoxB t g F w) : BoxB t g G (w.setRow g (bArr G)) := setRow_heap w g _ _ t _ h
theorem BoxB.rowOther {t : TypeId} {g g' : Nat} {F : List Bool} {cs : Array Value} {w : World} (h : BoxB t g F w) (hne : g ≠ g') : BoxB t g F (w.setRow g' cs) := (setRow_other w g' g cs hne).trans h
theorem bools_one (F : List Bool) : (bArr F).all (·.oneCell') = true := by
  unfold bArr
  rw [Array.all_eq_true_iff_forall_mem]
  intro v hv
  simp only [List.mem_toArray, List.mem_map] at hv
  obtain ⟨b, _, rfl⟩ := hv
  rfl
theorem getD_set_true (F : List Bool) (d j : Nat) (hd : d < F.length) : (F.set d true).getD j false = (F.getD j false || decide (j = d)) := by
  rw [List.getD_eq_getElem?_getD, List.getD_eq_getElem?_getD, List.getElem?_set]
  by_cases e : d = j
  · subst e; simp [hd]
  · rw [if_neg e, decide_eq_false (fun h => e h.symm), Bool.or_false]
theorem getD_set_any (F : List Bool) (d j : Nat) (b : Bool) (hd : d < F.length) : (F.set d b).getD j false = if j = d then b else F.getD j false := by
  rw [List.getD_eq_getElem?_getD, List.getD_eq_getElem?_getD, List.getElem?_set]
  by_cases e : d = j
  · subst e; simp [hd]
  · rw [if_neg e, if_neg (fun h => e h.symm)]
theorem getD_rep (n j : Nat) : (List.replicate n false).getD j false = false := by
  rw [List.getD_eq_getElem?_getD, List.getElem?_replicate]
  split <;> rfl
theorem BoxB.drew {t : TypeId} {g : Nat} {F : List Bool} {w : World} (h : BoxB t g F w) : BoxB t g F w.drew := h

end Go.Proofs.YtakflmaeclneiaaDoor
