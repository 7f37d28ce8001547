/-
  Walks and plain lemmas for the laws of this seat: what single Go functions return, for every argument.
-/
import Derived.Test.YtnneciihbfcemaaRel
import Derived.Test.YtnneciihbfcemaaMem
namespace Go.Proofs.Ytnneciihbfcemaa
open Go.RowKit

def relCells (r : Rel) : List Value := [.string r.name, .int .i64 r.arity, .bool r.source]
theorem relCells_len (r : Rel) : (relCells r).length = 3 := rfl
abbrev RelsAt (w : World) (B : Nat) (v : Value) (l : List Rel) : Prop := SliceAt relCells w B v l
/-- a slice of relations of the call's own -/
def OwnRels (B : Nat) (v : Value) (l : List Rel) (w : World) : Prop := w.ownsRow B 26 3 v l.length (l.flatMap relCells)
def zeroRel : Rel := ⟨ByteArray.empty, 0, false⟩
theorem OwnRels.at_ {B : Nat} {v : Value} {l : List Rel} {w : World} (h : OwnRels B v l w) : RelsAt w w.heap.size v l := SliceAt.of_own h
theorem RelsAt.cells {w : World} {B b off c : Nat} {l : List Rel} (h : RelsAt w B (.slice (some ⟨b, off, none⟩) l.length c) l) (j : Nat) (hj : j < l.length) :
    w.cell? ⟨b, off + j * 3, none⟩ = some (.string l[j].name) ∧ w.cell? ⟨b, off + j * 3 + 1, none⟩ = some (.int .i64 l[j].arity) ∧ w.cell? ⟨b, off + j * 3 + 2, none⟩ = some (.bool l[j].source) := by
  obtain ⟨A, c', hv, h1, h2, h3⟩ := h
  obtain ⟨b', off', hA, hb, hc⟩ := h3 (by omega)
  subst hA
  injection hv with h4 _ _
  injection h4 with h4
  injection h4 with h4 h5 _
  subst h4 h5
  have g (i : Nat) (hi : i < 3) := flat_get relCells 3 relCells_len l j i hj hi
  refine ⟨hc _ _ (g 0 (by omega)), ?_, ?_⟩
  · rw [Nat.add_assoc]; exact hc _ _ (g 1 (by omega))
  · rw [Nat.add_assoc]; exact hc _ _ (g 2 (by omega))
theorem madeCells_rel (n : Nat) : (madeCells #[.string ByteArray.empty, .int .i64 0, .bool false] (n * 3)).toList = (List.replicate n zeroRel).flatMap relCells := by
  apply List.ext_getElem?
  intro i
  by_cases hi : i < n * 3
  · have e : i = i / 3 * 3 + i % 3 := by omega
    have h1 : i / 3 < (List.replicate n zeroRel).length := by simp; omega
    have := flat_get relCells 3 relCells_len (List.replicate n zeroRel) (i / 3) (i % 3) h1 (by omega)
    rw [← e] at this
    rw [this]
    simp only [List.getElem_replicate]
    have h3 : i % 3 = 0 ∨ i % 3 = 1 ∨ i % 3 = 2 := by omega
    rcases h3 with h3 | h3 | h3 <;> simp [madeCells, hi, h3, relCells, zeroRel]
  · rw [List.getElem?_eq_none (by simp [madeCells]; omega), List.getElem?_eq_none]
    rw [flat_len relCells 3 relCells_len]; simp; omega
theorem infoRel : (Try.prog.info? 26).map (fun i => (i.zero, i.size, i.bytes)) = some (some (.agg #[.string ByteArray.empty, .int .i64 0, .bool false]), 3, 32) := by kernel_rfl
theorem make_rels (w : World) (n : Nat) (hn : n ≤ 1048576) : (Instr.makeSlice 32 (.int .i64 (n : Int)) (.int .i64 (n : Int))).run Try.prog w = .ok (.slice (some ⟨w.heap.size, 0, none⟩) n n) (w.alloc (.cells (madeCells #[.string ByteArray.empty, .int .i64 0, .bool false] (n * 3)) 26)) := by
  obtain ⟨i0, hi, hz0, hz1, hz2⟩ := info_parts infoRel
  have hr := run_make (P := Try.prog) w 32 26 i0 _ Try.underlying32 hi hz0 .i64 .i64 (n : Int) (n : Int) (by omega) (by omega) (by rw [hz2]; omega) (by omega)
  simp only [Int.toNat_natCast, hz1] at hr
  exact hr
theorem OwnRels.made (w : World) (n : Nat) (hn : n ≤ 1048576) (B : Nat) (hB : B ≤ w.heap.size) : OwnRels B (.slice (some ⟨w.heap.size, 0, none⟩) n n) (List.replicate n zeroRel) (w.alloc (.cells (madeCells #[.string ByteArray.empty, .int .i64 0, .bool false] (n * 3)) 26)) := by
  unfold OwnRels
  rw [← madeCells_rel, List.length_replicate]
  exact World.ownsRow_lit w _ n hB (by unfold maxLen; omega) (size_madeCells _ _)
theorem OwnRels.set {B g n cap : Nat} {l : List Rel} {w : World} (h : OwnRels B (.slice (some ⟨g, 0, none⟩) n cap) l w) (hn : l.length = n) (j : Nat) (hj : j < n) (r : Rel) :
    OwnRels B (.slice (some ⟨g, 0, none⟩) n cap) (l.set j r) (((w.setCell ⟨g, j * 3, none⟩ (.string r.name)).setCell ⟨g, j * 3 + 1, none⟩ (.int .i64 r.arity)).setCell ⟨g, j * 3 + 2, none⟩ (.bool r.source)) := by
  subst hn
  have h1 := (World.ownsRow.stored h (j * 3) (.string r.name)).1
  have h2 := (World.ownsRow.stored h1 (j * 3 + 1) (.int .i64 r.arity)).1
  have h3 := (World.ownsRow.stored h2 (j * 3 + 2) (.bool r.source)).1
  unfold OwnRels
  rw [List.length_set, ← flat_set relCells 3 relCells_len l j hj r]
  exact h3
theorem RelsAt.elem {w : World} {B c : Nat} {A : Option Addr} {l : List Rel} (h : RelsAt w B (.slice A l.length c) l) (j : Nat) (hj : j < l.length) :
    ∃ b off, A = some ⟨b, off, none⟩ ∧ b < B ∧ w.cell? ⟨b, off + j * 3, none⟩ = some (.string l[j].name) ∧ w.cell? ⟨b, off + j * 3 + 1, none⟩ = some (.int .i64 l[j].arity) ∧ w.cell? ⟨b, off + j * 3 + 2, none⟩ = some (.bool l[j].source) := by
  have h' := h
  obtain ⟨A', c', hv, h1, h2, h3⟩ := h
  obtain ⟨b, off, hA, hb, hc⟩ := h3 (by omega)
  subst hA
  injection hv with h4 _ _
  subst h4
  exact ⟨b, off, rfl, hb, RelsAt.cells h' j hj⟩
/-- the letters of all names -/
def relsLen : List Rel → Nat
  | [] => 0
  | r :: t => r.name.size + relsLen t
theorem relsLen_append (l m : List Rel) : relsLen (l ++ m) = relsLen l + relsLen m := by
  induction l with
  | nil => simp [relsLen]
  | cons a t ih => simp only [List.cons_append, relsLen, ih]; omega
theorem relsLen_take (l : List Rel) (k : Nat) (h : k < l.length) : relsLen (l.take (k + 1)) = relsLen (l.take k) + l[k].name.size := by
  rw [List.take_succ_eq_append_getElem h, relsLen_append]; simp [relsLen]
theorem relsLen_le (l : List Rel) (k : Nat) : relsLen (l.take k) ≤ relsLen l := by
  have := relsLen_append (l.take k) (l.drop k)
  rw [List.take_append_drop] at this; omega
/-- every name of l is as long as a string can be -/
def RelsWf (l : List Rel) : Prop := ∀ (i : Nat) (h : i < l.length), l[i].name.size ≤ maxLen
theorem OwnRels.cells {B g n cap : Nat} {l : List Rel} {w : World} (h : OwnRels B (.slice (some ⟨g, 0, none⟩) n cap) l w) (hn : l.length = n) (j : Nat) (hj : j < l.length) :
    w.cell? ⟨g, j * 3, none⟩ = some (.string l[j].name) ∧ w.cell? ⟨g, j * 3 + 1, none⟩ = some (.int .i64 l[j].arity) ∧ w.cell? ⟨g, j * 3 + 2, none⟩ = some (.bool l[j].source) := by
  subst hn
  have g (i : Nat) (hi : i < 3) := (World.ownsRow.cellAt h (j * 3 + i) (by omega)).trans (flat_get relCells 3 relCells_len l j i hj hi)
  exact ⟨g 0 (by omega), g 1 (by omega), g 2 (by omega)⟩
theorem OwnRels.frozen {B g n cap : Nat} {l : List Rel} {w : World} (h : OwnRels B (.slice (some ⟨g, 0, none⟩) n cap) l w) (hn : l.length = n) (j : Nat) : w.frozen? ⟨g, j, none⟩ = false := by
  subst hn; exact World.ownsRow.frozenAt h j
theorem OwnRels.below {B B' : Nat} {v : Value} {l : List Rel} {w w' : World} (h : OwnRels B v l w) (hb : Below B' w w') (hB : w.heap.size ≤ B') : OwnRels B v l w' :=
  World.ownsRow.kept (row := none) h ⟨hb.os, hb.tape, hb.output, hb.size, fun k hk _ => hb.block k (Nat.lt_of_lt_of_le hk hB)⟩ (by
    cases h' : v.ownBlock with
    | none => exact .inl rfl
    | some g => exact .inr (by simp))

/-- where the first relation of that name stands, counted from i; -1 -/
def relIdxFrom (s : ByteArray) : List Rel → Nat → Int
  | [], _ => -1
  | r :: t, i => if r.name = s then (i : Int) else relIdxFrom s t (i + 1)
def relIdx (s : ByteArray) (l : List Rel) : Int := relIdxFrom s l 0
theorem relIdxFrom_hit (s : ByteArray) (l : List Rel) (i k : Nat) (hk : k < l.length) (h : ∀ j (hj : j < k), ¬ (l[j]'(by omega)).name = s) (he : l[k].name = s) : relIdxFrom s l i = ((i + k : Nat) : Int) := by
  induction l generalizing i k with
  | nil => simp at hk
  | cons r t ih =>
    unfold relIdxFrom
    cases k with
    | zero => rw [if_pos (show r.name = s from he)]; simp
    | succ k =>
      rw [if_neg (show ¬ r.name = s from h 0 (by omega))]
      have := ih (i + 1) k (by simpa using hk) (fun j hj => h (j + 1) (by omega)) he
      rw [this]; congr 1; omega
theorem relIdxFrom_miss (s : ByteArray) (l : List Rel) (i : Nat) (h : ∀ j (hj : j < l.length), ¬ l[j].name = s) : relIdxFrom s l i = -1 := by
  induction l generalizing i with
  | nil => rfl
  | cons r t ih =>
    unfold relIdxFrom
    rw [if_neg (show ¬ r.name = s from h 0 (by simp))]
    exact ih (i + 1) (fun j hj => h (j + 1) (by simpa using hj))
/-- no relation ahead of place k bears that name -/
def NoneTo (s : ByteArray) (l : List Rel) (k : Nat) : Prop := ∀ j (h : j < l.length), j < k → ¬ l[j].name = s
theorem NoneTo.zero (s : ByteArray) (l : List Rel) : NoneTo s l 0 := fun _ _ h => absurd h (by omega)
theorem NoneTo.next {s : ByteArray} {l : List Rel} {k : Nat} (h : NoneTo s l k) (hk : k < l.length) (he : ¬ l[k].name = s) : NoneTo s l (k + 1) := fun j hj hjk => by
  by_cases e : j = k
  · subst e; exact he
  · exact h j hj (by omega)
theorem NoneTo.hit {s : ByteArray} {l : List Rel} {k : Nat} (h : NoneTo s l k) (hk : k < l.length) (he : l[k].name = s) : relIdx s l = (k : Int) := by
  unfold relIdx
  rw [relIdxFrom_hit s l 0 k hk (fun j hj => h j (by omega) hj) he, Nat.zero_add]
theorem NoneTo.miss {s : ByteArray} {l : List Rel} (h : NoneTo s l l.length) : relIdx s l = -1 := relIdxFrom_miss s l 0 (fun j hj => h j hj hj)

end Go.Proofs.Ytnneciihbfcemaa
