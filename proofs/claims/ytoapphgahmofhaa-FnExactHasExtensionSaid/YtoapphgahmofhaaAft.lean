/-
  Walks and plain lemmas for the laws of this seat: what single Go functions return, for every argument.
-/
import Derived.Test.YtoapphgahmofhaaBase
import Derived.Test.YtoapphgahmofhaaMem
import Derived.Test.YtoapphgahmofhaaPlan
import Derived.Test.YtoapphgahmofhaaInts
namespace Go.Proofs.Ytoapphgahmofhaa
open Go.RowKit

theorem SliceAt.aft {α : Type} {f : α → List Value} {w0 W : World} {v : Value} {l : List α} (h : SliceAt f w0 w0.heap.size v l) (hb : Below w0.heap.size w0 W) (u : Aft W.heap.size W) : SliceAt f u.now u.now.heap.size v l :=
  (h.below (hb.trans (u.is.mono hb.size)) (Nat.le_refl _)).more (hb.trans (u.is.mono hb.size)).size

def at5 (b : List Int) (j : Nat) : Int := b.getD j 0
/-- a binding of five as an array -/
abbrev bAgg (b : List Int) : Value := .agg #[.int .i64 (at5 b 0), .int .i64 (at5 b 1), .int .i64 (at5 b 2), .int .i64 (at5 b 3), .int .i64 (at5 b 4)]
/-- block g holds the binding -/
def Arr (g : Nat) (b : List Int) (w : World) : Prop := (∀ j, j < 5 → w.cell? ⟨g, j, none⟩ = some (.int .i64 (at5 b j))) ∧ ∀ o, w.frozen? ⟨g, o, none⟩ = false
theorem Arr.below {g B : Nat} {b : List Int} {w w' : World} (h : Arr g b w) (hb : Below B w w') (hg : g < B) : Arr g b w' :=
  ⟨fun j hj => (hb.cell (p := ⟨g, j, none⟩) hg).trans (h.1 j hj), fun o => (hb.frozen (p := ⟨g, o, none⟩) hg).trans (h.2 o)⟩
theorem Arr.set {g : Nat} {b : List Int} {w : World} (h : Arr g b w) (hb : b.length = 5) (j : Nat) (hj : j < 5) (v : Int) : Arr g (b.set j v) (w.setCell ⟨g, j, none⟩ (.int .i64 v)) := by
  refine ⟨fun i hi => ?_, fun o => by rw [World.frozen?_setCell]; exact h.2 o⟩
  unfold at5
  rw [List.getD_eq_getElem?_getD, List.getElem?_set]
  by_cases e : j = i
  · subst e
    rw [if_pos rfl, if_pos (by omega)]
    exact World.cell?_setCell_same (w := w) (a := ⟨g, j, none⟩) (v := .int .i64 v) (h.1 j hj)
  · rw [if_neg e, ← List.getD_eq_getElem?_getD]
    refine Eq.trans ?_ (h.1 i hi)
    exact World.cell?_setCell_other (w := w) (a := ⟨g, j, none⟩) (v := .int .i64 v) (b := ⟨g, i, none⟩) (fun e9 => e (by injection e9))
theorem Arr.ints {g B : Nat} {b : List Int} {w : World} (h : Arr g b w) (hb : b.length = 5) (hg : g < B) : IntsAt w B (.slice (some ⟨g, 0, none⟩) 5 5) b := by
  refine ⟨some ⟨g, 0, none⟩, 5, by rw [hb], by omega, by decide, fun _ => ⟨g, 0, rfl, hg, fun j u hu => ?_⟩, fun e => by cases e⟩
  rw [flat_int] at hu
  have hj : j < 5 := by
    have := (List.getElem?_eq_some_iff.1 hu).1
    rw [List.length_map] at this; omega
  rw [Nat.zero_add, h.1 j hj]
  rw [List.getElem?_map] at hu
  unfold at5
  rw [List.getD_eq_getElem?_getD]
  cases hq : b[j]? with
  | none => rw [hq] at hu; cases hu
  | some z => rw [hq] at hu; exact hu
theorem below_set5 {B g : Nat} {w w' : World} (h : Below B w w') (hg : B ≤ g) (v0 v1 v2 v3 v4 : Value) : Below B w (((((w'.setCell ⟨g, 0, none⟩ v0).setCell ⟨g, 1, none⟩ v1).setCell ⟨g, 2, none⟩ v2).setCell ⟨g, 3, none⟩ v3).setCell ⟨g, 4, none⟩ v4) :=
  ((((h.setCell (p := ⟨g, 0, none⟩) hg _).setCell (p := ⟨g, 1, none⟩) hg _).setCell (p := ⟨g, 2, none⟩) hg _).setCell (p := ⟨g, 3, none⟩) hg _).setCell (p := ⟨g, 4, none⟩) hg _
theorem set_getD_self (b : List Int) (j : Nat) : b.set j (b.getD j 0) = b := by
  apply List.ext_getElem?
  intro i
  rw [List.getElem?_set]
  split
  · rename_i e
    subst e
    split
    · rename_i h; rw [List.getD_eq_getElem?_getD, List.getElem?_eq_getElem h]; rfl
    · rename_i h; rw [List.getElem?_eq_none (by omega)]
  · rfl
theorem Arr.new (w : World) (t : TypeId) (b : List Int) : Arr w.heap.size b (w.alloc (.cells #[.int .i64 (at5 b 0), .int .i64 (at5 b 1), .int .i64 (at5 b 2), .int .i64 (at5 b 3), .int .i64 (at5 b 4)] t)) := by
  refine ⟨fun j hj => ?_, fun o => by simp [go_sem]⟩
  rcases (show j = 0 ∨ j = 1 ∨ j = 2 ∨ j = 3 ∨ j = 4 by omega) with h | h | h | h | h <;> subst h <;> simp [go_sem]

/-- no two of the slices share a block -/
def Apart (Vs : List Value) : Prop := Vs.Pairwise fun a b => ∀ g, a.ownBlock = some g → b.ownBlock ≠ some g
theorem IntS_own.mono {B B' C C' : Nat} {v : Value} {l : List Int} {w : World} (h : IntS_own B C v l w) (hB : B' ≤ B) (hC : C ≤ C') : IntS_own B' C' v l w := IntsO.mono h hB hC
theorem row_mono {w : World} {B B' k n : Nat} {e : TypeId} {v : Value} {xs : List Value} (h : w.ownsRow B e k v n xs) (hB : B' ≤ B) : w.ownsRow B' e k v n xs := by
  refine ⟨h.1, ?_⟩
  rcases h.2 with hn | ⟨g, cap, cur, rfl, hb, rest⟩
  · exact .inl hn
  · exact .inr ⟨g, cap, cur, rfl, Nat.le_trans hB hb, rest⟩
theorem set_same {xs : List Value} {i : Nat} {u : Value} (h : xs[i]? = some u) : xs.set i u = xs := by
  obtain ⟨hi, rfl⟩ := List.getElem?_eq_some_iff.1 h
  exact List.set_getElem_self hi
theorem Apart.at_ {Vs : List Value} (h : Apart Vs) (i j : Nat) (hi : i < Vs.length) (hj : j < Vs.length) (hij : i ≠ j) : ∀ g, Vs[i].ownBlock = some g → Vs[j].ownBlock ≠ some g := by
  intro g h1 h2
  have hp := List.pairwise_iff_getElem.1 h
  rcases Nat.lt_or_gt_of_ne hij with hlt | hlt
  · exact hp i j hi hj hlt g h1 h2
  · exact hp j i hj hi hlt g h2 h1
theorem Apart.set {Vs : List Value} (h : Apart Vs) (j : Nat) (V : Value) (hn : ∀ (i : Nat) (hi : i < Vs.length), i ≠ j → ∀ g, Vs[i].ownBlock = some g → V.ownBlock ≠ some g) : Apart (Vs.set j V) := by
  refine List.pairwise_iff_getElem.2 fun a b ha hb hab g h1 h2 => ?_
  rw [List.length_set] at ha hb
  rw [List.getElem_set] at h1 h2
  split at h1
  · rename_i e
    subst e
    rw [if_neg (by omega)] at h2
    exact hn b hb (by omega) g h2 h1
  · split at h2
    · rename_i e1 e
      subst e
      exact hn a ha (by omega) g h1 h2
    · exact h.at_ a b ha hb (by omega) g h1 h2
theorem inner_ne {e : TypeId} (he : e ≠ 3) {B C B' n : Nat} {v V : Value} {vals : List Int} {xs : List Value} {w : World} {k : Nat} (hr : w.ownsRow B' e k v n xs) (hV : IntS_own B C V vals w) : ∀ g, v.ownBlock = some g → V.ownBlock ≠ some g := by
  intro g hg hV'
  rcases own_ne hV.1 hr (fun e1 => he e1.symm) with h | h
  · rw [h] at hV'; cases hV'
  · rw [hg, hV'] at h; exact h rfl
theorem Apart.snoc {Vs : List Value} (h : Apart Vs) (U : Value) (hn : ∀ (i : Nat) (hi : i < Vs.length), ∀ g, Vs[i].ownBlock = some g → U.ownBlock ≠ some g) : Apart (Vs ++ [U]) := by
  refine List.pairwise_append.2 ⟨h, List.pairwise_singleton _ _, fun a ha b hb => ?_⟩
  rw [List.mem_singleton.1 hb]
  obtain ⟨i, hi, rfl⟩ := List.getElem_of_mem ha
  exact hn i hi

end Go.Proofs.Ytoapphgahmofhaa
