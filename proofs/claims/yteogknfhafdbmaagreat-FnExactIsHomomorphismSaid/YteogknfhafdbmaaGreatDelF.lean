/-
  Walks and plain lemmas for the laws of this seat: what single Go functions return, for every argument.
-/
import Derived.Test.YteogknfhafdbmaaGreatTyInst
import Derived.Test.YteogknfhafdbmaaGreatCopI
import Derived.Test.YteogknfhafdbmaaGreatMInst
namespace Go.Proofs.YteogknfhafdbmaaGreat
open Go.RowKit

theorem zeroFct_val : ∀ w, (zeroValue 52).run Tryz.prog w = .ok (.agg #[.int .i64 0, .slice none 0 0]) w := by
  intro w
  obtain ⟨i0, hi, hz0, hz1, hz2⟩ := info_parts infoFct
  simp [zeroValue, typeInfo, hi, hz0]
theorem keepN_lt {α : Type} {p : α → Bool} {l : List α} (h : l.any p = true) : (keepN p l).length < l.length := by
  induction l with
  | nil => simp at h
  | cons y t ih =>
    have hle := keepN_len p t
    unfold keepN at *
    cases hy : p y with
    | true => rw [List.filter_cons_of_neg (by simp [hy]), List.length_cons]; omega
    | false =>
      rw [List.any_cons, hy, Bool.false_or] at h
      have := ih h
      rw [List.filter_cons_of_pos (by simp [hy]), List.length_cons, List.length_cons]; omega
/-- the slices of Z's facts in a later world, where block q alone has turned -/
theorem elems_chg {e : TypeId} (he : e ≠ 3) {B C q n : Nat} {cap : Nat} {xs : List Value} {Z : List (Fct × Value)} {w wr : World} (hrow : w.ownsRow B e 2 (.slice (some ⟨q, 0, none⟩) n cap) n xs) (hel : ∀ z ∈ Z, IntS_own B C z.2 z.1.vals w) (hc : Chg (fun k => k = q) w wr) : ∀ z ∈ Z, IntS_own B C z.2 z.1.vals wr :=
  fun z hz => ⟨(hel z hz).1.chg hc (fun g hg e1 => inner_ne he hrow (hel z hz) q rfl (by rw [hg, e1])), (hel z hz).2⟩
theorem setMany_two (xs : List Value) (p : Nat) (a b : Value) : setMany xs p [a, b] = (xs.set p a).set (p + 1) b := rfl
/-- a fact stored at place i of the row -/
theorem row_put {w : World} {B q n cap i : Nat} {e : TypeId} {R : List (Fct × Value)} {z : Fct × Value} (hrow : w.ownsRow B e 2 (.slice (some ⟨q, 0, none⟩) n cap) n (R.flatMap zCells)) (hi : i < R.length) :
    ((w.setCell ⟨q, i * 2, none⟩ (.int .i64 z.1.rel)).setCell ⟨q, i * 2 + 1, none⟩ z.2).ownsRow B e 2 (.slice (some ⟨q, 0, none⟩) n cap) n ((R.set i z).flatMap zCells) := by
  rw [← flat_set zCells 2 zCells_len R i hi z]
  exact (World.ownsRow.stored (World.ownsRow.stored hrow (i * 2) _).1 (i * 2 + 1) _).1
theorem row_cells {w : World} {B q n cap i : Nat} {e : TypeId} {R : List (Fct × Value)} (hrow : w.ownsRow B e 2 (.slice (some ⟨q, 0, none⟩) n cap) n (R.flatMap zCells)) (hR : R.length = n) (hi : i < R.length) :
    w.cell? ⟨q, i * 2, none⟩ = some (.int .i64 R[i].1.rel) ∧ w.cell? ⟨q, i * 2 + 1, none⟩ = some R[i].2 := by
  have g (j : Nat) (hj : j < 2) := (World.ownsRow.cellAt hrow (i * 2 + j) (by omega)).trans (flat_get zCells 2 zCells_len R i j hi hj)
  exact ⟨g 0 (by omega), g 1 (by omega)⟩

end Go.Proofs.YteogknfhafdbmaaGreat
