/-
  Walks and plain lemmas for the laws of this seat: what single Go functions return, for every argument.
-/
import Derived.Laws.IdiomCopy
import Derived.Test.YtobdijcnfmgidaaMem
namespace Go.Proofs.Ytobdijcnfmgidaa
open Go.RowKit

/-- a row of the call's own, cut -/
theorem ownsRow_cut {w : World} {B k g n cap i : Nat} {e : TypeId} {xs : List Value} (h : w.ownsRow B e k (.slice (some ⟨g, 0, none⟩) n cap) n xs) (hi : i ≤ n) : w.ownsRow B e k (.slice (some ⟨g, 0, none⟩) i cap) i (xs.take (i * k)) := by
  rcases h.2 with ⟨h', _⟩ | ⟨g', cap', cur, h', hb, hg, hnc, hcm, hcs, ht⟩
  · cases h'
  · injection h' with e1 _ e3
    injection e1 with e1
    injection e1 with e1
    subst e1 e3
    have hle : i * k ≤ n * k := Nat.mul_le_mul_right k hi
    refine ⟨by rw [List.length_take, h.1]; omega, .inr ⟨g, cap, cur, rfl, hb, hg, by omega, hcm, hcs, ?_⟩⟩
    rw [← ht, List.take_take, Nat.min_eq_left hle]
/-- several cells of the row set -/
theorem ownsRow_setCells {B k g n cap : Nat} {e : TypeId} (us : List Value) (o : Nat) : ∀ {w : World} {xs : List Value}, w.ownsRow B e k (.slice (some ⟨g, 0, none⟩) n cap) n xs → (w.setCells g o us).ownsRow B e k (.slice (some ⟨g, 0, none⟩) n cap) n (setMany xs o us) := by
  induction us generalizing o with
  | nil => intro w xs h; exact h
  | cons u us ih => intro w xs h; exact ih (o + 1) (World.ownsRow.stored h o u).1
theorem setMany_take (xs : List Value) (o : Nat) (us : List Value) : (setMany xs o us).take o = xs.take o := by
  have key : ∀ (us : List Value) (xs : List Value) (o m : Nat), m ≤ o → (setMany xs o us).take m = xs.take m := by
    intro us
    induction us with
    | nil => intro xs o m h; rfl
    | cons u us ih =>
      intro xs o m h
      show (setMany (xs.set o u) (o + 1) us).take m = _
      rw [ih _ _ _ (by omega), List.take_set_of_le h]
  exact key us xs o o (Nat.le_refl _)
theorem chg_setCells {g : Nat} (us : List Value) (o : Nat) : ∀ (w : World), Chg (fun q => q = g) w (w.setCells g o us) := by
  induction us generalizing o with
  | nil => intro w; exact Chg.refl _ _
  | cons u us ih => intro w; exact ((Chg.refl (fun q => q = g) w).setCell (p := ⟨g, o, none⟩) rfl u).trans (ih (o + 1) _)

end Go.Proofs.Ytobdijcnfmgidaa
