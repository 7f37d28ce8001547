/-
  Walks and plain lemmas for the laws of this seat: what single Go functions return, for every argument.
-/
import Derived.Test.YtakflmaeclneiaaDoorMem
import Derived.Test.YtakflmaeclneiaaDoorInts
namespace Go.Proofs.YtakflmaeclneiaaDoor
open Go.RowKit

/-- no two of the slices share a block -/
def Apart (Vs : List Value) : Prop := Vs.Pairwise fun a b => ∀ g, a.ownBlock = some g → b.ownBlock ≠ some g
theorem IntS_own.mono {B B' C C' : Nat} {v : Value} {l : List Int} {w : World} (h : IntS_own B C v l w) (hB : B' ≤ B) (hC : C ≤ C') : IntS_own B' C' v l w := IntsO.mono h hB hC
theorem row_mono {w : World} {B B' k n : Nat} {e : TypeId} {v : Value} {xs : List Value} (h : w.ownsRow B e k v n xs) (hB : B' ≤ B) : w.ownsRow B' e k v n xs := by
  refine ⟨h.1, ?_⟩
  rcases h.2 with hn | ⟨g, cap, cur, rfl, hb, rest⟩
  · exact .inl hn
  · exact .inr ⟨g, cap, cur, rfl, Nat.le_trans hB hb, rest⟩
theorem set_same {xs : List Value} {i : Nat} {u : Value} (h : xs[i]? = some u) : xs.set i u = xs := by
  obtain ⟨hi, rfl⟩ := List.getElem?_eq_some_iff.1 h
  exact List.set_getElem_self hi
theorem Apart.at_ {Vs : List Value} (h : Apart Vs) (i j : Nat) (hi : i < Vs.length) (hj : j < Vs.length) (hij : i ≠ j) : ∀ g, Vs[i].ownBlock = some g → Vs[j].ownBlock ≠ some g := by
  intro g h1 h2
  have hp := List.pairwise_iff_getElem.1 h
  rcases Nat.lt_or_gt_of_ne hij with hlt | hlt
  · exact hp i j hi hj hlt g h1 h2
  · exact hp j i hj hi hlt g h2 h1
theorem Apart.set {Vs : List Value} (h : Apart Vs) (j : Nat) (V : Value) (hn : ∀ (i : Nat) (hi : i < Vs.length), i ≠ j → ∀ g, Vs[i].ownBlock = some g → V.ownBlock ≠ some g) : Apart (Vs.set j V) := by
  refine List.pairwise_iff_getElem.2 fun a b ha hb hab g h1 h2 => ?_
  rw [List.length_set] at ha hb
  rw [List.getElem_set] at h1 h2
  split at h1
  · rename_i e
    subst e
    rw [if_neg (by omega)] at h2
    exact hn b hb (by omega) g h2 h1
  · split at h2
    · rename_i e1 e
      subst e
      exact hn a ha (by omega) g h1 h2
    · exact h.at_ a b ha hb (by omega) g h1 h2
theorem inner_ne {e : TypeId} (he : e ≠ 3) {B C B' n : Nat} {v V : Value} {vals : List Int} {xs : List Value} {w : World} {k : Nat} (hr : w.ownsRow B' e k v n xs) (hV : IntS_own B C V vals w) : ∀ g, v.ownBlock = some g → V.ownBlock ≠ some g := by
  intro g hg hV'
  rcases own_ne hV.1 hr (fun e1 => he e1.symm) with h | h
  · rw [h] at hV'; cases hV'
  · rw [hg, hV'] at h; exact h rfl
theorem Apart.snoc {Vs : List Value} (h : Apart Vs) (U : Value) (hn : ∀ (i : Nat) (hi : i < Vs.length), ∀ g, Vs[i].ownBlock = some g → U.ownBlock ≠ some g) : Apart (Vs ++ [U]) := by
  refine List.pairwise_append.2 ⟨h, List.pairwise_singleton _ _, fun a ha b hb => ?_⟩
  rw [List.mem_singleton.1 hb]
  obtain ⟨i, hi, rfl⟩ := List.getElem_of_mem ha
  exact hn i hi

end Go.Proofs.YtakflmaeclneiaaDoor
