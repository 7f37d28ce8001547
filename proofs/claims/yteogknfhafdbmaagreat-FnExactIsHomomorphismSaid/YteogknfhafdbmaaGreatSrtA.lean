/-
  Walks and plain lemmas for the laws of this seat: what single Go functions return, for every argument.
-/
import Derived.Shelf.SlSortCmp.NoneTotal
import Derived.Test.YteogknfhafdbmaaGreatSrtF
import Derived.Test.YteogknfhafdbmaaGreatCpF
namespace Go.Proofs.YteogknfhafdbmaaGreat
open Go.RowKit

theorem FactSO.form {e : TypeId} {B C : Nat} {v : Value} {Vs : List Value} {l : List Fct} {w : World} (h : FactSO e B C v Vs l w) : (v = .slice none 0 0 ∧ l = [] ∧ Vs = []) ∨ ∃ q cap, v = .slice (some ⟨q, 0, none⟩) l.length cap := by
  have hp := pairs_len h.len
  rcases h.row.2 with ⟨hv, h0⟩ | ⟨g, cap, cur, hv, -⟩
  · rw [hp] at h0
    have hl : l = [] := List.eq_nil_of_length_eq_zero h0
    have := h.len
    exact .inl ⟨hv, hl, List.eq_nil_of_length_eq_zero (by omega)⟩
  · rw [hp] at hv
    exact .inr ⟨g, cap, hv⟩
theorem implSortFacts_any (l : List Fct) (B C : Nat) (v : Value) (Vs : List Value) (w : World) (hn : l.length ≤ 1048576) (hC : C ≤ w.heap.size) (hO : FactSO 52 B C v Vs l w) :
    Calls Tryz.prog 53 #[v, .func (.func 54) #[] #[]] w fun e w' => e = .returned (.tuple #[]) ∧ ∃ Us R, FactSO 52 B C v Us R w' ∧ R.length = l.length ∧ NdF R ∧ (∀ x, x ∈ R ↔ x ∈ l) ∧ Chg (fun k => v.ownBlock = some k) w w' := by
  rcases Nat.eq_zero_or_pos l.length with h0 | h0
  · have hl : l = [] := List.eq_nil_of_length_eq_zero h0
    subst hl
    have hnone : ∀ (p : Option Addr) (cap : Nat), Calls Tryz.prog 53 #[.slice p 0 cap, .func (.func 54) #[] #[]] w fun e w' => e = .returned (.tuple #[]) ∧ w' = w := fun p cap => AnyF.slices_SortFunc_none Tryz.sortF p cap _ w
    have fin : ∀ w', w' = w → ∃ Us R, FactSO 52 B C v Us R w' ∧ R.length = ([] : List Fct).length ∧ NdF R ∧ (∀ x, x ∈ R ↔ x ∈ ([] : List Fct)) ∧ Chg (fun k => v.ownBlock = some k) w w' := by
      rintro _ rfl
      exact ⟨Vs, [], hO, rfl, List.Pairwise.nil, fun x => Iff.rfl, Chg.refl _ _⟩
    rcases hO.form with ⟨hv, -, -⟩ | ⟨q, cap, hv⟩
    · rw [hv]; rw [hv] at fin
      exact (hnone none 0).mono fun e w' ⟨he, hw⟩ => ⟨he, fin w' hw⟩
    · rw [hv]; rw [hv] at fin
      exact (hnone _ cap).mono fun e w' ⟨he, hw⟩ => ⟨he, fin w' hw⟩
  · rcases hO.form with ⟨-, hl, -⟩ | ⟨q, cap, rfl⟩
    · rw [hl] at h0; simp at h0
    · refine (implSortF_any l B C q cap Vs w hn hC h0 hO).mono ?_
      rintro e w' ⟨rfl, Us, R, h1, h2, h3, h4, h5⟩
      exact ⟨rfl, Us, R, h1, h2, h3, h4, h5.mono fun k hk => by subst hk; rfl⟩
theorem implCompactNil (w : World) : Calls Tryz.prog 55 #[.slice none 0 0, .func (.func 56) #[] #[]] w fun e w' => e = .returned (.slice none 0 0) ∧ w' = w := by
  go_enter Tryz.func55, Tryz.ntmps55
  go_wp2
  go_ret
  exact ⟨rfl, rfl⟩
theorem implCompactFacts_any (l : List Fct) (B C : Nat) (v : Value) (Vs : List Value) (w : World) (hn : l.length ≤ 1048576) (hC : C ≤ w.heap.size) (hO : FactSO 52 B C v Vs l w) :
    Calls Tryz.prog 55 #[v, .func (.func 56) #[] #[]] w fun e w' => ∃ u Us, e = .returned u ∧ FactSO 52 B C u Us (cpAll eqF l) w' ∧ Chg (fun k => v.ownBlock = some k) w w' := by
  rcases hO.form with ⟨hv, hl, hV⟩ | ⟨q, cap, rfl⟩
  · subst hv hl hV
    refine (implCompactNil w).mono ?_
    rintro e w' ⟨rfl, rfl⟩
    exact ⟨_, [], rfl, hO, Chg.refl _ _⟩
  · refine (implCompactF_any l B C q cap Vs w hn hC hO).mono ?_
    rintro e w' ⟨Us, rfl, h1, h2⟩
    exact ⟨_, Us, rfl, h1, h2.mono fun k hk => by subst hk; rfl⟩

end Go.Proofs.YteogknfhafdbmaaGreat
