/-
  Walks and plain lemmas for the laws of this seat: what single Go functions return, for every argument.
-/
import Derived.Test.YtchlelkhpahakaaInstI
import Derived.Test.YtchlelkhpahakaaInstU2
namespace Go.Proofs.Ytchlelkhpahakaa
open Go.RowKit

theorem specL5Put_own (v u : Value) (x : Inst) (y : Fct) (w : World) (h : ∃ B C, C ≤ w.heap.size ∧ Instance_own B C v x w) (hn : Instance_sz x ≤ 1048576) (h' : Fact_at w w.heap.size u y) (hyn : Fact_sz y ≤ 1048576) :
    Calls Try.prog 61 #[v, u] w (GivesPut x y w) := by
  obtain ⟨B, C, hC, ho⟩ := h
  by_cases h0 : 0 < x.facts.length
  · exact specL5Put_ne v u x y w h0 (ho.at_ hC) hn h' hyn
  · obtain ⟨rels, facts⟩ := x
    obtain rfl : facts = [] := List.eq_nil_of_length_eq_zero (by simp only at h0; omega)
    obtain ⟨V1, V2, rfl, hR, Vs, hF⟩ := ho
    have hR' := hR.at_ (Nat.le_refl _)
    obtain ⟨P, c, rfl, -⟩ := hR'.form
    have hVs : Vs = [] := List.eq_nil_of_length_eq_zero hF.len
    subst hVs
    have hrow := hF.row
    rcases hrow.2 with ⟨hv, _⟩ | ⟨g, cap, cur, hv, _, _, _, hm, _⟩
    · rw [hv]
      exact specL5Put_e u rels y P c none 0 w ((hR.at_ hC)) (.inl ⟨rfl, rfl⟩) (by decide) h' hyn
    · rw [hv]
      exact specL5Put_e u rels y P c (some ⟨g, 0, none⟩) cap w ((hR.at_ hC)) (.inr ⟨g, rfl⟩) hm h' hyn
theorem specInsertFact_any (v u : Value) (x : Inst) (y : Fct) (w : World) (h : Instance_at w w.heap.size v x) (hw : Instance_wf x) (hn : Instance_sz x ≤ 1048576) (h' : Fact_at w w.heap.size u y) (hy : Fact_wf y) (hyn : Fact_sz y ≤ 1048576) :
    Calls Try.prog 25 #[v, u] w (GivesIns x y w) := specInsertFact_of specL5Put_own v u x y w h hw hn h' hy hyn
theorem specInsertFact_o (v : Value) (x : Inst) (u : Value) (y : Fct) (w : World) (h : Instance_at w w.heap.size v x) (hw : Instance_wf x) (hn : Instance_sz x ≤ 1048576) (h' : Fact_at w w.heap.size u y) (hy : Fact_wf y) (hyn : Fact_sz y ≤ 1048576) :
    Calls Try.prog 25 #[v, u] w fun e w' => ∃ r0, e = .returned (.tuple #[r0, .bool (InsertFact_ok x y)]) ∧ Instance_own w.heap.size w'.heap.size r0 (InsertFact_r0 x y) w' ∧ Below w.heap.size w w' :=
  (specInsertFact_any v u x y w h hw hn h' hy hyn).mono fun _ _ ⟨r, he, ho, hb⟩ => ⟨r, he, ho, hb⟩

end Go.Proofs.Ytchlelkhpahakaa
