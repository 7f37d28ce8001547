/-
  Walks and plain lemmas for the laws of this seat: what single Go functions return, for every argument.
-/
import Derived.Test.YteogknfhafdbmaaGreatDoorParR
import Derived.Test.YteogknfhafdbmaaGreatDoorFmtInst
import Derived.Test.YteogknfhafdbmaaGreatDoorParFS
namespace Go.Proofs.YteogknfhafdbmaaGreatDoor
open Go.RowKit

/-- a piece read as a fact; what is none reads as the fact that is all zero -/
def pfact (l : List Rel) (t : List UInt8) : Fct := ParseFact_r0 l ⟨t.toArray⟩
theorem pfact_fmt (l : List Rel) (f : Fct) (h : factOk l f.rel f.vals = true) : pfact l (fmtFact l f.rel f.vals) = f := by
  have := (parseFact_iff l (fmtFact l f.rel f.vals) f.rel f.vals).2 ⟨h, rfl⟩
  exact (parseFact_yes (s := ⟨(fmtFact l f.rel f.vals).toArray⟩) this).1
def factsOf (l : List Rel) (b : List UInt8) : List Fct := if b = [] then [] else (cutA 32 b).map (pfact l)
def parseInst (s : List UInt8) : Option Inst := match cutA 59 s with
  | [a, b] => if fmtInst ⟨(parsePair a).1, factsOf (parsePair a).1 b⟩ = s then some ⟨(parsePair a).1, factsOf (parsePair a).1 b⟩ else none
  | _ => none
theorem parsePair_fmt (l : List Rel) (h : validRels l = true) : (parsePair (fmtRels l)).1 = l := by
  by_cases h0 : fmtRels l = []
  · have : l = [] := by
      rw [fmtRels_yes l h] at h0
      cases l with
      | nil => rfl
      | cons r t =>
        unfold joinRels at h0
        rw [List.map_cons, Lib.join_cons] at h0
        have h1 := (List.append_eq_nil_iff.1 h0).1
        obtain ⟨c, hc, _, _, h3, h4⟩ := relOk_form r (validRels_mem _ h r (by simp))
        rw [fmtRel_form r c hc h3 h4] at h1
        simp at h1
    rw [h0, this]; rfl
  · rw [parsePair_some h0 ((parse_iff _ h0 l).2 ⟨h, rfl⟩)]
theorem joinFacts_nil {l : List Rel} {fs : List Fct} (h : ∀ f ∈ fs, factOk l f.rel f.vals = true) (h0 : joinFacts l fs = []) : fs = [] := by
  cases fs with
  | nil => rfl
  | cons f t =>
    unfold joinFacts at h0
    rw [List.map_cons, Lib.join_cons] at h0
    exact absurd (List.append_eq_nil_iff.1 h0).1 (fmtFact_ne.2 (h f (by simp)))
theorem factsOf_join {l : List Rel} {fs : List Fct} (h : ∀ f ∈ fs, factOk l f.rel f.vals = true) : factsOf l (joinFacts l fs) = fs := by
  unfold factsOf
  split
  · rename_i h0; exact (joinFacts_nil h h0).symm
  · rename_i h0
    have hne : fs ≠ [] := by rintro rfl; exact h0 rfl
    rw [facts_cut l fs hne, List.map_map]
    refine (List.map_congr_left (g := id) fun f hf => ?_).trans (List.map_id fs)
    exact pfact_fmt l f (h f hf)
theorem parseInst_iff (s : List UInt8) (x : Inst) : parseInst s = some x ↔ instOk x = true ∧ fmtInst x = s := by
  constructor
  · intro h
    unfold parseInst at h
    split at h
    · rename_i a b hc
      split at h
      · rename_i hf
        cases h
        refine ⟨?_, hf⟩
        cases hv : instOk ⟨(parsePair a).1, factsOf (parsePair a).1 b⟩ with
        | true => rfl
        | false =>
          rw [fmtInst_no hv] at hf
          rw [← hf] at hc
          simp [cutA] at hc
      · cases h
    · cases h
  · rintro ⟨ho, hf⟩
    have hv := (instOk_parts ho).2.1
    have e := fmtInst_yes ho
    rw [hf] at e
    have h1 : cutA 59 s = [fmtRels x.rels, joinFacts x.rels x.facts] := by rw [e]; exact inst_cut _ _ (fmtRels_semi _) (joinFacts_semi _ _)
    have h2 : (⟨(parsePair (fmtRels x.rels)).1, factsOf (parsePair (fmtRels x.rels)).1 (joinFacts x.rels x.facts)⟩ : Inst) = x := by
      rw [parsePair_fmt _ hv, factsOf_join (instOk_fact ho)]
    unfold parseInst
    rw [h1]
    simp only [h2, hf, if_true]

end Go.Proofs.YteogknfhafdbmaaGreatDoor
