/-
  Walks and plain lemmas for the laws of this seat: what single Go functions return, for every argument.
-/
import Derived.Test.YteogknfhafdbmaaGreatTakeE
import Derived.Test.YteogknfhafdbmaaGreatMInst
import Derived.Test.YteogknfhafdbmaaGreatMSub
namespace Go.Proofs.YteogknfhafdbmaaGreat
open Go.RowKit

/-- both valid, over the same relations -/
def sameRels (x y : Inst) : Bool := instOk x && (instOk y && decide (x.rels = y.rels))
/-- every fact of x becomes by s a fact of y -/
def homFacts (s : Sbst) (x y : Inst) : Bool := subInst ⟨[], applyFs s x.facts⟩ y
def isHom (x y : Inst) (s : Sbst) : Bool := sameRels x y && (decide (s.nulls = nullsI x.facts) && (subOk s && homFacts s x y))
theorem sameRels_not1 {x y : Inst} (h : instOk x = false) : sameRels x y = false := by unfold sameRels; rw [h]; rfl
theorem sameRels_not2 {x y : Inst} (h : instOk y = false) : sameRels x y = false := by unfold sameRels; rw [h]; simp
theorem sameRels_not3 {x y : Inst} (h : decide (x.rels = y.rels) = false) : sameRels x y = false := by unfold sameRels; rw [h]; simp
theorem sameRels_yes {x y : Inst} (h1 : instOk x = true) (h2 : instOk y = true) (h3 : decide (x.rels = y.rels) = true) : sameRels x y = true := by unfold sameRels; rw [h1, h2, h3]; rfl
theorem isHom_not1 {x y : Inst} {s : Sbst} (h : sameRels x y = false) : isHom x y s = false := by unfold isHom; rw [h]; rfl
theorem isHom_not2 {x y : Inst} {s : Sbst} (h : decide (s.nulls = nullsI x.facts) = false) : isHom x y s = false := by unfold isHom; rw [h]; simp
theorem isHom_not3 {x y : Inst} {s : Sbst} (h : subOk s = false) : isHom x y s = false := by unfold isHom; rw [h]; simp
theorem isHom_yes {x y : Inst} {s : Sbst} (h1 : sameRels x y = true) (h2 : decide (s.nulls = nullsI x.facts) = true) (h3 : subOk s = true) : isHom x y s = homFacts s x y := by unfold isHom; rw [h1, h2, h3]; simp
theorem sameRels_parts {x y : Inst} (h : sameRels x y = true) : instOk x = true ∧ instOk y = true ∧ x.rels = y.rels := by
  unfold sameRels at h
  simpa only [Bool.and_eq_true, decide_eq_true_eq] using h
theorem homFacts_iff (s : Sbst) (x y : Inst) : homFacts s x y = true ↔ ∀ f ∈ x.facts, applyF s f ∈ y.facts := by
  unfold homFacts applyFs
  rw [subInst_iff]
  simp
theorem homFacts_put (s : Sbst) (x y : Inst) : subInst ⟨x.rels, putAll (applyFs s x.facts)⟩ y = homFacts s x y := by
  rw [Bool.eq_iff_iff, subInst_iff, homFacts_iff]
  constructor
  · exact fun h f hf => h _ (((putAll_facts _).2 _).2 (List.mem_map.2 ⟨f, hf, rfl⟩))
  · intro h g hg
    obtain ⟨f, hf, rfl⟩ := List.mem_map.1 (((putAll_facts _).2 _).1 hg)
    exact h f hf
def HomTo (s : Sbst) (x y : Inst) (k : Nat) : Prop := ∀ i (h : i < x.facts.length), i < k → 0 ≤ placeF (applyF s x.facts[i]) y.facts
theorem HomTo.zero (s : Sbst) (x y : Inst) : HomTo s x y 0 := fun _ _ h => absurd h (by omega)
theorem HomTo.next {s : Sbst} {x y : Inst} {k : Nat} (h : HomTo s x y k) (hk : k < x.facts.length) (hp : 0 ≤ placeF (applyF s x.facts[k]) y.facts) : HomTo s x y (k + 1) := fun i hi hik => by
  by_cases e : i = k
  · subst e; exact hp
  · exact h i hi (by omega)
theorem homFacts_no {s : Sbst} {x y : Inst} (k : Nat) (hk : k < x.facts.length) (hp : ¬ 0 ≤ placeF (applyF s x.facts[k]) y.facts) : homFacts s x y = false := by
  rw [Bool.eq_false_iff]
  intro h
  exact hp ((placeF_mem _ _).2 ((homFacts_iff s x y).1 h _ (List.getElem_mem hk)))
theorem homFacts_yes {s : Sbst} {x y : Inst} (h : HomTo s x y x.facts.length) : homFacts s x y = true := by
  rw [homFacts_iff]
  intro f hf
  obtain ⟨k, hk, rfl⟩ := List.getElem_of_mem hf
  exact (placeF_mem _ _).1 (h k hk hk)
theorem applyI_hom {s : Sbst} {x y : Inst} (h1 : subOk s = true) (h2 : instOk x = true) : subInst (applyI s x) y = homFacts s x y := by
  rw [(applyI_yes h1 h2).2, homFacts_put]

end Go.Proofs.YteogknfhafdbmaaGreat
