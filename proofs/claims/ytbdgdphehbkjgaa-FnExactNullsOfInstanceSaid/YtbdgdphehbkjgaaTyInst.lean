/-
  Walks and plain lemmas for the laws of this seat: what single Go functions return, for every argument.
-/
import Derived.Test.YtbdgdphehbkjgaaRels
import Derived.Test.YtbdgdphehbkjgaaTyFactS
namespace Go.Proofs.Ytbdgdphehbkjgaa
open Go.RowKit

/-- an instance, as the proofs speak of it -/
structure Inst where
  rels : List Rel
  facts : List Fct
def Instance_at (w : World) (B : Nat) (v : Value) (x : Inst) : Prop := ∃ V1 V2, v = .agg #[V1, V2] ∧ RelationS_at w B V1 x.rels ∧ FactS_at w B V2 x.facts
def Instance_own (B C : Nat) (v : Value) (x : Inst) (w : World) : Prop := ∃ V1 V2, v = .agg #[V1, V2] ∧ RelationS_own B C V1 x.rels w ∧ FactS_own B C V2 x.facts w
theorem Instance_at.below {w w' : World} {B B' : Nat} {v : Value} {x : Inst} (h : Instance_at w B v x) (hb : Below B' w w') (hB : B ≤ B') : Instance_at w' B v x := by
  obtain ⟨V1, V2, rfl, h1, h2⟩ := h; exact ⟨V1, V2, rfl, h1.below hb hB, h2.below hb hB⟩
theorem Instance_at.more {w : World} {B B' : Nat} {v : Value} {x : Inst} (h : Instance_at w B v x) (hB : B ≤ B') : Instance_at w B' v x := by
  obtain ⟨V1, V2, rfl, h1, h2⟩ := h; exact ⟨V1, V2, rfl, h1.more hB, h2.more hB⟩
theorem Instance_own.at_ {B C D : Nat} {v : Value} {x : Inst} {w : World} (h : Instance_own B C v x w) (hD : C ≤ D) : Instance_at w D v x := by
  obtain ⟨V1, V2, rfl, h1, h2⟩ := h; exact ⟨V1, V2, rfl, h1.at_ hD, h2.at_ hD⟩
theorem Instance_own.chg {B C B' C' : Nat} {v : Value} {x : Inst} {w w' : World} (h : Instance_own B C v x w) (hc : Chg (Mid B' C') w w') (hd : C ≤ B' ∨ C' ≤ B) : Instance_own B C v x w' := by
  obtain ⟨V1, V2, rfl, h1, h2⟩ := h; exact ⟨V1, V2, rfl, h1.chg hc hd, h2.chg hc hd⟩
theorem Instance_own.below {B C D : Nat} {v : Value} {x : Inst} {w w' : World} (h : Instance_own B C v x w) (hb : Below D w w') (hD : C ≤ D) : Instance_own B C v x w' := by
  obtain ⟨V1, V2, rfl, h1, h2⟩ := h; exact ⟨V1, V2, rfl, h1.below hb hD, h2.below hb hD⟩
theorem RelationS_at.form {w : World} {B : Nat} {v : Value} {l : List Rel} (h : RelationS_at w B v l) : ∃ A c, v = .slice A l.length c ∧ l.length ≤ c ∧ c ≤ maxLen := by
  obtain ⟨A, c, hv, h1, h2, _⟩ := h; exact ⟨A, c, hv, h1, h2⟩
theorem Instance_form {w : World} {B : Nat} {v : Value} {x : Inst} (h : Instance_at w B v x) : ∃ P c Q d, v = .agg #[.slice P x.rels.length c, .slice Q x.facts.length d] := by
  obtain ⟨V1, V2, rfl, h1, h2⟩ := h
  obtain ⟨P, c, rfl, _⟩ := h1.form
  obtain ⟨Q, d, rfl, _⟩ := h2.form
  exact ⟨P, c, Q, d, rfl⟩
def Instance_wf (x : Inst) : Prop := RelationS_wf x.rels ∧ FactS_wf x.facts
def Instance_sz (x : Inst) : Nat := RelationS_sz x.rels + FactS_sz x.facts
def Instance_cnt (x : Inst) : Nat := RelationS_cnt x.rels + FactS_cnt x.facts
theorem Instance_cnt_le (x : Inst) : Instance_cnt x ≤ 4 * Instance_sz x := by
  have h1 := RelationS_cnt_le x.rels
  have h2 := FactS_cnt_le x.facts
  unfold Instance_cnt Instance_sz; omega

end Go.Proofs.Ytbdgdphehbkjgaa
