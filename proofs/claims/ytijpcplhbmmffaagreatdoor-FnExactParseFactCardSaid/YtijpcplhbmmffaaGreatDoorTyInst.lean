/-
  Walks and plain lemmas for the laws of this seat: what single Go functions return, for every argument.
-/
import Derived.Test.YtijpcplhbmmffaaGreatDoorInts
namespace Go.Proofs.YtijpcplhbmmffaaGreatDoor
open Go.RowKit

/-- a fact, as the proofs speak of it -/
structure Fct where
  rel : Int
  vals : List Int
def Fact_at (w : World) (B : Nat) (v : Value) (x : Fct) : Prop := ∃ V, v = .agg #[.int .i64 x.rel, V] ∧ IntS_at w B V x.vals
def Fact_own (B C : Nat) (v : Value) (x : Fct) (w : World) : Prop := ∃ V, v = .agg #[.int .i64 x.rel, V] ∧ IntS_own B C V x.vals w
theorem Fact_at.below {w w' : World} {B B' : Nat} {v : Value} {x : Fct} (h : Fact_at w B v x) (hb : Below B' w w') (hB : B ≤ B') : Fact_at w' B v x := by
  obtain ⟨V, rfl, h⟩ := h; exact ⟨V, rfl, h.below hb hB⟩
theorem Fact_at.more {w : World} {B B' : Nat} {v : Value} {x : Fct} (h : Fact_at w B v x) (hB : B ≤ B') : Fact_at w B' v x := by
  obtain ⟨V, rfl, h⟩ := h; exact ⟨V, rfl, h.more hB⟩
theorem Fact_own.at_ {B C D : Nat} {v : Value} {x : Fct} {w : World} (h : Fact_own B C v x w) (hD : C ≤ D) : Fact_at w D v x := by
  obtain ⟨V, rfl, h⟩ := h; exact ⟨V, rfl, h.at_ hD⟩
theorem Fact_own.chg {B C B' C' : Nat} {v : Value} {x : Fct} {w w' : World} (h : Fact_own B C v x w) (hc : Chg (Mid B' C') w w') (hd : C ≤ B' ∨ C' ≤ B) : Fact_own B C v x w' := by
  obtain ⟨V, rfl, h⟩ := h; exact ⟨V, rfl, h.chg hc hd⟩
theorem Fact_own.below {B C D : Nat} {v : Value} {x : Fct} {w w' : World} (h : Fact_own B C v x w) (hb : Below D w w') (hD : C ≤ D) : Fact_own B C v x w' := by
  obtain ⟨V, rfl, h⟩ := h; exact ⟨V, rfl, h.below hb hD⟩
def Fact_wf (x : Fct) : Prop := (-9223372036854775808 ≤ x.rel ∧ x.rel ≤ 9223372036854775807) ∧ IntS_wf x.vals
def Fact_sz (x : Fct) : Nat := x.vals.length
def Fact_mk (k : Nat) (x : Fct) : Fct := ⟨x.rel, IntS_mk k x.vals⟩
def Fact_cnt (x : Fct) : Nat := x.vals.length
theorem Fact_cnt_le (x : Fct) : Fact_cnt x ≤ 4 * Fact_sz x := by unfold Fact_cnt Fact_sz; omega
theorem Fact_form {w : World} {B : Nat} {v : Value} {x : Fct} (h : Fact_at w B v x) : ∃ P c, v = .agg #[.int .i64 x.rel, .slice P x.vals.length c] := by
  obtain ⟨V, rfl, P, c, rfl, _⟩ := h
  exact ⟨P, c, rfl⟩

end Go.Proofs.YtijpcplhbmmffaaGreatDoor
