/-
  Walks and plain lemmas for the laws of this seat: what single Go functions return, for every argument.
-/
import Derived.Test.YtalijnfbopcmeaaInts
namespace Go.Proofs.Ytalijnfbopcmeaa
open Go.RowKit

/-- a substitution, as the proofs speak of it -/
structure Sbst where
  nulls : List Int
  vals : List Int
def Substitution_at (w : World) (B : Nat) (v : Value) (x : Sbst) : Prop := ∃ V1 V2, v = .agg #[V1, V2] ∧ IntS_at w B V1 x.nulls ∧ IntS_at w B V2 x.vals
def Substitution_own (B C : Nat) (v : Value) (x : Sbst) (w : World) : Prop := ∃ V1 V2, v = .agg #[V1, V2] ∧ IntS_own B C V1 x.nulls w ∧ IntS_own B C V2 x.vals w ∧ ∀ g, V1.ownBlock = some g → V2.ownBlock ≠ some g
theorem Substitution_at.below {w w' : World} {B B' : Nat} {v : Value} {x : Sbst} (h : Substitution_at w B v x) (hb : Below B' w w') (hB : B ≤ B') : Substitution_at w' B v x := by
  obtain ⟨V1, V2, rfl, h1, h2⟩ := h; exact ⟨V1, V2, rfl, h1.below hb hB, h2.below hb hB⟩
theorem Substitution_at.more {w : World} {B B' : Nat} {v : Value} {x : Sbst} (h : Substitution_at w B v x) (hB : B ≤ B') : Substitution_at w B' v x := by
  obtain ⟨V1, V2, rfl, h1, h2⟩ := h; exact ⟨V1, V2, rfl, h1.more hB, h2.more hB⟩
theorem Substitution_at.later {w w' : World} {v : Value} {x : Sbst} (h : Substitution_at w w.heap.size v x) (hb : Below w.heap.size w w') : Substitution_at w' w'.heap.size v x := (h.below hb (Nat.le_refl _)).more hb.size
theorem Substitution_own.at_ {B C D : Nat} {v : Value} {x : Sbst} {w : World} (h : Substitution_own B C v x w) (hD : C ≤ D) : Substitution_at w D v x := by
  obtain ⟨V1, V2, rfl, h1, h2, _⟩ := h; exact ⟨V1, V2, rfl, h1.at_ hD, h2.at_ hD⟩
theorem Substitution_own.chg {B C B' C' : Nat} {v : Value} {x : Sbst} {w w' : World} (h : Substitution_own B C v x w) (hc : Chg (Mid B' C') w w') (hd : C ≤ B' ∨ C' ≤ B) : Substitution_own B C v x w' := by
  obtain ⟨V1, V2, rfl, h1, h2, h3⟩ := h; exact ⟨V1, V2, rfl, h1.chg hc hd, h2.chg hc hd, h3⟩
theorem Substitution_own.below {B C D : Nat} {v : Value} {x : Sbst} {w w' : World} (h : Substitution_own B C v x w) (hb : Below D w w') (hD : C ≤ D) : Substitution_own B C v x w' := by
  obtain ⟨V1, V2, rfl, h1, h2, h3⟩ := h; exact ⟨V1, V2, rfl, h1.below hb hD, h2.below hb hD, h3⟩
theorem IntS_at.form {w : World} {B : Nat} {v : Value} {l : List Int} (h : IntS_at w B v l) : ∃ A c, v = .slice A l.length c ∧ l.length ≤ c ∧ c ≤ maxLen := by
  obtain ⟨A, c, hv, h1, h2, _⟩ := h; exact ⟨A, c, hv, h1, h2⟩
theorem Substitution_form {w : World} {B : Nat} {v : Value} {x : Sbst} (h : Substitution_at w B v x) : ∃ P c Q d, v = .agg #[.slice P x.nulls.length c, .slice Q x.vals.length d] := by
  obtain ⟨V1, V2, rfl, h1, h2⟩ := h
  obtain ⟨P, c, rfl, _⟩ := h1.form
  obtain ⟨Q, d, rfl, _⟩ := h2.form
  exact ⟨P, c, Q, d, rfl⟩
def Substitution_wf (x : Sbst) : Prop := IntS_wf x.nulls ∧ IntS_wf x.vals
def Substitution_sz (x : Sbst) : Nat := IntS_sz x.nulls + IntS_sz x.vals
def Substitution_cnt (x : Sbst) : Nat := IntS_cnt x.nulls + IntS_cnt x.vals
theorem Substitution_cnt_le (x : Sbst) : Substitution_cnt x ≤ 4 * Substitution_sz x := by
  have h1 := IntS_cnt_le x.nulls
  have h2 := IntS_cnt_le x.vals
  unfold Substitution_cnt Substitution_sz; omega

/-- a union-find: the list of its representatives -/
def UnionFind_at (w : World) (B : Nat) (v : Value) (x : List Int) : Prop := ∃ V, v = .agg #[V] ∧ IntS_at w B V x
def UnionFind_own (B C : Nat) (v : Value) (x : List Int) (w : World) : Prop := ∃ V, v = .agg #[V] ∧ IntS_own B C V x w
theorem UnionFind_at.below {w w' : World} {B B' : Nat} {v : Value} {x : List Int} (h : UnionFind_at w B v x) (hb : Below B' w w') (hB : B ≤ B') : UnionFind_at w' B v x := by
  obtain ⟨V, rfl, h1⟩ := h; exact ⟨V, rfl, h1.below hb hB⟩
theorem UnionFind_at.more {w : World} {B B' : Nat} {v : Value} {x : List Int} (h : UnionFind_at w B v x) (hB : B ≤ B') : UnionFind_at w B' v x := by
  obtain ⟨V, rfl, h1⟩ := h; exact ⟨V, rfl, h1.more hB⟩
theorem UnionFind_at.later {w w' : World} {v : Value} {x : List Int} (h : UnionFind_at w w.heap.size v x) (hb : Below w.heap.size w w') : UnionFind_at w' w'.heap.size v x := (h.below hb (Nat.le_refl _)).more hb.size
theorem UnionFind_own.at_ {B C D : Nat} {v : Value} {x : List Int} {w : World} (h : UnionFind_own B C v x w) (hD : C ≤ D) : UnionFind_at w D v x := by
  obtain ⟨V, rfl, h1⟩ := h; exact ⟨V, rfl, h1.at_ hD⟩
theorem UnionFind_own.chg {B C B' C' : Nat} {v : Value} {x : List Int} {w w' : World} (h : UnionFind_own B C v x w) (hc : Chg (Mid B' C') w w') (hd : C ≤ B' ∨ C' ≤ B) : UnionFind_own B C v x w' := by
  obtain ⟨V, rfl, h1⟩ := h; exact ⟨V, rfl, h1.chg hc hd⟩
theorem UnionFind_own.below {B C D : Nat} {v : Value} {x : List Int} {w w' : World} (h : UnionFind_own B C v x w) (hb : Below D w w') (hD : C ≤ D) : UnionFind_own B C v x w' := by
  obtain ⟨V, rfl, h1⟩ := h; exact ⟨V, rfl, h1.below hb hD⟩
theorem UnionFind_form {w : World} {B : Nat} {v : Value} {x : List Int} (h : UnionFind_at w B v x) : ∃ P c, v = .agg #[.slice P x.length c] := by
  obtain ⟨V1, rfl, h1⟩ := h
  obtain ⟨P, c, rfl, _⟩ := h1.form
  exact ⟨P, c, rfl⟩
theorem UnionFind_at.ints {w : World} {B : Nat} {V : Value} {x : List Int} (h : UnionFind_at w B (.agg #[V]) x) : IntS_at w B V x := by
  obtain ⟨V1, hv, h1⟩ := h
  simp only [Value.agg.injEq, Array.mk.injEq, List.cons.injEq, and_true] at hv
  subst hv; exact h1
def UnionFind_wf (x : List Int) : Prop := IntS_wf x
def UnionFind_sz (x : List Int) : Nat := IntS_sz x
def UnionFind_cnt (x : List Int) : Nat := IntS_cnt x
theorem UnionFind_cnt_le (x : List Int) : UnionFind_cnt x ≤ 4 * UnionFind_sz x := IntS_cnt_le x

/-- a fact, as the proofs speak of it -/
structure Fct where
  rel : Int
  vals : List Int
def Fact_at (w : World) (B : Nat) (v : Value) (x : Fct) : Prop := ∃ V, v = .agg #[.int .i64 x.rel, V] ∧ IntS_at w B V x.vals
def Fact_own (B C : Nat) (v : Value) (x : Fct) (w : World) : Prop := ∃ V, v = .agg #[.int .i64 x.rel, V] ∧ IntS_own B C V x.vals w
theorem Fact_at.below {w w' : World} {B B' : Nat} {v : Value} {x : Fct} (h : Fact_at w B v x) (hb : Below B' w w') (hB : B ≤ B') : Fact_at w' B v x := by
  obtain ⟨V, rfl, h⟩ := h; exact ⟨V, rfl, h.below hb hB⟩
theorem Fact_at.more {w : World} {B B' : Nat} {v : Value} {x : Fct} (h : Fact_at w B v x) (hB : B ≤ B') : Fact_at w B' v x := by
  obtain ⟨V, rfl, h⟩ := h; exact ⟨V, rfl, h.more hB⟩
theorem Fact_own.at_ {B C D : Nat} {v : Value} {x : Fct} {w : World} (h : Fact_own B C v x w) (hD : C ≤ D) : Fact_at w D v x := by
  obtain ⟨V, rfl, h⟩ := h; exact ⟨V, rfl, h.at_ hD⟩
theorem Fact_own.chg {B C B' C' : Nat} {v : Value} {x : Fct} {w w' : World} (h : Fact_own B C v x w) (hc : Chg (Mid B' C') w w') (hd : C ≤ B' ∨ C' ≤ B) : Fact_own B C v x w' := by
  obtain ⟨V, rfl, h⟩ := h; exact ⟨V, rfl, h.chg hc hd⟩
theorem Fact_own.below {B C D : Nat} {v : Value} {x : Fct} {w w' : World} (h : Fact_own B C v x w) (hb : Below D w w') (hD : C ≤ D) : Fact_own B C v x w' := by
  obtain ⟨V, rfl, h⟩ := h; exact ⟨V, rfl, h.below hb hD⟩
def Fact_wf (x : Fct) : Prop := (-9223372036854775808 ≤ x.rel ∧ x.rel ≤ 9223372036854775807) ∧ IntS_wf x.vals
def Fact_sz (x : Fct) : Nat := x.vals.length
def Fact_mk (k : Nat) (x : Fct) : Fct := ⟨x.rel, IntS_mk k x.vals⟩
def Fact_cnt (x : Fct) : Nat := x.vals.length
theorem Fact_cnt_le (x : Fct) : Fact_cnt x ≤ 4 * Fact_sz x := by unfold Fact_cnt Fact_sz; omega
theorem Fact_form {w : World} {B : Nat} {v : Value} {x : Fct} (h : Fact_at w B v x) : ∃ P c, v = .agg #[.int .i64 x.rel, .slice P x.vals.length c] := by
  obtain ⟨V, rfl, P, c, rfl, _⟩ := h
  exact ⟨P, c, rfl⟩

end Go.Proofs.Ytalijnfbopcmeaa
