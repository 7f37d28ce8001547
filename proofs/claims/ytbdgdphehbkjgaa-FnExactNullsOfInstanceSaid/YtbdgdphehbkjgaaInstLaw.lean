/-
  Walks and plain lemmas for the laws of this seat: what single Go functions return, for every argument.
-/
import Derived.Test.YtbdgdphehbkjgaaMInst2
namespace Go.Proofs.Ytbdgdphehbkjgaa
open Go.RowKit

theorem cmpInts_anti (a b : List Int) : cmpInts a b = -cmpInts b a := by
  induction a generalizing b with
  | nil => cases b <;> rfl
  | cons x a ih =>
    cases b with
    | nil => rfl
    | cons y b =>
      unfold cmpInts
      by_cases h1 : x < y
      · rw [if_pos h1, if_neg (by omega), if_pos h1]
      · by_cases h2 : y < x
        · rw [if_neg h1, if_pos h2, if_pos h2]; rfl
        · rw [if_neg h1, if_neg h2, if_neg h2, if_neg h1]; exact ih b
theorem cmpF_anti (a b : Fct) : cmpF a b = -cmpF b a := by
  unfold cmpF cmpFact
  by_cases h1 : a.rel < b.rel
  · rw [if_pos h1, if_neg (by omega), if_pos h1]
  · by_cases h2 : b.rel < a.rel
    · rw [if_neg h1, if_pos h2, if_pos h2]; rfl
    · rw [if_neg h1, if_neg h2, if_neg h2, if_neg h1]; exact cmpInts_anti _ _
theorem cmpInts_trans (a b c : List Int) (h1 : cmpInts a b < 0) (h2 : cmpInts b c < 0) : cmpInts a c < 0 := by
  induction a generalizing b c with
  | nil =>
    cases c with
    | nil => cases b with
      | nil => simp [cmpInts] at h1
      | cons => simp [cmpInts] at h2
    | cons => simp [cmpInts]
  | cons x a ih =>
    cases b with
    | nil => simp [cmpInts] at h1
    | cons y b =>
      cases c with
      | nil => simp [cmpInts] at h2
      | cons z c =>
        unfold cmpInts at h1 h2 ⊢
        by_cases e1 : x < y
        · by_cases e2 : y < z
          · rw [if_pos (by omega)]; decide
          · rw [if_neg e2] at h2
            by_cases e3 : z < y
            · rw [if_pos e3] at h2; omega
            · rw [if_pos (by omega)]; decide
        · rw [if_neg e1] at h1
          by_cases e2 : y < x
          · rw [if_pos e2] at h1; omega
          · rw [if_neg e2] at h1
            by_cases e3 : y < z
            · rw [if_pos (by omega)]; decide
            · rw [if_neg e3] at h2
              by_cases e4 : z < y
              · rw [if_pos e4] at h2; omega
              · rw [if_neg e4] at h2
                rw [if_neg (by omega), if_neg (by omega)]
                exact ih b c h1 h2
theorem cmpF_trans (a b c : Fct) (h1 : cmpF a b < 0) (h2 : cmpF b c < 0) : cmpF a c < 0 := by
  unfold cmpF cmpFact at *
  by_cases e1 : a.rel < b.rel
  · by_cases e2 : b.rel < c.rel
    · rw [if_pos (by omega)]; decide
    · rw [if_neg e2] at h2
      by_cases e3 : c.rel < b.rel
      · rw [if_pos e3] at h2; omega
      · rw [if_pos (by omega)]; decide
  · rw [if_neg e1] at h1
    by_cases e2 : b.rel < a.rel
    · rw [if_pos e2] at h1; omega
    · rw [if_neg e2] at h1
      by_cases e3 : b.rel < c.rel
      · rw [if_pos (by omega)]; decide
      · rw [if_neg e3] at h2
        by_cases e4 : c.rel < b.rel
        · rw [if_pos e4] at h2; omega
        · rw [if_neg e4] at h2
          rw [if_neg (by omega), if_neg (by omega)]
          exact cmpInts_trans _ _ _ h1 h2
theorem cmpF_self (a : Fct) : cmpF a a = 0 := (cmpF_zero a a).2 rfl
theorem placeFrom_mem (f : Fct) (l : List Fct) (i : Nat) : 0 ≤ placeFrom f l i ↔ f ∈ l := by
  induction l generalizing i with
  | nil => simp [placeFrom]
  | cons y t ih =>
    unfold placeFrom
    split
    · rename_i h; subst h; simp
    · rename_i h; rw [ih, List.mem_cons]
      exact ⟨.inr, fun h' => h'.resolve_left (fun e => h e.symm)⟩
theorem placeF_mem (f : Fct) (l : List Fct) : 0 ≤ placeF f l ↔ f ∈ l := placeFrom_mem f l 0
theorem placeFrom_app (f : Fct) (a b : List Fct) (i : Nat) (h : f ∉ a) : placeFrom f (a ++ f :: b) i = ((i + a.length : Nat) : Int) := by
  induction a generalizing i with
  | nil => simp [placeFrom]
  | cons y t ih =>
    rw [List.cons_append, placeFrom, if_neg (fun e => h (by simp [e])), ih (i + 1) (fun h' => h (by simp [h']))]
    congr 1; simp; omega
theorem placeF_app (f : Fct) (a b : List Fct) (h : f ∉ a) : placeF f (a ++ f :: b) = (a.length : Int) := by
  unfold placeF; rw [placeFrom_app f a b 0 h, Nat.zero_add]
theorem mem_split (f : Fct) (l : List Fct) (h : f ∈ l) : ∃ a b, f ∉ a ∧ l = a ++ f :: b := by
  induction l with
  | nil => simp at h
  | cons y t ih =>
    by_cases e : y = f
    · subst e; exact ⟨[], t, by simp, rfl⟩
    · obtain ⟨a, b, h1, h2⟩ := ih ((List.mem_cons.1 h).resolve_left (fun h' => e h'.symm))
      exact ⟨y :: a, b, by simp [h1]; exact fun h' => e h'.symm, by rw [h2]; rfl⟩
abbrev AscF (l : List Fct) : Prop := l.Pairwise fun a b => cmpF a b < 0
theorem asc_adj (l : List Fct) (h : ∀ i (hi : i + 1 < l.length), cmpF l[i] l[i + 1] < 0) : AscF l := by
  refine List.pairwise_iff_getElem.2 fun i j hi hj hij => ?_
  obtain ⟨d, rfl⟩ : ∃ d, j = i + 1 + d := ⟨j - i - 1, by omega⟩
  induction d with
  | zero => exact h i hj
  | succ d ih => exact cmpF_trans _ _ _ (ih (by omega) (by omega)) (h (i + 1 + d) hj)
theorem stepOk_split {x : Inst} {i : Nat} (hi : i < x.facts.length) (h : stepOk x i = true) : factOk x.rels x.facts[i].rel x.facts[i].vals = true ∧ srcNull x.rels x.facts[i] = false := by
  rw [stepOk_at hi] at h
  simp only [Bool.and_eq_true, Bool.not_eq_true'] at h
  exact ⟨h.1, h.2.2⟩
theorem stepOk_less {x : Inst} {i : Nat} (hi : i + 1 < x.facts.length) (h : stepOk x (i + 1) = true) : cmpF x.facts[i] x.facts[i + 1] < 0 := by
  refine Classical.byContradiction fun hn => ?_
  rw [stepOk_cmp hi hn] at h; cases h
theorem instOk_iff (x : Inst) : instOk x = true ↔ (∀ f ∈ x.facts, factOk x.rels f.rel f.vals = true ∧ srcNull x.rels f = false) ∧ AscF x.facts ∧ validRels x.rels = true ∧ x.facts.length ≤ 30 := by
  constructor
  · intro h
    obtain ⟨h1, h2, h3⟩ := instOk_parts h
    refine ⟨fun f hf => ?_, asc_adj _ fun i hi => stepOk_less hi (h1 (i + 1) hi), h2, h3⟩
    obtain ⟨i, hi, rfl⟩ := List.getElem_of_mem hf
    exact stepOk_split hi (h1 i hi)
  · rintro ⟨h1, h2, h3, h4⟩
    suffices hT : FactsTo x x.facts.length by rw [instOk_end hT, h3, decide_eq_true h4]; rfl
    intro i hi
    have hf := h1 x.facts[i] (List.getElem_mem hi)
    rcases Nat.eq_zero_or_pos i with h0 | h0
    · subst h0; exact stepOk_yes0 hi hf.1 hf.2
    · obtain ⟨k, rfl⟩ : ∃ k, i = k + 1 := ⟨i - 1, by omega⟩
      exact stepOk_yes hi hf.1 (List.pairwise_iff_getElem.1 h2 k (k + 1) (by omega) hi (by omega)) hf.2
theorem hasInst_iff (x : Inst) (f : Fct) : hasInst x f = true ↔ instOk x = true ∧ f ∈ x.facts := by
  unfold hasInst
  rw [Bool.and_eq_true, decide_eq_true_eq, placeF_mem]
theorem subInst_iff (x y : Inst) : subInst x y = true ↔ ∀ f ∈ x.facts, f ∈ y.facts := by
  unfold subInst
  simp only [List.all_eq_true, decide_eq_true_eq, placeF_mem]
theorem putF_new {l : List Fct} {f : Fct} (h : f ∉ l) : putF l f = l.take (putPos f l) ++ f :: l.drop (putPos f l) := by
  unfold putF; rw [if_neg (fun h' => h ((placeF_mem f l).1 h'))]
theorem ins_parts {x : Inst} {f : Fct} (h : insOk x f = true) : instOk x = true ∧ f ∉ x.facts ∧ instOk ⟨x.rels, putF x.facts f⟩ = true := by
  unfold insOk at h
  simp only [Bool.and_eq_true, Bool.not_eq_true'] at h
  refine ⟨h.1, fun hf => ?_, h.2.2⟩
  have := (hasInst_iff x f).2 ⟨h.1, hf⟩
  rw [h.2.1] at this; cases this
theorem drop_mid (a : List Fct) (f : Fct) (b : List Fct) : (a ++ f :: b).drop (a.length + 1) = b := by simp
/-- what the law says where a fact goes in -/
theorem ins_yes {x : Inst} {f : Fct} (h : insOk x f = true) : insInst x f = ⟨x.rels, putF x.facts f⟩ ∧ hasInst (insInst x f) f = true ∧ hasInst x f = false ∧ instOk (insInst x f) = true ∧ subInst x (insInst x f) = true ∧ delInst (insInst x f) f = x := by
  obtain ⟨h1, h2, h3⟩ := ins_parts h
  have e : insInst x f = ⟨x.rels, putF x.facts f⟩ := if_pos h
  have hm : f ∈ putF x.facts f := by rw [putF_new h2]; simp
  rw [e]
  have hh := (hasInst_iff ⟨x.rels, putF x.facts f⟩ f).2 ⟨h3, hm⟩
  refine ⟨rfl, hh, ?_, h3, (subInst_iff _ _).2 fun g hg => ?_, ?_⟩
  · cases hx : hasInst x f with
    | false => rfl
    | true => exact absurd ((hasInst_iff x f).1 hx).2 h2
  · show g ∈ putF x.facts f
    rw [putF_new h2]
    rw [← List.take_append_drop (putPos f x.facts) x.facts] at hg
    rcases List.mem_append.1 hg with hg | hg
    · exact List.mem_append.2 (.inl hg)
    · exact List.mem_append.2 (.inr (List.mem_cons.2 (.inr hg)))
  · unfold delInst
    rw [if_pos hh]
    have hn : f ∉ x.facts.take (putPos f x.facts) := fun h' => h2 (List.mem_of_mem_take h')
    have hl : (x.facts.take (putPos f x.facts)).length = putPos f x.facts := by rw [List.length_take]; have := putPos_le f x.facts; omega
    simp only [putF_new h2, placeF_app f _ _ hn, Int.toNat_natCast]
    rw [List.take_left' rfl, hl]
    have := drop_mid (x.facts.take (putPos f x.facts)) f (x.facts.drop (putPos f x.facts))
    rw [hl] at this
    rw [this, List.take_append_drop]
theorem putPos_app (f : Fct) (a b : List Fct) (ha : ∀ y ∈ a, cmpF y f < 0) (hb : ∀ y ∈ b, ¬ cmpF y f < 0) : putPos f (a ++ b) = a.length := by
  induction a with
  | nil =>
    cases b with
    | nil => rfl
    | cons y t => rw [List.nil_append, putPos, if_neg (hb y (by simp))]; rfl
  | cons y t ih =>
    rw [List.cons_append, putPos, if_pos (ha y (by simp)), ih (fun z hz => ha z (by simp [hz]))]; rfl
/-- .. and where it is there already -/
theorem ins_back {x : Inst} {f : Fct} (h : hasInst x f = true) : insOk (delInst x f) f = true ∧ insInst (delInst x f) f = x := by
  obtain ⟨h1, h2⟩ := (hasInst_iff x f).1 h
  obtain ⟨rels, facts⟩ := x
  obtain ⟨a, b, ha, rfl⟩ := mem_split f facts h2
  obtain ⟨g1, g2, g3, g4⟩ := (instOk_iff _).1 h1
  simp only at g1 g2 g3 g4 h2
  have hd : delInst ⟨rels, a ++ f :: b⟩ f = ⟨rels, a ++ b⟩ := by
    unfold delInst
    rw [if_pos h]
    simp only [placeF_app f a b ha, Int.toNat_natCast]
    simp
  rw [hd]
  have hp := List.pairwise_append.1 g2
  have hp2 := List.pairwise_cons.1 hp.2.1
  have hla : ∀ y ∈ a, cmpF y f < 0 := fun y hy => hp.2.2 y hy f (by simp)
  have hlb : ∀ y ∈ b, ¬ cmpF y f < 0 := fun y hy => by
    have e1 := hp2.1 y hy
    have e2 := cmpF_anti f y
    omega
  have hn : f ∉ a ++ b := by
    intro hm
    rcases List.mem_append.1 hm with hm | hm
    · exact ha hm
    · have := hp2.1 f hm
      rw [cmpF_self] at this; omega
  have hz : instOk ⟨rels, a ++ b⟩ = true := by
    refine (instOk_iff _).2 ⟨fun g hg => g1 g ?_, ?_, g3, ?_⟩
    · rcases List.mem_append.1 hg with hg | hg
      · exact List.mem_append.2 (.inl hg)
      · exact List.mem_append.2 (.inr (List.mem_cons.2 (.inr hg)))
    · exact List.pairwise_append.2 ⟨hp.1, hp2.2, fun y hy z hz => hp.2.2 y hy z (by simp [hz])⟩
    · simp at g4 ⊢; omega
  have hput : putF (a ++ b) f = a ++ f :: b := by
    rw [putF_new hn, putPos_app f a b hla hlb]; simp
  have hins : insOk ⟨rels, a ++ b⟩ f = true := by
    unfold insOk
    rw [hz, hput, h1]
    have : hasInst ⟨rels, a ++ b⟩ f = false := by
      cases hh : hasInst ⟨rels, a ++ b⟩ f with
      | false => rfl
      | true => exact absurd ((hasInst_iff _ _).1 hh).2 hn
    rw [this]; rfl
  refine ⟨hins, ?_⟩
  unfold insInst
  rw [if_pos hins, hput]

end Go.Proofs.Ytbdgdphehbkjgaa
