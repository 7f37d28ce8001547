/-
  Walks and plain lemmas for the laws of this seat: what single Go functions return, for every argument.
-/
import Derived.Test.YtalijnfbopcmeaaNum
import Derived.Test.YtalijnfbopcmeaaTyInst
namespace Go.Proofs.Ytalijnfbopcmeaa
open Go.RowKit

/-- one null of a substitution, as it must be -/
def subElem (x : Sbst) (i : Nat) : Bool := inB (x.nulls.getD i 0) 0 39 && ((decide (i = 0) || decide (x.nulls.getD (i - 1) 0 < x.nulls.getD i 0)) && validV (x.vals.getD i 0))
def subOk (x : Sbst) : Bool := decide (x.nulls.length = x.vals.length) && (List.range x.nulls.length).all (subElem x)
def SbTo (x : Sbst) (k : Nat) : Prop := ∀ i, i < k → subElem x i = true
theorem SbTo.zero (x : Sbst) : SbTo x 0 := fun _ h => absurd h (by omega)
theorem SbTo.next {x : Sbst} {k : Nat} (h : SbTo x k) (he : subElem x k = true) : SbTo x (k + 1) := fun i hi => by
  by_cases e : i = k
  · subst e; exact he
  · exact h i (by omega)
theorem subOk_len {x : Sbst} (h : ¬ x.nulls.length = x.vals.length) : subOk x = false := by unfold subOk; rw [decide_eq_false h]; rfl
theorem subOk_no {x : Sbst} (i : Nat) (hi : i < x.nulls.length) (h : subElem x i = false) : subOk x = false := by
  unfold subOk
  have : (List.range x.nulls.length).all (subElem x) = false := by
    rw [List.all_eq_false]; exact ⟨i, List.mem_range.2 hi, by rw [h]; simp⟩
  rw [this, Bool.and_false]
theorem subOk_yes {x : Sbst} (h : x.nulls.length = x.vals.length) (hT : SbTo x x.nulls.length) : subOk x = true := by
  unfold subOk
  rw [decide_eq_true h, Bool.true_and, List.all_eq_true]
  exact fun i hi => hT i (List.mem_range.1 hi)
theorem subElem_at {x : Sbst} {i : Nat} (h1 : i < x.nulls.length) (h2 : i < x.vals.length) : subElem x i = (inB x.nulls[i] 0 39 && ((decide (i = 0) || decide (x.nulls.getD (i - 1) 0 < x.nulls[i])) && validV x.vals[i])) := by
  unfold subElem; rw [← List.getElem_eq_getD (h := h1), ← List.getElem_eq_getD (h := h2)]
theorem subElem_in {x : Sbst} {i : Nat} (h1 : i < x.nulls.length) (h2 : i < x.vals.length) (h : inB x.nulls[i] 0 39 = false) : subElem x i = false := by rw [subElem_at h1 h2, h]; rfl
theorem subElem_val {x : Sbst} {i : Nat} (h1 : i < x.nulls.length) (h2 : i < x.vals.length) (h : validV x.vals[i] = false) : subElem x i = false := by rw [subElem_at h1 h2, h]; simp
theorem subElem_ord {x : Sbst} {i : Nat} (h1 : i + 1 < x.nulls.length) (h2 : i + 1 < x.vals.length) (h : ¬ x.nulls[i] < x.nulls[i + 1]) : subElem x (i + 1) = false := by
  rw [subElem_at h1 h2]
  have e : x.nulls.getD (i + 1 - 1) 0 = x.nulls[i] := by rw [Nat.add_sub_cancel, ← List.getElem_eq_getD (h := by omega)]
  rw [e, decide_eq_false h, decide_eq_false (by omega)]; simp
theorem subElem_yes0 {x : Sbst} (h1 : 0 < x.nulls.length) (h2 : 0 < x.vals.length) (ha : inB x.nulls[0] 0 39 = true) (hv : validV x.vals[0] = true) : subElem x 0 = true := by
  rw [subElem_at h1 h2, ha, hv]; rfl
theorem subElem_yes {x : Sbst} {i : Nat} (h1 : i + 1 < x.nulls.length) (h2 : i + 1 < x.vals.length) (ha : inB x.nulls[i + 1] 0 39 = true) (ho : x.nulls[i] < x.nulls[i + 1]) (hv : validV x.vals[i + 1] = true) : subElem x (i + 1) = true := by
  rw [subElem_at h1 h2, ha, hv]
  have e : x.nulls.getD (i + 1 - 1) 0 = x.nulls[i] := by rw [Nat.add_sub_cancel, ← List.getElem_eq_getD (h := by omega)]
  rw [e, decide_eq_true ho]; simp
structure SubFacts (x : Sbst) : Prop where
  len : x.nulls.length = x.vals.length
  bd : ∀ i (h : i < x.nulls.length), 0 ≤ x.nulls[i] ∧ x.nulls[i] ≤ 39
  ok : ∀ i (h : i < x.vals.length), validV x.vals[i] = true
  asc : x.nulls.Pairwise (· < ·)
theorem adj_asc (l : List Int) (h : ∀ i (hi : i + 1 < l.length), l[i] < l[i + 1]) : l.Pairwise (· < ·) := by
  refine List.pairwise_iff_getElem.2 fun i j hi hj hij => ?_
  obtain ⟨d, rfl⟩ : ∃ d, j = i + 1 + d := ⟨j - i - 1, by omega⟩
  induction d with
  | zero => exact h i hj
  | succ d ih => exact Int.lt_trans (ih (by omega) (by omega)) (h (i + 1 + d) hj)
theorem subOk_parts {x : Sbst} (h : subOk x = true) : SubFacts x := by
  unfold subOk at h
  rw [Bool.and_eq_true, decide_eq_true_eq, List.all_eq_true] at h
  obtain ⟨hl, ha⟩ := h
  have hs : ∀ i (h1 : i < x.nulls.length) (h2 : i < x.vals.length), inB x.nulls[i] 0 39 = true ∧ (decide (i = 0) || decide (x.nulls.getD (i - 1) 0 < x.nulls[i])) = true ∧ validV x.vals[i] = true := fun i h1 h2 => by
    have := ha i (List.mem_range.2 h1)
    rw [subElem_at h1 h2, Bool.and_eq_true, Bool.and_eq_true] at this
    exact this
  refine ⟨hl, fun i h => ?_, fun i h => (hs i (by omega) h).2.2, adj_asc _ fun i hi => ?_⟩
  · have := (hs i h (by omega)).1
    unfold inB at this
    exact of_decide_eq_true this
  · have := (hs (i + 1) hi (by omega)).2.1
    have e : x.nulls.getD (i + 1 - 1) 0 = x.nulls[i] := by rw [Nat.add_sub_cancel, ← List.getElem_eq_getD (h := by omega)]
    rw [e, decide_eq_false (by omega), Bool.false_or, decide_eq_true_eq] at this
    exact this
theorem asc_len40 (l : List Int) (ha : l.Pairwise (· < ·)) (hb : ∀ i (h : i < l.length), 0 ≤ l[i] ∧ l[i] ≤ 39) : l.length ≤ 40 := by
  have key : ∀ i (h : i < l.length), (i : Int) ≤ l[i] := by
    intro i
    induction i with
    | zero => intro h; exact (hb 0 h).1
    | succ i ih =>
      intro h
      have h1 := ih (by omega)
      have h2 := List.pairwise_iff_getElem.1 ha i (i + 1) (by omega) h (by omega)
      omega
  rcases Nat.eq_zero_or_pos l.length with h0 | h0
  · omega
  · have h1 := key (l.length - 1) (by omega)
    have h2 := (hb (l.length - 1) (by omega)).2
    omega
theorem subOk_len40 {x : Sbst} (h : subOk x = true) : x.nulls.length ≤ 40 := asc_len40 _ (subOk_parts h).asc (subOk_parts h).bd
/-- the value that replaces v -/
def lookV : List Int → List Int → Int → Int
  | n :: ns, u :: us, v => if -1 - n = v then u else lookV ns us v
  | _, _, v => v
theorem lookV_hit (ns us : List Int) (v : Int) (k : Nat) (h1 : k < ns.length) (h2 : k < us.length) (hn : ∀ j (h : j < ns.length), j < k → ¬ -1 - ns[j] = v) (hk : -1 - ns[k] = v) : lookV ns us v = us[k] := by
  induction ns generalizing us k with
  | nil => simp at h1
  | cons n ns ih =>
    cases us with
    | nil => simp at h2
    | cons u us =>
      cases k with
      | zero => unfold lookV; exact if_pos hk
      | succ k =>
        unfold lookV
        refine (if_neg (show ¬ -1 - n = v from hn 0 (by simp) (by omega))).trans ?_
        exact ih us k (by simpa using h1) (by simpa using h2) (fun j h hj => hn (j + 1) (by simpa using h) (by omega)) hk
theorem lookV_none (ns us : List Int) (v : Int) (hn : ∀ j (h : j < ns.length), ¬ -1 - ns[j] = v) : lookV ns us v = v := by
  induction ns generalizing us with
  | nil => cases us <;> rfl
  | cons n ns ih =>
    cases us with
    | nil => rfl
    | cons u us =>
      unfold lookV
      refine (if_neg (show ¬ -1 - n = v from hn 0 (by simp))).trans ?_
      exact ih us (fun j h => hn (j + 1) (by simpa using h))
def applyV (x : Sbst) (v : Int) : Int := if subOk x then lookV x.nulls x.vals v else v
theorem applyV_no {x : Sbst} (h : subOk x = false) (v : Int) : applyV x v = v := by unfold applyV; rw [h]; rfl
theorem applyV_yes {x : Sbst} (h : subOk x = true) (v : Int) : applyV x v = lookV x.nulls x.vals v := if_pos h
/-- none of the first k nulls is v's -/
def MissTo (x : Sbst) (v : Int) (k : Nat) : Prop := ∀ j (h : j < x.nulls.length), j < k → ¬ -1 - x.nulls[j] = v
theorem MissTo.zero (x : Sbst) (v : Int) : MissTo x v 0 := fun _ _ h => absurd h (by omega)
theorem MissTo.next {x : Sbst} {v : Int} {k : Nat} (h : MissTo x v k) (hk : k < x.nulls.length) (hn : ¬ -1 - x.nulls[k] = v) : MissTo x v (k + 1) := fun j hj hjk => by
  by_cases e : j = k
  · subst e; exact hn
  · exact h j hj (by omega)
theorem applyV_hit {x : Sbst} (h : subOk x = true) {v : Int} {k : Nat} (hT : MissTo x v k) (h1 : k < x.nulls.length) (h2 : k < x.vals.length) (hk : -1 - x.nulls[k] = v) : applyV x v = x.vals[k] := by
  rw [applyV_yes h]; exact lookV_hit _ _ _ k h1 h2 hT hk
theorem applyV_miss {x : Sbst} {v : Int} (hT : MissTo x v x.nulls.length) : applyV x v = v := by
  unfold applyV
  split
  · exact lookV_none _ _ _ (fun j h => hT j h h)
  · rfl
theorem applyV_notNull {x : Sbst} {v : Int} (h : (nullNum v).2 = false) : applyV x v = v := by
  cases ho : subOk x with
  | false => exact applyV_no ho v
  | true =>
    refine applyV_miss fun j hj _ e => ?_
    have hb := (subOk_parts ho).bd j hj
    rw [nullNum_yes v (by omega)] at h
    cases h
theorem applyV_wf {x : Sbst} (hx : Substitution_wf x) (v : Int) (h0 : -9223372036854775808 ≤ v) (h1 : v ≤ 9223372036854775807) : -9223372036854775808 ≤ applyV x v ∧ applyV x v ≤ 9223372036854775807 := by
  have key : ∀ (ns us : List Int), IntsWf us → -9223372036854775808 ≤ lookV ns us v ∧ lookV ns us v ≤ 9223372036854775807 := by
    intro ns
    induction ns with
    | nil => intro us _; cases us <;> exact ⟨h0, h1⟩
    | cons n ns ih =>
      intro us hu
      cases us with
      | nil => exact ⟨h0, h1⟩
      | cons u us =>
        unfold lookV
        split
        · exact hu 0 (by simp)
        · exact ih us (fun i h => hu (i + 1) (by simpa using h))
  unfold applyV
  split
  · exact key _ _ hx.2
  · exact ⟨h0, h1⟩
theorem applyV_valid {x : Sbst} {v : Int} (hv : validV v = true) : validV (applyV x v) = true := by
  cases ho : subOk x with
  | false => rw [applyV_no ho]; exact hv
  | true =>
    by_cases hm : MissTo x v x.nulls.length
    · rw [applyV_miss hm]; exact hv
    · have key : ∀ (ns us : List Int), (∀ u ∈ us, validV u = true) → validV (lookV ns us v) = true := by
        intro ns
        induction ns with
        | nil => intro us _; cases us <;> exact hv
        | cons n ns ih =>
          intro us hu
          cases us with
          | nil => exact hv
          | cons u us =>
            unfold lookV
            split
            · exact hu u (by simp)
            · exact ih us (fun z hz => hu z (by simp [hz]))
      rw [applyV_yes ho]
      refine key _ _ fun u hu => ?_
      obtain ⟨i, hi, rfl⟩ := List.getElem_of_mem hu
      exact (subOk_parts ho).ok i hi
/-- a fact with its values replaced -/
def applyF (x : Sbst) (f : Fct) : Fct := ⟨f.rel, f.vals.map (applyV x)⟩
theorem applyF_wf {x : Sbst} (hx : Substitution_wf x) {f : Fct} (h : Fact_wf f) : Fact_wf (applyF x f) := by
  refine ⟨h.1, fun i hi => ?_⟩
  have hi' : i < f.vals.length := by simpa [applyF] using hi
  have := applyV_wf hx f.vals[i] (h.2 i hi').1 (h.2 i hi').2
  simpa [applyF] using this
theorem count_at (l : List Int) (ha : l.Pairwise (· < ·)) (k : Int) (hk : k ∈ l) : ∃ h : l.countP (· < k) < l.length, l[l.countP (· < k)] = k := by
  induction l with
  | nil => simp at hk
  | cons a t ih =>
    have hp := List.pairwise_cons.1 ha
    by_cases e : k = a
    · subst e
      have h0 : (k :: t).countP (· < k) = 0 := by
        rw [List.countP_eq_zero]
        intro y hy
        rcases List.mem_cons.1 hy with rfl | hy
        · simp
        · have := hp.1 y hy; simp; omega
      refine ⟨by rw [h0]; simp, ?_⟩
      simp only [h0]; rfl
    · have hkt : k ∈ t := (List.mem_cons.1 hk).resolve_left e
      obtain ⟨h1, h2⟩ := ih hp.2 hkt
      have hak := hp.1 k hkt
      have h0 : (a :: t).countP (· < k) = t.countP (· < k) + 1 := by rw [List.countP_cons_of_pos (by simpa using hak)]
      refine ⟨by rw [h0]; simpa using h1, ?_⟩
      simp only [h0, List.getElem_cons_succ]; exact h2
/-- what the search by halves finds -/
theorem applyV_find {x : Sbst} (h : subOk x = true) {v k : Int} (hk : k = -1 - v) (hm : k ∈ x.nulls) : ∃ h2 : x.nulls.countP (· < k) < x.vals.length, applyV x v = x.vals[x.nulls.countP (· < k)] := by
  have hp := subOk_parts h
  obtain ⟨h1, h2⟩ := count_at x.nulls hp.asc k hm
  have h3 : x.nulls.countP (· < k) < x.vals.length := by have := hp.len; omega
  refine ⟨h3, applyV_hit h (fun j hj hjk e => ?_) h1 h3 (by omega)⟩
  have := List.pairwise_iff_getElem.1 hp.asc j _ hj h1 hjk
  omega
theorem applyV_lost {x : Sbst} {v k : Int} (hk : k = -1 - v) (hm : k ∉ x.nulls) : applyV x v = v :=
  applyV_miss fun j hj _ e => hm (by have : x.nulls[j] = k := by omega
                                     rw [← this]; exact List.getElem_mem hj)
theorem asc_le {l : List Int} (h : l.Pairwise (· < ·)) : l.Pairwise (· ≤ ·) := h.imp fun h => by omega

end Go.Proofs.Ytalijnfbopcmeaa
