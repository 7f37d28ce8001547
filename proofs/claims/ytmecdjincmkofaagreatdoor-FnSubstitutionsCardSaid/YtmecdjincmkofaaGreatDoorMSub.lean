/-
  Walks and plain lemmas for the laws of this seat: what single Go functions return, for every argument.
-/
import Derived.Test.YtmecdjincmkofaaGreatDoorMem
import Derived.Test.YtmecdjincmkofaaGreatDoorNum
import Derived.Test.YtmecdjincmkofaaGreatDoorRels
import Derived.Test.YtmecdjincmkofaaGreatDoorFact
import Derived.Test.YtmecdjincmkofaaGreatDoorTyInst
import Derived.Test.YtmecdjincmkofaaGreatDoorMInst
namespace Go.Proofs.YtmecdjincmkofaaGreatDoor
open Go.RowKit

/-- one null of a substitution, as it must be -/
def subElem (x : Sbst) (i : Nat) : Bool := inB (x.nulls.getD i 0) 0 39 && ((decide (i = 0) || decide (x.nulls.getD (i - 1) 0 < x.nulls.getD i 0)) && validV (x.vals.getD i 0))
def subOk (x : Sbst) : Bool := decide (x.nulls.length = x.vals.length) && (List.range x.nulls.length).all (subElem x)
def SbTo (x : Sbst) (k : Nat) : Prop := ∀ i, i < k → subElem x i = true
theorem SbTo.zero (x : Sbst) : SbTo x 0 := fun _ h => absurd h (by omega)
theorem SbTo.next {x : Sbst} {k : Nat} (h : SbTo x k) (he : subElem x k = true) : SbTo x (k + 1) := fun i hi => by
  by_cases e : i = k
  · subst e; exact he
  · exact h i (by omega)
theorem subOk_len {x : Sbst} (h : ¬ x.nulls.length = x.vals.length) : subOk x = false := by unfold subOk; rw [decide_eq_false h]; rfl
theorem subOk_no {x : Sbst} (i : Nat) (hi : i < x.nulls.length) (h : subElem x i = false) : subOk x = false := by
  unfold subOk
  have : (List.range x.nulls.length).all (subElem x) = false := by
    rw [List.all_eq_false]; exact ⟨i, List.mem_range.2 hi, by rw [h]; simp⟩
  rw [this, Bool.and_false]
theorem subOk_yes {x : Sbst} (h : x.nulls.length = x.vals.length) (hT : SbTo x x.nulls.length) : subOk x = true := by
  unfold subOk
  rw [decide_eq_true h, Bool.true_and, List.all_eq_true]
  exact fun i hi => hT i (List.mem_range.1 hi)
theorem subElem_at {x : Sbst} {i : Nat} (h1 : i < x.nulls.length) (h2 : i < x.vals.length) : subElem x i = (inB x.nulls[i] 0 39 && ((decide (i = 0) || decide (x.nulls.getD (i - 1) 0 < x.nulls[i])) && validV x.vals[i])) := by
  unfold subElem; rw [← List.getElem_eq_getD (h := h1), ← List.getElem_eq_getD (h := h2)]
theorem subElem_in {x : Sbst} {i : Nat} (h1 : i < x.nulls.length) (h2 : i < x.vals.length) (h : inB x.nulls[i] 0 39 = false) : subElem x i = false := by rw [subElem_at h1 h2, h]; rfl
theorem subElem_val {x : Sbst} {i : Nat} (h1 : i < x.nulls.length) (h2 : i < x.vals.length) (h : validV x.vals[i] = false) : subElem x i = false := by rw [subElem_at h1 h2, h]; simp
theorem subElem_ord {x : Sbst} {i : Nat} (h1 : i + 1 < x.nulls.length) (h2 : i + 1 < x.vals.length) (h : ¬ x.nulls[i] < x.nulls[i + 1]) : subElem x (i + 1) = false := by
  rw [subElem_at h1 h2]
  have e : x.nulls.getD (i + 1 - 1) 0 = x.nulls[i] := by rw [Nat.add_sub_cancel, ← List.getElem_eq_getD (h := by omega)]
  rw [e, decide_eq_false h, decide_eq_false (by omega)]; simp
theorem subElem_yes0 {x : Sbst} (h1 : 0 < x.nulls.length) (h2 : 0 < x.vals.length) (ha : inB x.nulls[0] 0 39 = true) (hv : validV x.vals[0] = true) : subElem x 0 = true := by
  rw [subElem_at h1 h2, ha, hv]; rfl
theorem subElem_yes {x : Sbst} {i : Nat} (h1 : i + 1 < x.nulls.length) (h2 : i + 1 < x.vals.length) (ha : inB x.nulls[i + 1] 0 39 = true) (ho : x.nulls[i] < x.nulls[i + 1]) (hv : validV x.vals[i + 1] = true) : subElem x (i + 1) = true := by
  rw [subElem_at h1 h2, ha, hv]
  have e : x.nulls.getD (i + 1 - 1) 0 = x.nulls[i] := by rw [Nat.add_sub_cancel, ← List.getElem_eq_getD (h := by omega)]
  rw [e, decide_eq_true ho]; simp
structure SubFacts (x : Sbst) : Prop where
  len : x.nulls.length = x.vals.length
  bd : ∀ i (h : i < x.nulls.length), 0 ≤ x.nulls[i] ∧ x.nulls[i] ≤ 39
  ok : ∀ i (h : i < x.vals.length), validV x.vals[i] = true
  asc : x.nulls.Pairwise (· < ·)
theorem adj_asc (l : List Int) (h : ∀ i (hi : i + 1 < l.length), l[i] < l[i + 1]) : l.Pairwise (· < ·) := by
  refine List.pairwise_iff_getElem.2 fun i j hi hj hij => ?_
  obtain ⟨d, rfl⟩ : ∃ d, j = i + 1 + d := ⟨j - i - 1, by omega⟩
  induction d with
  | zero => exact h i hj
  | succ d ih => exact Int.lt_trans (ih (by omega) (by omega)) (h (i + 1 + d) hj)
theorem subOk_parts {x : Sbst} (h : subOk x = true) : SubFacts x := by
  unfold subOk at h
  rw [Bool.and_eq_true, decide_eq_true_eq, List.all_eq_true] at h
  obtain ⟨hl, ha⟩ := h
  have hs : ∀ i (h1 : i < x.nulls.length) (h2 : i < x.vals.length), inB x.nulls[i] 0 39 = true ∧ (decide (i = 0) || decide (x.nulls.getD (i - 1) 0 < x.nulls[i])) = true ∧ validV x.vals[i] = true := fun i h1 h2 => by
    have := ha i (List.mem_range.2 h1)
    rw [subElem_at h1 h2, Bool.and_eq_true, Bool.and_eq_true] at this
    exact this
  refine ⟨hl, fun i h => ?_, fun i h => (hs i (by omega) h).2.2, adj_asc _ fun i hi => ?_⟩
  · have := (hs i h (by omega)).1
    unfold inB at this
    exact of_decide_eq_true this
  · have := (hs (i + 1) hi (by omega)).2.1
    have e : x.nulls.getD (i + 1 - 1) 0 = x.nulls[i] := by rw [Nat.add_sub_cancel, ← List.getElem_eq_getD (h := by omega)]
    rw [e, decide_eq_false (by omega), Bool.false_or, decide_eq_true_eq] at this
    exact this
theorem asc_len40 (l : List Int) (ha : l.Pairwise (· < ·)) (hb : ∀ i (h : i < l.length), 0 ≤ l[i] ∧ l[i] ≤ 39) : l.length ≤ 40 := by
  have key : ∀ i (h : i < l.length), (i : Int) ≤ l[i] := by
    intro i
    induction i with
    | zero => intro h; exact (hb 0 h).1
    | succ i ih =>
      intro h
      have h1 := ih (by omega)
      have h2 := List.pairwise_iff_getElem.1 ha i (i + 1) (by omega) h (by omega)
      omega
  rcases Nat.eq_zero_or_pos l.length with h0 | h0
  · omega
  · have h1 := key (l.length - 1) (by omega)
    have h2 := (hb (l.length - 1) (by omega)).2
    omega
theorem subOk_len40 {x : Sbst} (h : subOk x = true) : x.nulls.length ≤ 40 := asc_len40 _ (subOk_parts h).asc (subOk_parts h).bd
/-- the value that replaces v -/
def lookV : List Int → List Int → Int → Int
  | n :: ns, u :: us, v => if -1 - n = v then u else lookV ns us v
  | _, _, v => v
theorem lookV_hit (ns us : List Int) (v : Int) (k : Nat) (h1 : k < ns.length) (h2 : k < us.length) (hn : ∀ j (h : j < ns.length), j < k → ¬ -1 - ns[j] = v) (hk : -1 - ns[k] = v) : lookV ns us v = us[k] := by
  induction ns generalizing us k with
  | nil => simp at h1
  | cons n ns ih =>
    cases us with
    | nil => simp at h2
    | cons u us =>
      cases k with
      | zero => unfold lookV; exact if_pos hk
      | succ k =>
        unfold lookV
        refine (if_neg (show ¬ -1 - n = v from hn 0 (by simp) (by omega))).trans ?_
        exact ih us k (by simpa using h1) (by simpa using h2) (fun j h hj => hn (j + 1) (by simpa using h) (by omega)) hk
theorem lookV_none (ns us : List Int) (v : Int) (hn : ∀ j (h : j < ns.length), ¬ -1 - ns[j] = v) : lookV ns us v = v := by
  induction ns generalizing us with
  | nil => cases us <;> rfl
  | cons n ns ih =>
    cases us with
    | nil => rfl
    | cons u us =>
      unfold lookV
      refine (if_neg (show ¬ -1 - n = v from hn 0 (by simp))).trans ?_
      exact ih us (fun j h => hn (j + 1) (by simpa using h))
def applyV (x : Sbst) (v : Int) : Int := if subOk x then lookV x.nulls x.vals v else v
theorem applyV_no {x : Sbst} (h : subOk x = false) (v : Int) : applyV x v = v := by unfold applyV; rw [h]; rfl
theorem applyV_yes {x : Sbst} (h : subOk x = true) (v : Int) : applyV x v = lookV x.nulls x.vals v := if_pos h
/-- none of the first k nulls is v's -/
def MissTo (x : Sbst) (v : Int) (k : Nat) : Prop := ∀ j (h : j < x.nulls.length), j < k → ¬ -1 - x.nulls[j] = v
theorem MissTo.zero (x : Sbst) (v : Int) : MissTo x v 0 := fun _ _ h => absurd h (by omega)
theorem MissTo.next {x : Sbst} {v : Int} {k : Nat} (h : MissTo x v k) (hk : k < x.nulls.length) (hn : ¬ -1 - x.nulls[k] = v) : MissTo x v (k + 1) := fun j hj hjk => by
  by_cases e : j = k
  · subst e; exact hn
  · exact h j hj (by omega)
theorem applyV_hit {x : Sbst} (h : subOk x = true) {v : Int} {k : Nat} (hT : MissTo x v k) (h1 : k < x.nulls.length) (h2 : k < x.vals.length) (hk : -1 - x.nulls[k] = v) : applyV x v = x.vals[k] := by
  rw [applyV_yes h]; exact lookV_hit _ _ _ k h1 h2 hT hk
theorem applyV_miss {x : Sbst} {v : Int} (hT : MissTo x v x.nulls.length) : applyV x v = v := by
  unfold applyV
  split
  · exact lookV_none _ _ _ (fun j h => hT j h h)
  · rfl
theorem applyV_notNull {x : Sbst} {v : Int} (h : (nullNum v).2 = false) : applyV x v = v := by
  cases ho : subOk x with
  | false => exact applyV_no ho v
  | true =>
    refine applyV_miss fun j hj _ e => ?_
    have hb := (subOk_parts ho).bd j hj
    rw [nullNum_yes v (by omega)] at h
    cases h
theorem applyV_wf {x : Sbst} (hx : Substitution_wf x) (v : Int) (h0 : -9223372036854775808 ≤ v) (h1 : v ≤ 9223372036854775807) : -9223372036854775808 ≤ applyV x v ∧ applyV x v ≤ 9223372036854775807 := by
  have key : ∀ (ns us : List Int), IntsWf us → -9223372036854775808 ≤ lookV ns us v ∧ lookV ns us v ≤ 9223372036854775807 := by
    intro ns
    induction ns with
    | nil => intro us _; cases us <;> exact ⟨h0, h1⟩
    | cons n ns ih =>
      intro us hu
      cases us with
      | nil => exact ⟨h0, h1⟩
      | cons u us =>
        unfold lookV
        split
        · exact hu 0 (by simp)
        · exact ih us (fun i h => hu (i + 1) (by simpa using h))
  unfold applyV
  split
  · exact key _ _ hx.2
  · exact ⟨h0, h1⟩
theorem applyV_valid {x : Sbst} {v : Int} (hv : validV v = true) : validV (applyV x v) = true := by
  cases ho : subOk x with
  | false => rw [applyV_no ho]; exact hv
  | true =>
    by_cases hm : MissTo x v x.nulls.length
    · rw [applyV_miss hm]; exact hv
    · have key : ∀ (ns us : List Int), (∀ u ∈ us, validV u = true) → validV (lookV ns us v) = true := by
        intro ns
        induction ns with
        | nil => intro us _; cases us <;> exact hv
        | cons n ns ih =>
          intro us hu
          cases us with
          | nil => exact hv
          | cons u us =>
            unfold lookV
            split
            · exact hu u (by simp)
            · exact ih us (fun z hz => hu z (by simp [hz]))
      rw [applyV_yes ho]
      refine key _ _ fun u hu => ?_
      obtain ⟨i, hi, rfl⟩ := List.getElem_of_mem hu
      exact (subOk_parts ho).ok i hi
/-- a fact with its values replaced -/
def applyF (x : Sbst) (f : Fct) : Fct := ⟨f.rel, f.vals.map (applyV x)⟩
theorem applyF_wf {x : Sbst} (hx : Substitution_wf x) {f : Fct} (h : Fact_wf f) : Fact_wf (applyF x f) := by
  refine ⟨h.1, fun i hi => ?_⟩
  have hi' : i < f.vals.length := by simpa [applyF] using hi
  have := applyV_wf hx f.vals[i] (h.2 i hi').1 (h.2 i hi').2
  simpa [applyF] using this
theorem count_at (l : List Int) (ha : l.Pairwise (· < ·)) (k : Int) (hk : k ∈ l) : ∃ h : l.countP (· < k) < l.length, l[l.countP (· < k)] = k := by
  induction l with
  | nil => simp at hk
  | cons a t ih =>
    have hp := List.pairwise_cons.1 ha
    by_cases e : k = a
    · subst e
      have h0 : (k :: t).countP (· < k) = 0 := by
        rw [List.countP_eq_zero]
        intro y hy
        rcases List.mem_cons.1 hy with rfl | hy
        · simp
        · have := hp.1 y hy; simp; omega
      refine ⟨by rw [h0]; simp, ?_⟩
      simp only [h0]; rfl
    · have hkt : k ∈ t := (List.mem_cons.1 hk).resolve_left e
      obtain ⟨h1, h2⟩ := ih hp.2 hkt
      have hak := hp.1 k hkt
      have h0 : (a :: t).countP (· < k) = t.countP (· < k) + 1 := by rw [List.countP_cons_of_pos (by simpa using hak)]
      refine ⟨by rw [h0]; simpa using h1, ?_⟩
      simp only [h0, List.getElem_cons_succ]; exact h2
/-- what the search by halves finds -/
theorem applyV_find {x : Sbst} (h : subOk x = true) {v k : Int} (hk : k = -1 - v) (hm : k ∈ x.nulls) : ∃ h2 : x.nulls.countP (· < k) < x.vals.length, applyV x v = x.vals[x.nulls.countP (· < k)] := by
  have hp := subOk_parts h
  obtain ⟨h1, h2⟩ := count_at x.nulls hp.asc k hm
  have h3 : x.nulls.countP (· < k) < x.vals.length := by have := hp.len; omega
  refine ⟨h3, applyV_hit h (fun j hj hjk e => ?_) h1 h3 (by omega)⟩
  have := List.pairwise_iff_getElem.1 hp.asc j _ hj h1 hjk
  omega
theorem applyV_lost {x : Sbst} {v k : Int} (hk : k = -1 - v) (hm : k ∉ x.nulls) : applyV x v = v :=
  applyV_miss fun j hj _ e => hm (by have : x.nulls[j] = k := by omega
                                     rw [← this]; exact List.getElem_mem hj)
theorem asc_le {l : List Int} (h : l.Pairwise (· < ·)) : l.Pairwise (· ≤ ·) := h.imp fun h => by omega

/-- is element i told alike its forerunner -/
def dupI {α : Type} (e : α → α → Bool) (l : List α) (i : Nat) : Bool := match l[i]?, l[i - 1]? with
  | some a, some b => decide (0 < i) && e a b
  | _, _ => false
/-- the first j elements, those told alike their forerunners dropped -/
def cpTo {α : Type} (e : α → α → Bool) (l : List α) : Nat → List α
  | 0 => []
  | j + 1 => cpTo e l j ++ (if dupI e l j = true then [] else l[j]?.toList)
def cpAll {α : Type} (e : α → α → Bool) (l : List α) : List α := cpTo e l l.length
theorem dupI_zero {α : Type} (e : α → α → Bool) (l : List α) : dupI e l 0 = false := by
  unfold dupI; split <;> simp
theorem dupI_at {α : Type} {e : α → α → Bool} {l : List α} {i : Nat} (h : i + 1 < l.length) : dupI e l (i + 1) = e l[i + 1] l[i] := by
  unfold dupI
  rw [List.getElem?_eq_getElem h, Nat.add_sub_cancel, List.getElem?_eq_getElem (show i < l.length by omega)]
  simp
theorem cpTo_yes {α : Type} {e : α → α → Bool} {l : List α} {j : Nat} (h : dupI e l j = true) : cpTo e l (j + 1) = cpTo e l j := by
  rw [cpTo, if_pos h, List.append_nil]
theorem cpTo_no {α : Type} {e : α → α → Bool} {l : List α} {j : Nat} (hj : j < l.length) (h : dupI e l j = false) : cpTo e l (j + 1) = cpTo e l j ++ [l[j]] := by
  rw [cpTo, if_neg (by rw [h]; simp), List.getElem?_eq_getElem hj]; rfl
theorem cpTo_sub {α : Type} (e : α → α → Bool) (l : List α) (j : Nat) : (cpTo e l j).Sublist (l.take j) := by
  induction j with
  | zero => simp [cpTo]
  | succ j ih =>
    by_cases hj : j < l.length
    · rw [List.take_succ_eq_append_getElem hj]
      cases h : dupI e l j with
      | true => rw [cpTo_yes h]; exact ih.trans (List.sublist_append_left _ _)
      | false => rw [cpTo_no hj h]; exact ih.append (List.Sublist.refl _)
    · have h1 : l[j]? = none := List.getElem?_eq_none (by omega)
      have e1 : cpTo e l (j + 1) = cpTo e l j := by rw [cpTo, h1]; simp
      rw [e1, List.take_of_length_le (by omega)]
      rwa [List.take_of_length_le (by omega)] at ih
theorem cpTo_le {α : Type} (e : α → α → Bool) (l : List α) (j : Nat) : (cpTo e l j).length ≤ l.length ∧ (cpTo e l j).length ≤ j := by
  have := (cpTo_sub e l j).length_le
  rw [List.length_take] at this; omega
theorem cpTo_take {α : Type} {e : α → α → Bool} {l : List α} (j : Nat) (hj : j ≤ l.length) (h : ∀ i, i < j → dupI e l i = false) : cpTo e l j = l.take j := by
  induction j with
  | zero => rfl
  | succ j ih => rw [cpTo_no (by omega) (h j (by omega)), ih (by omega) (fun i hi => h i (by omega)), List.take_succ_eq_append_getElem (by omega)]
theorem dupI_map {α β : Type} (f : β → α) (e : α → α → Bool) (l : List β) (i : Nat) : dupI (fun x y => e (f x) (f y)) l i = dupI e (l.map f) i := by
  unfold dupI
  rw [List.getElem?_map, List.getElem?_map]
  cases l[i]? <;> cases l[i - 1]? <;> rfl
theorem cpTo_map {α β : Type} (f : β → α) (e : α → α → Bool) (l : List β) (j : Nat) : (cpTo (fun x y => e (f x) (f y)) l j).map f = cpTo e (l.map f) j := by
  induction j with
  | zero => rfl
  | succ j ih =>
    rw [cpTo, cpTo, List.map_append, ih, dupI_map, List.getElem?_map]
    congr 1
    split
    · rfl
    · cases l[j]? <;> rfl
theorem cmpF_flip {a b : Fct} (h : ¬ cmpF a b < 0) (hne : a ≠ b) : cmpF b a < 0 := by
  have h1 := cmpF_anti a b
  have h2 : cmpF a b ≠ 0 := fun e => hne ((cmpF_zero a b).1 e)
  omega
theorem putF_asc {l : List Fct} (ha : AscF l) (f : Fct) : AscF (putF l f) := by
  by_cases h : f ∈ l
  · have e : putF l f = l := if_pos ((placeF_mem f l).2 h)
    rw [e]; exact ha
  · rw [putF_new h]
    induction l with
    | nil => exact List.pairwise_singleton _ _
    | cons y t ih =>
      have hp := List.pairwise_cons.1 ha
      have ht : f ∉ t := fun h' => h (by simp [h'])
      unfold putPos
      split
      · rename_i hy
        rw [List.take_succ_cons, List.drop_succ_cons, List.cons_append]
        refine List.pairwise_cons.2 ⟨fun z hz => ?_, ih hp.2 ht⟩
        rcases List.mem_append.1 hz with hz | hz
        · exact hp.1 z (List.mem_of_mem_take hz)
        · rcases List.mem_cons.1 hz with rfl | hz
          · exact hy
          · exact hp.1 z (List.mem_of_mem_drop hz)
      · rename_i hy
        rw [List.take_zero, List.drop_zero, List.nil_append]
        have hfy : cmpF f y < 0 := cmpF_flip hy (fun e => h (by simp [e]))
        refine List.pairwise_cons.2 ⟨fun z hz => ?_, ha⟩
        rcases List.mem_cons.1 hz with rfl | hz
        · exact hfy
        · exact cmpF_trans _ _ _ hfy (hp.1 z hz)
/-- facts put in, one after another -/
def putAll (l : List Fct) : List Fct := l.foldl putF []
theorem putAll_take (l : List Fct) (k : Nat) (h : k < l.length) : putAll (l.take (k + 1)) = putF (putAll (l.take k)) l[k] := by
  unfold putAll; rw [List.take_succ_eq_append_getElem h, List.foldl_append]; rfl
theorem putAll_facts (l : List Fct) : AscF (putAll l) ∧ ∀ g, g ∈ putAll l ↔ g ∈ l := by
  have key : ∀ (l o : List Fct), AscF o → AscF (l.foldl putF o) ∧ ∀ g, g ∈ l.foldl putF o ↔ g ∈ o ∨ g ∈ l := by
    intro l
    induction l with
    | nil => exact fun o h => ⟨h, fun g => by simp⟩
    | cons f t ih =>
      intro o h
      rw [List.foldl_cons]
      obtain ⟨h1, h2⟩ := ih _ (putF_asc h f)
      refine ⟨h1, fun g => ?_⟩
      rw [h2, putF_iff, List.mem_cons]
      constructor
      · rintro ((h | h) | h)
        · exact .inr (.inl h)
        · exact .inl h
        · exact .inr (.inr h)
      · rintro (h | h | h)
        · exact .inl (.inr h)
        · exact .inl (.inl h)
        · exact .inr h
  have := key l [] List.Pairwise.nil
  exact ⟨this.1, fun g => by rw [putAll, this.2]; simp⟩
theorem asc_eqF (a b : List Fct) (ha : AscF a) (hb : AscF b) (h : ∀ x, x ∈ a ↔ x ∈ b) : a = b := by
  induction a generalizing b with
  | nil =>
    cases b with
    | nil => rfl
    | cons y t => exact absurd ((h y).2 (by simp)) (by simp)
  | cons x a ih =>
    cases b with
    | nil => exact absurd ((h x).1 (by simp)) (by simp)
    | cons y t =>
      have ha' := List.pairwise_cons.1 ha
      have hb' := List.pairwise_cons.1 hb
      have e : x = y := by
        rcases List.mem_cons.1 ((h x).1 (by simp)) with h1 | h1
        · exact h1
        · rcases List.mem_cons.1 ((h y).2 (by simp)) with h2 | h2
          · exact h2.symm
          · have h3 := ha'.1 y h2; have h4 := hb'.1 x h1; have h5 := cmpF_anti x y; omega
      subst e
      congr 1
      refine ih t ha'.2 hb'.2 (fun z => ⟨fun hz => ?_, fun hz => ?_⟩)
      · rcases List.mem_cons.1 ((h z).1 (by simp [hz])) with h1 | h1
        · have := ha'.1 z hz; rw [h1, cmpF_self] at this; omega
        · exact h1
      · rcases List.mem_cons.1 ((h z).2 (by simp [hz])) with h1 | h1
        · have := hb'.1 z hz; rw [h1, cmpF_self] at this; omega
        · exact h1
/-- sorted, doubles allowed -/
abbrev NdF (l : List Fct) : Prop := l.Pairwise fun a b => ¬ cmpF b a < 0
def eqF (a b : Fct) : Bool := decide (cmpF a b = 0)
theorem cp_upTo (R : List Fct) (hs : NdF R) (m : Nat) (hm : m ≤ R.length) : AscF (cpTo eqF R m) ∧ ∀ x, x ∈ cpTo eqF R m ↔ x ∈ R.take m := by
  induction m with
  | zero => exact ⟨List.Pairwise.nil, fun x => by simp [cpTo]⟩
  | succ m ih =>
    obtain ⟨i1, i2⟩ := ih (by omega)
    have hlt : m < R.length := by omega
    rw [List.take_succ_eq_append_getElem hlt]
    have hle : ∀ y ∈ R.take m, ¬ cmpF R[m] y < 0 := by
      intro y hy
      obtain ⟨j, hj, rfl⟩ := List.getElem_of_mem hy
      rw [List.length_take] at hj
      rw [List.getElem_take]
      exact List.pairwise_iff_getElem.1 hs j m (by omega) hlt (by omega)
    cases hk : dupI eqF R m with
    | false =>
      rw [cpTo_no hlt hk]
      refine ⟨?_, fun x => by rw [List.mem_append, List.mem_append, i2]⟩
      refine List.pairwise_append.2 ⟨i1, List.pairwise_singleton _ _, fun y hy z hz => ?_⟩
      rw [List.mem_singleton.1 hz]
      have hy' := (i2 y).1 hy
      refine cmpF_flip (hle y hy') fun e => ?_
      obtain ⟨i, rfl⟩ : ∃ i, m = i + 1 := by
        rcases Nat.eq_zero_or_pos m with h0 | h0
        · subst h0; simp at hy'
        · exact ⟨m - 1, by omega⟩
      rw [dupI_at hlt] at hk
      unfold eqF at hk
      rw [decide_eq_false_iff_not, cmpF_zero] at hk
      obtain ⟨j, hj, he⟩ := List.getElem_of_mem hy'
      rw [List.length_take] at hj
      rw [List.getElem_take] at he
      rcases Nat.lt_or_eq_of_le (show j ≤ i by omega) with hji | hji
      · have h1 := List.pairwise_iff_getElem.1 hs j i (by omega) (by omega) hji
        have h2 := List.pairwise_iff_getElem.1 hs i (i + 1) (by omega) hlt (by omega)
        rw [he, ← e] at h1
        exact hk (Classical.byContradiction fun hne => h2 (cmpF_flip h1 (fun e' => hne e'.symm)))
      · subst hji
        exact hk (e.trans he.symm)
    | true =>
      rw [cpTo_yes hk]
      refine ⟨i1, fun x => ?_⟩
      rw [i2, List.mem_append]
      refine ⟨.inl, fun h => ?_⟩
      rcases h with h | h
      · exact h
      · rw [List.mem_singleton.1 h]
        obtain ⟨i, rfl⟩ : ∃ i, m = i + 1 := by
          rcases Nat.eq_zero_or_pos m with h0 | h0
          · subst h0; rw [dupI_zero] at hk; cases hk
          · exact ⟨m - 1, by omega⟩
        rw [dupI_at hlt] at hk
        have he := (cmpF_zero _ _).1 (of_decide_eq_true hk)
        rw [he]
        exact List.mem_iff_getElem.2 ⟨i, by rw [List.length_take]; omega, by rw [List.getElem_take]⟩
/-- sorted and without doubles: as if put in one after another -/
theorem cp_sorted {L R : List Fct} (hs : NdF R) (hm : ∀ x, x ∈ R ↔ x ∈ L) : cpAll eqF R = putAll L := by
  obtain ⟨h1, h2⟩ := cp_upTo R hs R.length (Nat.le_refl _)
  obtain ⟨h3, h4⟩ := putAll_facts L
  refine asc_eqF _ _ h1 h3 fun x => ?_
  unfold cpAll
  rw [h2, List.take_of_length_le (Nat.le_refl _), h4, hm]

theorem putAll_le (l : List Fct) : (putAll l).length ≤ l.length := by
  have key : ∀ (l o : List Fct), (l.foldl putF o).length ≤ o.length + l.length := by
    intro l
    induction l with
    | nil => intro o; simp
    | cons f t ih =>
      intro o
      rw [List.foldl_cons, List.length_cons]
      have h1 := ih (putF o f)
      have h2 := putF_le o f
      omega
  simpa [putAll] using key l []
theorem putAll_pos (l : List Fct) (h : 0 < l.length) : 0 < (putAll l).length := List.length_pos_of_mem (((putAll_facts l).2 (l[0])).2 (List.getElem_mem h))
def applyI_ok (s : Sbst) (x : Inst) : Bool := subOk s && instOk x
def applyFs (s : Sbst) (l : List Fct) : List Fct := l.map (applyF s)
def applyI (s : Sbst) (x : Inst) : Inst := if applyI_ok s x = true then ⟨x.rels, putAll (applyFs s x.facts)⟩ else ⟨[], []⟩
def ApplyToInstance_r0 (s : Sbst) (x : Inst) : Inst := applyI s x
def ApplyToInstance_ok (s : Sbst) (x : Inst) : Bool := applyI_ok s x
theorem applyI_not {s : Sbst} {x : Inst} (h : subOk s = false ∨ instOk x = false) : applyI_ok s x = false ∧ applyI s x = ⟨[], []⟩ := by
  have e : applyI_ok s x = false := by
    unfold applyI_ok
    rcases h with h | h
    · rw [h]; rfl
    · rw [h, Bool.and_false]
  exact ⟨e, by unfold applyI; rw [e]; rfl⟩
theorem applyI_yes {s : Sbst} {x : Inst} (h1 : subOk s = true) (h2 : instOk x = true) : applyI_ok s x = true ∧ applyI s x = ⟨x.rels, putAll (applyFs s x.facts)⟩ := by
  have e : applyI_ok s x = true := by unfold applyI_ok; rw [h1, h2]; rfl
  exact ⟨e, if_pos e⟩
theorem applyFs_take (s : Sbst) (l : List Fct) (k : Nat) (h : k < l.length) : applyFs s (l.take (k + 1)) = applyFs s (l.take k) ++ [applyF s l[k]] := by
  unfold applyFs; rw [List.take_succ_eq_append_getElem h, List.map_append]; rfl
theorem putAll_step (s : Sbst) (l : List Fct) (k : Nat) (h : k < l.length) : putAll (applyFs s (l.take (k + 1))) = putF (putAll (applyFs s (l.take k))) (applyF s l[k]) := by
  rw [applyFs_take s l k h]; unfold putAll; rw [List.foldl_append]; rfl
theorem factOk_len3 {l : List Rel} {r : Int} {vs : List Int} (h : factOk l r vs = true) : vs.length ≤ 3 := by
  obtain ⟨hv, hin, hlen, -⟩ := factOk_parts h
  obtain ⟨k, rfl⟩ : ∃ k : Nat, r = (k : Int) := ⟨r.toNat, by omega⟩
  have hk : k < l.length := by omega
  have hok := relOk_bd _ _ (validRels_at l hv k hk)
  rw [arityAt_in (show (k : Int).toNat < l.length by simpa using hk)] at hlen; simp at hlen; omega
theorem instOk_small {x : Inst} (h : instOk x = true) : x.facts.length ≤ 30 ∧ ∀ f ∈ x.facts, f.vals.length ≤ 3 := by
  obtain ⟨h1, _, _, h4⟩ := (instOk_iff x).1 h
  exact ⟨h4, fun f hf => factOk_len3 (h1 f hf).1⟩
theorem applyFs_small {s : Sbst} {l : List Fct} (h : ∀ f ∈ l, f.vals.length ≤ 3) : ∀ f ∈ putAll (applyFs s l), f.vals.length ≤ 3 := by
  intro f hf
  obtain ⟨g, hg, rfl⟩ := List.mem_map.1 (((putAll_facts _).2 f).1 hf)
  have := h g hg
  simpa [applyF] using this
theorem applyI_sz {s : Sbst} {x : Inst} (hn : RelationS_sz x.rels ≤ 1000000) : Instance_sz (applyI s x) ≤ 1048576 := by
  cases h : applyI_ok s x with
  | false => unfold applyI; rw [h]; simp [Instance_sz, RelationS_sz, FactS_sz, relsLen, valsLen]
  | true =>
    have h2 : instOk x = true := by unfold applyI_ok at h; simp only [Bool.and_eq_true] at h; exact h.2
    obtain ⟨h3, h4⟩ := instOk_small h2
    have h5 := putAll_le (applyFs s x.facts)
    have h6 := valsLen_le3 _ (applyFs_small (s := s) h4)
    have h7 : (applyFs s x.facts).length = x.facts.length := by unfold applyFs; simp
    unfold applyI
    rw [if_pos h]
    unfold Instance_sz FactS_sz
    simp only; omega
theorem relsLen_valid (l : List Rel) (h : validRels l = true) : RelationS_sz l ≤ 12 := by
  have h6 : l.length ≤ 6 := by
    unfold validRels at h
    simp only [Bool.and_eq_true, decide_eq_true_eq] at h
    first | exact h.2 | exact h.1
  have key : ∀ (l : List Rel), (∀ r ∈ l, r.name.size ≤ 1) → relsLen l ≤ l.length := by
    intro l
    induction l with
    | nil => intro _; simp [relsLen]
    | cons a t ih =>
      intro hh
      have h1 := hh a (by simp)
      have h2 := ih (fun r hr => hh r (by simp [hr]))
      simp only [relsLen, List.length_cons]; omega
  have := key l (fun r hr => by
    obtain ⟨k, hk, rfl⟩ := List.getElem_of_mem hr
    have := relOk_bd _ _ (validRels_at l h k hk)
    omega)
  unfold RelationS_sz; omega
theorem applyI_szAll (s : Sbst) (x : Inst) : Instance_sz (applyI s x) ≤ 1048576 := by
  cases h : applyI_ok s x with
  | false => unfold applyI; rw [h]; simp [Instance_sz, RelationS_sz, FactS_sz, relsLen, valsLen]
  | true =>
    have h2 : instOk x = true := by unfold applyI_ok at h; simp only [Bool.and_eq_true] at h; exact h.2
    have := relsLen_valid x.rels (instOk_parts h2).2.1
    exact applyI_sz (by omega)

/-- the nulls below K that a or b replaces -/
def compN (a b : List Int) : Nat → List Int
  | 0 => []
  | K + 1 => compN a b K ++ (if (decide ((K : Int) ∈ a) || decide ((K : Int) ∈ b)) = true then [(K : Int)] else [])
theorem compN_mem (a b : List Int) (K : Nat) (x : Int) : x ∈ compN a b K ↔ (0 ≤ x ∧ x < K) ∧ (x ∈ a ∨ x ∈ b) := by
  induction K with
  | zero => simp [compN]; omega
  | succ K ih =>
    rw [compN, List.mem_append, ih]
    by_cases h : (decide ((K : Int) ∈ a) || decide ((K : Int) ∈ b)) = true
    · rw [if_pos h, List.mem_singleton]
      have h' : (K : Int) ∈ a ∨ (K : Int) ∈ b := by simpa using h
      constructor
      · rintro (⟨h1, h2⟩ | rfl)
        · exact ⟨by omega, h2⟩
        · exact ⟨by omega, h'⟩
      · rintro ⟨h1, h2⟩
        by_cases e : x = K
        · exact .inr e
        · exact .inl ⟨by omega, h2⟩
    · rw [if_neg h]
      have h' : ¬ ((K : Int) ∈ a ∨ (K : Int) ∈ b) := by simpa using h
      simp only [List.not_mem_nil, or_false]
      constructor
      · rintro ⟨h1, h2⟩; exact ⟨by omega, h2⟩
      · rintro ⟨h1, h2⟩
        refine ⟨⟨h1.1, ?_⟩, h2⟩
        by_cases e : x = K
        · subst e; exact absurd h2 h'
        · omega
theorem compN_asc (a b : List Int) (K : Nat) : (compN a b K).Pairwise (· < ·) := by
  induction K with
  | zero => exact List.Pairwise.nil
  | succ K ih =>
    rw [compN]
    refine List.pairwise_append.2 ⟨ih, ?_, fun x hx y hy => ?_⟩
    · split
      · exact List.pairwise_singleton _ _
      · exact List.Pairwise.nil
    · have h1 := ((compN_mem a b K x).1 hx).1.2
      split at hy
      · rw [List.mem_singleton.1 hy]; exact h1
      · cases hy
theorem compN_len (a b : List Int) (K : Nat) : (compN a b K).length ≤ K := by
  induction K with
  | zero => exact Nat.le_refl _
  | succ K ih =>
    rw [compN, List.length_append]
    split <;> simp <;> omega
theorem compN_yes {a b : List Int} {K : Nat} (h : (K : Int) ∈ a ∨ (K : Int) ∈ b) : compN a b (K + 1) = compN a b K ++ [(K : Int)] := by rw [compN, if_pos (by simpa using h)]
theorem compN_no {a b : List Int} {K : Nat} (h1 : (K : Int) ∉ a) (h2 : (K : Int) ∉ b) : compN a b (K + 1) = compN a b K := by rw [compN, if_neg (by simp [h1, h2]), List.append_nil]
theorem comp_sort {a b : List Int} (ha : ∀ x ∈ a, 0 ≤ x ∧ x ≤ 39) (hb : ∀ x ∈ b, 0 ≤ x ∧ x ≤ 39) : Lib.compact ((a ++ b).mergeSort fun x y => decide (x ≤ y)) = compN a b 40 := by
  have hs : ((a ++ b).mergeSort fun x y => decide (x ≤ y)).Pairwise (· ≤ ·) := by
    have := List.pairwise_mergeSort (le := fun (x y : Int) => decide (x ≤ y)) (by intro a b c; simp; omega) (by intro a b; simp; omega) (a ++ b)
    exact this.imp (fun h => by simpa using h)
  obtain ⟨h1, h2⟩ := compact_upTo _ hs _ (Nat.le_refl _)
  refine asc_eq _ _ h1 (compN_asc _ _ _) (fun x => ?_)
  unfold Lib.compact
  rw [h2, List.take_of_length_le (Nat.le_refl _), List.mem_mergeSort, compN_mem, List.mem_append]
  constructor
  · intro h
    refine ⟨?_, h⟩
    rcases h with h | h
    · have := ha x h; omega
    · have := hb x h; omega
  · exact fun h => h.2
def compV (a b : Sbst) (k : Int) : Int := applyV b (applyV a (-1 - k))
def composeOk (a b : Sbst) : Bool := subOk a && subOk b
def composeS (a b : Sbst) : Sbst := if composeOk a b = true then ⟨compN a.nulls b.nulls 40, (compN a.nulls b.nulls 40).map (compV a b)⟩ else ⟨[], []⟩
theorem composeOk_no {a b : Sbst} (h : subOk a = false ∨ subOk b = false) : composeOk a b = false := by
  unfold composeOk
  rcases h with h | h
  · rw [h]; rfl
  · rw [h, Bool.and_false]
theorem composeS_no {a b : Sbst} (h : composeOk a b = false) : composeS a b = ⟨[], []⟩ := by unfold composeS; rw [h]; rfl
theorem composeS_yes {a b : Sbst} (h : composeOk a b = true) : composeS a b = ⟨compN a.nulls b.nulls 40, (compN a.nulls b.nulls 40).map (compV a b)⟩ := if_pos h
def Compose_r0 (a b : Sbst) : Sbst := composeS a b
def Compose_ok (a b : Sbst) : Bool := composeOk a b
theorem subOk_mem {x : Sbst} (h : subOk x = true) : ∀ n ∈ x.nulls, 0 ≤ n ∧ n ≤ 39 := fun n hn => by
  obtain ⟨i, hi, rfl⟩ := List.getElem_of_mem hn
  exact (subOk_parts h).bd i hi
theorem composeS_sz (a b : Sbst) : Substitution_sz (composeS a b) ≤ 80 := by
  unfold composeS
  split
  · have := compN_len a.nulls b.nulls 40
    unfold Substitution_sz IntS_sz; simp; omega
  · simp [Substitution_sz, IntS_sz]
def eqSub (a b : Sbst) : Bool := decide (cmpInts a.nulls b.nulls = 0) && decide (cmpInts a.vals b.vals = 0)
theorem eqSub_eq (a b : Sbst) : eqSub a b = (decide (a.nulls = b.nulls) && decide (a.vals = b.vals)) := by
  unfold eqSub; rw [decide_eq_decide.2 (cmpInts_zero _ _), decide_eq_decide.2 (cmpInts_zero _ _)]

theorem Instance_own.none (B C : Nat) (w : World) : Instance_own B C (.agg #[.slice none 0 0, .slice none 0 0]) ⟨[], []⟩ w :=
  ⟨_, _, rfl, ⟨World.ownsRow_nil _ _ _ _, (fun g hg => by cases hg)⟩, ⟨[], rfl, World.ownsRow_nil _ _ _ _, (fun g hg => by cases hg), (fun i h => by simp at h), List.Pairwise.nil⟩⟩
def GivesApp (s : Sbst) (x : Inst) (w : World) (e : Ending) (w' : World) : Prop := ∃ r, e = .returned (.tuple #[r, .bool (ApplyToInstance_ok s x)]) ∧ Instance_own w.heap.size w'.heap.size r (ApplyToInstance_r0 s x) w' ∧ Below w.heap.size w w'

/-- what the row holds ahead of element j: those that stay, then as it was -/
def rowC {α : Type} (e : α → α → Bool) (Z : List α) (j : Nat) : List α := cpTo e Z j ++ Z.drop (cpTo e Z j).length
theorem rowC_len {α : Type} (e : α → α → Bool) (Z : List α) (j : Nat) : (rowC e Z j).length = Z.length := by
  have := cpTo_le e Z j
  unfold rowC
  rw [List.length_append, List.length_drop]; omega
theorem rowC_get {α : Type} (e : α → α → Bool) (Z : List α) (j i : Nat) (h : (cpTo e Z j).length ≤ i) (hi : i < Z.length) : (rowC e Z j)[i]'(by rw [rowC_len]; exact hi) = Z[i] := by
  unfold rowC
  rw [List.getElem_append_right h, List.getElem_drop]
  congr 1; omega
theorem rowC_yes {α : Type} {e : α → α → Bool} {Z : List α} {j : Nat} (h : dupI e Z j = true) : rowC e Z (j + 1) = rowC e Z j ∧ (cpTo e Z (j + 1)).length = (cpTo e Z j).length := by
  unfold rowC; rw [cpTo_yes h]; exact ⟨rfl, rfl⟩
theorem rowC_no {α : Type} {e : α → α → Bool} {Z : List α} {j : Nat} (hj : j < Z.length) (h : dupI e Z j = false) (hl : (cpTo e Z j).length < Z.length) : rowC e Z (j + 1) = (rowC e Z j).set (cpTo e Z j).length Z[j] ∧ (cpTo e Z (j + 1)).length = (cpTo e Z j).length + 1 := by
  unfold rowC; rw [cpTo_no hj h]
  refine ⟨?_, by simp⟩
  rw [List.set_append_right _ _ (Nat.le_refl _), Nat.sub_self, List.drop_eq_getElem_cons hl, List.set_cons_zero, List.length_append, List.length_singleton, List.append_assoc]
  rfl
theorem cpTo_lt {α : Type} {e : α → α → Bool} {Z : List α} {i j : Nat} (h : dupI e Z i = true) (hij : i < j) : (cpTo e Z j).length < j := by
  obtain ⟨d, rfl⟩ : ∃ d, j = i + 1 + d := ⟨j - i - 1, by omega⟩
  induction d with
  | zero => rw [Nat.add_zero, cpTo_yes h]; have := (cpTo_le e Z i).2; omega
  | succ d ih =>
    have h1 := ih (by omega)
    rw [show i + 1 + (d + 1) = i + 1 + d + 1 by omega, cpTo, List.length_append]
    have h2 : (if dupI e Z (i + 1 + d) = true then [] else Z[i + 1 + d]?.toList).length ≤ 1 := by
      split
      · simp
      · cases Z[i + 1 + d]? <;> simp
    omega
theorem cpTo_first {α : Type} {e : α → α → Bool} {Z : List α} {k : Nat} (hk : k ≤ Z.length) (hn : ∀ i, i < k → dupI e Z i = false) (h : dupI e Z k = true) : cpTo e Z (k + 1) = Z.take k := by
  rw [cpTo_yes h, cpTo_take k hk hn]
def NoDup0 {α : Type} (e : α → α → Bool) (Z : List α) (k : Nat) : Prop := ∀ i, i < k → dupI e Z i = false
theorem NoDup0.one {α : Type} (e : α → α → Bool) (Z : List α) : NoDup0 e Z 1 := fun i hi => by
  obtain rfl : i = 0 := by omega
  exact dupI_zero e Z
theorem NoDup0.next {α : Type} {e : α → α → Bool} {Z : List α} {k : Nat} (h : NoDup0 e Z k) (hk : dupI e Z k = false) : NoDup0 e Z (k + 1) := fun i hi => by
  by_cases q : i = k
  · subst q; exact hk
  · exact h i (by omega)
theorem NoDup0.all {α : Type} {e : α → α → Bool} {Z : List α} (h : NoDup0 e Z Z.length) : cpAll e Z = Z := by
  unfold cpAll; rw [cpTo_take _ (Nat.le_refl _) h, List.take_of_length_le (Nat.le_refl _)]
/-- facts with their slices, told alike by the facts -/
def eqZ (a b : Fct × Value) : Bool := eqF a.1 b.1
theorem cpZ_fst (Z : List (Fct × Value)) : (cpAll eqZ Z).map Prod.fst = cpAll eqF (Z.map Prod.fst) := by
  unfold cpAll
  rw [List.length_map]
  exact cpTo_map Prod.fst eqF Z Z.length
theorem eqF_same (a b : Fct) : sameP b a = eqF a b := (cmpF_same a b).symm

end Go.Proofs.YtmecdjincmkofaaGreatDoor
