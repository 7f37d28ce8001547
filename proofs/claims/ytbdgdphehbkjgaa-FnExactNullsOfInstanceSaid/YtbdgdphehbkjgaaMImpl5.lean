/-
  Walks and plain lemmas for the laws of this seat: what single Go functions return, for every argument.
-/
import Derived.Test.YtbdgdphehbkjgaaMIx
import Derived.Test.YtbdgdphehbkjgaaMInst2
import Derived.Test.YtbdgdphehbkjgaaInstLaw
import Derived.Test.YtbdgdphehbkjgaaSortN
namespace Go.Proofs.Ytbdgdphehbkjgaa
open Go.RowKit

def sameP (f : Fct) (g : Fct) : Bool := decide (g = f)
theorem cmpF_same (g f : Fct) : decide (cmpF g f = 0) = sameP f g := by
  unfold sameP; exact decide_eq_decide.2 (cmpF_zero g f)
theorem anySame (f : Fct) (l : List Fct) : l.any (sameP f) = decide (0 ≤ placeF f l) := by
  cases h : l.any (sameP f) with
  | true =>
    obtain ⟨g, hg, he⟩ := List.any_eq_true.1 h
    have : g = f := by simpa [sameP] using he
    subst this
    exact (decide_eq_true ((placeF_mem g l).2 hg)).symm
  | false =>
    refine (decide_eq_false fun hp => ?_).symm
    rw [List.any_eq_false] at h
    exact h f ((placeF_mem f l).1 hp) (by simp [sameP])
theorem hasInst_any (x : Inst) (f : Fct) : hasInst x f = (instOk x && x.facts.any (sameP f)) := by
  unfold hasInst; rw [anySame]
theorem subInst_any (x y : Inst) : subInst x y = x.facts.all fun f => y.facts.any (sameP f) := by
  unfold subInst; congr 1; funext f; rw [anySame]
/-- a source fact that holds a null, where its values are valid -/
def negAny (vs : List Int) : Bool := vs.any fun v => decide (v < 0)
theorem negAny_nulls {vs : List Int} (h : vs.all validV = true) : negAny vs = decide (0 < (nullsOf vs).length) := by
  have key : ∀ x, x ∈ nullsOf vs ↔ x ∈ numsOf vs := fun x => (nums_mem vs [] [] (fun _ => Iff.rfl) x).symm
  have hn : ∀ (us : List Int) (o : List Int) (x : Int), x ∈ us.foldl addNum o ↔ x ∈ o ∨ ∃ v ∈ us, (nullNum v).2 = true ∧ (nullNum v).1 = x := by
    intro us
    induction us with
    | nil => simp
    | cons v t ih =>
      intro o x
      rw [List.foldl_cons, ih]
      unfold addNum
      split
      · rename_i hv
        simp only [List.mem_append, List.mem_cons, List.not_mem_nil, or_false, exists_eq_or_imp]
        constructor
        · rintro ((h | rfl) | h)
          · exact .inl h
          · exact .inr (.inl ⟨hv, rfl⟩)
          · exact .inr (.inr h)
        · rintro (h | ⟨_, rfl⟩ | h)
          · exact .inl (.inl h)
          · exact .inl (.inr rfl)
          · exact .inr h
      · rename_i hv
        constructor
        · rintro (h | ⟨u, hu, h⟩)
          · exact .inl h
          · exact .inr ⟨u, List.mem_cons.2 (.inr hu), h⟩
        · rintro (h | ⟨u, hu, h1, h2⟩)
          · exact .inl h
          · rcases List.mem_cons.1 hu with rfl | hu
            · exact absurd h1 hv
            · exact .inr ⟨u, hu, h1, h2⟩
  rw [List.all_eq_true] at h
  cases hb : negAny vs with
  | true =>
    obtain ⟨v, hv, h0⟩ := List.any_eq_true.1 hb
    have h1 := h v hv
    unfold validV at h1
    have h2 : (nullNum v).2 = true := by rw [nullNum_yes v (by simp at h0 h1; omega)]
    have h3 : (nullNum v).1 ∈ nullsOf vs := (key _).2 ((hn vs [] _).2 (.inr ⟨v, hv, h2, rfl⟩))
    exact (decide_eq_true (List.length_pos_of_mem h3)).symm
  | false =>
    refine (decide_eq_false fun hp => ?_).symm
    obtain ⟨x, hx⟩ := List.exists_mem_of_length_pos hp
    rcases (hn vs [] x).1 ((key x).1 hx) with h1 | ⟨v, hv, h1, _⟩
    · simp at h1
    · unfold negAny at hb
      rw [List.any_eq_false] at hb
      refine hb v hv ?_
      unfold nullNum at h1
      split at h1
      · simp; omega
      · cases h1
/-- what the program asks of one fact -/
def okFact (l : List Rel) (f : Fct) : Bool := factOk l f.rel f.vals && (!relSrc l f || !negAny f.vals)
theorem okFact_eq (l : List Rel) (f : Fct) : okFact l f = (factOk l f.rel f.vals && !srcNull l f) := by
  unfold okFact
  cases h : factOk l f.rel f.vals with
  | false => rfl
  | true =>
    obtain ⟨h1, h2, h3, h4⟩ := factOk_parts h
    have hv : f.vals.all validV = true := by
      rw [List.all_eq_true]
      intro v hv
      obtain ⟨k, hk, rfl⟩ := List.getElem_of_mem hv
      exact h4 k hk
    rw [negAny_nulls hv]
    unfold srcNull relSrc
    rw [Bool.not_and]
theorem stepOk_okF {x : Inst} {i : Nat} (hi : i < x.facts.length) : stepOk x i = (okFact x.rels x.facts[i] && (decide (i = 0) || decide (cmpF (x.facts.getD (i - 1) default) x.facts[i] < 0))) := by
  rw [stepOk_at hi, okFact_eq, Bool.and_assoc, Bool.and_comm (!srcNull _ _)]
theorem instOk_rels {x : Inst} (h : validRels x.rels = false) : instOk x = false := by unfold instOk; rw [h]; simp
theorem instOk_len {x : Inst} (h : ¬ x.facts.length ≤ 30) : instOk x = false := by unfold instOk; rw [decide_eq_false h]; simp
theorem instOk_yes {x : Inst} (h1 : validRels x.rels = true) (h2 : x.facts.length ≤ 30) (h : FactsTo x x.facts.length) : instOk x = true := by rw [instOk_end h, h1, decide_eq_true h2]; rfl
/-- a position that a search by halves may give -/
def BsPos (f : Fct) (l : List Fct) (p : Nat) : Prop := p ≤ l.length ∧ (∀ h : 0 < p ∧ p - 1 < l.length, cmpF l[p - 1] f < 0) ∧ (∀ h : p < l.length, ¬ cmpF l[p] f < 0)
theorem AscF.sub {a b : List Fct} (h : AscF b) (hs : a.Sublist b) : AscF a := h.sublist hs
theorem bsPos_put {f : Fct} {l : List Fct} {p : Nat} (h : BsPos f l p) (ha : AscF l) : putPos f l = p := by
  obtain ⟨h1, h2, h3⟩ := h
  have e := putPos_app f (l.take p) (l.drop p) (fun y hy => ?_) (fun y hy => ?_)
  · rw [List.take_append_drop, List.length_take] at e; omega
  · obtain ⟨j, hj, rfl⟩ := List.getElem_of_mem hy
    rw [List.length_take] at hj
    rw [List.getElem_take]
    have hp : cmpF l[p - 1] f < 0 := h2 ⟨by omega, by omega⟩
    rcases Nat.lt_or_ge j (p - 1) with hlt | hge
    · exact cmpF_trans _ _ _ (List.pairwise_iff_getElem.1 ha j (p - 1) (by omega) (by omega) hlt) hp
    · have : j = p - 1 := by omega
      subst this; exact hp
  · obtain ⟨j, hj, rfl⟩ := List.getElem_of_mem hy
    rw [List.length_drop] at hj
    rw [List.getElem_drop]
    have hp := h3 (by omega)
    intro hc
    rcases Nat.eq_zero_or_pos j with h0 | h0
    · subst h0; exact hp hc
    · exact hp (cmpF_trans _ _ _ (List.pairwise_iff_getElem.1 ha p (p + j) (by omega) (by omega) (by omega)) hc)
/-- what the program inserts -/
def insAt (x : Inst) (f : Fct) (p : Nat) : Inst := ⟨x.rels, x.facts.take p ++ f :: x.facts.drop p⟩
theorem insAt_sub (l : List Fct) (f : Fct) (p : Nat) : l.Sublist (l.take p ++ f :: l.drop p) := by
  have := (List.Sublist.refl (l.take p)).append ((List.Sublist.refl (l.drop p)).cons f)
  rwa [List.take_append_drop] at this
theorem insAt_ok {x : Inst} {f : Fct} {p : Nat} (h : BsPos f x.facts p) : instOk (insAt x f p) = insOk x f ∧ (insOk x f = true → insAt x f p = insInst x f) := by
  have back : insOk x f = true → insAt x f p = ⟨x.rels, putF x.facts f⟩ := by
    intro hi
    obtain ⟨h1, h2, h3⟩ := ins_parts hi
    have hp := bsPos_put h ((instOk_iff x).1 h1).2.1
    unfold insAt
    rw [putF_new h2, hp]
  refine ⟨?_, fun hi => by rw [back hi]; exact (if_pos hi).symm⟩
  cases hi : insOk x f with
  | true => rw [back hi]; exact (ins_parts hi).2.2
  | false =>
    cases ho : instOk (insAt x f p) with
    | false => rfl
    | true =>
      obtain ⟨g1, g2, g3, g4⟩ := (instOk_iff _).1 ho
      have hx : instOk x = true := (instOk_iff x).2 ⟨fun g hg => g1 g ((insAt_sub x.facts f p).subset hg), g2.sub (insAt_sub x.facts f p), g3, Nat.le_trans (insAt_sub x.facts f p).length_le g4⟩
      have hn : f ∉ x.facts := by
        intro hm
        have hp := List.pairwise_append.1 g2
        have hp2 := List.pairwise_cons.1 hp.2.1
        rw [← List.take_append_drop p x.facts] at hm
        rcases List.mem_append.1 hm with hm | hm
        · have := hp.2.2 f hm f (by simp); rw [cmpF_self] at this; omega
        · have := hp2.1 f hm; rw [cmpF_self] at this; omega
      have hh : hasInst x f = false := by
        cases hh : hasInst x f with
        | false => rfl
        | true => exact absurd ((hasInst_iff x f).1 hh).2 hn
      have hp := bsPos_put h ((instOk_iff x).1 hx).2.1
      have : insOk x f = true := by
        unfold insOk
        rw [hx, hh, putF_new hn, hp]
        exact ho
      rw [this] at hi; cases hi
theorem insOk_no_r0 {x : Inst} {f : Fct} (h : insOk x f = false) : insInst x f = x := by unfold insInst; rw [h]; rfl
/-- a fact taken out of an instance that is valid -/
theorem del_keep {x : Inst} {f : Fct} (h : hasInst x f = true) : delInst x f = ⟨x.rels, keepN (sameP f) x.facts⟩ := by
  obtain ⟨h1, h2⟩ := (hasInst_iff x f).1 h
  unfold delInst
  rw [if_pos h]
  obtain ⟨rels, facts⟩ := x
  obtain ⟨a, b, ha, rfl⟩ := mem_split f facts h2
  obtain ⟨g1, g2, g3, g4⟩ := (instOk_iff _).1 h1
  simp only [placeF_app f a b ha, Int.toNat_natCast]
  have hp2 := List.pairwise_cons.1 (List.pairwise_append.1 g2).2.1
  have hb : f ∉ b := fun hm => by have := hp2.1 f hm; rw [cmpF_self] at this; omega
  have e1 : keepN (sameP f) a = a := by
    unfold keepN; rw [List.filter_eq_self]; intro g hg; simp [sameP]; rintro rfl; exact ha hg
  have e2 : keepN (sameP f) b = b := by
    unfold keepN; rw [List.filter_eq_self]; intro g hg; simp [sameP]; rintro rfl; exact hb hg
  have e3 : keepN (sameP f) (a ++ f :: b) = a ++ b := by
    have : keepN (sameP f) (a ++ f :: b) = keepN (sameP f) a ++ keepN (sameP f) (f :: b) := by unfold keepN; rw [List.filter_append]
    rw [this, e1]
    have : keepN (sameP f) (f :: b) = keepN (sameP f) b := by unfold keepN; simp [sameP]
    rw [this, e2]
  rw [e3]; simp
theorem del_no {x : Inst} {f : Fct} (h : hasInst x f = false) : delInst x f = x := by unfold delInst; rw [h]; rfl
theorem restrict_keep {x : Inst} (b : Bool) (h : instOk x = true) : restrictI x b = ⟨x.rels, keepN (fun f => !srcP x.rels b f) x.facts⟩ := by
  unfold restrictI keepN
  rw [if_pos h]
  simp
/-- the numbers of all facts' nulls, one after another -/
def numsAll (l : List Fct) : List Int := l.flatMap fun f => nullsOf f.vals
theorem numsAll_take (l : List Fct) (k : Nat) (h : k < l.length) : numsAll (l.take (k + 1)) = numsAll (l.take k) ++ nullsOf l[k].vals := by
  unfold numsAll; rw [List.take_succ_eq_append_getElem h, List.flatMap_append]; simp
theorem mem_fold_putI (r o : List Int) (x : Int) : x ∈ r.foldl putI o ↔ x ∈ o ∨ x ∈ r := by
  induction r generalizing o with
  | nil => simp
  | cons a t ih => 
    rw [List.foldl_cons, ih, putI_mem, List.mem_cons]
    constructor
    · rintro ((h | h) | h)
      · exact .inr (.inl h)
      · exact .inl h
      · exact .inr (.inr h)
    · rintro (h | h | h)
      · exact .inl (.inr h)
      · exact .inl (.inl h)
      · exact .inr h
theorem mem_nullsI (l : List Fct) (x : Int) : x ∈ nullsI l ↔ x ∈ numsAll l := by
  have : ∀ (l : List Fct) (o : List Int), x ∈ l.foldl addNulls o ↔ x ∈ o ∨ x ∈ numsAll l := by
    intro l
    induction l with
    | nil => simp [numsAll]
    | cons f t ih =>
      intro o
      rw [List.foldl_cons, ih]
      unfold addNulls numsAll
      rw [mem_fold_putI, List.flatMap_cons, List.mem_append, or_assoc]
  have h := this l []
  simpa [nullsI] using h
theorem compact_all (l : List Fct) : Lib.compact ((numsAll l).mergeSort fun x y => decide (x ≤ y)) = nullsI l := by
  have hs : ((numsAll l).mergeSort fun x y => decide (x ≤ y)).Pairwise (· ≤ ·) := by
    have := List.pairwise_mergeSort (le := fun (x y : Int) => decide (x ≤ y)) (by intro a b c; simp; omega) (by intro a b; simp; omega) (numsAll l)
    exact this.imp (fun h => by simpa using h)
  obtain ⟨h1, h2⟩ := compact_upTo _ hs _ (Nat.le_refl _)
  refine asc_eq _ _ h1 (asc_nullsI l).1 (fun x => ?_)
  unfold Lib.compact
  rw [h2, List.take_of_length_le (Nat.le_refl _), List.mem_mergeSort]
  exact (mem_nullsI l x).symm
theorem nullsOf_le (vs : List Int) : (nullsOf vs).length ≤ vs.length := by
  have : ∀ (us o : List Int), (us.foldl addNull o).length ≤ o.length + us.length := by
    intro us
    induction us with
    | nil => simp
    | cons v t ih =>
      intro o
      rw [List.foldl_cons]
      have h1 := ih (addNull o v)
      have h2 : (addNull o v).length ≤ o.length + 1 := by
        unfold addNull
        split
        · exact putI_len o _
        · omega
      simp only [List.length_cons]; omega
  have h := this vs []
  simp only [List.length_nil, Nat.zero_add] at h
  exact h
theorem numsAll_len (l : List Fct) : (numsAll l).length ≤ valsLen l := by
  unfold numsAll
  induction l with
  | nil => simp
  | cons f t ih =>
    rw [List.flatMap_cons, List.length_append, valsLen]
    have := nullsOf_le f.vals
    omega

end Go.Proofs.Ytbdgdphehbkjgaa
