/-
  Walks and plain lemmas for the laws of this seat: what single Go functions return, for every argument.
-/
import Derived.Test.YtmecdjincmkofaaGreatDoorTakeE
import Derived.Test.YtmecdjincmkofaaGreatDoorMInst
import Derived.Test.YtmecdjincmkofaaGreatDoorMSub
namespace Go.Proofs.YtmecdjincmkofaaGreatDoor
open Go.RowKit

/-- both valid, over the same relations -/
def sameRels (x y : Inst) : Bool := instOk x && (instOk y && decide (x.rels = y.rels))
/-- every fact of x becomes by s a fact of y -/
def homFacts (s : Sbst) (x y : Inst) : Bool := subInst ⟨[], applyFs s x.facts⟩ y
def isHom (x y : Inst) (s : Sbst) : Bool := sameRels x y && (decide (s.nulls = nullsI x.facts) && (subOk s && homFacts s x y))
theorem sameRels_not1 {x y : Inst} (h : instOk x = false) : sameRels x y = false := by unfold sameRels; rw [h]; rfl
theorem sameRels_not2 {x y : Inst} (h : instOk y = false) : sameRels x y = false := by unfold sameRels; rw [h]; simp
theorem sameRels_not3 {x y : Inst} (h : decide (x.rels = y.rels) = false) : sameRels x y = false := by unfold sameRels; rw [h]; simp
theorem sameRels_yes {x y : Inst} (h1 : instOk x = true) (h2 : instOk y = true) (h3 : decide (x.rels = y.rels) = true) : sameRels x y = true := by unfold sameRels; rw [h1, h2, h3]; rfl
theorem isHom_not1 {x y : Inst} {s : Sbst} (h : sameRels x y = false) : isHom x y s = false := by unfold isHom; rw [h]; rfl
theorem isHom_not2 {x y : Inst} {s : Sbst} (h : decide (s.nulls = nullsI x.facts) = false) : isHom x y s = false := by unfold isHom; rw [h]; simp
theorem isHom_not3 {x y : Inst} {s : Sbst} (h : subOk s = false) : isHom x y s = false := by unfold isHom; rw [h]; simp
theorem isHom_yes {x y : Inst} {s : Sbst} (h1 : sameRels x y = true) (h2 : decide (s.nulls = nullsI x.facts) = true) (h3 : subOk s = true) : isHom x y s = homFacts s x y := by unfold isHom; rw [h1, h2, h3]; simp
theorem sameRels_parts {x y : Inst} (h : sameRels x y = true) : instOk x = true ∧ instOk y = true ∧ x.rels = y.rels := by
  unfold sameRels at h
  simpa only [Bool.and_eq_true, decide_eq_true_eq] using h
theorem homFacts_iff (s : Sbst) (x y : Inst) : homFacts s x y = true ↔ ∀ f ∈ x.facts, applyF s f ∈ y.facts := by
  unfold homFacts applyFs
  rw [subInst_iff]
  simp
theorem homFacts_put (s : Sbst) (x y : Inst) : subInst ⟨x.rels, putAll (applyFs s x.facts)⟩ y = homFacts s x y := by
  rw [Bool.eq_iff_iff, subInst_iff, homFacts_iff]
  constructor
  · exact fun h f hf => h _ (((putAll_facts _).2 _).2 (List.mem_map.2 ⟨f, hf, rfl⟩))
  · intro h g hg
    obtain ⟨f, hf, rfl⟩ := List.mem_map.1 (((putAll_facts _).2 _).1 hg)
    exact h f hf
def HomTo (s : Sbst) (x y : Inst) (k : Nat) : Prop := ∀ i (h : i < x.facts.length), i < k → 0 ≤ placeF (applyF s x.facts[i]) y.facts
theorem HomTo.zero (s : Sbst) (x y : Inst) : HomTo s x y 0 := fun _ _ h => absurd h (by omega)
theorem HomTo.next {s : Sbst} {x y : Inst} {k : Nat} (h : HomTo s x y k) (hk : k < x.facts.length) (hp : 0 ≤ placeF (applyF s x.facts[k]) y.facts) : HomTo s x y (k + 1) := fun i hi hik => by
  by_cases e : i = k
  · subst e; exact hp
  · exact h i hi (by omega)
theorem homFacts_no {s : Sbst} {x y : Inst} (k : Nat) (hk : k < x.facts.length) (hp : ¬ 0 ≤ placeF (applyF s x.facts[k]) y.facts) : homFacts s x y = false := by
  rw [Bool.eq_false_iff]
  intro h
  exact hp ((placeF_mem _ _).2 ((homFacts_iff s x y).1 h _ (List.getElem_mem hk)))
theorem homFacts_yes {s : Sbst} {x y : Inst} (h : HomTo s x y x.facts.length) : homFacts s x y = true := by
  rw [homFacts_iff]
  intro f hf
  obtain ⟨k, hk, rfl⟩ := List.getElem_of_mem hf
  exact (placeF_mem _ _).1 (h k hk hk)
theorem applyI_hom {s : Sbst} {x y : Inst} (h1 : subOk s = true) (h2 : instOk x = true) : subInst (applyI s x) y = homFacts s x y := by
  rw [(applyI_yes h1 h2).2, homFacts_put]

theorem foldPut_mem (r : List Int) : ∀ (o : List Int) (x : Int), x ∈ r.foldl putI o ↔ x ∈ o ∨ x ∈ r := by
  induction r with
  | nil => intro o x; simp
  | cons a t ih =>
    intro o x
    rw [List.foldl_cons, ih, putI_mem, List.mem_cons]
    constructor
    · rintro ((h | h) | h)
      · exact .inr (.inl h)
      · exact .inl h
      · exact .inr (.inr h)
    · rintro (h | h | h)
      · exact .inl (.inr h)
      · exact .inl (.inl h)
      · exact .inr h
theorem nullsI_mem (l : List Fct) (x : Int) : x ∈ nullsI l ↔ ∃ f ∈ l, x ∈ nullsOf f.vals := by
  have key : ∀ (l : List Fct) (o : List Int), x ∈ l.foldl addNulls o ↔ x ∈ o ∨ ∃ f ∈ l, x ∈ nullsOf f.vals := by
    intro l
    induction l with
    | nil => intro o; simp
    | cons a t ih =>
      intro o
      rw [List.foldl_cons, ih]
      unfold addNulls
      rw [foldPut_mem]
      simp only [List.mem_cons, exists_eq_or_imp, or_assoc]
  unfold nullsI
  rw [key]
  simp
theorem applyV_const (s : Sbst) {v : Int} (h : 0 ≤ v) : applyV s v = v := applyV_notNull (by rw [nullNum_no v (by omega)])
theorem applyF_const (s : Sbst) {f : Fct} (h : ∀ v ∈ f.vals, 0 ≤ v) : applyF s f = f := by
  cases f with
  | mk r vs =>
    simp only [applyF, Fct.mk.injEq, true_and]
    exact (List.map_congr_left fun v hv => applyV_const s (h v hv)).trans (List.map_id' vs)
theorem nullsOf_none {vs : List Int} (hv : vs.all validV = true) (h : (nullsOf vs).length = 0) : ∀ v ∈ vs, 0 ≤ v := by
  have h1 := negAny_nulls hv
  rw [decide_eq_false (by omega)] at h1
  intro v hm
  by_cases h0 : 0 ≤ v
  · exact h0
  · exfalso
    have : negAny vs = true := by
      unfold negAny
      rw [List.any_eq_true]
      exact ⟨v, hm, by simpa using (show v < 0 by omega)⟩
    rw [h1] at this
    cases this
theorem factOk_vals {l : List Rel} {r : Int} {vs : List Int} (h : factOk l r vs = true) : vs.all validV = true := by
  unfold factOk at h
  simp only [Bool.and_eq_true] at h
  exact h.2.2.2
theorem factOk_apply {s : Sbst} {l : List Rel} {f : Fct} (h : factOk l f.rel f.vals = true) : factOk l (applyF s f).rel (applyF s f).vals = true := by
  have hv := factOk_vals h
  unfold factOk at h ⊢
  simp only [Bool.and_eq_true, decide_eq_true_eq] at h ⊢
  refine ⟨h.1, h.2.1, by simpa [applyF] using h.2.2.1, ?_⟩
  rw [List.all_eq_true] at hv ⊢
  intro v hm
  obtain ⟨u, hu, rfl⟩ := List.mem_map.1 hm
  exact applyV_valid (hv u hu)
theorem srcNull_apply {s : Sbst} {l : List Rel} {f : Fct} (h : factOk l f.rel f.vals = true) (hs : srcNull l f = false) : srcNull l (applyF s f) = false := by
  cases hb : (l.getD f.rel.toNat zeroRel).source with
  | false => unfold srcNull; rw [show (applyF s f).rel = f.rel from rfl, hb]; rfl
  | true =>
    have h0 : (nullsOf f.vals).length = 0 := by
      unfold srcNull at hs
      rw [hb, Bool.true_and] at hs
      have := of_decide_eq_false hs
      omega
    rw [applyF_const s (nullsOf_none (factOk_vals h) h0)]
    exact hs
theorem instOk_apply {s : Sbst} {x : Inst} (h1 : subOk s = true) (h2 : instOk x = true) : instOk (applyI s x) = true := by
  rw [(applyI_yes h1 h2).2]
  obtain ⟨hf, _, hr, hl⟩ := (instOk_iff x).1 h2
  refine (instOk_iff _).2 ⟨fun g hg => ?_, (putAll_facts _).1, hr, ?_⟩
  · obtain ⟨f, hfm, rfl⟩ := List.mem_map.1 (((putAll_facts _).2 g).1 hg)
    exact ⟨factOk_apply (hf f hfm).1, srcNull_apply (hf f hfm).1 (hf f hfm).2⟩
  · have := putAll_le (applyFs s x.facts)
    have e : (applyFs s x.facts).length = x.facts.length := by unfold applyFs; simp
    show (putAll (applyFs s x.facts)).length ≤ 30
    omega
theorem applyI_len {s : Sbst} {x : Inst} (h1 : subOk s = true) (h2 : instOk x = true) : (applyI s x).facts.length ≤ x.facts.length := by
  rw [(applyI_yes h1 h2).2]
  have := putAll_le (applyFs s x.facts)
  have e : (applyFs s x.facts).length = x.facts.length := by unfold applyFs; simp
  show (putAll (applyFs s x.facts)).length ≤ _
  omega
theorem applyI_mem {s : Sbst} {x : Inst} (h1 : subOk s = true) (h2 : instOk x = true) (g : Fct) : g ∈ (applyI s x).facts ↔ ∃ f ∈ x.facts, applyF s f = g := by
  rw [(applyI_yes h1 h2).2]
  exact ((putAll_facts _).2 g).trans List.mem_map
theorem applyI_asc {s : Sbst} {x : Inst} (h1 : subOk s = true) (h2 : instOk x = true) : AscF (applyI s x).facts := by
  rw [(applyI_yes h1 h2).2]
  exact (putAll_facts _).1
theorem applyI_rels {s : Sbst} {x : Inst} (h1 : subOk s = true) (h2 : instOk x = true) : (applyI s x).rels = x.rels := by rw [(applyI_yes h1 h2).2]
theorem Inst.ext2 {x y : Inst} (h1 : x.rels = y.rels) (h2 : x.facts = y.facts) : x = y := by
  cases x; cases y; simp only at h1 h2; subst h1 h2; rfl
theorem comp_parts {a b : Sbst} (h : composeOk a b = true) : subOk a = true ∧ subOk b = true := by
  unfold composeOk at h; simpa only [Bool.and_eq_true] using h
theorem comp_form {a b : Sbst} (h : composeOk a b = true) : ∃ K : Nat, K = 40 ∧ (composeS a b).nulls = compN a.nulls b.nulls K ∧ (composeS a b).vals = (compN a.nulls b.nulls K).map (compV a b) :=
  ⟨40, rfl, by rw [composeS_yes h], by rw [composeS_yes h]⟩
theorem comp_in {a b : Sbst} (h : composeOk a b = true) (k : Int) : k ∈ (composeS a b).nulls ↔ k ∈ a.nulls ∨ k ∈ b.nulls := by
  obtain ⟨h1, h2⟩ := comp_parts h
  obtain ⟨K, hK, hn, -⟩ := comp_form h
  rw [hn]
  refine (compN_mem _ _ _ _).trans ⟨fun h => h.2, fun h => ⟨?_, h⟩⟩
  rcases h with h | h
  · have := subOk_mem h1 k h; exact ⟨this.1, by omega⟩
  · have := subOk_mem h2 k h; exact ⟨this.1, by omega⟩
theorem comp_ok {a b : Sbst} (h : composeOk a b = true) : subOk (composeS a b) = true := by
  have hm := comp_in h
  obtain ⟨h1, h2⟩ := comp_parts h
  obtain ⟨K, hK, hn, he⟩ := comp_form h
  have hl : (composeS a b).nulls.length = (composeS a b).vals.length := by rw [hn, he, List.length_map]
  have ha : (composeS a b).nulls.Pairwise (· < ·) := by rw [hn]; exact compN_asc _ _ _
  have hbm : ∀ k ∈ (composeS a b).nulls, inB k 0 39 = true := fun k hk => by
    have hk3 : 0 ≤ k ∧ k ≤ 39 := by
      rcases (hm k).1 hk with hk | hk
      · exact subOk_mem h1 k hk
      · exact subOk_mem h2 k hk
    unfold inB; exact decide_eq_true hk3
  have hvm : ∀ v ∈ (composeS a b).vals, validV v = true := by
    intro v hv
    rw [he] at hv
    obtain ⟨k, hk, rfl⟩ := List.mem_map.1 hv
    have hk1 := ((compN_mem _ _ _ _).1 hk).1
    have hk2 : validV (-1 - k) = true := by
      unfold validV
      exact decide_eq_true (by omega)
    unfold compV
    exact applyV_valid (applyV_valid hk2)
  clear hn he hm
  generalize composeS a b = S at *
  refine subOk_yes hl fun i hi => ?_
  cases i with
  | zero => exact subElem_yes0 hi (by omega) (hbm _ (List.getElem_mem hi)) (hvm _ (List.getElem_mem (by omega)))
  | succ i => exact subElem_yes hi (by omega) (hbm _ (List.getElem_mem hi)) (List.pairwise_iff_getElem.1 ha i (i + 1) (by omega) hi (by omega)) (hvm _ (List.getElem_mem (by omega)))
theorem comp_apply {a b : Sbst} (h : composeOk a b = true) (v : Int) : applyV (composeS a b) v = applyV b (applyV a v) := by
  have hm := comp_in h
  have ho := comp_ok h
  obtain ⟨K, hK, hn, he⟩ := comp_form h
  have hmap : (composeS a b).vals = (composeS a b).nulls.map (compV a b) := by rw [he, hn]
  clear hn he
  generalize composeS a b = S at *
  by_cases hk : (-1 - v) ∈ S.nulls
  · obtain ⟨hi, he⟩ := applyV_find ho (v := v) rfl hk
    rw [he]
    obtain ⟨hi2, he2⟩ := count_at _ (subOk_parts ho).asc _ hk
    have : S.vals[S.nulls.countP (· < -1 - v)] = compV a b (S.nulls[S.nulls.countP (· < -1 - v)]) := by
      simp only [hmap, List.getElem_map]
    rw [this, he2]
    unfold compV
    rw [show -1 - (-1 - v) = v by omega]
  · rw [applyV_lost rfl hk]
    have hka : (-1 - v) ∉ a.nulls := fun e => hk ((hm _).2 (.inl e))
    have hkb : (-1 - v) ∉ b.nulls := fun e => hk ((hm _).2 (.inr e))
    rw [applyV_lost rfl hka, applyV_lost rfl hkb]
theorem comp_applyF {a b : Sbst} (h : composeOk a b = true) (f : Fct) : applyF (composeS a b) f = applyF b (applyF a f) := by
  simp only [applyF, List.map_map, Fct.mk.injEq, true_and]
  exact List.map_congr_left fun v _ => comp_apply h v
/-- a composition applied is both applied in turn -/
theorem comp_applyI {a b : Sbst} (h : composeOk a b = true) {x : Inst} (hx : instOk x = true) : applyI b (applyI a x) = applyI (composeS a b) x := by
  obtain ⟨h1, h2⟩ := comp_parts h
  have ho := comp_ok h
  have hy := instOk_apply h1 hx
  refine Inst.ext2 ?_ (asc_eqF _ _ (applyI_asc h2 hy) (applyI_asc ho hx) fun g => ?_)
  · rw [applyI_rels h2 hy, applyI_rels h1 hx, applyI_rels ho hx]
  · rw [applyI_mem h2 hy, applyI_mem ho hx]
    constructor
    · rintro ⟨f, hf, rfl⟩
      obtain ⟨f0, hf0, rfl⟩ := (applyI_mem h1 hx f).1 hf
      exact ⟨f0, hf0, comp_applyF h f0⟩
    · rintro ⟨f, hf, rfl⟩
      exact ⟨applyF a f, (applyI_mem h1 hx _).2 ⟨f, hf, rfl⟩, (comp_applyF h f).symm⟩
theorem subOk_nil : subOk ⟨[], []⟩ = true := rfl
theorem applyF_nil (f : Fct) : applyF ⟨[], []⟩ f = f := by
  cases f with
  | mk r vs =>
    simp only [applyF, Fct.mk.injEq, true_and]
    exact (List.map_congr_left fun v _ => applyV_lost (x := ⟨[], []⟩) rfl (by simp)).trans (List.map_id' vs)
theorem applyI_nil {x : Inst} (hx : instOk x = true) : applyI ⟨[], []⟩ x = x := by
  refine Inst.ext2 (applyI_rels subOk_nil hx) (asc_eqF _ _ (applyI_asc subOk_nil hx) ((instOk_iff x).1 hx).2.1 fun g => ?_)
  rw [applyI_mem subOk_nil hx]
  constructor
  · rintro ⟨f, hf, rfl⟩; rw [applyF_nil]; exact hf
  · intro hg; exact ⟨g, hg, applyF_nil g⟩
/-- an instance without nulls is mapped into what any substitution makes of it, by the empty one -/
theorem isHom_none {s : Sbst} {x : Inst} (h1 : subOk s = true) (h2 : instOk x = true) (h3 : (nullsI x.facts).length = 0) : isHom x (applyI s x) ⟨[], []⟩ = true := by
  have h4 : nullsI x.facts = [] := List.eq_nil_of_length_eq_zero h3
  have hs : sameRels x (applyI s x) = true := sameRels_yes h2 (instOk_apply h1 h2) (decide_eq_true (applyI_rels h1 h2).symm)
  rw [isHom_yes hs (decide_eq_true h4.symm) subOk_nil, homFacts_iff]
  intro f hf
  rw [applyF_nil, applyI_mem h1 h2]
  refine ⟨f, hf, applyF_const s (nullsOf_none (factOk_vals (instOk_fact h2 f hf)) ?_)⟩
  rcases Nat.eq_zero_or_pos (nullsOf f.vals).length with h | h
  · exact h
  · exfalso
    have := (nullsI_mem x.facts (nullsOf f.vals)[0]).2 ⟨f, hf, List.getElem_mem h⟩
    rw [h4] at this
    cases this

end Go.Proofs.YtmecdjincmkofaaGreatDoor
