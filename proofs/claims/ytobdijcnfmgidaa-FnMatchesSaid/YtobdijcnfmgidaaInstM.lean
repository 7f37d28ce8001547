/-
  Walks and plain lemmas for the laws of this seat: what single Go functions return, for every argument.
-/
import Derived.Test.YtobdijcnfmgidaaInts
import Derived.Test.YtobdijcnfmgidaaDrawR
import Derived.Test.YtobdijcnfmgidaaTyInst
import Derived.Test.YtobdijcnfmgidaaMInst
import Derived.Test.YtobdijcnfmgidaaTyAtom
import Derived.Test.YtobdijcnfmgidaaMatM
import Derived.Test.YtobdijcnfmgidaaMatK
namespace Go.Proofs.Ytobdijcnfmgidaa
open Go.RowKit

/-- a term's value under a binding, if it has a valid one -/
def instT (b : List Int) (t : Int) : Option Int :=
  if 0 ≤ t then (if h : t.toNat < b.length then (if validV b[t.toNat] = true then some b[t.toNat] else none) else none) else if validV (-1 - t) = true then some (-1 - t) else none
def instL (b : List Int) : List Int → Option (List Int)
  | [] => some []
  | t :: r => match instT b t with
    | some v => (instL b r).map (v :: ·)
    | none => none
theorem instL_snoc {b : List Int} (a : List Int) (t : Int) (l : List Int) (v : Int) (h : instL b a = some l) (ht : instT b t = some v) : instL b (a ++ [t]) = some (l ++ [v]) := by
  induction a generalizing l with
  | nil => simp [instL] at h; subst h; simp [instL, ht]
  | cons y q ih =>
    rw [instL] at h
    rw [List.cons_append, instL]
    split at h
    · rename_i z hz
      cases hq : instL b q with
      | none => rw [hq] at h; cases h
      | some m =>
        rw [hq] at h
        cases h
        rw [ih m hq]; rfl
    · cases h
theorem instL_none {b : List Int} (a c : List Int) (t : Int) (h : instT b t = none) : instL b (a ++ t :: c) = none := by
  induction a with
  | nil => simp [instL, h]
  | cons x r ih =>
    rw [List.cons_append, instL, ih]
    split <;> rfl
theorem instL_len {b : List Int} (a l : List Int) (h : instL b a = some l) : l.length = a.length := by
  induction a generalizing l with
  | nil => simp [instL] at h; subst h; rfl
  | cons y q ih =>
    rw [instL] at h
    split at h
    · rename_i z hz
      cases hq : instL b q with
      | none => rw [hq] at h; cases h
      | some m =>
        rw [hq] at h
        cases h
        simp [ih m hq]
    · cases h
def Instantiate_r0 (a : Atm) (b : List Int) : Fct := match instL b a.vals with
  | some vs => ⟨a.rel, vs⟩
  | none => ⟨0, []⟩
def Instantiate_ok (a : Atm) (b : List Int) : Bool := (instL b a.vals).isSome
theorem inst_no {a : Atm} {b : List Int} (h : instL b a.vals = none) : Instantiate_r0 a b = ⟨0, []⟩ ∧ Instantiate_ok a b = false := by unfold Instantiate_r0 Instantiate_ok; rw [h]; exact ⟨rfl, rfl⟩
theorem inst_yes {a : Atm} {b vs : List Int} (h : instL b a.vals = some vs) : Instantiate_r0 a b = ⟨a.rel, vs⟩ ∧ Instantiate_ok a b = true := by unfold Instantiate_r0 Instantiate_ok; rw [h]; exact ⟨rfl, rfl⟩
theorem instL_stop {a : Atm} {b : List Int} (k : Nat) (hk : k < a.vals.length) (h : instT b a.vals[k] = none) : instL b a.vals = none := by
  have e : a.vals = a.vals.take k ++ a.vals[k] :: a.vals.drop (k + 1) := by rw [← List.drop_eq_getElem_cons hk, List.take_append_drop]
  rw [e]; exact instL_none _ _ _ h
/-- a fact's box while an atom is instantiated: the first k terms are done -/
def InstInv (a : Atm) (b : List Int) (g : Nat) (W : World) (kv : Value) (wq : World) : Prop :=
  ∃ (k : Nat) (V : Value) (vs : List Int), k ≤ a.vals.length ∧ kv = .int .i64 k ∧ Hid (instL b (a.vals.take k) = some vs) ∧ wq.cell? ⟨g, 0, none⟩ = some (.int .i64 a.rel) ∧ wq.cell? ⟨g, 1, none⟩ = some V ∧ (∀ o, wq.frozen? ⟨g, o, none⟩ = false) ∧ OwnInts (g + 1) V vs wq ∧ Hid (Chg (fun q => q = g) W wq)
theorem InstInv.mk' {a : Atm} {b : List Int} {g : Nat} {W : World} {kv : Value} {wq : World} (k : Nat) (V : Value) (vs : List Int) (h1 : k ≤ a.vals.length) (h2 : kv = .int .i64 k) (h3 : instL b (a.vals.take k) = some vs) (h4 : wq.cell? ⟨g, 0, none⟩ = some (.int .i64 a.rel)) (h5 : wq.cell? ⟨g, 1, none⟩ = some V) (h6 : ∀ o, wq.frozen? ⟨g, o, none⟩ = false) (h7 : OwnInts (g + 1) V vs wq) (h8 : Chg (fun q => q = g) W wq) : InstInv a b g W kv wq :=
  ⟨k, V, vs, h1, h2, Lib.hid h3, h4, h5, h6, h7, Lib.hid h8⟩
theorem instL_next {a : Atm} {b vs : List Int} {v : Int} (k : Nat) (hk : k < a.vals.length) (h : instL b (a.vals.take k) = some vs) (ht : instT b a.vals[k] = some v) : instL b (a.vals.take (k + 1)) = some (vs ++ [v]) := by
  rw [List.take_succ_eq_append_getElem hk]; exact instL_snoc _ _ _ _ h ht

/-- a term's value under a binding -/
def fillT (b : List Int) (t : Int) : Int := if t < 0 then -1 - t else b.getD t.toNat 0
/-- c binds all that b binds, and so -/
def extB (b c : List Int) : Prop := c.length = b.length ∧ ∀ i, b.getD i 0 ≠ 10 → c.getD i 0 = b.getD i 0
theorem extB.refl (b : List Int) : extB b b := ⟨rfl, fun _ _ => rfl⟩
theorem extB.trans {a b c : List Int} (h : extB a b) (h' : extB b c) : extB a c := ⟨h'.1.trans h.1, fun i hi => by
  have e := h.2 i hi
  rw [h'.2 i (by rw [e]; exact hi), e]⟩
theorem getD_set (b : List Int) (i j : Nat) (v : Int) : (b.set i v).getD j 0 = if i = j ∧ i < b.length then v else b.getD j 0 := by
  simp only [List.getD_eq_getElem?_getD, List.getElem?_set]
  by_cases h : i = j
  · subst h
    by_cases h2 : i < b.length
    · simp [h2]
    · simp [h2]
  · simp [h]
theorem fillT_ext {b c : List Int} {t : Int} (h : extB b c) (h1 : fillT b t ≠ 10) : fillT c t = fillT b t := by
  unfold fillT at h1 ⊢
  by_cases ht : t < 0
  · rw [if_pos ht, if_pos ht]
  · rw [if_neg ht] at h1
    rw [if_neg ht, if_neg ht]; exact h.2 _ h1
theorem fitL_fill (ts vs b : List Int) (hlen : ts.length = vs.length) (hv : ∀ v ∈ vs, v ≠ 10) (ht : ∀ t ∈ ts, t.toNat < b.length) (h : (fitL ts vs b).2 = true) :
    extB b (fitL ts vs b).1 ∧ ts.map (fillT (fitL ts vs b).1) = vs ∧ ∀ i, (∀ t ∈ ts, 0 ≤ t → t.toNat ≠ i) → (fitL ts vs b).1.getD i 0 = b.getD i 0 := by
  induction ts generalizing vs b with
  | nil =>
    cases vs with
    | nil => rw [fitL]; exact ⟨extB.refl b, rfl, fun _ _ => rfl⟩; intro _ _ _ _ h; cases h
    | cons => simp at hlen
  | cons t ts ih =>
    cases vs with
    | nil => simp at hlen
    | cons v vs =>
      have hv0 := hv v (by simp)
      have hvs : ∀ v ∈ vs, v ≠ 10 := fun v hv' => hv v (by simp [hv'])
      have hl : ts.length = vs.length := by simpa using hlen
      have ht0 := ht t (by simp)
      have hts : ∀ t ∈ ts, t.toNat < b.length := fun t h' => ht t (by simp [h'])
      rw [fitL] at h ⊢
      by_cases h1 : t < 0
      · rw [if_pos h1] at h ⊢
        by_cases h2 : -1 - t = v
        · rw [if_pos h2] at h ⊢
          obtain ⟨g1, g2, g3⟩ := ih vs b hl hvs hts h
          refine ⟨g1, ?_, fun i hi => g3 i fun t ht => hi t (by simp [ht])⟩
          rw [List.map_cons, g2]
          unfold fillT; rw [if_pos h1, h2]
        · rw [if_neg h2] at h; cases h
      · rw [if_neg h1] at h ⊢
        by_cases h2 : b.getD t.toNat 0 = 10 ∨ b.getD t.toNat 0 = v
        · rw [if_pos h2] at h ⊢
          obtain ⟨g1, g2, g3⟩ := ih vs (b.set t.toNat v) hl hvs (by simpa using hts) h
          have hb1 : (b.set t.toNat v).getD t.toNat 0 = v := by rw [getD_set, if_pos ⟨rfl, ht0⟩]
          refine ⟨extB.trans ⟨by simp, fun i hi => ?_⟩ g1, ?_, fun i hi => ?_⟩
          · rw [getD_set]
            split
            · rename_i e
              obtain ⟨e, _⟩ := e
              subst e
              exact (h2.resolve_left hi).symm
            · rfl
          · rw [List.map_cons, g2]
            congr 1
            unfold fillT
            rw [if_neg h1, g1.2 _ (by rw [hb1]; exact hv0), hb1]
          · rw [g3 i fun t ht => hi t (by simp [ht]), getD_set, if_neg (fun e => hi t (by simp) (by omega) e.1)]
        · rw [if_neg h2] at h; cases h
theorem fitL_conv (ts vs b c : List Int) (hv : ∀ v ∈ vs, v ≠ 10) (he : extB b c) (h : ts.map (fillT c) = vs) : (fitL ts vs b).2 = true ∧ extB (fitL ts vs b).1 c := by
  induction ts generalizing vs b with
  | nil =>
    subst h
    rw [List.map_nil, fitL]
    · exact ⟨rfl, he⟩
    · intro _ _ _ _ h; cases h
  | cons t ts ih =>
    subst h
    rw [List.map_cons, fitL]
    rw [List.map_cons] at hv
    have hv0 := hv _ List.mem_cons_self
    have hvs : ∀ v ∈ ts.map (fillT c), v ≠ 10 := fun v hv' => hv v (List.mem_cons_of_mem _ hv')
    by_cases h1 : t < 0
    · rw [if_pos h1, if_pos (by unfold fillT; rw [if_pos h1])]
      exact ih _ _ hvs he rfl
    · have e : fillT c t = c.getD t.toNat 0 := by unfold fillT; rw [if_neg h1]
      have h2 : b.getD t.toNat 0 = 10 ∨ b.getD t.toNat 0 = fillT c t := by
        by_cases h3 : b.getD t.toNat 0 = 10
        · exact .inl h3
        · exact .inr (by rw [e, he.2 _ h3])
      rw [if_neg h1, if_pos h2]
      refine ih _ _ hvs ⟨by rw [List.length_set]; exact he.1, fun i hi => ?_⟩ rfl
      rw [getD_set] at hi ⊢
      split
      · rename_i e2
        obtain ⟨e2, _⟩ := e2
        subst e2
        exact e.symm
      · rename_i e2
        rw [if_neg e2] at hi
        exact he.2 i hi
theorem fitA_fill (a : Atm) (f : Fct) (b : List Int) (hv : ∀ v ∈ f.vals, v ≠ 10) (ht : ∀ t ∈ a.vals, t.toNat < b.length) (h : (fitA a f b).2 = true) :
    a.rel = f.rel ∧ extB b (fitA a f b).1 ∧ a.vals.map (fillT (fitA a f b).1) = f.vals ∧ ∀ i, (∀ t ∈ a.vals, 0 ≤ t → t.toNat ≠ i) → (fitA a f b).1.getD i 0 = b.getD i 0 := by
  by_cases hc : a.rel = f.rel ∧ a.vals.length = f.vals.length
  · rw [fitA_yes hc.1 hc.2] at h ⊢
    exact ⟨hc.1, fitL_fill _ _ _ hc.2 hv ht h⟩
  · rw [fitA_no hc] at h; cases h
theorem fitA_conv (a : Atm) (f : Fct) (b c : List Int) (hv : ∀ v ∈ f.vals, v ≠ 10) (he : extB b c) (hr : a.rel = f.rel) (h : a.vals.map (fillT c) = f.vals) : (fitA a f b).2 = true ∧ extB (fitA a f b).1 c := by
  have hl : a.vals.length = f.vals.length := by rw [← h, List.length_map]
  rw [fitA_yes hr hl]
  exact fitL_conv _ _ _ _ hv he h
/-- what the walk finds, told without a walk -/
theorem walkM_mem (fs : List Fct) (hfs : ∀ f ∈ fs, ∀ v ∈ f.vals, v ≠ 10) (l : List Atm) (b c : List Int) (hl : ∀ a ∈ l, ∀ t ∈ a.vals, t.toNat < b.length) :
    c ∈ walkM fs l b ↔ extB b c ∧ (∀ a ∈ l, ∃ f ∈ fs, a.rel = f.rel ∧ a.vals.map (fillT c) = f.vals) ∧ ∀ i, (∀ a ∈ l, ∀ t ∈ a.vals, 0 ≤ t → t.toNat ≠ i) → c.getD i 0 = b.getD i 0 := by
  induction l generalizing b with
  | nil =>
    unfold walkM
    rw [List.mem_singleton]
    constructor
    · rintro rfl
      exact ⟨extB.refl _, by simp, fun _ _ => rfl⟩
    · rintro ⟨h1, _, h3⟩
      refine List.ext_getElem h1.1 fun i hi hi' => ?_
      have := h3 i (by simp)
      simpa [List.getD, hi, hi'] using this
  | cons a r ih =>
    have hla : ∀ t ∈ a.vals, t.toNat < b.length := hl a (by simp)
    rw [walkM_cons, List.mem_flatMap]
    constructor
    · rintro ⟨f, hf, hc⟩
      unfold walkF at hc
      split at hc
      · rename_i h2
        obtain ⟨g1, g2, g3, g4⟩ := fitA_fill a f b (hfs f hf) hla h2
        obtain ⟨k1, k2, k3⟩ := (ih (fitA a f b).1 (fun a' ha' t ht => by rw [fitA_len]; exact hl a' (by simp [ha']) t ht)).1 hc
        refine ⟨g2.trans k1, fun a' ha' => ?_, fun i hi => ?_⟩
        · rcases List.mem_cons.1 ha' with rfl | h'
          · refine ⟨f, hf, g1, ?_⟩
            rw [← g3]
            refine List.map_congr_left fun t ht => fillT_ext k1 ?_
            have : fillT (fitA a' f b).1 t ∈ f.vals := by rw [← g3]; exact List.mem_map_of_mem ht
            exact hfs f hf _ this
          · exact k2 a' h'
        · rw [k3 i fun a' ha' => hi a' (by simp [ha']), g4 i (hi a (by simp))]
      · cases hc
    · rintro ⟨h1, h2, h3⟩
      obtain ⟨f, hf, e1, e2⟩ := h2 a (by simp)
      obtain ⟨g1, g2⟩ := fitA_conv a f b c (hfs f hf) h1 e1 e2
      refine ⟨f, hf, ?_⟩
      unfold walkF
      rw [if_pos g1]
      refine (ih (fitA a f b).1 (fun a' ha' t ht => by rw [fitA_len]; exact hl a' (by simp [ha']) t ht)).2 ⟨g2, fun a' ha' => h2 a' (by simp [ha']), fun i hi => ?_⟩
      obtain ⟨k1, k2, k3, k4⟩ := fitA_fill a f b (hfs f hf) hla g1
      by_cases hs : (fitA a f b).1.getD i 0 = 10
      · have hn : ∀ t ∈ a.vals, 0 ≤ t → t.toNat ≠ i := fun t ht h0 e => by
          subst e
          have h5 : fillT (fitA a f b).1 t ∈ f.vals := by rw [← k3]; exact List.mem_map_of_mem ht
          have h6 : fillT (fitA a f b).1 t = (fitA a f b).1.getD t.toNat 0 := by unfold fillT; rw [if_neg (by omega)]
          exact hfs f hf _ h5 (by rw [h6, hs])
        rw [k4 i hn]
        refine h3 i fun a' ha' => ?_
        rcases List.mem_cons.1 ha' with rfl | h'
        · exact hn
        · exact hi a' h'
      · exact g2.2 i hs
theorem walkM_nodup (fs : List Fct) (hfs : ∀ f ∈ fs, ∀ v ∈ f.vals, v ≠ 10) (hn : fs.Nodup) (l : List Atm) (b : List Int) (hl : ∀ a ∈ l, ∀ t ∈ a.vals, t.toNat < b.length) : (walkM fs l b).Nodup := by
  induction l generalizing b with
  | nil => simp [walkM]
  | cons a r ih =>
    rw [walkM_cons]
    have hla : ∀ t ∈ a.vals, t.toNat < b.length := hl a (by simp)
    have hr (f : Fct) : ∀ a' ∈ r, ∀ t ∈ a'.vals, t.toNat < (fitA a f b).1.length := fun a' ha' t ht => by rw [fitA_len]; exact hl a' (by simp [ha']) t ht
    have key (f : Fct) (hf : f ∈ fs) (c : List Int) (hc : c ∈ walkF fs a r b f) : a.rel = f.rel ∧ a.vals.map (fillT c) = f.vals := by
      unfold walkF at hc
      split at hc
      · rename_i h2
        obtain ⟨g1, g2, g3, g4⟩ := fitA_fill a f b (hfs f hf) hla h2
        obtain ⟨k1, -, -⟩ := (walkM_mem fs hfs r _ c (hr f)).1 hc
        refine ⟨g1, ?_⟩
        rw [← g3]
        refine List.map_congr_left fun t ht => fillT_ext k1 ?_
        have : fillT (fitA a f b).1 t ∈ f.vals := by rw [← g3]; exact List.mem_map_of_mem ht
        exact hfs f hf _ this
      · cases hc
    refine List.pairwise_flatMap.2 ⟨fun f hf => ?_, ?_⟩
    · unfold walkF
      split
      · exact ih _ (hr f)
      · exact List.nodup_nil
    · refine List.Pairwise.imp_of_mem (fun {f g} hf hg hne => ?_) hn
      rintro c hc _ hd rfl
      obtain ⟨e1, e2⟩ := key f hf c hc
      obtain ⟨e3, e4⟩ := key g hg c hd
      refine hne ?_
      cases f; cases g
      simp only at e1 e2 e3 e4
      rw [← e1, ← e2, ← e3, ← e4]

theorem dedupR_nodup (l : List (List Int)) (h : l.Nodup) : dedupR id l = l := by
  suffices hs : ∀ (l acc : List (List Int)), (acc ++ l).Nodup → l.foldl (addRow id) acc = acc ++ l by
    have := hs l [] (by simpa using h)
    simpa [dedupR] using this
  intro l
  induction l with
  | nil => intro acc _; simp
  | cons p t ih =>
    intro acc hn
    rw [List.foldl_cons]
    have hp : p ∉ acc := fun hm => (List.nodup_append.1 hn).2.2 p hm p (by simp) rfl
    have e : addRow id acc p = acc ++ [p] := by
      unfold addRow
      rw [if_neg]
      rw [List.any_eq_true]
      rintro ⟨q, hq, h2⟩
      have h3 : cmpInts q p = 0 := by simpa using h2
      rw [cmpInts_zero] at h3
      exact hp (h3 ▸ hq)
    rw [e, ih _ (by simpa using hn)]
    simp
theorem instOk_nodup {x : Inst} (h : instOk x = true) : x.facts.Nodup := by
  refine ((instOk_iff x).1 h).2.1.imp fun {a b} hab e => ?_
  subst e
  rw [cmpF_self] at hab; omega
theorem validV_ne {v : Int} (h : validV v = true) : v ≠ 10 := by
  unfold validV at h
  have := of_decide_eq_true h
  omega
theorem instOk_val {x : Inst} (h : instOk x = true) : ∀ f ∈ x.facts, ∀ v ∈ f.vals, validV v = true := by
  intro f hf v hv
  obtain ⟨k, hk, rfl⟩ := List.getElem_of_mem hv
  exact (factOk_parts (((instOk_iff x).1 h).1 f hf).1).2.2.2 k hk
theorem okM_at {x : Inst} {l : List Atm} (h : okM x l = true) : ∀ a ∈ l, atomOk x.rels a.rel a.vals = true := by
  unfold okM at h
  simp only [Bool.and_eq_true, List.all_eq_true] at h
  exact h.1
theorem okM_inst {x : Inst} {l : List Atm} (h : okM x l = true) : instOk x = true := by
  unfold okM at h
  simp only [Bool.and_eq_true] at h
  exact h.2.1
theorem atomOk_t {l : List Rel} {a : Atm} (h : atomOk l a.rel a.vals = true) : ∀ t ∈ a.vals, -10 ≤ t ∧ t.toNat < 5 := by
  intro t ht
  obtain ⟨k, hk, rfl⟩ := List.getElem_of_mem ht
  have h1 := (atomOk_parts h).2.2.2 k hk
  unfold validT inB at h1
  have := of_decide_eq_true h1
  omega
/-- a valid instance's walk finds nothing twice -/
theorem find_walk {x : Inst} {l : List Atm} (h : okM x l = true) : FindMatches_r0 x l = walkM x.facts l blank5 := by
  rw [find_yes h]
  exact dedupR_nodup _ (walkM_nodup x.facts (fun f hf v hv => validV_ne (instOk_val (okM_inst h) f hf v hv)) (instOk_nodup (okM_inst h)) l blank5 (fun a ha t ht => (atomOk_t (okM_at h a ha) t ht).2))
theorem blank5_get (i : Nat) : blank5.getD i 0 = if i < 5 then 10 else 0 := by
  unfold blank5
  rw [List.getD_eq_getElem?_getD, List.getElem?_replicate]
  split <;> rfl

theorem instT_eq {b : List Int} {t : Int} (h : t < b.length) : instT b t = if validV (fillT b t) = true then some (fillT b t) else none := by
  unfold instT fillT
  by_cases h1 : 0 ≤ t
  · have h2 : t.toNat < b.length := by omega
    have h3 : ¬ t < 0 := by omega
    rw [if_pos h1, dif_pos h2, if_neg h3]
    simp [List.getD, h2]
  · have h3 : t < 0 := by omega
    rw [if_neg h1, if_pos h3]
theorem instT_off {b : List Int} {t : Int} (h : ¬ t < b.length) : instT b t = none := by
  unfold instT
  rw [if_pos (by omega), dif_neg (by omega)]
theorem fillT_wf {b : List Int} {t : Int} (hb : IntsWf b) (h0 : -9223372036854775808 ≤ t) (h : t < b.length) : -9223372036854775808 ≤ fillT b t ∧ fillT b t ≤ 9223372036854775807 := by
  unfold fillT
  by_cases h1 : t < 0
  · rw [if_pos h1]; omega
  · rw [if_neg h1]
    have h2 : t.toNat < b.length := by omega
    have := hb t.toNat h2
    rw [show b.getD t.toNat 0 = b[t.toNat] by simp [List.getD, h2]]
    exact this

end Go.Proofs.Ytobdijcnfmgidaa
