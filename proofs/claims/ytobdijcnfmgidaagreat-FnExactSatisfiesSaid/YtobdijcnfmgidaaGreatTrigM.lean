/-
  Walks and plain lemmas for the laws of this seat: what single Go functions return, for every argument.
-/
import Derived.Test.YtobdijcnfmgidaaGreatFact
import Derived.Test.YtobdijcnfmgidaaGreatTySS
import Derived.Test.YtobdijcnfmgidaaGreatMatM
import Derived.Test.YtobdijcnfmgidaaGreatMatK
namespace Go.Proofs.YtobdijcnfmgidaaGreat
open Go.RowKit

/-- a binding binds just these variables -/
def bindsOk (b vars : List Int) : Bool := (List.range b.length).all fun k => decide ((k : Int) ∈ vars) != decide (b.getD k 0 = 10)
/-- the instantiated atom is a fact -/
def instIn (x : Inst) (b : List Int) (a : Atm) : Bool := match instL b a.vals with
  | some vs => decide (0 ≤ placeF ⟨a.rel, vs⟩ x.facts)
  | none => false
def trigOk (x : Inst) (d : Dep) (b : List Int) : Bool := instOk x && (depOk x.rels d && (decide (b.length = 5) && (bindsOk b (varsOf d.body) && d.body.all (instIn x b))))
def activeOk (x : Inst) (d : Dep) (b : List Int) : Bool := trigOk x d b && (if d.egd = true then decide (b.getD d.left.toNat 0 ≠ b.getD d.right.toNat 0) else !hasExt x d.head b)
def ActiveTriggers_r0 (x : Inst) (d : Dep) : List (List Int) := if depOk x.rels d = true then (FindMatches_r0 x d.body).filter (activeOk x d) else []
/-- a dependency holds for a trigger -/
def holdsM (fs : List Fct) (d : Dep) (b : List Int) : Bool := if d.egd = true then decide (b.getD d.left.toNat 0 = b.getD d.right.toNat 0) else decide (0 < (walkM fs d.head b).length)
theorem instT_fill {b : List Int} {t v : Int} (h : instT b t = some v) : v = fillT b t ∧ validV v = true := by
  unfold instT at h
  unfold fillT
  by_cases h1 : 0 ≤ t
  · rw [if_pos h1] at h
    rw [if_neg (by omega)]
    split at h
    · rename_i h2
      split at h
      · rename_i h3
        cases h
        exact ⟨by simp [List.getD, h2], h3⟩
      · cases h
    · cases h
  · rw [if_neg h1] at h
    rw [if_pos (by omega)]
    split at h
    · rename_i h3
      cases h
      exact ⟨rfl, h3⟩
    · cases h
theorem instT_conv {b : List Int} {t : Int} (h1 : t.toNat < b.length) (h2 : validV (fillT b t) = true) : instT b t = some (fillT b t) := by
  rw [instT_eq (by omega), if_pos h2]
theorem instL_fill {b ts vs : List Int} (h : instL b ts = some vs) : vs = ts.map (fillT b) := by
  induction ts generalizing vs with
  | nil => simp [instL] at h; subst h; rfl
  | cons t r ih =>
    rw [instL] at h
    split at h
    · rename_i v hv
      cases hq : instL b r with
      | none => rw [hq] at h; cases h
      | some m =>
        rw [hq] at h
        cases h
        rw [List.map_cons, ← ih hq, ← (instT_fill hv).1]
    · cases h
theorem instL_conv {b ts : List Int} (h1 : ∀ t ∈ ts, t.toNat < b.length) (h2 : ∀ t ∈ ts, validV (fillT b t) = true) : instL b ts = some (ts.map (fillT b)) := by
  induction ts with
  | nil => rfl
  | cons t r ih =>
    rw [instL, instT_conv (h1 t (by simp)) (h2 t (by simp)), ih (fun t ht => h1 t (by simp [ht])) (fun t ht => h2 t (by simp [ht]))]
    rfl
theorem instIn_iff {x : Inst} (hx : instOk x = true) {b : List Int} {a : Atm} (ha : ∀ t ∈ a.vals, t.toNat < b.length) : instIn x b a = true ↔ ∃ f ∈ x.facts, a.rel = f.rel ∧ a.vals.map (fillT b) = f.vals := by
  unfold instIn
  constructor
  · intro h
    split at h
    · rename_i vs hvs
      exact ⟨⟨a.rel, vs⟩, (placeF_mem _ _).1 (of_decide_eq_true h), rfl, (instL_fill hvs).symm⟩
    · cases h
  · rintro ⟨f, hf, h1, h2⟩
    rw [instL_conv ha (fun t ht => instOk_val hx f hf _ (by rw [← h2]; exact List.mem_map_of_mem ht))]
    have e : (⟨a.rel, a.vals.map (fillT b)⟩ : Fct) = f := by cases f; simp only at h1 h2; rw [h1, h2]
    simp only
    rw [e]
    exact decide_eq_true ((placeF_mem _ _).2 hf)
theorem depOk_bodyM {l : List Rel} {d : Dep} (h : depOk l d = true) : d.body.length ≤ 2 ∧ ∀ a ∈ d.body, atomOk l a.rel a.vals = true := by
  unfold depOk at h
  simp only [Bool.and_eq_true, List.all_eq_true] at h
  obtain ⟨h1, h2, _⟩ := h
  unfold inB at h1
  have h1 := of_decide_eq_true h1
  exact ⟨by omega, fun a ha => h2 a ha⟩
theorem depOk_headM {l : List Rel} {d : Dep} (h : depOk l d = true) : d.head.length ≤ 2 ∧ ∀ a ∈ d.head, atomOk l a.rel a.vals = true := by
  unfold depOk at h
  simp only [Bool.and_eq_true] at h
  obtain ⟨_, _, h3⟩ := h
  by_cases hg : d.egd = true
  · rw [if_pos hg] at h3
    simp only [Bool.and_eq_true, beq_iff_eq] at h3
    have h0 : d.head = [] := List.eq_nil_of_length_eq_zero (by have := h3.1; omega)
    rw [h0]; simp
  · rw [if_neg hg] at h3
    simp only [Bool.and_eq_true, List.all_eq_true] at h3
    obtain ⟨h4, h5, _⟩ := h3
    unfold inB at h5
    have h5 := of_decide_eq_true h5
    refine ⟨by omega, fun a ha => ?_⟩
    have := h4 a ha
    unfold headB atomB at this
    rw [Bool.and_eq_true] at this
    exact this.1
theorem depOk_vars {l : List Rel} {d : Dep} (h : depOk l d = true) (hg : d.egd = true) : (0 ≤ d.left ∧ d.left.toNat < 5) ∧ (0 ≤ d.right ∧ d.right.toNat < 5) := by
  have hb := (depOk_bodyM h).2
  have hv : ∀ t ∈ varsOf d.body, 0 ≤ t ∧ t.toNat < 5 := fun t ht => by
    have h1 := (varsOf_mem d.body t).1 ht
    unfold vposOf at h1
    obtain ⟨a, ha, h2⟩ := List.mem_flatMap.1 h1
    unfold posOf at h2
    obtain ⟨h3, h4⟩ := List.mem_filter.1 h2
    exact ⟨of_decide_eq_true h4, (atomOk_t (hb a ha) t h3).2⟩
  unfold depOk at h
  rw [if_pos hg] at h
  simp only [Bool.and_eq_true, decide_eq_true_eq, beq_iff_eq] at h
  obtain ⟨_, _, _, h4, h5, _⟩ := h
  exact ⟨hv _ h4, hv _ h5⟩
theorem okM_body {x : Inst} {d : Dep} (h : depOk x.rels d = true) : okM x d.body = instOk x := by
  unfold okM
  rw [List.all_eq_true.2 (depOk_bodyM h).2, decide_eq_true (by have := (depOk_bodyM h).1; omega)]
  simp
theorem okM_head {x : Inst} {d : Dep} (h : depOk x.rels d = true) : okM x d.head = instOk x := by
  unfold okM
  rw [List.all_eq_true.2 (depOk_headM h).2, decide_eq_true (by have := (depOk_headM h).1; omega)]
  simp
theorem bindsOk_iff {b vars : List Int} : bindsOk b vars = true ↔ ∀ k, k < b.length → ((k : Int) ∈ vars ↔ b.getD k 0 ≠ 10) := by
  unfold bindsOk
  simp only [List.all_eq_true, List.mem_range, bne_iff_ne, ne_eq, decide_eq_decide]
  constructor
  · intro h k hk
    have := h k hk
    by_cases h1 : (k : Int) ∈ vars <;> by_cases h2 : b.getD k 0 = 10 <;> simp_all
  · intro h k hk
    have := h k hk
    by_cases h1 : (k : Int) ∈ vars <;> by_cases h2 : b.getD k 0 = 10 <;> simp_all
theorem var_in {l : List Atm} {a : Atm} (ha : a ∈ l) {t : Int} (ht : t ∈ a.vals) (h0 : 0 ≤ t) : t ∈ varsOf l := by
  rw [varsOf_mem]
  unfold vposOf posOf
  exact List.mem_flatMap.2 ⟨a, ha, List.mem_filter.2 ⟨ht, decide_eq_true h0⟩⟩
theorem var_from {l : List Atm} {t : Int} (h : t ∈ varsOf l) : 0 ≤ t ∧ ∃ a ∈ l, t ∈ a.vals := by
  rw [varsOf_mem] at h
  unfold vposOf posOf at h
  obtain ⟨a, ha, h2⟩ := List.mem_flatMap.1 h
  obtain ⟨h3, h4⟩ := List.mem_filter.1 h2
  exact ⟨of_decide_eq_true h4, a, ha, h3⟩
/-- the program's test of a trigger is the model's -/
theorem trig_is (x : Inst) (d : Dep) (b : List Int) : trigOk x d b = (depOk x.rels d && (bindsOk b (varsOf d.body) && hasExt x d.body b)) := by
  unfold trigOk
  cases hd : depOk x.rels d with
  | false => simp
  | true =>
    cases hb : bindsOk b (varsOf d.body) with
    | false => simp
    | true =>
      unfold hasExt
      rw [okM_body hd]
      cases hx : instOk x with
      | false => simp
      | true =>
        by_cases h5 : b.length = 5
        · rw [decide_eq_true h5]
          simp only [Bool.true_and]
          have ht : ∀ a ∈ d.body, ∀ t ∈ a.vals, t.toNat < b.length := fun a ha t ht => by rw [h5]; exact (atomOk_t ((depOk_bodyM hd).2 a ha) t ht).2
          have hfs : ∀ f ∈ x.facts, ∀ v ∈ f.vals, v ≠ 10 := fun f hf v hv => validV_ne (instOk_val hx f hf v hv)
          have hbd := bindsOk_iff.1 hb
          rw [Bool.eq_iff_iff, List.all_eq_true, decide_eq_true_eq]
          constructor
          · intro h
            have : b ∈ walkM x.facts d.body b := (walkM_mem x.facts hfs d.body b b ht).2 ⟨extB.refl b, fun a ha => (instIn_iff hx (ht a ha)).1 (h a ha), fun _ _ => rfl⟩
            exact List.length_pos_of_mem this
          · intro h a ha
            obtain ⟨c, hc⟩ := List.exists_mem_of_length_pos h
            obtain ⟨g1, g2, g3⟩ := (walkM_mem x.facts hfs d.body b c ht).1 hc
            obtain ⟨f, hf, e1, e2⟩ := g2 a ha
            refine (instIn_iff hx (ht a ha)).2 ⟨f, hf, e1, ?_⟩
            rw [← e2]
            refine List.map_congr_left fun t htm => ?_
            by_cases h0 : t < 0
            · unfold fillT; rw [if_pos h0, if_pos h0]
            · have h6 := ht a ha t htm
              have h7 := (hbd t.toNat h6).1 (by rw [Int.toNat_of_nonneg (by omega)]; exact var_in ha htm (by omega))
              unfold fillT
              rw [if_neg h0, if_neg h0, g1.2 _ h7]
        · rw [decide_eq_false h5]; simp
/-- a match is a trigger -/
theorem trig_found {x : Inst} {d : Dep} (hd : depOk x.rels d = true) {b : List Int} (h : b ∈ FindMatches_r0 x d.body) : instOk x = true ∧ b.length = 5 ∧ trigOk x d b = true := by
  cases hk : okM x d.body with
  | false => rw [find_no hk] at h; cases h
  | true =>
    rw [find_walk hk] at h
    have hx := okM_inst hk
    have hfs : ∀ f ∈ x.facts, ∀ v ∈ f.vals, v ≠ 10 := fun f hf v hv => validV_ne (instOk_val hx f hf v hv)
    have ht5 : ∀ a ∈ d.body, ∀ t ∈ a.vals, t.toNat < 5 := fun a ha t ht => (atomOk_t ((depOk_bodyM hd).2 a ha) t ht).2
    obtain ⟨g1, g2, g3⟩ := (walkM_mem x.facts hfs d.body blank5 b (by simpa [blank5] using ht5)).1 h
    have h5 : b.length = 5 := by rw [g1.1]; rfl
    refine ⟨hx, h5, ?_⟩
    have hb : bindsOk b (varsOf d.body) = true := by
      refine bindsOk_iff.2 fun k hk5 => ⟨fun hv => ?_, fun hne => ?_⟩
      · obtain ⟨h0, a, ha, hta⟩ := var_from hv
        obtain ⟨f, hf, e1, e2⟩ := g2 a ha
        have h6 : fillT b k ∈ f.vals := by rw [← e2]; exact List.mem_map_of_mem hta
        have h7 := hfs f hf _ h6
        unfold fillT at h7
        rw [if_neg (by omega)] at h7
        simpa using h7
      · refine Classical.byContradiction fun hn => hne ?_
        rw [g3 k fun a ha t ht h0 e => hn (by rw [← e, Int.toNat_of_nonneg h0]; exact var_in ha ht h0), blank5_get, if_pos (by omega)]
    unfold trigOk
    rw [hx, hd, decide_eq_true h5, hb]
    simp only [Bool.true_and, List.all_eq_true]
    exact fun a ha => (instIn_iff hx (by rw [h5]; exact ht5 a ha)).2 (g2 a ha)
theorem active_is {x : Inst} {d : Dep} {b : List Int} (h : trigOk x d b = true) : activeOk x d b = !holdsM x.facts d b := by
  have h0 := h
  unfold trigOk at h0
  simp only [Bool.and_eq_true, decide_eq_true_eq] at h0
  obtain ⟨hx, hd, h5, _⟩ := h0
  unfold activeOk holdsM
  rw [h]
  by_cases hg : d.egd = true
  · rw [if_pos hg, if_pos hg]; simp
  · rw [if_neg hg, if_neg hg]
    unfold hasExt
    rw [okM_head hd, hx, decide_eq_true h5]; rfl
theorem active_filter {x : Inst} {d : Dep} (hd : depOk x.rels d = true) : ActiveTriggers_r0 x d = (FindMatches_r0 x d.body).filter fun b => !holdsM x.facts d b := by
  unfold ActiveTriggers_r0
  rw [if_pos hd]
  exact List.filter_congr fun b hb => active_is (trig_found hd hb).2.2

/-- a match's values are small -/
theorem find_small {x : Inst} {l : List Atm} {b : List Int} (h : b ∈ FindMatches_r0 x l) : b.length = 5 ∧ ∀ (i : Nat) (hi : i < b.length), -40 ≤ b[i] ∧ b[i] ≤ 10 := by
  cases hk : okM x l with
  | false => rw [find_no hk] at h; cases h
  | true =>
    rw [find_walk hk] at h
    have hx := okM_inst hk
    have hfs : ∀ f ∈ x.facts, ∀ v ∈ f.vals, v ≠ 10 := fun f hf v hv => validV_ne (instOk_val hx f hf v hv)
    have ht5 : ∀ a ∈ l, ∀ t ∈ a.vals, t.toNat < 5 := fun a ha t ht => (atomOk_t (okM_at hk a ha) t ht).2
    obtain ⟨g1, g2, g3⟩ := (walkM_mem x.facts hfs l blank5 b (by simpa [blank5] using ht5)).1 h
    have h5 : b.length = 5 := by rw [g1.1]; rfl
    refine ⟨h5, fun i hi => ?_⟩
    have hg : b.getD i 0 = b[i] := by simp [List.getD, hi]
    by_cases hv : ∃ a ∈ l, ∃ t ∈ a.vals, 0 ≤ t ∧ t.toNat = i
    · obtain ⟨a, ha, t, ht, h0, e⟩ := hv
      obtain ⟨f, hf, e1, e2⟩ := g2 a ha
      have h6 : fillT b t ∈ f.vals := by rw [← e2]; exact List.mem_map_of_mem ht
      have h7 := instOk_val hx f hf _ h6
      unfold fillT at h7
      rw [if_neg (by omega), e, hg] at h7
      unfold validV at h7
      have := of_decide_eq_true h7
      omega
    · have h6 := g3 i fun a ha t ht h0 e => hv ⟨a, ha, t, ht, h0, e⟩
      rw [hg, blank5_get, if_pos (by omega)] at h6
      omega
theorem find_wf {x : Inst} {l : List Atm} {b : List Int} (h : b ∈ FindMatches_r0 x l) : IntsWf b := fun i hi => by
  have := (find_small h).2 i hi
  omega
theorem acts_none {x : Inst} {d : Dep} (h : depOk x.rels d = false) : ActiveTriggers_r0 x d = [] := by unfold ActiveTriggers_r0; rw [if_neg (by rw [h]; simp)]
theorem acts_some {x : Inst} {d : Dep} (h : depOk x.rels d = true) : ActiveTriggers_r0 x d = (FindMatches_r0 x d.body).filter (activeOk x d) := by unfold ActiveTriggers_r0; rw [if_pos h]

theorem find_len (x : Inst) (l : List Atm) : (FindMatches_r0 x l).length ≤ 27000 := by
  cases hk : okM x l with
  | false => rw [find_no hk]; exact Nat.zero_le _
  | true =>
    rw [find_walk hk]
    obtain ⟨h30, h3, -⟩ := okM_parts hk
    refine Nat.le_trans (walkM_len x.facts h30 l blank5) ?_
    rcases (show l.length = 0 ∨ l.length = 1 ∨ l.length = 2 ∨ l.length = 3 by omega) with h | h | h | h <;> rw [h] <;> decide

theorem bindsOk_no {b vars : List Int} (k : Nat) (hk : k < b.length) (h : (decide ((k : Int) ∈ vars) != decide (b.getD k 0 = 10)) = false) : bindsOk b vars = false := by
  unfold bindsOk
  rw [List.all_eq_false]
  exact ⟨k, List.mem_range.2 hk, by rw [h]; simp⟩
theorem bindsOk_yes {b vars : List Int} (h : ∀ k, k < b.length → (decide ((k : Int) ∈ vars) != decide (b.getD k 0 = 10)) = true) : bindsOk b vars = true := by
  unfold bindsOk
  rw [List.all_eq_true]
  exact fun k hk => h k (List.mem_range.1 hk)
theorem binds_next {b vars : List Int} {k : Nat} (h : ∀ j, j < k → (decide ((j : Int) ∈ vars) != decide (b.getD j 0 = 10)) = true) (hk : (decide ((k : Int) ∈ vars) != decide (b.getD k 0 = 10)) = true) : ∀ j, j < k + 1 → (decide ((j : Int) ∈ vars) != decide (b.getD j 0 = 10)) = true := fun j hj => by
  by_cases e : j = k
  · subst e; exact hk
  · exact h j (by omega)
theorem avals_le (l : List Atm) (i : Nat) (hi : i < l.length) : l[i].vals.length ≤ avalsLen l := by
  induction l generalizing i with
  | nil => simp at hi
  | cons a t ih =>
    cases i with
    | zero => simp [avalsLen]
    | succ i => have := ih i (by simpa using hi); simp only [List.getElem_cons_succ, avalsLen]; omega
theorem instIn_no {x : Inst} {b : List Int} {a : Atm} (h : Instantiate_ok a b = false) : instIn x b a = false := by
  unfold instIn; unfold Instantiate_ok at h
  cases hq : instL b a.vals with
  | none => rfl
  | some vs => rw [hq] at h; cases h
theorem instIn_yes {x : Inst} {b : List Int} {a : Atm} (h : Instantiate_ok a b = true) : instIn x b a = decide (0 ≤ placeF (Instantiate_r0 a b) x.facts) := by
  unfold instIn Instantiate_r0; unfold Instantiate_ok at h
  cases hq : instL b a.vals with
  | none => rw [hq] at h; cases h
  | some vs => rfl

/-- the first dependency that has an active trigger -/
def violF (x : Inst) : List Dep → Nat → Option (Nat × List Int)
  | [], _ => none
  | d :: t, i => match ActiveTriggers_r0 x d with
    | [] => violF x t (i + 1)
    | b :: _ => some (i, b)
def firstV (x : Inst) (l : List Dep) : Option (Nat × List Int) := if depsOk x.rels l = true then violF x l 0 else none
def FirstViolation_r0 (x : Inst) (l : List Dep) : Int := match firstV x l with | some p => ((p.1 : Nat) : Int) | none => 0
def FirstViolation_r1 (x : Inst) (l : List Dep) : List Int := match firstV x l with | some p => p.2 | none => []
def FirstViolation_r2 (x : Inst) (l : List Dep) : Bool := (firstV x l).isSome
/-- a dependency without active triggers -/
def calm (x : Inst) (d : Dep) : Bool := (ActiveTriggers_r0 x d).isEmpty
theorem calm_iff {x : Inst} {d : Dep} : calm x d = true ↔ ActiveTriggers_r0 x d = [] := List.isEmpty_iff
theorem violF_skip (x : Inst) (l : List Dep) : ∀ (i n : Nat), AllTo (calm x) l i → i ≤ l.length → violF x l n = violF x (l.drop i) (n + i) := by
  induction l with
  | nil =>
    intro i n _ hi
    obtain rfl : i = 0 := (by simpa using hi)
    rfl
  | cons d t ih =>
    intro i n h hi
    cases i with
    | zero => rfl
    | succ i =>
      unfold AllTo at h
      rw [List.take_succ_cons, List.all_cons, Bool.and_eq_true] at h
      have h1 := calm_iff.1 h.1
      have h2 := ih i (n + 1) h.2 (by simpa using hi)
      rw [List.drop_succ_cons, show n + (i + 1) = n + 1 + i by omega, ← h2]
      show (match ActiveTriggers_r0 x d with | [] => violF x t (n + 1) | b :: _ => some (n, b)) = _
      rw [h1]
theorem violF_end {x : Inst} {l : List Dep} (h : AllTo (calm x) l l.length) : violF x l 0 = none := by
  rw [violF_skip x l l.length 0 h (Nat.le_refl _), List.drop_length]; rfl
theorem violF_at {x : Inst} {l : List Dep} {i : Nat} (h : AllTo (calm x) l i) (hi : i < l.length) {b : List Int} {t : List (List Int)} (hb : ActiveTriggers_r0 x l[i] = b :: t) : violF x l 0 = some (i, b) := by
  rw [violF_skip x l i 0 h (Nat.le_of_lt hi), List.drop_eq_getElem_cons hi, Nat.zero_add]
  show (match ActiveTriggers_r0 x l[i] with | [] => violF x (l.drop (i + 1)) (i + 1) | b :: _ => some (i, b)) = _
  rw [hb]
theorem firstV_off {x : Inst} {l : List Dep} (h : depsOk x.rels l = false) : firstV x l = none := by unfold firstV; rw [if_neg (by rw [h]; simp)]
theorem firstV_end {x : Inst} {l : List Dep} (h : AllTo (calm x) l l.length) : firstV x l = none := by
  unfold firstV
  split
  · exact violF_end h
  · rfl
theorem firstV_at {x : Inst} {l : List Dep} {i : Nat} (hd : depsOk x.rels l = true) (h : AllTo (calm x) l i) (hi : i < l.length) {b : List Int} {t : List (List Int)} (hb : ActiveTriggers_r0 x l[i] = b :: t) : firstV x l = some (i, b) := by
  unfold firstV; rw [if_pos hd]; exact violF_at h hi hb
theorem calm_off {x : Inst} {d : Dep} (h : instOk x = false) : calm x d = true := by
  rw [calm_iff]
  cases hd : depOk x.rels d with
  | false => exact acts_none hd
  | true =>
    rw [acts_some hd, List.filter_eq_nil_iff]
    intro b _ hb
    unfold activeOk trigOk at hb
    rw [h] at hb
    simp at hb
theorem firstV_bad {x : Inst} {l : List Dep} (h : instOk x = false) : firstV x l = none :=
  firstV_end (by unfold AllTo; rw [List.all_eq_true]; exact fun d _ => calm_off h)
theorem firstV_none {x : Inst} {l : List Dep} (h : firstV x l = none) : FirstViolation_r0 x l = 0 ∧ FirstViolation_r1 x l = [] ∧ FirstViolation_r2 x l = false := by
  unfold FirstViolation_r0 FirstViolation_r1 FirstViolation_r2; rw [h]; exact ⟨rfl, rfl, rfl⟩
theorem firstV_some {x : Inst} {l : List Dep} {i : Nat} {b : List Int} (h : firstV x l = some (i, b)) : FirstViolation_r0 x l = ((i : Nat) : Int) ∧ FirstViolation_r1 x l = b ∧ FirstViolation_r2 x l = true := by
  unfold FirstViolation_r0 FirstViolation_r1 FirstViolation_r2; rw [h]; exact ⟨rfl, rfl, rfl⟩
theorem violF_mem {x : Inst} (l : List Dep) : ∀ {n i : Nat} {b : List Int}, violF x l n = some (i, b) → (∃ d ∈ l, b ∈ ActiveTriggers_r0 x d) ∧ i < n + l.length := by
  induction l with
  | nil => intro n i b h; cases h
  | cons d t ih =>
    intro n i b h
    have h' : (match ActiveTriggers_r0 x d with | [] => violF x t (n + 1) | b :: _ => some (n, b)) = some (i, b) := h
    cases hs : ActiveTriggers_r0 x d with
    | nil =>
      rw [hs] at h'
      obtain ⟨⟨e, he, hb⟩, hi⟩ := ih h'
      exact ⟨⟨e, List.mem_cons_of_mem _ he, hb⟩, by rw [List.length_cons]; omega⟩
    | cons c s =>
      rw [hs] at h'
      simp only [Option.some.injEq, Prod.mk.injEq] at h'
      obtain ⟨rfl, rfl⟩ := h'
      exact ⟨⟨d, List.mem_cons_self, by rw [hs]; exact List.mem_cons_self⟩, by rw [List.length_cons]; omega⟩
theorem acts_five {x : Inst} {d : Dep} {b : List Int} (h : b ∈ ActiveTriggers_r0 x d) : b.length = 5 := by
  cases hd : depOk x.rels d with
  | false => rw [acts_none hd] at h; cases h
  | true => rw [acts_some hd] at h; exact (find_small (List.mem_filter.1 h).1).1
theorem firstV_sz (x : Inst) (l : List Dep) : IntS_sz (FirstViolation_r1 x l) ≤ 1048576 := by
  cases h : firstV x l with
  | none => rw [(firstV_none h).2.1]; exact Nat.zero_le _
  | some p =>
    rw [(firstV_some (i := p.1) (b := p.2) h).2.1]
    unfold firstV at h
    split at h
    · obtain ⟨⟨d, _, hb⟩, -⟩ := violF_mem l (i := p.1) (b := p.2) h
      have := acts_five hb
      unfold IntS_sz; omega
    · cases h
/-- the dependencies hold -/
def satM (x : Inst) (l : List Dep) : Bool := instOk x && depsOk x.rels l && !FirstViolation_r2 x l
/-- the first row of rows of the call's own -/
theorem IntSS_own.first {B C : Nat} {V : Value} {a : List Int} {t : List (List Int)} {w : World} (h : IntSS_own B C V (a :: t) w) : ∃ g c U, V = .slice (some ⟨g, 0, none⟩) (t.length + 1) c ∧ g < C ∧ t.length + 1 ≤ maxLen ∧ w.cell? ⟨g, 0, none⟩ = some U ∧ IntS_own B C U a w := by
  obtain ⟨A, c, hf, hlc, hcm⟩ := (h.at_ (Nat.le_refl C)).form
  obtain ⟨Vs, h⟩ := h
  have hl : Vs.length = t.length + 1 := h.len
  obtain ⟨g, hg⟩ : ∃ g, V.ownBlock = some g := by
    rcases h.row.2 with ⟨rfl, h0⟩ | ⟨g, cap, cur, rfl, _⟩
    · omega
    · exact ⟨g, rfl⟩
  obtain ⟨cap, rfl, -⟩ := own_some h.row hg
  refine ⟨g, cap, Vs[0], by rw [hl], h.ins g rfl, by simp only [List.length_cons] at hlc; omega, h.cell (by rw [List.length_cons, hl]) 0 (by simp) (by omega), h.el 0 (by simp) (by omega)⟩
theorem satM_no1 {x : Inst} {l : List Dep} (h : instOk x = false) : satM x l = false := by unfold satM; rw [h]; rfl
theorem satM_no2 {x : Inst} {l : List Dep} (h : depsOk x.rels l = false) : satM x l = false := by unfold satM; rw [h]; simp
theorem satM_on {x : Inst} {l : List Dep} (h : instOk x = true) (h2 : depsOk x.rels l = true) : satM x l = !FirstViolation_r2 x l := by unfold satM; rw [h, h2]; simp
theorem ret_viol {a b : Int} {c e : Bool} {v : Value} (h : a = b) (h' : c = e) : Ending.returned (.tuple #[.int .i64 b, v, .bool e]) = .returned (.tuple #[.int .i64 a, v, .bool c]) := by rw [h, h']
theorem IntsO.none {B C : Nat} (w : World) : IntS_own B C (.slice none 0 0) [] w := ⟨OwnInts.nil _ _, fun g hg => by cases hg⟩

end Go.Proofs.YtobdijcnfmgidaaGreat
