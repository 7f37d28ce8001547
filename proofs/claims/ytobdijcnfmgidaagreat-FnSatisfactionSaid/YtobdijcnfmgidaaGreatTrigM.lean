/- Walks and plain lemmas for the laws of this seat. -/
import Derived.Test.YtobdijcnfmgidaaGreatAft
import Derived.Test.YtobdijcnfmgidaaGreatDrawA9
import Derived.Test.YtobdijcnfmgidaaGreatParInI
import Derived.Test.YtobdijcnfmgidaaGreatTySS
import Derived.Test.YtobdijcnfmgidaaGreatMatB
import Derived.Test.YtobdijcnfmgidaaGreatDrawK
import Derived.Test.YtobdijcnfmgidaaGreatMatK
namespace Go.Proofs.YtobdijcnfmgidaaGreat
open Go.RowKit
def bindsOk (b vars : List Int) : Bool := (List.range b.length).all fun k => decide ((k : Int) ∈ vars) != decide (b.getD k 0 = 10)
def instIn (x : Inst) (b : List Int) (a : Atm) : Bool := match instL b a.vals with
 | some vs => decide (0 ≤ placeF ⟨a.rel,vs⟩ x.facts)
 | none => false
def trigOk (x : Inst) (d : Dep) (b : List Int) : Bool := instOk x && (depOk x.rels d && (decide (b.length = 5) && (bindsOk b (varsOf d.body) && d.body.all (instIn x b))))
def activeOk (x : Inst) (d : Dep) (b : List Int) : Bool := trigOk x d b && (if d.egd = true then decide (b.getD d.left.toNat 0 ≠ b.getD d.right.toNat 0) else !hasExt x d.head b)
def ActiveTriggers_r0 (x : Inst) (d : Dep) : List (List Int) := if depOk x.rels d = true then (FindMatches_r0 x d.body).filter (activeOk x d) else []
def holdsM (fs : List Fct) (d : Dep) (b : List Int) : Bool := if d.egd = true then decide (b.getD d.left.toNat 0 = b.getD d.right.toNat 0) else decide (0 < (walkM fs d.head b).length)
theorem instT_fill {b : List Int} {t v : Int} (h : instT b t = some v) : v = fillT b t ∧ validV v = true := by
 unfold instT at h
 unfold fillT
 by_cases h1 : 0 ≤ t
 · rw [if_pos h1] at h
   rw [if_neg (by omega)]
   split at h
   · rename_i h2
     split at h
     · rename_i h3
       cases h
       exact ⟨by simp [List.getD,h2],h3⟩
     · cases h
   · cases h
 · rw [if_neg h1] at h
   rw [if_pos (by omega)]
   split at h
   · rename_i h3
     cases h
     exact ⟨rfl,h3⟩
   · cases h
theorem instT_conv {b : List Int} {t : Int} (h1 : t.toNat < b.length) (h2 : validV (fillT b t) = true) : instT b t = some (fillT b t) := by
 rw [instT_eq (by omega),if_pos h2]
theorem instL_fill {b ts vs : List Int} (h : instL b ts = some vs) : vs = ts.map (fillT b) := by
 induction ts generalizing vs with
 | nil => simp [instL] at h; subst h; rfl
 | cons t r ih =>
   rw [instL] at h
   split at h
   · rename_i v hv
     cases hq : instL b r with
     | none => rw [hq] at h; cases h
     | some m =>
       rw [hq] at h
       cases h
       rw [List.map_cons,← ih hq,← (instT_fill hv).1]
   · cases h
theorem instL_conv {b ts : List Int} (h1 : ∀ t ∈ ts, t.toNat < b.length) (h2 : ∀ t ∈ ts, validV (fillT b t) = true) : instL b ts = some (ts.map (fillT b)) := by
 induction ts with
 | nil => rfl
 | cons t r ih =>
   rw [instL,instT_conv (h1 t (by simp)) (h2 t (by simp)),ih (fun t ht => h1 t (by simp [ht])) (fun t ht => h2 t (by simp [ht]))]
   rfl
theorem instIn_iff {x : Inst} (hx : instOk x = true) {b : List Int} {a : Atm} (ha : ∀ t ∈ a.vals, t.toNat < b.length) : instIn x b a = true ↔ ∃ f ∈ x.facts, a.rel = f.rel ∧ a.vals.map (fillT b) = f.vals := by
 unfold instIn
 constructor
 · intro h
   split at h
   · rename_i vs hvs
     exact ⟨⟨a.rel,vs⟩,(placeF_mem _ _).1 (of_decide_eq_true h),rfl,(instL_fill hvs).symm⟩
   · cases h
 · rintro ⟨f,hf,h1,h2⟩
   rw [instL_conv ha (fun t ht => instOk_val hx f hf _ (by rw [← h2]; exact List.mem_map_of_mem ht))]
   have e : (⟨a.rel,a.vals.map (fillT b)⟩ : Fct) = f := by cases f; simp only at h1 h2; rw [h1,h2]
   simp only
   rw [e]
   exact decide_eq_true ((placeF_mem _ _).2 hf)
theorem depOk_bodyM {l : List Rel} {d : Dep} (h : depOk l d = true) : d.body.length ≤ 2 ∧ ∀ a ∈ d.body, atomOk l a.rel a.vals = true := by
 unfold depOk at h
 simp only [Bool.and_eq_true,List.all_eq_true] at h
 obtain ⟨h1,h2,_⟩ := h
 unfold inB at h1
 have h1 := of_decide_eq_true h1
 exact ⟨by omega,fun a ha => h2 a ha⟩
theorem depOk_headM {l : List Rel} {d : Dep} (h : depOk l d = true) : d.head.length ≤ 2 ∧ ∀ a ∈ d.head, atomOk l a.rel a.vals = true := by
 unfold depOk at h
 simp only [Bool.and_eq_true] at h
 obtain ⟨_,_,h3⟩ := h
 by_cases hg : d.egd = true
 · rw [if_pos hg] at h3
   simp only [Bool.and_eq_true,beq_iff_eq] at h3
   have h0 : d.head = [] := List.eq_nil_of_length_eq_zero (by have := h3.1; omega)
   rw [h0]; simp
 · rw [if_neg hg] at h3
   simp only [Bool.and_eq_true,List.all_eq_true] at h3
   obtain ⟨h4,h5,_⟩ := h3
   unfold inB at h5
   have h5 := of_decide_eq_true h5
   refine ⟨by omega,fun a ha => ?_⟩
   have := h4 a ha
   unfold headB atomB at this
   rw [Bool.and_eq_true] at this
   exact this.1
theorem depOk_vars {l : List Rel} {d : Dep} (h : depOk l d = true) (hg : d.egd = true) : (0 ≤ d.left ∧ d.left.toNat < 5) ∧ (0 ≤ d.right ∧ d.right.toNat < 5) := by
 have hb := (depOk_bodyM h).2
 have hv : ∀ t ∈ varsOf d.body,0 ≤ t ∧ t.toNat < 5 := fun t ht => by
  have h1 := (varsOf_mem d.body t).1 ht
  unfold vposOf at h1
  obtain ⟨a,ha,h2⟩ := List.mem_flatMap.1 h1
  unfold posOf at h2
  obtain ⟨h3,h4⟩ := List.mem_filter.1 h2
  exact ⟨of_decide_eq_true h4,(atomOk_t (hb a ha) t h3).2⟩
 unfold depOk at h
 rw [if_pos hg] at h
 simp only [Bool.and_eq_true,decide_eq_true_eq,beq_iff_eq] at h
 obtain ⟨_,_,_,h4,h5,_⟩ := h
 exact ⟨hv _ h4,hv _ h5⟩
theorem okM_head {x : Inst} {d : Dep} (h : depOk x.rels d = true) : okM x d.head = instOk x := by
 unfold okM
 rw [List.all_eq_true.2 (depOk_headM h).2,decide_eq_true (by have := (depOk_headM h).1; omega)]
 simp
theorem bindsOk_iff {b vars : List Int} : bindsOk b vars = true ↔ ∀ k, k < b.length → ((k : Int) ∈ vars ↔ b.getD k 0 ≠ 10) := by
 unfold bindsOk
 simp only [List.all_eq_true,List.mem_range,bne_iff_ne,ne_eq,decide_eq_decide]
 constructor
 · intro h k hk
   have := h k hk
   by_cases h1 : (k : Int) ∈ vars <;> by_cases h2 : b.getD k 0 = 10 <;> simp_all
 · intro h k hk
   have := h k hk
   by_cases h1 : (k : Int) ∈ vars <;> by_cases h2 : b.getD k 0 = 10 <;> simp_all
theorem var_in {l : List Atm} {a : Atm} (ha : a ∈ l) {t : Int} (ht : t ∈ a.vals) (h0 : 0 ≤ t) : t ∈ varsOf l := by
 rw [varsOf_mem]
 unfold vposOf posOf
 exact List.mem_flatMap.2 ⟨a,ha,List.mem_filter.2 ⟨ht,decide_eq_true h0⟩⟩
theorem var_from {l : List Atm} {t : Int} (h : t ∈ varsOf l) : 0 ≤ t ∧ ∃ a ∈ l, t ∈ a.vals := by
 rw [varsOf_mem] at h
 unfold vposOf posOf at h
 obtain ⟨a,ha,h2⟩ := List.mem_flatMap.1 h
 obtain ⟨h3,h4⟩ := List.mem_filter.1 h2
 exact ⟨of_decide_eq_true h4,a,ha,h3⟩
theorem trig_found {x : Inst} {d : Dep} (hd : depOk x.rels d = true) {b : List Int} (h : b ∈ FindMatches_r0 x d.body) : instOk x = true ∧ b.length = 5 ∧ trigOk x d b = true := by
 cases hk : okM x d.body with
 | false => rw [find_no hk] at h; cases h
 | true =>
   rw [find_walk hk] at h
   have hx := okM_inst hk
   have hfs : ∀ f ∈ x.facts,∀ v ∈ f.vals,v ≠ 10 := fun f hf v hv => validV_ne (instOk_val hx f hf v hv)
   have ht5 : ∀ a ∈ d.body,∀ t ∈ a.vals,t.toNat < 5 := fun a ha t ht => (atomOk_t ((depOk_bodyM hd).2 a ha) t ht).2
   obtain ⟨g1,g2,g3⟩ := (walkM_mem x.facts hfs d.body blank5 b (by simpa [blank5] using ht5)).1 h
   have h5 : b.length = 5 := by rw [g1.1]; rfl
   refine ⟨hx,h5,?_⟩
   have hb : bindsOk b (varsOf d.body) = true := by
    refine bindsOk_iff.2 fun k hk5 => ⟨fun hv => ?_,fun hne => ?_⟩
    · obtain ⟨h0,a,ha,hta⟩ := var_from hv
      obtain ⟨f,hf,e1,e2⟩ := g2 a ha
      have h6 : fillT b k ∈ f.vals := by rw [← e2]; exact List.mem_map_of_mem hta
      have h7 := hfs f hf _ h6
      unfold fillT at h7
      rw [if_neg (by omega)] at h7
      simpa using h7
    · refine Classical.byContradiction fun hn => hne ?_
      rw [g3 k fun a ha t ht h0 e => hn (by rw [← e,Int.toNat_of_nonneg h0]; exact var_in ha ht h0),blank5_get,if_pos (by omega)]
   unfold trigOk
   rw [hx,hd,decide_eq_true h5,hb]
   simp only [Bool.true_and,List.all_eq_true]
   exact fun a ha => (instIn_iff hx (by rw [h5]; exact ht5 a ha)).2 (g2 a ha)
theorem active_is {x : Inst} {d : Dep} {b : List Int} (h : trigOk x d b = true) : activeOk x d b = !holdsM x.facts d b := by
 have h0 := h
 unfold trigOk at h0
 simp only [Bool.and_eq_true,decide_eq_true_eq] at h0
 obtain ⟨hx,hd,h5,_⟩ := h0
 unfold activeOk holdsM
 rw [h]
 by_cases hg : d.egd = true
 · rw [if_pos hg,if_pos hg]; simp
 · rw [if_neg hg,if_neg hg]
   unfold hasExt
   rw [okM_head hd,hx,decide_eq_true h5]; rfl
theorem active_filter {x : Inst} {d : Dep} (hd : depOk x.rels d = true) : ActiveTriggers_r0 x d = (FindMatches_r0 x d.body).filter fun b => !holdsM x.facts d b := by
 unfold ActiveTriggers_r0
 rw [if_pos hd]
 exact List.filter_congr fun b hb => active_is (trig_found hd hb).2.2
theorem find_small {x : Inst} {l : List Atm} {b : List Int} (h : b ∈ FindMatches_r0 x l) : b.length = 5 ∧ ∀ (i : Nat) (hi : i < b.length), -40 ≤ b[i] ∧ b[i] ≤ 10 := by
 cases hk : okM x l with
 | false => rw [find_no hk] at h; cases h
 | true =>
   rw [find_walk hk] at h
   have hx := okM_inst hk
   have hfs : ∀ f ∈ x.facts,∀ v ∈ f.vals,v ≠ 10 := fun f hf v hv => validV_ne (instOk_val hx f hf v hv)
   have ht5 : ∀ a ∈ l,∀ t ∈ a.vals,t.toNat < 5 := fun a ha t ht => (atomOk_t (okM_at hk a ha) t ht).2
   obtain ⟨g1,g2,g3⟩ := (walkM_mem x.facts hfs l blank5 b (by simpa [blank5] using ht5)).1 h
   have h5 : b.length = 5 := by rw [g1.1]; rfl
   refine ⟨h5,fun i hi => ?_⟩
   have hg : b.getD i 0 = b[i] := by simp [List.getD,hi]
   by_cases hv : ∃ a ∈ l,∃ t ∈ a.vals,0 ≤ t ∧ t.toNat = i
   · obtain ⟨a,ha,t,ht,h0,e⟩ := hv
     obtain ⟨f,hf,e1,e2⟩ := g2 a ha
     have h6 : fillT b t ∈ f.vals := by rw [← e2]; exact List.mem_map_of_mem ht
     have h7 := instOk_val hx f hf _ h6
     unfold fillT at h7
     rw [if_neg (by omega),e,hg] at h7
     unfold validV at h7
     have := of_decide_eq_true h7
     omega
   · have h6 := g3 i fun a ha t ht h0 e => hv ⟨a,ha,t,ht,h0,e⟩
     rw [hg,blank5_get,if_pos (by omega)] at h6
     omega
theorem find_wf {x : Inst} {l : List Atm} {b : List Int} (h : b ∈ FindMatches_r0 x l) : IntsWf b := fun i hi => by
 have := (find_small h).2 i hi
 omega
theorem acts_none {x : Inst} {d : Dep} (h : depOk x.rels d = false) : ActiveTriggers_r0 x d = [] := by unfold ActiveTriggers_r0; rw [if_neg (by rw [h]; simp)]
theorem acts_some {x : Inst} {d : Dep} (h : depOk x.rels d = true) : ActiveTriggers_r0 x d = (FindMatches_r0 x d.body).filter (activeOk x d) := by unfold ActiveTriggers_r0; rw [if_pos h]
theorem find_len (x : Inst) (l : List Atm) : (FindMatches_r0 x l).length ≤ 27000 := by
 cases hk : okM x l with
 | false => rw [find_no hk]; exact Nat.zero_le _
 | true =>
   rw [find_walk hk]
   obtain ⟨h30,h3,-⟩ := okM_parts hk
   refine Nat.le_trans (walkM_len x.facts h30 l blank5) ?_
   rcases (show l.length = 0 ∨ l.length = 1 ∨ l.length = 2 ∨ l.length = 3 by omega) with h | h | h | h <;> rw [h] <;> decide
theorem bindsOk_no {b vars : List Int} (k : Nat) (hk : k < b.length) (h : (decide ((k : Int) ∈ vars) != decide (b.getD k 0 = 10)) = false) : bindsOk b vars = false := by
 unfold bindsOk
 rw [List.all_eq_false]
 exact ⟨k,List.mem_range.2 hk,by rw [h]; simp⟩
theorem bindsOk_yes {b vars : List Int} (h : ∀ k, k < b.length → (decide ((k : Int) ∈ vars) != decide (b.getD k 0 = 10)) = true) : bindsOk b vars = true := by
 unfold bindsOk
 rw [List.all_eq_true]
 exact fun k hk => h k (List.mem_range.1 hk)
theorem binds_next {b vars : List Int} {k : Nat} (h : ∀ j, j < k → (decide ((j : Int) ∈ vars) != decide (b.getD j 0 = 10)) = true) (hk : (decide ((k : Int) ∈ vars) != decide (b.getD k 0 = 10)) = true) : ∀ j, j < k + 1 → (decide ((j : Int) ∈ vars) != decide (b.getD j 0 = 10)) = true := fun j hj => by
 by_cases e : j = k
 · subst e; exact hk
 · exact h j (by omega)
theorem avals_le (l : List Atm) (i : Nat) (hi : i < l.length) : l[i].vals.length ≤ avalsLen l := by
 induction l generalizing i with
 | nil => simp at hi
 | cons a t ih =>
   cases i with
   | zero => simp [avalsLen]
   | succ i => have := ih i (by simpa using hi); simp only [List.getElem_cons_succ,avalsLen]; omega
theorem instIn_no {x : Inst} {b : List Int} {a : Atm} (h : Instantiate_ok a b = false) : instIn x b a = false := by
 unfold instIn; unfold Instantiate_ok at h
 cases hq : instL b a.vals with
 | none => rfl
 | some vs => rw [hq] at h; cases h
theorem instIn_yes {x : Inst} {b : List Int} {a : Atm} (h : Instantiate_ok a b = true) : instIn x b a = decide (0 ≤ placeF (Instantiate_r0 a b) x.facts) := by
 unfold instIn Instantiate_r0; unfold Instantiate_ok at h
 cases hq : instL b a.vals with
 | none => rw [hq] at h; cases h
 | some vs => rfl
def violF (x : Inst) : List Dep → Nat → Option (Nat × List Int)
 | [],_ => none
 | d :: t,i => match ActiveTriggers_r0 x d with
   | [] => violF x t (i + 1)
   | b :: _ => some (i,b)
def firstV (x : Inst) (l : List Dep) : Option (Nat × List Int) := if depsOk x.rels l = true then violF x l 0 else none
def FirstViolation_r0 (x : Inst) (l : List Dep) : Int := match firstV x l with | some p => ((p.1 : Nat) : Int) | none => 0
def FirstViolation_r1 (x : Inst) (l : List Dep) : List Int := match firstV x l with | some p => p.2 | none => []
def FirstViolation_r2 (x : Inst) (l : List Dep) : Bool := (firstV x l).isSome
def calm (x : Inst) (d : Dep) : Bool := (ActiveTriggers_r0 x d).isEmpty
theorem calm_iff {x : Inst} {d : Dep} : calm x d = true ↔ ActiveTriggers_r0 x d = [] := List.isEmpty_iff
theorem violF_skip (x : Inst) (l : List Dep) : ∀ (i n : Nat), AllTo (calm x) l i → i ≤ l.length → violF x l n = violF x (l.drop i) (n + i) := by
 induction l with
 | nil =>
   intro i n _ hi
   obtain rfl : i = 0 := (by simpa using hi)
   rfl
 | cons d t ih =>
   intro i n h hi
   cases i with
   | zero => rfl
   | succ i =>
     unfold AllTo at h
     rw [List.take_succ_cons,List.all_cons,Bool.and_eq_true] at h
     have h1 := calm_iff.1 h.1
     have h2 := ih i (n + 1) h.2 (by simpa using hi)
     rw [List.drop_succ_cons,show n + (i + 1) = n + 1 + i by omega,← h2]
     show (match ActiveTriggers_r0 x d with | [] => violF x t (n + 1) | b :: _ => some (n,b)) = _
     rw [h1]
theorem violF_end {x : Inst} {l : List Dep} (h : AllTo (calm x) l l.length) : violF x l 0 = none := by
 rw [violF_skip x l l.length 0 h (Nat.le_refl _),List.drop_length]; rfl
theorem violF_at {x : Inst} {l : List Dep} {i : Nat} (h : AllTo (calm x) l i) (hi : i < l.length) {b : List Int} {t : List (List Int)} (hb : ActiveTriggers_r0 x l[i] = b :: t) : violF x l 0 = some (i, b) := by
 rw [violF_skip x l i 0 h (Nat.le_of_lt hi),List.drop_eq_getElem_cons hi,Nat.zero_add]
 show (match ActiveTriggers_r0 x l[i] with | [] => violF x (l.drop (i + 1)) (i + 1) | b :: _ => some (i,b)) = _
 rw [hb]
theorem firstV_off {x : Inst} {l : List Dep} (h : depsOk x.rels l = false) : firstV x l = none := by unfold firstV; rw [if_neg (by rw [h]; simp)]
theorem firstV_end {x : Inst} {l : List Dep} (h : AllTo (calm x) l l.length) : firstV x l = none := by
 unfold firstV
 split
 · exact violF_end h
 · rfl
theorem firstV_at {x : Inst} {l : List Dep} {i : Nat} (hd : depsOk x.rels l = true) (h : AllTo (calm x) l i) (hi : i < l.length) {b : List Int} {t : List (List Int)} (hb : ActiveTriggers_r0 x l[i] = b :: t) : firstV x l = some (i, b) := by
 unfold firstV; rw [if_pos hd]; exact violF_at h hi hb
theorem calm_off {x : Inst} {d : Dep} (h : instOk x = false) : calm x d = true := by
 rw [calm_iff]
 cases hd : depOk x.rels d with
 | false => exact acts_none hd
 | true =>
   rw [acts_some hd,List.filter_eq_nil_iff]
   intro b _ hb
   unfold activeOk trigOk at hb
   rw [h] at hb
   simp at hb
theorem firstV_bad {x : Inst} {l : List Dep} (h : instOk x = false) : firstV x l = none :=
 firstV_end (by unfold AllTo; rw [List.all_eq_true]; exact fun d _ => calm_off h)
theorem firstV_none {x : Inst} {l : List Dep} (h : firstV x l = none) : FirstViolation_r0 x l = 0 ∧ FirstViolation_r1 x l = [] ∧ FirstViolation_r2 x l = false := by
 unfold FirstViolation_r0 FirstViolation_r1 FirstViolation_r2; rw [h]; exact ⟨rfl,rfl,rfl⟩
theorem firstV_some {x : Inst} {l : List Dep} {i : Nat} {b : List Int} (h : firstV x l = some (i, b)) : FirstViolation_r0 x l = ((i : Nat) : Int) ∧ FirstViolation_r1 x l = b ∧ FirstViolation_r2 x l = true := by
 unfold FirstViolation_r0 FirstViolation_r1 FirstViolation_r2; rw [h]; exact ⟨rfl,rfl,rfl⟩
def satM (x : Inst) (l : List Dep) : Bool := instOk x && depsOk x.rels l && !FirstViolation_r2 x l
theorem IntSS_own.first {B C : Nat} {V : Value} {a : List Int} {t : List (List Int)} {w : World} (h : IntSS_own B C V (a :: t) w) : ∃ g c U, V = .slice (some ⟨g, 0, none⟩) (t.length + 1) c ∧ g < C ∧ t.length + 1 ≤ maxLen ∧ w.cell? ⟨g, 0, none⟩ = some U ∧ IntS_own B C U a w := by
 obtain ⟨A,c,hf,hlc,hcm⟩ := (h.at_ (Nat.le_refl C)).form
 obtain ⟨Vs,h⟩ := h
 have hl : Vs.length = t.length + 1 := h.len
 obtain ⟨g,hg⟩ : ∃ g,V.ownBlock = some g := by
  rcases h.row.2 with ⟨rfl,h0⟩ | ⟨g,cap,cur,rfl,_⟩
  · omega
  · exact ⟨g,rfl⟩
 obtain ⟨cap,rfl,-⟩ := own_some h.row hg
 refine ⟨g,cap,Vs[0],by rw [hl],h.ins g rfl,by simp only [List.length_cons] at hlc; omega,h.cell (by rw [List.length_cons,hl]) 0 (by simp) (by omega),h.el 0 (by simp) (by omega)⟩
theorem satM_no1 {x : Inst} {l : List Dep} (h : instOk x = false) : satM x l = false := by unfold satM; rw [h]; rfl
theorem satM_no2 {x : Inst} {l : List Dep} (h : depsOk x.rels l = false) : satM x l = false := by unfold satM; rw [h]; simp
theorem satM_on {x : Inst} {l : List Dep} (h : instOk x = true) (h2 : depsOk x.rels l = true) : satM x l = !FirstViolation_r2 x l := by unfold satM; rw [h, h2]; simp
theorem ret_viol {a b : Int} {c e : Bool} {v : Value} (h : a = b) (h' : c = e) : Ending.returned (.tuple #[.int .i64 b, v, .bool e]) = .returned (.tuple #[.int .i64 a, v, .bool c]) := by rw [h, h']
theorem IntsO.none {B C : Nat} (w : World) : IntS_own B C (.slice none 0 0) [] w := ⟨OwnInts.nil _ _, fun g hg => by cases hg⟩
def sumA (x : Inst) : List Dep → Nat
 | [] => 0
 | d :: t => (ActiveTriggers_r0 x d).length + sumA x t
theorem sumA_app (x : Inst) (a b : List Dep) : sumA x (a ++ b) = sumA x a + sumA x b := by
 induction a with
 | nil => simp [sumA]
 | cons d t ih => simp only [List.cons_append,sumA,ih]; omega
theorem sumA_take (x : Inst) (l : List Dep) (k : Nat) (h : k < l.length) : sumA x (l.take (k + 1)) = sumA x (l.take k) + (ActiveTriggers_r0 x l[k]).length := by
 rw [List.take_succ_eq_append_getElem h,sumA_app]; simp [sumA]
theorem acts_le (x : Inst) (d : Dep) : (ActiveTriggers_r0 x d).length ≤ 27000 := by
 cases hd : depOk x.rels d with
 | false => rw [acts_none hd]; exact Nat.zero_le _
 | true => rw [acts_some hd]; exact Nat.le_trans (List.length_filter_le _ _) (find_len x d.body)
theorem sumA_le (x : Inst) (l : List Dep) : sumA x l ≤ l.length * 27000 := by
 induction l with
 | nil => exact Nat.le_refl _
 | cons d t ih => have := acts_le x d; simp only [sumA,List.length_cons]; omega
theorem violF_sum (x : Inst) (l : List Dep) : ∀ n, (violF x l n).isSome = decide (0 < sumA x l) := by
 induction l with
 | nil => intro n; rfl
 | cons d t ih =>
   intro n
   show (match ActiveTriggers_r0 x d with | [] => violF x t (n + 1) | b :: _ => some (n,b)).isSome = decide (0 < (ActiveTriggers_r0 x d).length + sumA x t)
   cases h : ActiveTriggers_r0 x d with
   | nil => rw [List.length_nil,Nat.zero_add]; exact ih (n + 1)
   | cons b s => simp only [Option.isSome_some,List.length_cons]; exact (decide_eq_true (by omega)).symm
theorem viol_sum {x : Inst} {l : List Dep} (h : depsOk x.rels l = true) : FirstViolation_r2 x l = decide (0 < sumA x l) := by
 unfold FirstViolation_r2 firstV; rw [if_pos h]; exact violF_sum x l 0
theorem sat_sum {x : Inst} {l : List Dep} (h : instOk x = true) (h2 : depsOk x.rels l = true) : satM x l = decide (sumA x l = 0) := by
 rw [satM_on h h2,viol_sum h2]
 by_cases h0 : sumA x l = 0
 · rw [h0]; rfl
 · rw [decide_eq_true (by omega : 0 < sumA x l),decide_eq_false h0]; rfl
set_option maxRecDepth 100000 in
theorem implTermValue_any (t : Int) (b : List Int) (v : Value) (w : World) (hb : IntsAt w w.heap.size v b) (h0 : -9223372036854775808 ≤ t) (ht : t < b.length) :
 Calls Tryz.prog 172 #[.int .i64 t,v] w fun e w' => e = .returned (.int .i64 (fillT b t)) ∧ w = w' := by
 have hvar := implIsVariable_any t w
 by_cases hneg : t < 0
 · have d1 : decide (0 ≤ t) = false := decide_eq_false (by omega)
   have HF := Lib.hid (show fillT b t = -1 - t by unfold fillT; rw [if_pos hneg])
   have hz : 0 ≤ -1 - t := by omega
   rw [d1] at hvar
   go_enter Tryz.func172,Tryz.ntmps172
   go_wp2_with (go_at_call 161; refine hvar.mono ?_; rintro e w3 ⟨rfl,rfl⟩)
   go_ret
   exact ⟨by rw [HF.out] <;> go_num,rfl⟩
 · have d1 : decide (0 ≤ t) = true := decide_eq_true (by omega)
   rw [d1] at hvar
   obtain ⟨j,rfl⟩ : ∃ j : Nat,t = (j : Int) := ⟨t.toNat,by omega⟩
   have hj : j < b.length := by omega
   have HF := Lib.hid (show fillT b (j : Int) = b[j] by unfold fillT; rw [if_neg hneg]; simp [List.getD,hj])
   have HB := Lib.hid hb
   obtain ⟨P,c,rfl,hc1,hc2,-⟩ := hb
   unfold maxLen at hc2
   obtain ⟨b0,off0,rfl,hb0,e0⟩ := IntsAt.elem HB.out j hj
   clear hneg
   go_enter Tryz.func172,Tryz.ntmps172
   go_wp2_with (go_at_call 161; refine hvar.mono ?_; rintro e w3 ⟨rfl,rfl⟩)
   go_ret
   exact ⟨by rw [HF.out]; rfl,rfl⟩
set_option maxHeartbeats 1600000 in
set_option maxRecDepth 100000 in
theorem implNothingBound_any (w : World) :
 Calls Tryz.prog 89 #[] w fun e w' => e = .returned (bAgg blank5) ∧ Below w.heap.size w w' := by
 obtain ⟨E,hEq⟩ : ∃ E,E = ((w.alloc (.cells #[.int .i64 0,.int .i64 0,.int .i64 0,.int .i64 0,.int .i64 0] 122)).alloc (.cells #[.int .i64 0,.int .i64 0,.int .i64 0,.int .i64 0,.int .i64 0] 122)) := ⟨_,rfl⟩
 have hE : Below w.heap.size w E := by rw [hEq]; exact below_more (below_more (Below.refl _ _) _) _
 have HEz := Lib.hid (show E.heap.size = w.heap.size + 2 by rw [hEq]; simp)
 have R0 := Lib.hid (show ∀ j,j < 5 → E.cell? ⟨w.heap.size,j,none⟩ = some (.int .i64 0) by
  intro j hj
  rcases (show j = 0 ∨ j = 1 ∨ j = 2 ∨ j = 3 ∨ j = 4 by omega) with h | h | h | h | h <;> subst h <;> (rw [hEq]; simp [go_sem]))
 have RZ := Lib.hid (show ∀ o,E.frozen? ⟨w.heap.size,o,none⟩ = false by intro o; rw [hEq]; simp [go_sem])
 have A0 := Lib.hid (show Arr (w.heap.size + 1) [0,0,0,0,0] E by
  refine ⟨fun j hj => ?_,fun o => by rw [hEq]; simp [go_sem]⟩
  rcases (show j = 0 ∨ j = 1 ∨ j = 2 ∨ j = 3 ∨ j = 4 by omega) with h | h | h | h | h <;> subst h <;> (rw [hEq]; simp [go_sem,at5]))
 go_enter Tryz.func89,Tryz.ntmps89
 go_wp2
 rw [← hEq]
 clear hEq
 go_loopw [3] (fun i wr => ∃ (k : Nat) (bk : List Int),k ≤ 5 ∧ i = .int .i64 k ∧ Hid (bk.length = 5) ∧ Hid (∀ j,j < k → at5 bk j = 10) ∧ Hid (Arr (w.heap.size + 1) bk wr) ∧ Hid (Chg (fun q => q = w.heap.size + 1) E wr)) (fun i _ => 5 - (intOf i).toNat)
 case atStart => exact ⟨0,[0,0,0,0,0],by omega,rfl,Lib.hid rfl,Lib.hid (fun j hj => by omega),A0,Lib.hid (Chg.refl _ _)⟩
 case round =>
  obtain ⟨k,bk,hk,rfl,HL,HT,HA,HC⟩ := hrel
  by_cases hlt : k < 5
  · have e0 := HA.out.1 k hlt
    have ez := HA.out.2 k
    have HA2 := Lib.hid (HA.out.set HL.out k hlt 10)
    have HC2 := Lib.hid (HC.out.setCell (p := ⟨w.heap.size + 1,k,none⟩) rfl (.int .i64 10))
    go_wp2
    go_roundw
    case rel =>
     refine ⟨k + 1,bk.set k 10,by omega,by go_num,Lib.hid (by rw [List.length_set]; exact HL.out),Lib.hid (fun j hj => ?_),HA2,HC2⟩
     unfold at5
     rw [List.getD_eq_getElem?_getD,List.getElem?_set]
     split
     · rename_i e; subst e; rw [if_pos (by rw [HL.out]; omega)]; rfl
     · rw [← List.getD_eq_getElem?_getD]; exact HT.out j (by omega)
    case measure => simp [intOf]; omega
  · obtain rfl : k = 5 := by omega
    have a0 := (HA.out.1 0 (by omega)).trans (by rw [HT.out 0 (by omega)])
    have a1 := (HA.out.1 1 (by omega)).trans (by rw [HT.out 1 (by omega)])
    have a2 := (HA.out.1 2 (by omega)).trans (by rw [HT.out 2 (by omega)])
    have a3 := (HA.out.1 3 (by omega)).trans (by rw [HT.out 3 (by omega)])
    have a4 := (HA.out.1 4 (by omega)).trans (by rw [HT.out 4 (by omega)])
    have hz : w.heap.size < E.heap.size := by rw [HEz.out]; omega
    have r0 := (HC.out.cell (b := w.heap.size) (o := 0) hz (by omega)).trans (R0.out 0 (by omega))
    have r1 := (HC.out.cell (b := w.heap.size) (o := 1) hz (by omega)).trans (R0.out 1 (by omega))
    have r2 := (HC.out.cell (b := w.heap.size) (o := 2) hz (by omega)).trans (R0.out 2 (by omega))
    have r3 := (HC.out.cell (b := w.heap.size) (o := 3) hz (by omega)).trans (R0.out 3 (by omega))
    have r4 := (HC.out.cell (b := w.heap.size) (o := 4) hz (by omega)).trans (R0.out 4 (by omega))
    have rz := fun o => (HC.out.frozen (b := w.heap.size) (o := o) hz (by omega)).trans (RZ.out o)
    have HB := Lib.hid (show Below w.heap.size w wr from hE.trans (HC.out.below (B := w.heap.size) (fun q hq => by omega) (by omega)))
    go_wp2
    refine bodyPost_ret (v := bAgg blank5) (by simp [results,Tryz.results89,go_sem,r0,r1,r2,r3,r4,blank5,at5]) rfl ⟨rfl,?_⟩
    exact below_set5 HB.out (Nat.le_refl _) _ _ _ _ _
end Go.Proofs.YtobdijcnfmgidaaGreat
