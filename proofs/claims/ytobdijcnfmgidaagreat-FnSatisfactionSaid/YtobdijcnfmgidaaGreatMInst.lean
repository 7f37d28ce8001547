/- Walks and plain lemmas for the laws of this seat. -/
import Derived.Lib.SlicesCompact
import Derived.Laws.IdiomCopy
import Derived.Test.YtobdijcnfmgidaaGreatBase
import Derived.Test.YtobdijcnfmgidaaGreatDrawR
import Derived.Test.YtobdijcnfmgidaaGreatAft
import Derived.Test.YtobdijcnfmgidaaGreatCopI
namespace Go.Proofs.YtobdijcnfmgidaaGreat
open Go.RowKit
def cmpF (a b : Fct) : Int := cmpFact a.rel a.vals b.rel b.vals
theorem cmpF_zero (a b : Fct) : cmpF a b = 0 ↔ a = b := by
 unfold cmpF cmpFact
 split
 · constructor
   · intro h; cases h
   · rintro rfl; omega
 · split
   · constructor
     · intro h; cases h
     · rintro rfl; omega
   · rw [cmpInts_zero]
     constructor
     · intro h; exact Fct.ext' (by omega) h
     · rintro rfl; rfl
instance : DecidableEq Fct := fun a b => by
 cases a; cases b; rw [Fct.mk.injEq]; exact inferInstance
def placeFrom (x : Fct) : List Fct → Nat → Int
 | [],_ => -1
 | y :: t,i => if y = x then (i : Int) else placeFrom x t (i + 1)
def placeF (x : Fct) (l : List Fct) : Int := placeFrom x l 0
def PlaceTo (x : Fct) (l : List Fct) (k : Nat) : Prop := placeF x l = placeFrom x (l.drop k) k
theorem PlaceTo.zero (x : Fct) (l : List Fct) : PlaceTo x l 0 := rfl
theorem PlaceTo.next {x : Fct} {l : List Fct} {k : Nat} (h : PlaceTo x l k) (hk : k < l.length) (hn : ¬ l[k] = x) : PlaceTo x l (k + 1) := by
 unfold PlaceTo at *
 rw [h,List.drop_eq_getElem_cons hk,placeFrom,if_neg hn]
theorem PlaceTo.hit {x : Fct} {l : List Fct} {k : Nat} (h : PlaceTo x l k) (hk : k < l.length) (hn : l[k] = x) : placeF x l = (k : Int) := by
 unfold PlaceTo at h
 rw [h,List.drop_eq_getElem_cons hk,placeFrom,if_pos hn]
theorem PlaceTo.miss {x : Fct} {l : List Fct} (h : PlaceTo x l l.length) : placeF x l = -1 := by
 unfold PlaceTo at h
 rw [h,List.drop_length]; rfl
def srcNull (l : List Rel) (f : Fct) : Bool := (l.getD f.rel.toNat zeroRel).source && decide (0 < (nullsOf f.vals).length)
def stepOk (x : Inst) (i : Nat) : Bool := factOk x.rels (x.facts.getD i default).rel (x.facts.getD i default).vals && ((decide (i = 0) || decide (cmpF (x.facts.getD (i - 1) default) (x.facts.getD i default) < 0)) && !srcNull x.rels (x.facts.getD i default))
def instOk (x : Inst) : Bool := (List.range x.facts.length).all (stepOk x) && (validRels x.rels && decide (x.facts.length ≤ 30))
def FactsTo (x : Inst) (k : Nat) : Prop := ∀ i, i < k → stepOk x i = true
theorem FactsTo.zero (x : Inst) : FactsTo x 0 := fun _ h => absurd h (by omega)
theorem FactsTo.next {x : Inst} {k : Nat} (h : FactsTo x k) (hk : stepOk x k = true) : FactsTo x (k + 1) := fun i hi => by
 by_cases e : i = k
 · subst e; exact hk
 · exact h i (by omega)
theorem instOk_no {x : Inst} (i : Nat) (hi : i < x.facts.length) (h : stepOk x i = false) : instOk x = false := by
 have : (List.range x.facts.length).all (stepOk x) = false := by
  rw [List.all_eq_false]; exact ⟨i,List.mem_range.2 hi,by rw [h]; simp⟩
 unfold instOk; rw [this]; rfl
theorem instOk_end {x : Inst} (h : FactsTo x x.facts.length) : instOk x = (validRels x.rels && decide (x.facts.length ≤ 30)) := by
 have : (List.range x.facts.length).all (stepOk x) = true := by
  rw [List.all_eq_true]; exact fun i hi => h i (List.mem_range.1 hi)
 unfold instOk; rw [this]; rfl
theorem instOk_parts {x : Inst} (h : instOk x = true) : FactsTo x x.facts.length ∧ validRels x.rels = true ∧ x.facts.length ≤ 30 := by
 unfold instOk at h
 simp only [Bool.and_eq_true,decide_eq_true_eq,List.all_eq_true] at h
 exact ⟨fun i hi => h.1 i (List.mem_range.2 hi),h.2.1,h.2.2⟩
theorem stepOk_at {x : Inst} {i : Nat} (hi : i < x.facts.length) : stepOk x i = (factOk x.rels x.facts[i].rel x.facts[i].vals && ((decide (i = 0) || decide (cmpF (x.facts.getD (i - 1) default) x.facts[i] < 0)) && !srcNull x.rels x.facts[i])) := by
 have e : x.facts.getD i default = x.facts[i] := by simp [List.getD,hi]
 unfold stepOk; rw [e]
theorem stepOk_fact {x : Inst} {i : Nat} (hi : i < x.facts.length) (h : factOk x.rels x.facts[i].rel x.facts[i].vals = false) : stepOk x i = false := by rw [stepOk_at hi, h]; rfl
theorem stepOk_cmp {x : Inst} {i : Nat} (hi : i + 1 < x.facts.length) (h : ¬ cmpF x.facts[i] x.facts[i + 1] < 0) : stepOk x (i + 1) = false := by
 have e : x.facts.getD i default = x.facts[i] := by simp [List.getD,show i < x.facts.length by omega]
 rw [stepOk_at hi,Nat.add_sub_cancel,e,decide_eq_false h]; simp
theorem stepOk_src {x : Inst} {i : Nat} (hi : i < x.facts.length) (h : srcNull x.rels x.facts[i] = true) : stepOk x i = false := by rw [stepOk_at hi, h]; simp
theorem stepOk_yes0 {x : Inst} (hi : 0 < x.facts.length) (h1 : factOk x.rels x.facts[0].rel x.facts[0].vals = true) (h2 : srcNull x.rels x.facts[0] = false) : stepOk x 0 = true := by rw [stepOk_at hi, h1, h2]; simp
theorem stepOk_yesz {x : Inst} {k : Nat} (h0 : k = 0) (hi : k < x.facts.length) (h1 : factOk x.rels x.facts[k].rel x.facts[k].vals = true) (h2 : srcNull x.rels x.facts[k] = false) : stepOk x k = true := by subst h0; exact stepOk_yes0 hi h1 h2
theorem stepOk_yes {x : Inst} {i : Nat} (hi : i + 1 < x.facts.length) (h1 : factOk x.rels x.facts[i + 1].rel x.facts[i + 1].vals = true) (h : cmpF x.facts[i] x.facts[i + 1] < 0) (h2 : srcNull x.rels x.facts[i + 1] = false) : stepOk x (i + 1) = true := by
 have e : x.facts.getD i default = x.facts[i] := by simp [List.getD,show i < x.facts.length by omega]
 rw [stepOk_at hi,Nat.add_sub_cancel,e,h1,h2,decide_eq_true h]; simp
theorem instOk_fact {x : Inst} (h : instOk x = true) : ∀ f ∈ x.facts, factOk x.rels f.rel f.vals = true := by
 intro f hf
 obtain ⟨i,hi,rfl⟩ := List.getElem_of_mem hf
 have h1 := (instOk_parts h).1 i hi
 cases hv : factOk x.rels x.facts[i].rel x.facts[i].vals with
 | true => rfl
 | false => rw [stepOk_fact hi hv] at h1; cases h1
def putPos (f : Fct) : List Fct → Nat
 | [] => 0
 | y :: t => if cmpF y f < 0 then putPos f t + 1 else 0
def putF (l : List Fct) (f : Fct) : List Fct := if 0 ≤ placeF f l then l else l.take (putPos f l) ++ f :: l.drop (putPos f l)
theorem putPos_le (f : Fct) (l : List Fct) : putPos f l ≤ l.length := by
 induction l with
 | nil => exact Nat.le_refl _
 | cons y t ih =>
   unfold putPos
   split
   · simp; exact ih
   · simp
def PosTo (f : Fct) (l : List Fct) (k : Nat) : Prop := putPos f l = k + putPos f (l.drop k)
theorem PosTo.zero (f : Fct) (l : List Fct) : PosTo f l 0 := by unfold PosTo; simp
theorem PosTo.next {f : Fct} {l : List Fct} {k : Nat} (h : PosTo f l k) (hk : k < l.length) (hl : cmpF l[k] f < 0) : PosTo f l (k + 1) := by
 unfold PosTo at *
 rw [h,List.drop_eq_getElem_cons hk,putPos,if_pos hl]; omega
theorem PosTo.stop {f : Fct} {l : List Fct} {k : Nat} (h : PosTo f l k) (hk : k < l.length) (hl : ¬ cmpF l[k] f < 0) : putPos f l = k := by
 unfold PosTo at h
 rw [h,List.drop_eq_getElem_cons hk,putPos,if_neg hl]; rfl
theorem PosTo.last {f : Fct} {l : List Fct} {k : Nat} (h : PosTo f l k) (hk : k = l.length) : putPos f l = k := by
 subst hk
 unfold PosTo at h
 rw [h,List.drop_length]; rfl
def relSrc (l : List Rel) (f : Fct) : Bool := (l.getD f.rel.toNat zeroRel).source
def srcP (l : List Rel) (b : Bool) (f : Fct) : Bool := relSrc l f == b
def restrictI (x : Inst) (b : Bool) : Inst := if instOk x then ⟨x.rels, x.facts.filter (srcP x.rels b)⟩ else ⟨[], []⟩
theorem srcP_at {l : List Rel} {f : Fct} {r : Nat} (b : Bool) (hr : (r : Int) = f.rel) (h : r < l.length) : srcP l b f = (l[r].source == b) := by
 unfold srcP relSrc; rw [← hr,Int.toNat_natCast,getD_at h]
theorem filter_take {l : List Fct} (p : Fct → Bool) (k : Nat) (h : k < l.length) : (l.take (k + 1)).filter p = (l.take k).filter p ++ (if p l[k] then [l[k]] else []) := by
 rw [List.take_succ_eq_append_getElem h,List.filter_append]
 congr 1
 by_cases hp : p l[k] <;> simp [hp]
def SubTo (x y : List Fct) (k : Nat) : Prop := ∀ i (h : i < x.length), i < k → 0 ≤ placeF x[i] y
theorem SubTo.zero (x y : List Fct) : SubTo x y 0 := fun _ _ h => absurd h (by omega)
theorem SubTo.next {x y : List Fct} {k : Nat} (h : SubTo x y k) (hk : k < x.length) (hp : 0 ≤ placeF x[k] y) : SubTo x y (k + 1) := fun i hi hik => by
 by_cases e : i = k
 · subst e; exact hp
 · exact h i hi (by omega)
theorem cmpInts_trans (a b c : List Int) (h1 : cmpInts a b < 0) (h2 : cmpInts b c < 0) : cmpInts a c < 0 := by
 induction a generalizing b c with
 | nil =>
   cases c with
   | nil => cases b with
     | nil => simp [cmpInts] at h1
     | cons => simp [cmpInts] at h2
   | cons => simp [cmpInts]
 | cons x a ih =>
   cases b with
   | nil => simp [cmpInts] at h1
   | cons y b =>
     cases c with
     | nil => simp [cmpInts] at h2
     | cons z c =>
       unfold cmpInts at h1 h2 ⊢
       by_cases e1 : x < y
       · by_cases e2 : y < z
         · rw [if_pos (by omega)]; decide
         · rw [if_neg e2] at h2
           by_cases e3 : z < y
           · rw [if_pos e3] at h2; omega
           · rw [if_pos (by omega)]; decide
       · rw [if_neg e1] at h1
         by_cases e2 : y < x
         · rw [if_pos e2] at h1; omega
         · rw [if_neg e2] at h1
           by_cases e3 : y < z
           · rw [if_pos (by omega)]; decide
           · rw [if_neg e3] at h2
             by_cases e4 : z < y
             · rw [if_pos e4] at h2; omega
             · rw [if_neg e4] at h2
               rw [if_neg (by omega),if_neg (by omega)]
               exact ih b c h1 h2
theorem cmpF_trans (a b c : Fct) (h1 : cmpF a b < 0) (h2 : cmpF b c < 0) : cmpF a c < 0 := by
 unfold cmpF cmpFact at *
 by_cases e1 : a.rel < b.rel
 · by_cases e2 : b.rel < c.rel
   · rw [if_pos (by omega)]; decide
   · rw [if_neg e2] at h2
     by_cases e3 : c.rel < b.rel
     · rw [if_pos e3] at h2; omega
     · rw [if_pos (by omega)]; decide
 · rw [if_neg e1] at h1
   by_cases e2 : b.rel < a.rel
   · rw [if_pos e2] at h1; omega
   · rw [if_neg e2] at h1
     by_cases e3 : b.rel < c.rel
     · rw [if_pos (by omega)]; decide
     · rw [if_neg e3] at h2
       by_cases e4 : c.rel < b.rel
       · rw [if_pos e4] at h2; omega
       · rw [if_neg e4] at h2
         rw [if_neg (by omega),if_neg (by omega)]
         exact cmpInts_trans _ _ _ h1 h2
theorem cmpF_self (a : Fct) : cmpF a a = 0 := (cmpF_zero a a).2 rfl
theorem placeFrom_mem (f : Fct) (l : List Fct) (i : Nat) : 0 ≤ placeFrom f l i ↔ f ∈ l := by
 induction l generalizing i with
 | nil => simp [placeFrom]
 | cons y t ih =>
   unfold placeFrom
   split
   · rename_i h; subst h; simp
   · rename_i h; rw [ih,List.mem_cons]
     exact ⟨.inr,fun h' => h'.resolve_left (fun e => h e.symm)⟩
theorem placeF_mem (f : Fct) (l : List Fct) : 0 ≤ placeF f l ↔ f ∈ l := placeFrom_mem f l 0
abbrev AscF (l : List Fct) : Prop := l.Pairwise fun a b => cmpF a b < 0
theorem asc_adj (l : List Fct) (h : ∀ i (hi : i + 1 < l.length), cmpF l[i] l[i + 1] < 0) : AscF l := by
 refine List.pairwise_iff_getElem.2 fun i j hi hj hij => ?_
 obtain ⟨d,rfl⟩ : ∃ d,j = i + 1 + d := ⟨j - i - 1,by omega⟩
 induction d with
 | zero => exact h i hj
 | succ d ih => exact cmpF_trans _ _ _ (ih (by omega) (by omega)) (h (i + 1 + d) hj)
theorem stepOk_split {x : Inst} {i : Nat} (hi : i < x.facts.length) (h : stepOk x i = true) : factOk x.rels x.facts[i].rel x.facts[i].vals = true ∧ srcNull x.rels x.facts[i] = false := by
 rw [stepOk_at hi] at h
 simp only [Bool.and_eq_true,Bool.not_eq_true'] at h
 exact ⟨h.1,h.2.2⟩
theorem stepOk_less {x : Inst} {i : Nat} (hi : i + 1 < x.facts.length) (h : stepOk x (i + 1) = true) : cmpF x.facts[i] x.facts[i + 1] < 0 := by
 refine Classical.byContradiction fun hn => ?_
 rw [stepOk_cmp hi hn] at h; cases h
theorem instOk_iff (x : Inst) : instOk x = true ↔ (∀ f ∈ x.facts, factOk x.rels f.rel f.vals = true ∧ srcNull x.rels f = false) ∧ AscF x.facts ∧ validRels x.rels = true ∧ x.facts.length ≤ 30 := by
 constructor
 · intro h
   obtain ⟨h1,h2,h3⟩ := instOk_parts h
   refine ⟨fun f hf => ?_,asc_adj _ fun i hi => stepOk_less hi (h1 (i + 1) hi),h2,h3⟩
   obtain ⟨i,hi,rfl⟩ := List.getElem_of_mem hf
   exact stepOk_split hi (h1 i hi)
 · rintro ⟨h1,h2,h3,h4⟩
   suffices hT : FactsTo x x.facts.length by rw [instOk_end hT,h3,decide_eq_true h4]; rfl
   intro i hi
   have hf := h1 x.facts[i] (List.getElem_mem hi)
   rcases Nat.eq_zero_or_pos i with h0 | h0
   · subst h0; exact stepOk_yes0 hi hf.1 hf.2
   · obtain ⟨k,rfl⟩ : ∃ k,i = k + 1 := ⟨i - 1,by omega⟩
     exact stepOk_yes hi hf.1 (List.pairwise_iff_getElem.1 h2 k (k + 1) (by omega) hi (by omega)) hf.2
theorem putF_new {l : List Fct} {f : Fct} (h : f ∉ l) : putF l f = l.take (putPos f l) ++ f :: l.drop (putPos f l) := by
 unfold putF; rw [if_neg (fun h' => h ((placeF_mem f l).1 h'))]
theorem putF_iff (l : List Fct) (f g : Fct) : g ∈ putF l f ↔ g = f ∨ g ∈ l := by
 by_cases h : f ∈ l
 · have e : putF l f = l := if_pos ((placeF_mem f l).2 h)
   rw [e]
   exact ⟨.inr,fun h' => h'.elim (fun e => e ▸ h) id⟩
 · rw [putF_new h,List.mem_append,List.mem_cons]
   have := List.take_append_drop (putPos f l) l
   constructor
   · rintro (h1 | h1 | h1)
     · exact .inr (List.mem_of_mem_take h1)
     · exact .inl h1
     · exact .inr (List.mem_of_mem_drop h1)
   · rintro (h1 | h1)
     · exact .inr (.inl h1)
     · rw [← this] at h1
       rcases List.mem_append.1 h1 with h1 | h1
       · exact .inl h1
       · exact .inr (.inr h1)
theorem putF_le (l : List Fct) (f : Fct) : (putF l f).length ≤ l.length + 1 := by
 unfold putF
 split
 · omega
 · have := putPos_le f l
   simp; omega
theorem valsLen_le3 (l : List Fct) (h : ∀ f ∈ l, f.vals.length ≤ 3) : valsLen l ≤ 3 * l.length := by
 induction l with
 | nil => simp [valsLen]
 | cons a t ih =>
   have h1 := h a (by simp)
   have h2 := ih (fun f hf => h f (by simp [hf]))
   simp only [valsLen,List.length_cons]; omega
theorem pairs_app {l m : List Fct} {Vs Us : List Value} (h : Vs.length = l.length) : pairs (l ++ m) (Vs ++ Us) = pairs l Vs ++ pairs m Us := by
 unfold pairs; rw [List.zipWith_append h.symm]
theorem pairs_take {l : List Fct} {Vs : List Value} (k : Nat) : (pairs l Vs).take k = pairs (l.take k) (Vs.take k) := by unfold pairs; rw [List.take_zipWith]
theorem pairs_drop {l : List Fct} {Vs : List Value} (k : Nat) : (pairs l Vs).drop k = pairs (l.drop k) (Vs.drop k) := by unfold pairs; rw [List.drop_zipWith]
theorem pairs_one {w : World} {B : Nat} {l : List Fct} {Vs : List Value} (h : ∀ (i : Nat) (h : i < l.length) (h' : i < Vs.length), IntS_at w B Vs[i] l[i].vals) : ∀ p ∈ pairs l Vs, ∀ u ∈ pairCells p, u.oneCell' = true := by
 intro p hp u hu
 obtain ⟨i,hi,rfl⟩ := List.getElem_of_mem hp
 have hl := hi
 unfold pairs at hl
 rw [List.length_zipWith] at hl
 rw [pairs_at i hi (by omega) (by omega)] at hu
 obtain ⟨A,c,hv,_⟩ := h i (by omega) (by omega)
 simp only [pairCells,List.mem_cons,List.not_mem_nil,or_false] at hu
 rcases hu with rfl | rfl
 · rfl
 · rw [hv]; rfl
theorem put_elems {Q : Value → Fct → Prop} (l : List Fct) (Vs : List Value) (k : Nat) (U : Value) (y : Fct) (hk : k ≤ l.length) (hl : Vs.length = l.length) (h : ∀ (i : Nat) (h : i < l.length) (h' : i < Vs.length), Q Vs[i] l[i]) (hU : Q U y) :
 ∀ (i : Nat) (h : i < (l.take k ++ y :: l.drop k).length) (h' : i < (Vs.take k ++ U :: Vs.drop k).length),Q (Vs.take k ++ U :: Vs.drop k)[i] (l.take k ++ y :: l.drop k)[i] := by
 intro i h1 h2
 have hlen : i < l.length + 1 := by simp at h1; omega
 rcases Nat.lt_trichotomy i k with hi | hi | hi
 · have e1 : (Vs.take k ++ U :: Vs.drop k)[i] = Vs[i]'(by omega) := by grind
   have e2 : (l.take k ++ y :: l.drop k)[i] = l[i]'(by omega) := by grind
   rw [e1,e2]; exact h i _ _
 · have e1 : (Vs.take k ++ U :: Vs.drop k)[i] = U := by grind
   have e2 : (l.take k ++ y :: l.drop k)[i] = y := by grind
   rw [e1,e2]; exact hU
 · have e1 : (Vs.take k ++ U :: Vs.drop k)[i] = Vs[i - 1]'(by omega) := by grind
   have e2 : (l.take k ++ y :: l.drop k)[i] = l[i - 1]'(by omega) := by grind
   rw [e1,e2]; exact h (i - 1) _ _
def addNum (out : List Int) (v : Int) : List Int := if (nullNum v).2 then out ++ [(nullNum v).1] else out
def numsOf (vs : List Int) : List Int := vs.foldl addNum []
theorem nums_mem (vs : List Int) (a b : List Int) (h : ∀ x, x ∈ a ↔ x ∈ b) (x : Int) : x ∈ vs.foldl addNum a ↔ x ∈ vs.foldl addNull b := by
 induction vs generalizing a b with
 | nil => exact h x
 | cons v t ih =>
   rw [List.foldl_cons,List.foldl_cons]
   refine ih _ _ (fun y => ?_)
   unfold addNum addNull
   split
   · rw [List.mem_append,putI_mem,List.mem_singleton,h y,or_comm]
   · exact h y
theorem asc_eq (a b : List Int) (ha : a.Pairwise (· < ·)) (hb : b.Pairwise (· < ·)) (h : ∀ x, x ∈ a ↔ x ∈ b) : a = b := by
 induction a generalizing b with
 | nil =>
   cases b with
   | nil => rfl
   | cons y t => exact absurd ((h y).2 (by simp)) (by simp)
 | cons x a ih =>
   cases b with
   | nil => exact absurd ((h x).1 (by simp)) (by simp)
   | cons y t =>
     rw [List.pairwise_cons] at ha hb
     have e : x = y := by
      rcases List.mem_cons.1 ((h x).1 (by simp)) with h1 | h1
      · exact h1
      · rcases List.mem_cons.1 ((h y).2 (by simp)) with h2 | h2
        · exact h2.symm
        · have := ha.1 y h2; have := hb.1 x h1; omega
     subst e
     congr 1
     refine ih t ha.2 hb.2 (fun z => ⟨fun hz => ?_,fun hz => ?_⟩)
     · rcases List.mem_cons.1 ((h z).1 (by simp [hz])) with h1 | h1
       · have := ha.1 z hz; omega
       · exact h1
     · rcases List.mem_cons.1 ((h z).2 (by simp [hz])) with h1 | h1
       · have := hb.1 z hz; omega
       · exact h1
theorem compact_upTo (zs : List Int) (hs : zs.Pairwise (· ≤ ·)) (m : Nat) (hm : m ≤ zs.length) : (Lib.compactUpTo zs.toArray m).Pairwise (· < ·) ∧ (∀ x, x ∈ Lib.compactUpTo zs.toArray m ↔ x ∈ zs.take m) := by
 induction m with
 | zero => simp [Lib.compactUpTo]
 | succ m ih =>
   obtain ⟨i1,i2⟩ := ih (by omega)
   have hlt : m < zs.length := by omega
   have e0 : zs.toArray[m]! = zs[m] := by rw [getElem!_pos _ m (by simpa using hlt)]; simp
   rw [Lib.compactUpTo_succ,e0,List.take_succ_eq_append_getElem hlt]
   have hle : ∀ y ∈ zs.take m,y ≤ zs[m] := by
    intro y hy
    obtain ⟨j,hj,rfl⟩ := List.getElem_of_mem hy
    rw [List.getElem_take]
    exact List.pairwise_iff_getElem.1 hs j m (by rw [List.length_take] at hj; omega) hlt (by rw [List.length_take] at hj; omega)
   cases hk : Lib.keeps zs.toArray m with
   | true =>
     rw [if_pos rfl]
     refine ⟨?_,fun x => by rw [List.mem_append,List.mem_append,i2]⟩
     rw [List.pairwise_append]
     refine ⟨i1,by simp,fun y hy z hz => ?_⟩
     rw [List.mem_singleton.1 hz]
     have hy' := (i2 y).1 hy
     have h1 := hle y hy'
     have h2 : ¬ y = zs[m] := by
      intro e
      unfold Lib.keeps at hk
      rw [decide_eq_true_eq] at hk
      rcases hk with hk | hk
      · subst hk; simp at hy'
      · refine hk ?_
        have hm1 : m - 1 < zs.length := by omega
        rcases Nat.eq_zero_or_pos m with h0 | h0
        · subst h0; simp at hy'
        have e1 : zs.toArray[m - 1]! = zs[m - 1] := by rw [getElem!_pos _ (m - 1) (by simpa using hm1)]; simp
        rw [e0,e1]
        obtain ⟨j,hj,rfl⟩ := List.getElem_of_mem hy'
        rw [List.length_take] at hj
        rw [List.getElem_take] at e
        have ha := List.pairwise_iff_getElem.1 hs (m - 1) m hm1 hlt (by omega)
        rcases Nat.lt_or_eq_of_le (show j ≤ m - 1 by omega) with hj1 | hj1
        · have hb := List.pairwise_iff_getElem.1 hs j (m - 1) (by omega) hm1 hj1
          omega
        · subst hj1; omega
     omega
   | false =>
     rw [if_neg (by simp),List.append_nil]
     refine ⟨i1,fun x => ?_⟩
     rw [i2,List.mem_append]
     refine ⟨.inl,fun h => ?_⟩
     rcases h with h | h
     · exact h
     · rw [List.mem_singleton.1 h]
       unfold Lib.keeps at hk
       rw [decide_eq_false_iff_not] at hk
       have h0 : 0 < m := by
        rcases Nat.eq_zero_or_pos m with h0 | h0
        · exact absurd (.inl h0) hk
        · exact h0
       have hm1 : m - 1 < zs.length := by omega
       have e1 : zs.toArray[m - 1]! = zs[m - 1] := by rw [getElem!_pos _ (m - 1) (by simpa using hm1)]; simp
       have : zs[m] = zs[m - 1] := by
        rw [← e0,← e1]
        exact Classical.byContradiction fun hh => hk (.inr hh)
       rw [this]
       exact List.mem_iff_getElem.2 ⟨m - 1,by rw [List.length_take]; omega,by rw [List.getElem_take]⟩
def ixFrom {α : Type} (p : α → Bool) : List α → Nat → Int
 | [],_ => -1
 | y :: t,i => if p y = true then (i : Int) else ixFrom p t (i + 1)
def ixOf {α : Type} (p : α → Bool) (l : List α) : Int := ixFrom p l 0
def IxTo {α : Type} (p : α → Bool) (l : List α) (k : Nat) : Prop := ixOf p l = ixFrom p (l.drop k) k
theorem IxTo.zero {α : Type} (p : α → Bool) (l : List α) : IxTo p l 0 := rfl
theorem IxTo.next {α : Type} {p : α → Bool} {l : List α} {k : Nat} (h : IxTo p l k) (hk : k < l.length) (hn : p l[k] = false) : IxTo p l (k + 1) := by
 unfold IxTo at *
 rw [h,List.drop_eq_getElem_cons hk,ixFrom,if_neg (by rw [hn]; simp)]
theorem IxTo.hit {α : Type} {p : α → Bool} {l : List α} {k : Nat} (h : IxTo p l k) (hk : k < l.length) (hn : p l[k] = true) : ixOf p l = (k : Int) := by
 unfold IxTo at h
 rw [h,List.drop_eq_getElem_cons hk,ixFrom,if_pos hn]
theorem IxTo.miss {α : Type} {p : α → Bool} {l : List α} (h : IxTo p l l.length) : ixOf p l = -1 := by
 unfold IxTo at h
 rw [h,List.drop_length]; rfl
theorem ixFrom_form {α : Type} (p : α → Bool) (l : List α) (i : Nat) : (ixFrom p l i = -1 ∧ l.any p = false) ∨ ∃ k, ∃ h : k < l.length, ixFrom p l i = ((i + k : Nat) : Int) ∧ p l[k] = true ∧ ∀ j (hj : j < l.length), j < k → p l[j] = false := by
 induction l generalizing i with
 | nil => exact .inl ⟨rfl,rfl⟩
 | cons y t ih =>
   cases hy : p y with
   | true => exact .inr ⟨0,by simp,by rw [ixFrom,if_pos hy]; rfl,hy,fun j hj h => absurd h (by omega)⟩
   | false =>
     have e : ixFrom p (y :: t) i = ixFrom p t (i + 1) := by rw [ixFrom,if_neg (by rw [hy]; simp)]
     rcases ih (i + 1) with ⟨h1,h2⟩ | ⟨k,hk,h1,h2,h3⟩
     · exact .inl ⟨e.trans h1,by rw [List.any_cons,hy,h2]; rfl⟩
     · refine .inr ⟨k + 1,by simpa using hk,by rw [e,h1]; congr 1; omega,by simpa using h2,fun j hj hjk => ?_⟩
       cases j with
       | zero => exact hy
       | succ j => exact h3 j (by simpa using hj) (by omega)
theorem ixOf_form {α : Type} (p : α → Bool) (l : List α) : (ixOf p l = -1 ∧ l.any p = false) ∨ ∃ k, ∃ h : k < l.length, ixOf p l = (k : Int) ∧ p l[k] = true ∧ ∀ j (hj : j < l.length), j < k → p l[j] = false := by
 rcases ixFrom_form p l 0 with h | ⟨k,hk,h1,h2,h3⟩
 · exact .inl h
 · exact .inr ⟨k,hk,by unfold ixOf; rw [h1,Nat.zero_add],h2,h3⟩
theorem ixOf_any {α : Type} (p : α → Bool) (l : List α) : decide (0 ≤ ixOf p l) = l.any p := by
 rcases ixOf_form p l with ⟨h1,h2⟩ | ⟨k,hk,h1,h2,_⟩
 · rw [h1,h2]; rfl
 · rw [h1,decide_eq_true (by omega)]
   exact (List.any_eq_true.2 ⟨l[k],List.getElem_mem hk,h2⟩).symm
def keepN {α : Type} (p : α → Bool) (l : List α) : List α := l.filter fun x => !p x
theorem keepN_none {α : Type} {p : α → Bool} {l : List α} (h : l.any p = false) : keepN p l = l := by
 unfold keepN
 rw [List.filter_eq_self]
 intro a ha
 rw [List.any_eq_false] at h
 simpa using h a ha
theorem keepN_take {α : Type} {p : α → Bool} {l : List α} (k : Nat) (h : k < l.length) : keepN p (l.take (k + 1)) = keepN p (l.take k) ++ (if p l[k] = true then [] else [l[k]]) := by
 unfold keepN
 rw [List.take_succ_eq_append_getElem h,List.filter_append]
 congr 1
 by_cases hp : p l[k] = true <;> simp [hp]
theorem keepN_len {α : Type} (p : α → Bool) (l : List α) : (keepN p l).length ≤ l.length := List.length_filter_le _ _
theorem keepN_first {α : Type} {p : α → Bool} {l : List α} (k : Nat) (h : k < l.length) (h1 : p l[k] = true) (h2 : ∀ j (hj : j < l.length), j < k → p l[j] = false) : keepN p (l.take (k + 1)) = l.take k := by
 rw [keepN_take k h,if_pos h1,List.append_nil]
 refine keepN_none (List.any_eq_false.2 fun a ha => ?_)
 obtain ⟨j,hj,rfl⟩ := List.getElem_of_mem ha
 rw [List.length_take] at hj
 rw [List.getElem_take,h2 j (by omega) (by omega)]; simp
theorem AscN.put {l : List Int} (h : AscN l) (x : Int) (h0 : 0 ≤ x) (h1 : x < 40) : AscN (putI l x) := by
 refine ⟨putI_asc l x h.1,fun y hy => ?_⟩
 rcases (putI_mem l x y).1 hy with rfl | hy
 · exact ⟨h0,h1⟩
 · exact h.2 y hy
def sameP (f : Fct) (g : Fct) : Bool := decide (g = f)
theorem cmpF_same (g f : Fct) : decide (cmpF g f = 0) = sameP f g := by
 unfold sameP; exact decide_eq_decide.2 (cmpF_zero g f)
def negAny (vs : List Int) : Bool := vs.any fun v => decide (v < 0)
theorem negAny_nulls {vs : List Int} (h : vs.all validV = true) : negAny vs = decide (0 < (nullsOf vs).length) := by
 have key : ∀ x,x ∈ nullsOf vs ↔ x ∈ numsOf vs := fun x => (nums_mem vs [] [] (fun _ => Iff.rfl) x).symm
 have hn : ∀ (us : List Int) (o : List Int) (x : Int),x ∈ us.foldl addNum o ↔ x ∈ o ∨ ∃ v ∈ us,(nullNum v).2 = true ∧ (nullNum v).1 = x := by
  intro us
  induction us with
  | nil => simp
  | cons v t ih =>
    intro o x
    rw [List.foldl_cons,ih]
    unfold addNum
    split
    · rename_i hv
      simp only [List.mem_append,List.mem_cons,List.not_mem_nil,or_false,exists_eq_or_imp]
      constructor
      · rintro ((h | rfl) | h)
        · exact .inl h
        · exact .inr (.inl ⟨hv,rfl⟩)
        · exact .inr (.inr h)
      · rintro (h | ⟨_,rfl⟩ | h)
        · exact .inl (.inl h)
        · exact .inl (.inr rfl)
        · exact .inr h
    · rename_i hv
      constructor
      · rintro (h | ⟨u,hu,h⟩)
        · exact .inl h
        · exact .inr ⟨u,List.mem_cons.2 (.inr hu),h⟩
      · rintro (h | ⟨u,hu,h1,h2⟩)
        · exact .inl h
        · rcases List.mem_cons.1 hu with rfl | hu
          · exact absurd h1 hv
          · exact .inr ⟨u,hu,h1,h2⟩
 rw [List.all_eq_true] at h
 cases hb : negAny vs with
 | true =>
   obtain ⟨v,hv,h0⟩ := List.any_eq_true.1 hb
   have h1 := h v hv
   unfold validV at h1
   have h2 : (nullNum v).2 = true := by rw [nullNum_yes v (by simp at h0 h1; omega)]
   have h3 : (nullNum v).1 ∈ nullsOf vs := (key _).2 ((hn vs [] _).2 (.inr ⟨v,hv,h2,rfl⟩))
   exact (decide_eq_true (List.length_pos_of_mem h3)).symm
 | false =>
   refine (decide_eq_false fun hp => ?_).symm
   obtain ⟨x,hx⟩ := List.exists_mem_of_length_pos hp
   rcases (hn vs [] x).1 ((key x).1 hx) with h1 | ⟨v,hv,h1,_⟩
   · simp at h1
   · unfold negAny at hb
     rw [List.any_eq_false] at hb
     refine hb v hv ?_
     unfold nullNum at h1
     split at h1
     · simp; omega
     · cases h1
def okFact (l : List Rel) (f : Fct) : Bool := factOk l f.rel f.vals && (!relSrc l f || !negAny f.vals)
theorem okFact_eq (l : List Rel) (f : Fct) : okFact l f = (factOk l f.rel f.vals && !srcNull l f) := by
 unfold okFact
 cases h : factOk l f.rel f.vals with
 | false => rfl
 | true =>
   obtain ⟨h1,h2,h3,h4⟩ := factOk_parts h
   have hv : f.vals.all validV = true := by
    rw [List.all_eq_true]
    intro v hv
    obtain ⟨k,hk,rfl⟩ := List.getElem_of_mem hv
    exact h4 k hk
   rw [negAny_nulls hv]
   unfold srcNull relSrc
   rw [Bool.not_and]
theorem stepOk_okF {x : Inst} {i : Nat} (hi : i < x.facts.length) : stepOk x i = (okFact x.rels x.facts[i] && (decide (i = 0) || decide (cmpF (x.facts.getD (i - 1) default) x.facts[i] < 0))) := by
 rw [stepOk_at hi,okFact_eq,Bool.and_assoc,Bool.and_comm (!srcNull _ _)]
theorem instOk_rels {x : Inst} (h : validRels x.rels = false) : instOk x = false := by unfold instOk; rw [h]; simp
theorem instOk_len {x : Inst} (h : ¬ x.facts.length ≤ 30) : instOk x = false := by unfold instOk; rw [decide_eq_false h]; simp
theorem instOk_yes {x : Inst} (h1 : validRels x.rels = true) (h2 : x.facts.length ≤ 30) (h : FactsTo x x.facts.length) : instOk x = true := by rw [instOk_end h, h1, decide_eq_true h2]; rfl
theorem restrict_keep {x : Inst} (b : Bool) (h : instOk x = true) : restrictI x b = ⟨x.rels, keepN (fun f => !srcP x.rels b f) x.facts⟩ := by
 unfold restrictI keepN
 rw [if_pos h]
 simp
def zCells (z : Fct × Value) : List Value := [.int .i64 z.1.rel, z.2]
theorem zCells_len (z : Fct × Value) : (zCells z).length = 2 := rfl
theorem zip_cells {l : List Fct} {Vs : List Value} : (l.zip Vs).flatMap zCells = (pairs l Vs).flatMap pairCells := by
 unfold pairs
 rw [← List.map_uncurry_zip_eq_zipWith,List.flatMap_map]
 rfl
theorem unzip_cells (Z : List (Fct × Value)) : Z.flatMap zCells = (pairs (Z.map Prod.fst) (Z.map Prod.snd)).flatMap pairCells := by
 rw [← zip_cells]
 congr 1
 exact (List.zip_of_prod rfl rfl)
def onF (p : Fct → Bool) (z : Fct × Value) : Bool := p z.1
theorem keep_fst (p : Fct → Bool) (Z : List (Fct × Value)) : (keepN (onF p) Z).map Prod.fst = keepN p (Z.map Prod.fst) := by
 unfold keepN
 rw [List.filter_map]
 rfl
theorem keep_any (p : Fct → Bool) (Z : List (Fct × Value)) : Z.any (onF p) = (Z.map Prod.fst).any p := by
 rw [List.any_map]; rfl
theorem FactSO.ofZ {e : TypeId} {B C : Nat} {v : Value} {Z : List (Fct × Value)} {w : World} (hrow : w.ownsRow B e 2 v Z.length (Z.flatMap zCells)) (hin : Value.inside C v) (hel : ∀ z ∈ Z, IntS_own B C z.2 z.1.vals w) (hd : Apart (Z.map Prod.snd)) :
 FactSO e B C v (Z.map Prod.snd) (Z.map Prod.fst) w := by
 refine ⟨by simp,?_,hin,fun i h h' => ?_,hd⟩
 · rw [← unzip_cells,pairs_len (by simp),List.length_map]; exact hrow
 · simp only [List.getElem_map]
   exact hel _ (List.getElem_mem _)
theorem FactSO.toZ {e : TypeId} {B C : Nat} {v : Value} {l : List Fct} {Vs : List Value} {w : World} (h : FactSO e B C v Vs l w) :
 w.ownsRow B e 2 v (l.zip Vs).length ((l.zip Vs).flatMap zCells) ∧ (∀ z ∈ l.zip Vs,IntS_own B C z.2 z.1.vals w) ∧ (l.zip Vs).map Prod.fst = l ∧ (l.zip Vs).map Prod.snd = Vs ∧ (l.zip Vs).length = l.length := by
 have hl := h.len
 refine ⟨?_,fun z hz => ?_,List.map_fst_zip (by omega),List.map_snd_zip (by omega),by simp [hl]⟩
 · rw [zip_cells]
   have := h.row
   rw [pairs_len hl] at this
   simpa [hl] using this
 · obtain ⟨i,hi,rfl⟩ := List.getElem_of_mem hz
   rw [List.length_zip] at hi
   rw [List.getElem_zip]
   exact h.el i (by omega) (by omega)
def rowAt (p : Fct → Bool) (Z : List (Fct × Value)) (j : Nat) : List (Fct × Value) := keepN (onF p) (Z.take j) ++ Z.drop (keepN (onF p) (Z.take j)).length
theorem keep_le (p : Fct → Bool) (Z : List (Fct × Value)) (j : Nat) : (keepN (onF p) (Z.take j)).length ≤ Z.length ∧ (keepN (onF p) (Z.take j)).length ≤ j := by
 have h := keepN_len (onF p) (Z.take j)
 rw [List.length_take] at h; omega
theorem rowAt_len (p : Fct → Bool) (Z : List (Fct × Value)) (j : Nat) : (rowAt p Z j).length = Z.length := by
 have := keep_le p Z j
 unfold rowAt
 rw [List.length_append,List.length_drop]; omega
theorem rowAt_get (p : Fct → Bool) (Z : List (Fct × Value)) (j k : Nat) (h : j ≤ k) (hk : k < Z.length) : (rowAt p Z j)[k]'(by rw [rowAt_len]; exact hk) = Z[k] := by
 have := keep_le p Z j
 unfold rowAt
 rw [List.getElem_append_right (by omega),List.getElem_drop]
 congr 1; omega
theorem rowAt_drop (p : Fct → Bool) (Z : List (Fct × Value)) (j : Nat) (hj : j < Z.length) (h : p Z[j].1 = true) : rowAt p Z (j + 1) = rowAt p Z j ∧ (keepN (onF p) (Z.take (j + 1))).length = (keepN (onF p) (Z.take j)).length := by
 have e : keepN (onF p) (Z.take (j + 1)) = keepN (onF p) (Z.take j) := by rw [keepN_take j hj,if_pos (show onF p Z[j] = true from h),List.append_nil]
 unfold rowAt; rw [e]; exact ⟨rfl,rfl⟩
theorem rowAt_keep (p : Fct → Bool) (Z : List (Fct × Value)) (j : Nat) (hj : j < Z.length) (h : p Z[j].1 = false) : rowAt p Z (j + 1) = (rowAt p Z j).set (keepN (onF p) (Z.take j)).length Z[j] ∧ (keepN (onF p) (Z.take (j + 1))).length = (keepN (onF p) (Z.take j)).length + 1 := by
 have e : keepN (onF p) (Z.take (j + 1)) = keepN (onF p) (Z.take j) ++ [Z[j]] := by rw [keepN_take j hj,if_neg (show ¬ onF p Z[j] = true by unfold onF; rw [h]; simp)]
 have hl := keep_le p Z j
 unfold rowAt; rw [e]
 refine ⟨?_,by simp⟩
 rw [List.set_append_right _ _ (Nat.le_refl _),Nat.sub_self,List.drop_eq_getElem_cons (show (keepN (onF p) (Z.take j)).length < Z.length by omega),List.set_cons_zero,List.length_append,List.length_singleton,List.append_assoc]
 rfl
theorem pairZero (n : Nat) : (Builtin.zeroCells #[.int .i64 0, .slice none 0 0] n).toList = (List.replicate n (zeroFct, (Value.slice none 0 0))).flatMap zCells := by
 have h := madeCells_pair n
 apply List.ext_getElem?
 intro i
 by_cases hi : i < n * 2
 · have e : i = i / 2 * 2 + i % 2 := by omega
   have h1 : i / 2 < (List.replicate n (zeroFct,(Value.slice none 0 0))).length := by simp; omega
   have := flat_get zCells 2 zCells_len (List.replicate n (zeroFct,(Value.slice none 0 0))) (i / 2) (i % 2) h1 (by omega)
   rw [← e] at this
   rw [this]
   simp only [List.getElem_replicate]
   have h3 : i % 2 = 0 ∨ i % 2 = 1 := by omega
   rcases h3 with h3 | h3 <;> simp [Builtin.zeroCells,hi,h3,zCells,zeroFct]
 · rw [List.getElem?_eq_none (by simp [Builtin.zeroCells]; omega),List.getElem?_eq_none]
   rw [flat_len zCells 2 zCells_len]; simp; omega
theorem run_clear_facts {P : Program} {w : World} {t e ty : TypeId} (ht : P.underlying t = some (.slice e)) (hv : ∀ w, (zeroValue e).run P w = .ok (.agg #[.int .i64 0, .slice none 0 0]) w) (g o n c : Nat) (hn : 0 < n)
 (hc : ∀ j,j < n * 2 → (w.cell? ⟨g,o + j,none⟩).isSome = true) (hf : ∀ j,w.frozen? ⟨g,j,none⟩ = false) :
 (Builtin.clear_ #[t] ty #[.slice (some ⟨g,o,none⟩) n c]).run P w = .ok (.tuple #[]) (w.setCells g o ((List.replicate n (zeroFct,(Value.slice none 0 0))).flatMap zCells)) := by
 have hl : ((List.replicate n (zeroFct,(Value.slice none 0 0))).flatMap zCells).length = n * 2 := by rw [flat_len zCells 2 zCells_len]; simp
 have hst := run_storeCells_cells (P := P) g o ((List.replicate n (zeroFct,(Value.slice none 0 0))).flatMap zCells) 0 w (by rw [hl]; simpa using hc) (fun j _ => hf _) (by
  intro v hv'
  obtain ⟨z,hz,hv2⟩ := List.mem_flatMap.1 hv'
  rw [List.eq_of_mem_replicate hz] at hv2
  simp [zCells] at hv2
  rcases hv2 with rfl | rfl <;> rfl)
 simp only [Nat.add_zero] at hst
 have hz : (Value.agg #[.int .i64 0,.slice none 0 0]).cells = #[.int .i64 0,.slice none 0 0] := rfl
 obtain ⟨m,rfl⟩ : ∃ m,n = m + 1 := ⟨n - 1,by omega⟩
 simp [Builtin.clear_,run_underlying ht,hv,hz,pairZero,hst]
theorem RelationS_own.chgS {B C : Nat} {S : Nat → Prop} {v : Value} {l : List Rel} {w w' : World} (h : RelationS_own B C v l w) (hc : Chg S w w') (hS : ∀ k, S k → k < B ∨ C ≤ k) : RelationS_own B C v l w' :=
 ⟨hc.row h.1 (fun g hg hm => by have h1 := (h.1.lt g hg).1; have h2 := h.2 g hg; have := hS g hm; omega),h.2⟩
theorem FactSO.chgS {e : TypeId} {B C : Nat} {S : Nat → Prop} {v : Value} {Vs : List Value} {l : List Fct} {w w' : World} (h : FactSO e B C v Vs l w) (hc : Chg S w w') (hS : ∀ k, S k → k < B ∨ C ≤ k) : FactSO e B C v Vs l w' :=
 ⟨h.len,hc.row h.row (fun g hg hm => by have h1 := (World.ownsRow.lt h.row g hg).1; have h2 := h.ins g hg; have := hS g hm; omega),h.ins,fun i h1 h2 => ⟨(h.el i h1 h2).1.chg hc (fun g hg hm => by have h3 := ((h.el i h1 h2).1.lt g hg).1; have h4 := (h.el i h1 h2).2 g hg; have := hS g hm; omega),(h.el i h1 h2).2⟩,h.dis⟩
theorem IntS_own.chgS {B C : Nat} {S : Nat → Prop} {v : Value} {l : List Int} {w w' : World} (h : IntS_own B C v l w) (hc : Chg S w w') (hS : ∀ k, S k → k < B ∨ C ≤ k) : IntS_own B C v l w' :=
 ⟨h.1.chg hc (fun g hg hm => by have h1 := (h.1.lt g hg).1; have h2 := h.2 g hg; have := hS g hm; omega),h.2⟩
end Go.Proofs.YtobdijcnfmgidaaGreat
