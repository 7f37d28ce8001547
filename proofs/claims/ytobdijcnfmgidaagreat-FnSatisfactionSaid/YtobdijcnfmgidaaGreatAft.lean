/- Walks and plain lemmas for the laws of this seat. -/
import Derived.Lib.SliceRun
import Derived.Test.YtobdijcnfmgidaaGreatBase
import Derived.Test.YtobdijcnfmgidaaGreatInts
import Derived.Test.YtobdijcnfmgidaaGreatDrawR
import Derived.Test.YtobdijcnfmgidaaGreatPlan
namespace Go.Proofs.YtobdijcnfmgidaaGreat
open Go.RowKit
theorem SliceAt.aft {α : Type} {f : α → List Value} {w0 W : World} {v : Value} {l : List α} (h : SliceAt f w0 w0.heap.size v l) (hb : Below w0.heap.size w0 W) (u : Aft W.heap.size W) : SliceAt f u.now u.now.heap.size v l :=
 (h.below (hb.trans (u.is.mono hb.size)) (Nat.le_refl _)).more (hb.trans (u.is.mono hb.size)).size
theorem OwnInts.grown {B : Nat} {v : Value} {l : List Int} {w w' : World} {p : Nat} (h : OwnInts B v l w) (hg : w.grownBy w' (some p)) (hp : p < B) : OwnInts B v l w' :=
 World.ownsRow.kept h hg (by
  cases hv : v.ownBlock with
  | none => exact Or.inl rfl
  | some k => right; intro he; injection he with he; have := (World.ownsRow.lt h k hv).1; omega)
theorem IntS_at.later {w w' : World} {v : Value} {l : List Int} (h : IntS_at w w.heap.size v l) (hb : Below w.heap.size w w') : IntS_at w' w'.heap.size v l := (h.below hb (Nat.le_refl _)).more hb.size
structure Fct where
 rel : Int
 vals : List Int
def Fact_at (w : World) (B : Nat) (v : Value) (x : Fct) : Prop := ∃ V, v = .agg #[.int .i64 x.rel, V] ∧ IntS_at w B V x.vals
def Fact_own (B C : Nat) (v : Value) (x : Fct) (w : World) : Prop := ∃ V, v = .agg #[.int .i64 x.rel, V] ∧ IntS_own B C V x.vals w
theorem Fact_at.below {w w' : World} {B B' : Nat} {v : Value} {x : Fct} (h : Fact_at w B v x) (hb : Below B' w w') (hB : B ≤ B') : Fact_at w' B v x := by
 obtain ⟨V,rfl,h⟩ := h; exact ⟨V,rfl,h.below hb hB⟩
theorem Fact_at.more {w : World} {B B' : Nat} {v : Value} {x : Fct} (h : Fact_at w B v x) (hB : B ≤ B') : Fact_at w B' v x := by
 obtain ⟨V,rfl,h⟩ := h; exact ⟨V,rfl,h.more hB⟩
theorem Fact_own.at_ {B C D : Nat} {v : Value} {x : Fct} {w : World} (h : Fact_own B C v x w) (hD : C ≤ D) : Fact_at w D v x := by
 obtain ⟨V,rfl,h⟩ := h; exact ⟨V,rfl,h.at_ hD⟩
theorem Fact_own.chg {B C B' C' : Nat} {v : Value} {x : Fct} {w w' : World} (h : Fact_own B C v x w) (hc : Chg (Mid B' C') w w') (hd : C ≤ B' ∨ C' ≤ B) : Fact_own B C v x w' := by
 obtain ⟨V,rfl,h⟩ := h; exact ⟨V,rfl,h.chg hc hd⟩
theorem Fact_own.below {B C D : Nat} {v : Value} {x : Fct} {w w' : World} (h : Fact_own B C v x w) (hb : Below D w w') (hD : C ≤ D) : Fact_own B C v x w' := by
 obtain ⟨V,rfl,h⟩ := h; exact ⟨V,rfl,h.below hb hD⟩
def Fact_wf (x : Fct) : Prop := (-9223372036854775808 ≤ x.rel ∧ x.rel ≤ 9223372036854775807) ∧ IntS_wf x.vals
def Fact_sz (x : Fct) : Nat := x.vals.length
theorem Fact_form {w : World} {B : Nat} {v : Value} {x : Fct} (h : Fact_at w B v x) : ∃ P c, v = .agg #[.int .i64 x.rel, .slice P x.vals.length c] := by
 obtain ⟨V,rfl,P,c,rfl,_⟩ := h
 exact ⟨P,c,rfl⟩
instance : Inhabited Fct := ⟨⟨0, []⟩⟩
theorem Fct.ext' {a b : Fct} (h : a.rel = b.rel) (h' : a.vals = b.vals) : a = b := by cases a; cases b; simp_all
def pairCells (p : Int × Value) : List Value := [.int .i64 p.1, p.2]
theorem pairCells_len (p : Int × Value) : (pairCells p).length = 2 := rfl
def pairs (l : List Fct) (Vs : List Value) : List (Int × Value) := List.zipWith (fun x V => (x.rel, V)) l Vs
theorem pairs_len {l : List Fct} {Vs : List Value} (h : Vs.length = l.length) : (pairs l Vs).length = l.length := by unfold pairs; rw [List.length_zipWith]; omega
theorem pairs_at {l : List Fct} {Vs : List Value} (i : Nat) (h : i < (pairs l Vs).length) (h1 : i < l.length) (h2 : i < Vs.length) : (pairs l Vs)[i] = (l[i].rel, Vs[i]) := by simp [pairs]
theorem pairs_set {l : List Fct} {Vs : List Value} (i : Nat) (x : Fct) (h2 : i < Vs.length) : pairs (l.set i x) Vs = (pairs l Vs).set i (x.rel, Vs[i]) := by
 apply List.ext_getElem
 · simp [pairs]
 · intro j h1 h3
   simp only [pairs,List.getElem_zipWith,List.getElem_set]
   split
   · rename_i hij; subst hij; rfl
   · rfl
def FactS_at (w : World) (B : Nat) (v : Value) (l : List Fct) : Prop := ∃ Vs : List Value, Vs.length = l.length ∧ SliceAt pairCells w B v (pairs l Vs) ∧ ∀ (i : Nat) (h : i < l.length) (h' : i < Vs.length), IntS_at w B Vs[i] l[i].vals
structure FactSO (e : TypeId) (B C : Nat) (v : Value) (Vs : List Value) (l : List Fct) (w : World) : Prop where
 len : Vs.length = l.length
 row : w.ownsRow B e 2 v (pairs l Vs).length ((pairs l Vs).flatMap pairCells)
 ins : Value.inside C v
 el : ∀ (i : Nat) (h : i < l.length) (h' : i < Vs.length),IntS_own B C Vs[i] l[i].vals w
 dis : Apart Vs
def FactS_own (B C : Nat) (v : Value) (l : List Fct) (w : World) : Prop := ∃ Vs, FactSO 66 B C v Vs l w
theorem FactS_at.below {w w' : World} {B B' : Nat} {v : Value} {l : List Fct} (h : FactS_at w B v l) (hb : Below B' w w') (hB : B ≤ B') : FactS_at w' B v l := by
 obtain ⟨Vs,h1,h2,h3⟩ := h
 exact ⟨Vs,h1,h2.below hb hB,fun i h h' => (h3 i h h').below hb hB⟩
theorem FactS_at.more {w : World} {B B' : Nat} {v : Value} {l : List Fct} (h : FactS_at w B v l) (hB : B ≤ B') : FactS_at w B' v l := by
 obtain ⟨Vs,h1,h2,h3⟩ := h
 exact ⟨Vs,h1,h2.more hB,fun i h h' => (h3 i h h').more hB⟩
theorem FactSO.at_ {e : TypeId} {B C D : Nat} {v : Value} {Vs : List Value} {l : List Fct} {w : World} (h : FactSO e B C v Vs l w) (hD : C ≤ D) : FactS_at w D v l :=
 ⟨Vs,h.len,SliceAt.inside (SliceAt.of_own h.row) (fun g hg => Nat.lt_of_lt_of_le (h.ins g hg) hD),fun i h1 h2 => (h.el i h1 h2).at_ hD⟩
theorem FactS_own.at_ {B C D : Nat} {v : Value} {l : List Fct} {w : World} (h : FactS_own B C v l w) (hD : C ≤ D) : FactS_at w D v l := by
 obtain ⟨Vs,h⟩ := h; exact h.at_ hD
theorem FactSO.chg {e : TypeId} {B C B' C' : Nat} {v : Value} {Vs : List Value} {l : List Fct} {w w' : World} (h : FactSO e B C v Vs l w) (hc : Chg (Mid B' C') w w') (hd : C ≤ B' ∨ C' ≤ B) : FactSO e B C v Vs l w' :=
 ⟨h.len,hc.row h.row (fun g hg hm => by have h1 := (World.ownsRow.lt h.row g hg).1; have h2 := h.ins g hg; have h3 : B' ≤ g := hm.1; have h4 : g < C' := hm.2; omega),h.ins,fun i h1 h2 => (h.el i h1 h2).chg hc hd,h.dis⟩
theorem FactS_own.chg {B C B' C' : Nat} {v : Value} {l : List Fct} {w w' : World} (h : FactS_own B C v l w) (hc : Chg (Mid B' C') w w') (hd : C ≤ B' ∨ C' ≤ B) : FactS_own B C v l w' := by
 obtain ⟨Vs,h⟩ := h; exact ⟨Vs,h.chg hc hd⟩
theorem FactSO.below {e : TypeId} {B C D : Nat} {v : Value} {Vs : List Value} {l : List Fct} {w w' : World} (h : FactSO e B C v Vs l w) (hb : Below D w w') (hD : C ≤ D) : FactSO e B C v Vs l w' :=
 ⟨h.len,(Chg.of_below' hb).row h.row (fun g hg hm => by have h2 := h.ins g hg; have h3 : D ≤ g := hm; omega),h.ins,fun i h1 h2 => (h.el i h1 h2).below hb hD,h.dis⟩
theorem FactS_own.below {B C D : Nat} {v : Value} {l : List Fct} {w w' : World} (h : FactS_own B C v l w) (hb : Below D w w') (hD : C ≤ D) : FactS_own B C v l w' := by
 obtain ⟨Vs,h⟩ := h; exact ⟨Vs,h.below hb hD⟩
theorem FactSO.mono {e : TypeId} {B B' C C' : Nat} {v : Value} {Vs : List Value} {l : List Fct} {w : World} (h : FactSO e B C v Vs l w) (hB : B' ≤ B) (hC : C ≤ C') : FactSO e B' C' v Vs l w :=
 ⟨h.len,row_mono h.row hB,fun g hg => Nat.lt_of_lt_of_le (h.ins g hg) hC,fun i h1 h2 => (h.el i h1 h2).mono hB hC,h.dis⟩
theorem FactS_own.mono {B B' C C' : Nat} {v : Value} {l : List Fct} {w : World} (h : FactS_own B C v l w) (hB : B' ≤ B) (hC : C ≤ C') : FactS_own B' C' v l w := by
 obtain ⟨Vs,h⟩ := h; exact ⟨Vs,h.mono hB hC⟩
theorem FactS_at.elem {w : World} {B c : Nat} {A : Option Addr} {l : List Fct} (h : FactS_at w B (.slice A l.length c) l) (j : Nat) (hj : j < l.length) :
 ∃ b off V,A = some ⟨b,off,none⟩ ∧ b < B ∧ w.cell? ⟨b,off + j * 2,none⟩ = some (.int .i64 l[j].rel) ∧ w.cell? ⟨b,off + j * 2 + 1,none⟩ = some V ∧ IntS_at w B V l[j].vals := by
 obtain ⟨Vs,h1,h2,h3⟩ := h
 have hp := pairs_len h1
 obtain ⟨A',c',hv,-,-,hc⟩ := h2
 rw [hp] at hv
 injection hv with e1 _ e2
 subst e1 e2
 obtain ⟨b,off,rfl,hb,hc⟩ := hc.1 (by omega)
 have hjp : j < (pairs l Vs).length := by omega
 have g (i : Nat) (hi : i < 2) := flat_get pairCells 2 pairCells_len (pairs l Vs) j i hjp hi
 have e := pairs_at j hjp hj (by omega : j < Vs.length)
 rw [e] at g
 refine ⟨b,off,Vs[j],rfl,hb,hc _ _ (g 0 (by omega)),?_,h3 j hj (by omega)⟩
 rw [Nat.add_assoc]; exact hc _ _ (g 1 (by omega))
theorem FactS_at.form {w : World} {B : Nat} {v : Value} {l : List Fct} (h : FactS_at w B v l) : ∃ A c, v = .slice A l.length c ∧ l.length ≤ c ∧ c ≤ maxLen := by
 obtain ⟨Vs,h1,⟨A,c,hv,h3,h4,_⟩,_⟩ := h
 rw [pairs_len h1] at hv h3
 exact ⟨A,c,hv,h3,h4⟩
def valsLen : List Fct → Nat
 | [] => 0
 | x :: t => x.vals.length + valsLen t
theorem valsLen_append (l m : List Fct) : valsLen (l ++ m) = valsLen l + valsLen m := by
 induction l with
 | nil => simp [valsLen]
 | cons a t ih => simp only [List.cons_append,valsLen,ih]; omega
theorem valsLen_take (l : List Fct) (k : Nat) (h : k < l.length) : valsLen (l.take (k + 1)) = valsLen (l.take k) + l[k].vals.length := by
 rw [List.take_succ_eq_append_getElem h,valsLen_append]; simp [valsLen]
theorem valsLen_le (l : List Fct) (k : Nat) : valsLen (l.take k) ≤ valsLen l := by
 have := valsLen_append (l.take k) (l.drop k)
 rw [List.take_append_drop] at this; omega
def FactS_wf (l : List Fct) : Prop := ∀ (i : Nat) (h : i < l.length), Fact_wf l[i]
def FactS_sz (l : List Fct) : Nat := l.length + valsLen l
structure Inst where
 rels : List Rel
 facts : List Fct
def Instance_at (w : World) (B : Nat) (v : Value) (x : Inst) : Prop := ∃ V1 V2, v = .agg #[V1, V2] ∧ RelationS_at w B V1 x.rels ∧ FactS_at w B V2 x.facts
def Instance_own (B C : Nat) (v : Value) (x : Inst) (w : World) : Prop := ∃ V1 V2, v = .agg #[V1, V2] ∧ RelationS_own B C V1 x.rels w ∧ FactS_own B C V2 x.facts w
theorem Instance_at.below {w w' : World} {B B' : Nat} {v : Value} {x : Inst} (h : Instance_at w B v x) (hb : Below B' w w') (hB : B ≤ B') : Instance_at w' B v x := by
 obtain ⟨V1,V2,rfl,h1,h2⟩ := h; exact ⟨V1,V2,rfl,h1.below hb hB,h2.below hb hB⟩
theorem Instance_at.more {w : World} {B B' : Nat} {v : Value} {x : Inst} (h : Instance_at w B v x) (hB : B ≤ B') : Instance_at w B' v x := by
 obtain ⟨V1,V2,rfl,h1,h2⟩ := h; exact ⟨V1,V2,rfl,h1.more hB,h2.more hB⟩
theorem Instance_own.at_ {B C D : Nat} {v : Value} {x : Inst} {w : World} (h : Instance_own B C v x w) (hD : C ≤ D) : Instance_at w D v x := by
 obtain ⟨V1,V2,rfl,h1,h2⟩ := h; exact ⟨V1,V2,rfl,h1.at_ hD,h2.at_ hD⟩
theorem Instance_own.chg {B C B' C' : Nat} {v : Value} {x : Inst} {w w' : World} (h : Instance_own B C v x w) (hc : Chg (Mid B' C') w w') (hd : C ≤ B' ∨ C' ≤ B) : Instance_own B C v x w' := by
 obtain ⟨V1,V2,rfl,h1,h2⟩ := h; exact ⟨V1,V2,rfl,h1.chg hc hd,h2.chg hc hd⟩
theorem Instance_own.below {B C D : Nat} {v : Value} {x : Inst} {w w' : World} (h : Instance_own B C v x w) (hb : Below D w w') (hD : C ≤ D) : Instance_own B C v x w' := by
 obtain ⟨V1,V2,rfl,h1,h2⟩ := h; exact ⟨V1,V2,rfl,h1.below hb hD,h2.below hb hD⟩
theorem RelationS_at.form {w : World} {B : Nat} {v : Value} {l : List Rel} (h : RelationS_at w B v l) : ∃ A c, v = .slice A l.length c ∧ l.length ≤ c ∧ c ≤ maxLen := by
 obtain ⟨A,c,hv,h1,h2,_⟩ := h; exact ⟨A,c,hv,h1,h2⟩
theorem Instance_form {w : World} {B : Nat} {v : Value} {x : Inst} (h : Instance_at w B v x) : ∃ P c Q d, v = .agg #[.slice P x.rels.length c, .slice Q x.facts.length d] := by
 obtain ⟨V1,V2,rfl,h1,h2⟩ := h
 obtain ⟨P,c,rfl,_⟩ := h1.form
 obtain ⟨Q,d,rfl,_⟩ := h2.form
 exact ⟨P,c,Q,d,rfl⟩
def Instance_wf (x : Inst) : Prop := RelationS_wf x.rels ∧ FactS_wf x.facts
def Instance_sz (x : Inst) : Nat := RelationS_sz x.rels + FactS_sz x.facts
def lowB (A : Nat) (v : Value) : Prop := ∀ g, v.ownBlock = some g → A ≤ g
theorem lowB.none (A n c : Nat) : lowB A (.slice none n c) := fun g hg => by cases hg
theorem lowB.row {w : World} {B A k n : Nat} {e : TypeId} {v : Value} {xs : List Value} (h : w.ownsRow B e k v n xs) (hA : A ≤ B) : lowB A v := fun g hg => Nat.le_trans hA (World.ownsRow.lt h g hg).1
def Instance_lo (A : Nat) (w : World) (B : Nat) (v : Value) (x : Inst) : Prop :=
 ∃ V1 V2 Vs,v = .agg #[V1,V2] ∧ RelationS_at w B V1 x.rels ∧ lowB A V1 ∧ lowB A V2 ∧ Vs.length = x.facts.length ∧ SliceAt pairCells w B V2 (pairs x.facts Vs) ∧ (∀ (i : Nat) (h : i < x.facts.length) (h' : i < Vs.length),IntS_at w B Vs[i] x.facts[i].vals) ∧ ∀ V ∈ Vs,lowB A V
theorem Instance_lo.at_ {A B : Nat} {w : World} {v : Value} {x : Inst} (h : Instance_lo A w B v x) : Instance_at w B v x := by
 obtain ⟨V1,V2,Vs,hv,h1,-,-,h2,h3,h4,-⟩ := h
 exact ⟨V1,V2,hv,h1,Vs,h2,h3,h4⟩
theorem Instance_at.lo {B : Nat} {w : World} {v : Value} {x : Inst} (h : Instance_at w B v x) : Instance_lo 0 w B v x := by
 obtain ⟨V1,V2,hv,h1,Vs,h2,h3,h4⟩ := h
 exact ⟨V1,V2,Vs,hv,h1,fun _ _ => Nat.zero_le _,fun _ _ => Nat.zero_le _,h2,h3,h4,fun _ _ _ _ => Nat.zero_le _⟩
theorem Instance_own.lo {B C D : Nat} {w : World} {v : Value} {x : Inst} (h : Instance_own B C v x w) (hD : C ≤ D) : Instance_lo B w D v x := by
 obtain ⟨V1,V2,hv,h1,Vs,h2⟩ := h
 refine ⟨V1,V2,Vs,hv,h1.at_ hD,fun g hg => (h1.1.lt g hg).1,lowB.row h2.row (Nat.le_refl _),h2.len,SliceAt.inside (SliceAt.of_own h2.row) (fun g hg => Nat.lt_of_lt_of_le (h2.ins g hg) hD),fun i h h' => (h2.el i h h').at_ hD,fun V hV => ?_⟩
 obtain ⟨i,hi,rfl⟩ := List.getElem_of_mem hV
 exact fun g hg => ((h2.el i (by have := h2.len; omega) hi).1.lt g hg).1
theorem Instance_lo.keep {A B : Nat} {w w' : World} {v : Value} {x : Inst} (h : Instance_lo A w B v x) (hk : ∀ b o, A ≤ b → b < B → w'.cell? ⟨b, o, none⟩ = w.cell? ⟨b, o, none⟩) : Instance_lo A w' B v x := by
 have key : ∀ {α : Type} {f : α → List Value} {V : Value} {l : List α},SliceAt f w B V l → lowB A V → SliceAt f w' B V l := fun {α f V l} hs hl => by
  obtain ⟨P,c,hv,h1,h2,h3,h4⟩ := hs
  refine ⟨P,c,hv,h1,h2,fun h0 => ?_,h4⟩
  obtain ⟨b,off,hP,hb,hc⟩ := h3 h0
  exact ⟨b,off,hP,hb,fun j u hu => (hk b _ (hl b (by rw [hv,hP]; rfl)) hb).trans (hc j u hu)⟩
 obtain ⟨V1,V2,Vs,hv,h1,l1,l2,h2,h3,h4,l3⟩ := h
 exact ⟨V1,V2,Vs,hv,key h1 l1,l1,l2,h2,key h3 l2,fun i h h' => key (h4 i h h') (l3 _ (List.getElem_mem h')),l3⟩
theorem Instance_lo.below {A B B' : Nat} {w w' : World} {v : Value} {x : Inst} (h : Instance_lo A w B v x) (hb : Below B' w w') (hB : B ≤ B') : Instance_lo A w' B v x :=
 h.keep fun b o _ hlt => hb.cell (p := ⟨b,o,none⟩) (Nat.lt_of_lt_of_le hlt hB)
theorem Instance_lo.more {A B B' : Nat} {w : World} {v : Value} {x : Inst} (h : Instance_lo A w B v x) (hB : B ≤ B') : Instance_lo A w B' v x := by
 obtain ⟨V1,V2,Vs,hv,h1,l1,l2,h2,h3,h4,l3⟩ := h
 exact ⟨V1,V2,Vs,hv,h1.more hB,l1,l2,h2,SliceAt.more h3 hB,fun i h h' => (h4 i h h').more hB,l3⟩
theorem Instance_lo.later {A : Nat} {w w' : World} {v : Value} {x : Inst} (h : Instance_lo A w w.heap.size v x) (hb : Below w.heap.size w w') : Instance_lo A w' w'.heap.size v x := (h.below hb (Nat.le_refl _)).more hb.size
theorem Instance_lo.chg {A : Nat} {S : Nat → Prop} {w w' : World} {v : Value} {x : Inst} (h : Instance_lo A w w.heap.size v x) (hc : Chg S w w') (hS : ∀ k, S k → k < A) : Instance_lo A w' w'.heap.size v x :=
 (h.keep fun b o h1 h2 => hc.cell h2 (fun hs => by have := hS b hs; omega)).more hc.size
theorem infoFct : (Tryz.prog.info? 66).map (fun i => (i.zero, i.size, i.bytes)) = some (some (.agg #[.int .i64 0, .slice none 0 0]), 2, 32) := by kernel_rfl
theorem pairs_set2 {l : List Fct} {Vs : List Value} (i : Nat) (x : Fct) (V : Value) : pairs (l.set i x) (Vs.set i V) = (pairs l Vs).set i (x.rel, V) := by
 apply List.ext_getElem
 · simp [pairs]
 · intro j h1 h3
   simp only [pairs,List.getElem_zipWith,List.getElem_set]
   split
   · rename_i hij; subst hij; rfl
   · rfl
theorem FactSO.set {e : TypeId} (he : e ≠ 3) {B C g n cap : Nat} {Vs : List Value} {l : List Fct} {w : World} (h : FactSO e B C (.slice (some ⟨g, 0, none⟩) n cap) Vs l w) (hn : l.length = n) (j : Nat) (hj : j < n) (x : Fct) (V : Value) (hV : IntS_own B C V x.vals w)
 (hd : ∀ (i : Nat) (hi : i < Vs.length),i ≠ j → ∀ q,Vs[i].ownBlock = some q → V.ownBlock ≠ some q) :
 FactSO e B C (.slice (some ⟨g,0,none⟩) n cap) (Vs.set j V) (l.set j x) ((w.setCell ⟨g,j * 2,none⟩ (.int .i64 x.rel)).setCell ⟨g,j * 2 + 1,none⟩ V) := by
 have hp := pairs_len h.len
 have hrow := h.row
 rw [hp,hn] at hrow
 have h1 := (World.ownsRow.stored hrow (j * 2) (.int .i64 x.rel)).1
 have h2 := (World.ownsRow.stored h1 (j * 2 + 1) V).1
 have hC : Chg (fun q => q = g) w ((w.setCell ⟨g,j * 2,none⟩ (.int .i64 x.rel)).setCell ⟨g,j * 2 + 1,none⟩ V) := ((Chg.refl (fun q => q = g) w).setCell (p := ⟨g,j * 2,none⟩) rfl _).setCell (p := ⟨g,j * 2 + 1,none⟩) rfl _
 have keep : ∀ {U : Value} {us : List Int},IntS_own B C U us w → IntS_own B C U us ((w.setCell ⟨g,j * 2,none⟩ (.int .i64 x.rel)).setCell ⟨g,j * 2 + 1,none⟩ V) := fun hU => ⟨hU.1.chg hC (fun q hq e1 => inner_ne he h.row hU g rfl (by rw [hq,e1])),hU.2⟩
 refine ⟨by rw [List.length_set,List.length_set,h.len],?_,h.ins,fun i h3 h4 => ?_,h.dis.set j V hd⟩
 · rw [pairs_set2,List.length_set,hp,hn,← flat_set pairCells 2 pairCells_len (pairs l Vs) j (by omega) (x.rel,V)]
   exact h2
 · rw [List.length_set] at h3 h4
   simp only [List.getElem_set]
   split
   · exact keep hV
   · exact keep (h.el i h3 h4)
theorem FactSO.setRel {e : TypeId} (he : e ≠ 3) {B C g n cap : Nat} {Vs : List Value} {l : List Fct} {w : World} (h : FactSO e B C (.slice (some ⟨g, 0, none⟩) n cap) Vs l w) (hn : l.length = n) (j : Nat) (hj : j < l.length) (q : Int) :
 FactSO e B C (.slice (some ⟨g,0,none⟩) n cap) Vs (l.set j ⟨q,l[j].vals⟩) (w.setCell ⟨g,j * 2,none⟩ (.int .i64 q)) := by
 have hp := pairs_len h.len
 have hrow := h.row
 rw [hp,hn] at hrow
 have h1 := (World.ownsRow.stored hrow (j * 2) (.int .i64 q)).1
 have hC : Chg (fun q => q = g) w (w.setCell ⟨g,j * 2,none⟩ (.int .i64 q)) := (Chg.refl (fun q => q = g) w).setCell (p := ⟨g,j * 2,none⟩) rfl _
 have hjv : j < Vs.length := by rw [h.len]; exact hj
 refine ⟨by rw [List.length_set,h.len],?_,h.ins,fun i h3 h4 => ?_,h.dis⟩
 · rw [pairs_set j _ hjv,List.length_set,hp,hn,← flat_set pairCells 2 pairCells_len (pairs l Vs) j (by omega) (q,Vs[j])]
   have e1 : ((pairs l Vs).flatMap pairCells)[j * 2 + 1]? = some Vs[j] := by
    have := flat_get pairCells 2 pairCells_len (pairs l Vs) j 1 (by omega) (by omega)
    rw [this,pairs_at j (by omega) hj hjv]; rfl
   have e2 : setMany ((pairs l Vs).flatMap pairCells) (j * 2) (pairCells (q,Vs[j])) = ((pairs l Vs).flatMap pairCells).set (j * 2) (.int .i64 q) := by
    show (((pairs l Vs).flatMap pairCells).set (j * 2) (.int .i64 q)).set (j * 2 + 1) Vs[j] = _
    exact set_same (by rw [List.getElem?_set_ne (by omega)]; exact e1)
   rw [e2]
   exact h1
 · rw [List.length_set] at h3
   have hk : IntS_own B C Vs[i] l[i].vals (w.setCell ⟨g,j * 2,none⟩ (.int .i64 q)) := ⟨(h.el i h3 h4).1.chg hC (fun q hq e1 => inner_ne he h.row (h.el i h3 h4) g rfl (by rw [hq,e1])),(h.el i h3 h4).2⟩
   simp only [List.getElem_set]
   split
   · rename_i hij; subst hij; exact hk
   · exact hk
theorem FactSO.setVals {e : TypeId} (he : e ≠ 3) {B C : Nat} {v : Value} {Vs : List Value} {l : List Fct} {w w' : World} (h : FactSO e B C v Vs l w) (j : Nat) (hj : j < l.length) (hjv : j < Vs.length) (us : List Int) (hV : IntS_own B C Vs[j] us w') (hc : Chg (fun q => Vs[j].ownBlock = some q) w w') :
 FactSO e B C v Vs (l.set j ⟨l[j].rel,us⟩) w' := by
 have hp := pairs_len h.len
 refine ⟨by rw [List.length_set,h.len],?_,h.ins,fun i h3 h4 => ?_,h.dis⟩
 · have e1 : pairs (l.set j ⟨l[j].rel,us⟩) Vs = pairs l Vs := by
    rw [pairs_set j _ hjv]
    refine List.ext_getElem (by simp) fun i h5 h6 => ?_
    rw [List.getElem_set]
    split
    · rename_i hij; subst hij; rw [pairs_at j (by omega) hj hjv]
    · rfl
   rw [e1]
   exact hc.row h.row (fun g hg => inner_ne he h.row (h.el j hj hjv) g hg)
 · rw [List.length_set] at h3
   simp only [List.getElem_set]
   split
   · rename_i hij; subst hij; exact hV
   · rename_i hij
     exact ⟨(h.el i h3 h4).1.chg hc (fun q hq => h.dis.at_ i j h4 hjv (by omega) q hq),(h.el i h3 h4).2⟩
theorem FactSO.cells {e : TypeId} {B C g n cap : Nat} {Vs : List Value} {l : List Fct} {w : World} (h : FactSO e B C (.slice (some ⟨g, 0, none⟩) n cap) Vs l w) (hn : l.length = n) (j : Nat) (hj : j < l.length) (hjv : j < Vs.length) :
 w.cell? ⟨g,j * 2,none⟩ = some (.int .i64 l[j].rel) ∧ w.cell? ⟨g,j * 2 + 1,none⟩ = some Vs[j] := by
 have hp := pairs_len h.len
 have hrow := h.row
 rw [hp,hn] at hrow
 have hjp : j < (pairs l Vs).length := by omega
 have g (i : Nat) (hi : i < 2) := (World.ownsRow.cellAt hrow (j * 2 + i) (by omega)).trans (flat_get pairCells 2 pairCells_len (pairs l Vs) j i hjp hi)
 rw [pairs_at j hjp hj hjv] at g
 exact ⟨g 0 (by omega),g 1 (by omega)⟩
theorem FactSO.frozen {e : TypeId} {B C g n cap : Nat} {Vs : List Value} {l : List Fct} {w : World} (h : FactSO e B C (.slice (some ⟨g, 0, none⟩) n cap) Vs l w) (hn : l.length = n) (j : Nat) : w.frozen? ⟨g, j, none⟩ = false := by
 have hrow := h.row
 rw [pairs_len h.len,hn] at hrow
 exact World.ownsRow.frozenAt hrow j
def zeroFct : Fct := ⟨0, []⟩
theorem madeCells_pair (n : Nat) : (madeCells #[.int .i64 0, .slice none 0 0] (n * 2)).toList = (pairs (List.replicate n zeroFct) (List.replicate n (.slice none 0 0))).flatMap pairCells := by
 apply List.ext_getElem?
 intro i
 have hp : (pairs (List.replicate n zeroFct) (List.replicate n (.slice none 0 0))).length = n := by rw [pairs_len (by simp)]; simp
 by_cases hi : i < n * 2
 · have e : i = i / 2 * 2 + i % 2 := by omega
   have h1 : i / 2 < (pairs (List.replicate n zeroFct) (List.replicate n (.slice none 0 0))).length := by omega
   have := flat_get pairCells 2 pairCells_len (pairs (List.replicate n zeroFct) (List.replicate n (.slice none 0 0))) (i / 2) (i % 2) h1 (by omega)
   rw [← e] at this
   rw [this,pairs_at _ h1 (by simp; omega) (by simp; omega)]
   simp only [List.getElem_replicate]
   have h3 : i % 2 = 0 ∨ i % 2 = 1 := by omega
   rcases h3 with h3 | h3 <;> simp [madeCells,hi,h3,pairCells,zeroFct]
 · rw [List.getElem?_eq_none (by simp [madeCells]; omega),List.getElem?_eq_none]
   rw [flat_len pairCells 2 pairCells_len,hp]; omega
theorem FactSO.made {e : TypeId} (w : World) (n : Nat) (hn : n ≤ 1048576) : FactSO e w.heap.size (w.heap.size + 1) (.slice (some ⟨w.heap.size, 0, none⟩) n n) (List.replicate n (.slice none 0 0)) (List.replicate n zeroFct) (w.alloc (.cells (madeCells #[.int .i64 0, .slice none 0 0] (n * 2)) e)) := by
 have hp : (pairs (List.replicate n zeroFct) (List.replicate n (.slice none 0 0))).length = n := by rw [pairs_len (by simp)]; simp
 refine ⟨by simp,?_,fun g hg => by cases hg; exact Nat.lt_succ_self _,fun i h h' => ?_,?_⟩
 · rw [hp,← madeCells_pair]
   exact World.ownsRow_lit w _ n (Nat.le_refl _) (by unfold maxLen; omega) (size_madeCells _ _)
 · simp only [List.getElem_replicate]
   exact ⟨OwnInts.nil _ _,fun g hg => by cases hg⟩
 · exact List.pairwise_iff_getElem.2 fun i j hi hj _ g h1 => by rw [List.getElem_replicate] at h1; cases h1
theorem pairs_snoc {l : List Fct} {Vs : List Value} (h : Vs.length = l.length) (x : Fct) (U : Value) : pairs (l ++ [x]) (Vs ++ [U]) = pairs l Vs ++ [(x.rel, U)] := by
 unfold pairs; rw [List.zipWith_append h.symm]; rfl
theorem FactSO.snoc {e : TypeId} (he : e ≠ 3) {B C C' : Nat} {v v' U : Value} {Vs : List Value} {l : List Fct} {x : Fct} {w w' : World} (h : FactSO e B C v Vs l w) (hC : C ≤ C')
 (hrow : w'.ownsRow B e 2 v' (pairs l Vs ++ [(x.rel,U)]).length ((pairs l Vs ++ [(x.rel,U)]).flatMap pairCells)) (hg : w.grownBy w' v.ownBlock) (hin : Value.inside C' v')
 (hU : IntS_own B C' U x.vals w) (hd : ∀ (i : Nat) (hi : i < Vs.length),∀ g,Vs[i].ownBlock = some g → U.ownBlock ≠ some g) : FactSO e B C' v' (Vs ++ [U]) (l ++ [x]) w' := by
 have keep : ∀ {V : Value} {us : List Int},IntS_own B C' V us w → IntS_own B C' V us w' := fun hV => by
  refine ⟨World.ownsRow.kept hV.1 hg ?_,hV.2⟩
  rcases own_ne hV.1 h.row (fun e1 => he e1.symm) with h1 | h1
  · exact .inl h1
  · exact .inr h1
 refine ⟨by rw [List.length_append,List.length_append,h.len]; rfl,by rw [pairs_snoc h.len]; exact hrow,hin,fun i h1 h2 => ?_,h.dis.snoc U hd⟩
 · by_cases hi : i < l.length
   · have hiv : i < Vs.length := by rw [h.len]; exact hi
     rw [List.getElem_append_left hi,List.getElem_append_left hiv]
     exact keep ((h.el i hi hiv).mono (Nat.le_refl _) hC)
   · have hil : i = l.length := by rw [List.length_append,List.length_singleton] at h1; omega
     subst hil
     rw [List.getElem_append_right (show l.length ≤ l.length from Nat.le_refl _)]
     have : Vs.length ≤ l.length := by rw [h.len]; exact Nat.le_refl _
     rw [List.getElem_append_right this]
     simp only [Nat.sub_self,List.getElem_cons_zero,h.len]
     exact keep hU
def AllSl (w : World) (Y : Nat) : Prop := ∀ o u, w.cell? ⟨Y, o, none⟩ = some u → ∃ a b c, u = .slice a b c
theorem AllSl.set {w : World} {Y : Nat} (h : AllSl w Y) (o : Nat) (a : Option Addr) (b c : Nat) (x : Value) (hc : w.cell? ⟨Y, o, none⟩ = some x) : AllSl (w.setCell ⟨Y, o, none⟩ (.slice a b c)) Y := by
 intro p u hu
 by_cases e : p = o
 · subst e
   have : (w.setCell ⟨Y,p,none⟩ (.slice a b c)).cell? ⟨Y,p,none⟩ = some (.slice a b c) := by simp [go_sem,hc]
   rw [this] at hu; exact ⟨a,b,c,(Option.some.inj hu).symm⟩
 · have : (w.setCell ⟨Y,o,none⟩ (.slice a b c)).cell? ⟨Y,p,none⟩ = w.cell? ⟨Y,p,none⟩ := by
    have e' : ¬ o = p := fun h => e h.symm
    first
     | simp [go_sem]; done
     | simp [go_sem,e']
   rw [this] at hu; exact h p u hu
theorem AllSl.cells {w : World} {Y : Nat} {w' : World} (h : AllSl w Y) (hc : ∀ o, w'.cell? ⟨Y, o, none⟩ = w.cell? ⟨Y, o, none⟩) : AllSl w' Y := fun o u hu => h o u (by rw [← hc]; exact hu)
theorem SliceAt.off {α : Type} {f : α → List Value} {w : World} {B Y : Nat} {v : Value} {l : List α} (h : SliceAt f w B v l) (hA : AllSl w Y) (hf : ∀ x, ∃ c t, f x = c :: t ∧ ∀ a b d, c ≠ .slice a b d) (o : Nat) (u : Value) : SliceAt f (w.setCell ⟨Y, o, none⟩ u) B v l := by
 obtain ⟨A,c,hv,h1,h2,h3,h4⟩ := h
 refine ⟨A,c,hv,h1,h2,fun h0 => ?_,h4⟩
 obtain ⟨b,off,hA',hb,hc⟩ := h3 h0
 have hne : b ≠ Y := by
  rintro rfl
  cases l with
  | nil => simp at h0
  | cons x t =>
    obtain ⟨c0,t0,e,hn⟩ := hf x
    obtain ⟨a1,a2,a3,e2⟩ := hA _ _ (hc 0 c0 (by rw [List.flatMap_cons,e]; rfl))
    exact hn _ _ _ e2
 refine ⟨b,off,hA',hb,fun j z hz => ?_⟩
 have hbl := World.block_lt_of_cell? w _ (hc j z hz)
 exact (((Chg.refl (fun g => g = Y) w).setCell (p := ⟨Y,o,none⟩) rfl u).cell hbl hne).trans (hc j z hz)
theorem Instance_at.off {w : World} {B Y : Nat} {v : Value} {x : Inst} (h : Instance_at w B v x) (hA : AllSl w Y) (o : Nat) (u : Value) : Instance_at (w.setCell ⟨Y, o, none⟩ u) B v x := by
 obtain ⟨V1,V2,rfl,h1,Vs,h2,h3,h4⟩ := h
 refine ⟨V1,V2,rfl,SliceAt.off h1 hA (fun r => ⟨_,_,rfl,fun a b d e => by cases e⟩) o u,Vs,h2,SliceAt.off h3 hA (fun p => ⟨_,_,rfl,fun a b d e => by cases e⟩) o u,fun i hi hi' => SliceAt.off (h4 i hi hi') hA (fun n => ⟨_,_,rfl,fun a b d e => by cases e⟩) o u⟩
theorem Instance_lo.off {A : Nat} {w : World} {B Y : Nat} {v : Value} {x : Inst} (h : Instance_lo A w B v x) (hA : AllSl w Y) (o : Nat) (u : Value) : Instance_lo A (w.setCell ⟨Y, o, none⟩ u) B v x := by
 obtain ⟨V1,V2,Vs,rfl,h1,l1,l2,h2,h3,h4,l3⟩ := h
 exact ⟨V1,V2,Vs,rfl,SliceAt.off h1 hA (fun r => ⟨_,_,rfl,fun a b d e => by cases e⟩) o u,l1,l2,h2,SliceAt.off h3 hA (fun p => ⟨_,_,rfl,fun a b d e => by cases e⟩) o u,fun i hi hi' => SliceAt.off (h4 i hi hi') hA (fun n => ⟨_,_,rfl,fun a b d e => by cases e⟩) o u,l3⟩
theorem Instance_own.mono {B B' C C' : Nat} {v : Value} {x : Inst} {w : World} (h : Instance_own B C v x w) (hB : B' ≤ B) (hC : C ≤ C') : Instance_own B' C' v x w := by
 obtain ⟨V1,V2,rfl,h1,h2⟩ := h
 exact ⟨_,_,rfl,h1.mono hB hC,h2.mono hB hC⟩
theorem FactS_at.later {w w' : World} {v : Value} {l : List Fct} (h : FactS_at w w.heap.size v l) (hb : Below w.heap.size w w') : FactS_at w' w'.heap.size v l := (h.below hb (Nat.le_refl _)).more hb.size
theorem Instance_at.later {w w' : World} {v : Value} {x : Inst} (h : Instance_at w w.heap.size v x) (hb : Below w.heap.size w w') : Instance_at w' w'.heap.size v x := (h.below hb (Nat.le_refl _)).more hb.size
theorem Fact_at.later {w w' : World} {v : Value} {x : Fct} (h : Fact_at w w.heap.size v x) (hb : Below w.heap.size w w') : Fact_at w' w'.heap.size v x := (h.below hb (Nat.le_refl _)).more hb.size
theorem make_facts (w : World) (n : Nat) (hn : n ≤ 1048576) : (Instr.makeSlice 25 (.int .i64 (n : Int)) (.int .i64 (n : Int))).run Tryz.prog w = .ok (.slice (some ⟨w.heap.size, 0, none⟩) n n) (w.alloc (.cells (madeCells #[.int .i64 0, .slice none 0 0] (n * 2)) 66)) := by
 obtain ⟨i0,hi,hz0,hz1,hz2⟩ := info_parts infoFct
 have hr := run_make (P := Tryz.prog) w 25 66 i0 _ Tryz.underlying25 hi hz0 .i64 .i64 (n : Int) (n : Int) (by omega) (by omega) (by rw [hz2]; omega) (by omega)
 simp only [Int.toNat_natCast,hz1] at hr
 exact hr
theorem take_zero_fct (l : List Fct) (k : Nat) (h : k < l.length) : (l.take k ++ List.replicate (l.length - k) zeroFct).set k l[k] = l.take (k + 1) ++ List.replicate (l.length - (k + 1)) zeroFct := by
 rw [List.set_append_right _ _ (by simp; omega),List.length_take_of_le (by omega),Nat.sub_self,List.take_succ_eq_append_getElem h,show l.length - k = (l.length - (k + 1)) + 1 by omega,List.replicate_succ,List.set_cons_zero,List.append_assoc]
 rfl
theorem rels_keep {B C B' C' q : Nat} {v u : Value} {l : List Rel} {Vs : List Value} {m : List Fct} {w w' : World} (hR : RelationS_own B C v l w) (hO : FactSO 66 B' C' u Vs m w) (hu : u.ownBlock = some q) (hc : Chg (fun k => k = q) w w') : RelationS_own B C v l w' :=
 ⟨hc.row hR.1 (fun g hg e => by
  rcases own_ne hR.1 hO.row (by decide) with h | h
  · rw [h] at hg; cases hg
  · rw [hg,hu] at h; exact h (by rw [e])),hR.2⟩
end Go.Proofs.YtobdijcnfmgidaaGreat
