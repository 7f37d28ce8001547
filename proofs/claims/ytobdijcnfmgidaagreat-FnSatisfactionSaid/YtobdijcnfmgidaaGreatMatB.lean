/- Walks and plain lemmas for the laws of this seat. -/
import Derived.RangeFuncNested
import Derived.RangeFuncBound
import Derived.RangeFuncCalls
import Derived.RangeFuncLeaves
import Derived.Shelf.Abstract
import Derived.Shelf.RegionOpen
import Derived.WalkKit
import Derived.OwnWalkIn
import Derived.TacticsInMore
import Derived.LoopNIn
import Derived.LoopIn
import Derived.OrdersIn
import Derived.LoopN
import Derived.Test.YtobdijcnfmgidaaGreatBase
import Derived.Test.YtobdijcnfmgidaaGreatInts
import Derived.Test.YtobdijcnfmgidaaGreatDrawR
import Derived.Test.YtobdijcnfmgidaaGreatPlan
import Derived.Test.YtobdijcnfmgidaaGreatAft
import Derived.Test.YtobdijcnfmgidaaGreatTyAtom
import Derived.Test.YtobdijcnfmgidaaGreatDrawA9
import Derived.Test.YtobdijcnfmgidaaGreatParInI
namespace Go.Proofs.YtobdijcnfmgidaaGreat
open Go.RowKit
def slLen : Value → Nat
 | .slice _ n _ => n
 | _ => 0
def blank5 : List Int := List.replicate 5 10
def BlankInv (w : World) (v : Value) (wr : World) : Prop := ∃ k : Nat, k ≤ 5 ∧ OwnInts w.heap.size v (List.replicate k 10) wr ∧ Hid (Below w.heap.size w wr)
set_option maxHeartbeats 3200000 in
set_option maxRecDepth 100000 in
theorem specL11Blank_c (w : World) : Calls Tryz.prog 124 #[] w fun e w' => ∃ V, e = .returned V ∧ OwnInts w.heap.size V blank5 w' ∧ Below w.heap.size w w' := by
 have hF : Below w.heap.size w (w.alloc (.cells #[] 3)) := (Below.refl _ _).alloc (Nat.le_refl _) _
 have HF := Lib.hid hF
 have HO0 := Lib.hid (OwnInts.empty w w.heap.size (Nat.le_refl _))
 clear hF
 go_enter Tryz.func124,Tryz.ntmps124
 go_wp2
 go_loopw [1] (fun v wr => BlankInv w v wr) (fun v _ => 5 - slLen v)
 case atStart => exact ⟨0,by omega,HO0.out,HF⟩
 case round =>
  obtain ⟨k,hk,hO,hW⟩ := hrel
  obtain ⟨P,c,hv,hc1,hc2,-⟩ := hO.at_
  rw [List.length_replicate] at hv hc1
  subst hv
  unfold maxLen at hc2
  have HO := Lib.hid hO
  have HZ := Lib.hid (show w.heap.size ≤ wr.heap.size from hW.out.size)
  clear hO
  by_cases hlt : k < 5
  · have HE := Lib.hid (show List.replicate k (10 : Int) ++ [10] = List.replicate (k + 1) 10 from List.replicate_succ'.symm)
    go_wp2_with (first | (go_at_call 154; refine (specL11None_c _).mono ?_; rintro e w3 ⟨rfl,rfl⟩) | (at_builtin; refine ints_app1 HO.out rfl _ _ rfl (by simp [go_sem]) _ _ _ rfl rfl (by simp; omega) HZ.out ?_; intro v5 w5 hO5 hB5 hG5; rw [HE.out] at hO5; obtain ⟨P5,c5,hv5,-⟩ := id hO5.at_; rw [List.length_replicate] at hv5; subst hv5))
    go_roundw
    case rel => exact ⟨k + 1,by omega,hO5,Lib.hid (hW.out.trans hB5)⟩
    case measure => simp [slLen]; omega
  · obtain rfl : k = 5 := by omega
    go_wp2
    exact bodyPost_ret (v := .slice P 5 c) (by simp [results,Tryz.results124,go_sem]) rfl ⟨_,rfl,HO.out,hW.out⟩
def at5 (b : List Int) (j : Nat) : Int := b.getD j 0
abbrev bAgg (b : List Int) : Value := .agg #[.int .i64 (at5 b 0), .int .i64 (at5 b 1), .int .i64 (at5 b 2), .int .i64 (at5 b 3), .int .i64 (at5 b 4)]
def Arr (g : Nat) (b : List Int) (w : World) : Prop := (∀ j, j < 5 → w.cell? ⟨g, j, none⟩ = some (.int .i64 (at5 b j))) ∧ ∀ o, w.frozen? ⟨g, o, none⟩ = false
theorem Arr.below {g B : Nat} {b : List Int} {w w' : World} (h : Arr g b w) (hb : Below B w w') (hg : g < B) : Arr g b w' :=
 ⟨fun j hj => (hb.cell (p := ⟨g,j,none⟩) hg).trans (h.1 j hj),fun o => (hb.frozen (p := ⟨g,o,none⟩) hg).trans (h.2 o)⟩
theorem Arr.set {g : Nat} {b : List Int} {w : World} (h : Arr g b w) (hb : b.length = 5) (j : Nat) (hj : j < 5) (v : Int) : Arr g (b.set j v) (w.setCell ⟨g, j, none⟩ (.int .i64 v)) := by
 refine ⟨fun i hi => ?_,fun o => by rw [World.frozen?_setCell]; exact h.2 o⟩
 unfold at5
 rw [List.getD_eq_getElem?_getD,List.getElem?_set]
 by_cases e : j = i
 · subst e
   rw [if_pos rfl,if_pos (by omega)]
   exact World.cell?_setCell_same (w := w) (a := ⟨g,j,none⟩) (v := .int .i64 v) (h.1 j hj)
 · rw [if_neg e,← List.getD_eq_getElem?_getD]
   refine Eq.trans ?_ (h.1 i hi)
   exact World.cell?_setCell_other (w := w) (a := ⟨g,j,none⟩) (v := .int .i64 v) (b := ⟨g,i,none⟩) (fun e9 => e (by injection e9))
theorem Arr.ints {g B : Nat} {b : List Int} {w : World} (h : Arr g b w) (hb : b.length = 5) (hg : g < B) : IntsAt w B (.slice (some ⟨g, 0, none⟩) 5 5) b := by
 refine ⟨some ⟨g,0,none⟩,5,by rw [hb],by omega,by decide,fun _ => ⟨g,0,rfl,hg,fun j u hu => ?_⟩,fun e => by cases e⟩
 rw [flat_int] at hu
 have hj : j < 5 := by
  have := (List.getElem?_eq_some_iff.1 hu).1
  rw [List.length_map] at this; omega
 rw [Nat.zero_add,h.1 j hj]
 rw [List.getElem?_map] at hu
 unfold at5
 rw [List.getD_eq_getElem?_getD]
 cases hq : b[j]? with
 | none => rw [hq] at hu; cases hu
 | some z => rw [hq] at hu; exact hu
theorem below_set5 {B g : Nat} {w w' : World} (h : Below B w w') (hg : B ≤ g) (v0 v1 v2 v3 v4 : Value) : Below B w (((((w'.setCell ⟨g, 0, none⟩ v0).setCell ⟨g, 1, none⟩ v1).setCell ⟨g, 2, none⟩ v2).setCell ⟨g, 3, none⟩ v3).setCell ⟨g, 4, none⟩ v4) :=
 ((((h.setCell (p := ⟨g,0,none⟩) hg _).setCell (p := ⟨g,1,none⟩) hg _).setCell (p := ⟨g,2,none⟩) hg _).setCell (p := ⟨g,3,none⟩) hg _).setCell (p := ⟨g,4,none⟩) hg _
theorem set_getD_self (b : List Int) (j : Nat) : b.set j (b.getD j 0) = b := by
 apply List.ext_getElem?
 intro i
 rw [List.getElem?_set]
 split
 · rename_i e
   subst e
   split
   · rename_i h; rw [List.getD_eq_getElem?_getD,List.getElem?_eq_getElem h]; rfl
   · rename_i h; rw [List.getElem?_eq_none (by omega)]
 · rfl
theorem Arr.new (w : World) (t : TypeId) (b : List Int) : Arr w.heap.size b (w.alloc (.cells #[.int .i64 (at5 b 0), .int .i64 (at5 b 1), .int .i64 (at5 b 2), .int .i64 (at5 b 3), .int .i64 (at5 b 4)] t)) := by
 refine ⟨fun j hj => ?_,fun o => by simp [go_sem]⟩
 rcases (show j = 0 ∨ j = 1 ∨ j = 2 ∨ j = 3 ∨ j = 4 by omega) with h | h | h | h | h <;> subst h <;> simp [go_sem]
structure Kp (n₀ : Nat) (W W' : World) : Prop where
 low : Below n₀ W W'
 far : ∀ (k : Nat) (c : Array Value) (t : TypeId) (f : Nat × Nat),W.heap[k]? = some (.cells c t f) → t ≠ 31 → t ≠ 38 → W'.heap[k]? = some (.cells c t f)
theorem Kp.refl (n₀ : Nat) (W : World) : Kp n₀ W W := ⟨Below.refl _ _, fun _ _ _ _ h _ _ => h⟩
theorem Kp.trans {n₀ : Nat} {A B C : World} (h : Kp n₀ A B) (h' : Kp n₀ B C) : Kp n₀ A C := ⟨h.low.trans h'.low, fun _ _ _ _ hk h1 h2 => h'.far _ _ _ _ (h.far _ _ _ _ hk h1 h2) h1 h2⟩
theorem Kp.below {n₀ : Nat} {W W' : World} (h : Below W.heap.size W W') (hn : n₀ ≤ W.heap.size) : Kp n₀ W W' :=
 ⟨h.mono hn,fun k _ _ _ hk _ _ => (h.block k (Array.getElem?_eq_some_iff.1 hk).1).trans hk⟩
theorem Kp.book {n₀ : Nat} {w : World} (hn : n₀ ≤ w.heap.size) (W : World) (l : Nat) (o o' : Obj) (hl : w.heap.size ≤ l) (h : W.heap[l]? = some o) (hc : o.isCells = false) (hw : o.isWalk = false) : Kp n₀ W (W.putObj l o') :=
 ⟨belowK_b hn W l o o' hl h hc hw,fun k _ _ _ hk _ _ => by
  have hne : k ≠ l := fun e => by subst e; rw [h] at hk; cases hk; cases hc
  exact (World.putObj_heap_other hne).trans hk⟩
theorem grown_none {W W' : World} (h : Below W.heap.size W W') : W.grownBy W' none := ⟨h.os, h.tape, h.output, h.size, fun k hk _ => h.block k hk⟩
theorem RoundIn.anyDepth {F : Fence} (hd : F.depth = none) {m m' : Nat} {P : Program} {l : Nat} {f : FuncId} {tmps : Array Value} {assign body : Code} {w : World} {R : Ending → World → Prop}
 (h : RoundIn F m P l f tmps assign body w R) : RoundIn F m' P l f tmps assign body w R := ⟨h.1,fun c cs _ => h.2 c cs (fun d h => by rw [hd] at h; cases h)⟩
theorem YieldAt.anyDepth {F : Fence} (hd : F.depth = none) {m : Nat} (m' : Nat) {P : Program} {l : Nat} {args : Array Value} {W : World} {R : Ending → World → Prop} (h : YieldAt F m P l args W R) : YieldAt F m' P l args W R := by
 obtain ⟨fn,tmps,assign,body,hy,hR⟩ := h
 exact ⟨fn,tmps,assign,body,hy,RoundIn.anyDepth hd hR⟩
def BoxA (g : Nat) (b : List Int) (w : World) : Prop := w.heap[g]? = some (.cells #[.int .i64 (at5 b 0), .int .i64 (at5 b 1), .int .i64 (at5 b 2), .int .i64 (at5 b 3), .int .i64 (at5 b 4)] 122 (0, 0))
theorem BoxA.new (w : World) (b : List Int) : BoxA w.heap.size b (w.alloc (.cells #[.int .i64 (at5 b 0), .int .i64 (at5 b 1), .int .i64 (at5 b 2), .int .i64 (at5 b 3), .int .i64 (at5 b 4)] 122)) := World.alloc_heap_new w _
theorem BoxA.lt {g : Nat} {b : List Int} {w : World} (h : BoxA g b w) : g < w.heap.size := (Array.getElem?_eq_some_iff.1 h).1
theorem BoxA.kp {g n₀ : Nat} {b : List Int} {w w' : World} (h : BoxA g b w) (hk : Kp n₀ w w') : BoxA g b w' := hk.far g _ _ _ h (by decide) (by decide)
theorem BoxA.below {g : Nat} {b : List Int} {w w' : World} (h : BoxA g b w) (hk : Below w.heap.size w w') : BoxA g b w' := (hk.block g h.lt).trans h
theorem BoxA.arr {g : Nat} {b : List Int} {w : World} (h : BoxA g b w) : Arr g b w := by
 have h : w.heap[g]? = _ := h
 refine ⟨fun j hj => ?_,fun o => by simp [World.frozen?,h]⟩
 rcases (show j = 0 ∨ j = 1 ∨ j = 2 ∨ j = 3 ∨ j = 4 by omega) with e | e | e | e | e <;> subst e <;> simp [World.cell?,h]
theorem SliceAt.tail {α : Type} {f : α → List Value} (k : Nat) (hf : ∀ x, (f x).length = k) {w : World} {B c : Nat} {A : Option Addr} {a : α} {l : List α} (h : SliceAt f w B (.slice A (l.length + 1) c) (a :: l)) :
 ∃ b off,A = some ⟨b,off,none⟩ ∧ b < B ∧ SliceAt f w B (.slice (some ⟨b,off + k,none⟩) l.length (c - 1)) l := by
 obtain ⟨A',c',hv,h1,h2,h3,h4⟩ := h
 rw [List.length_cons] at hv h1
 injection hv with e1 _ e2
 subst e1 e2
 obtain ⟨b,off,rfl,hb,hc⟩ := h3 (by simp)
 refine ⟨b,off,rfl,hb,some ⟨b,off + k,none⟩,c - 1,rfl,by omega,by omega,fun _ => ⟨b,off + k,rfl,hb,fun j u hu => ?_⟩,fun e => by cases e⟩
 rw [Nat.add_assoc]
 refine hc (k + j) u ?_
 rw [List.flatMap_cons,List.getElem?_append_right (by rw [hf]; omega),hf,Nat.add_sub_cancel_left]
 exact hu
theorem AtomS_at.tail {w : World} {B c : Nat} {A : Option Addr} {a : Atm} {l : List Atm} (h : AtomS_at w B (.slice A (l.length + 1) c) (a :: l)) :
 ∃ b off,A = some ⟨b,off,none⟩ ∧ b < B ∧ AtomS_at w B (.slice (if c = 1 then some ⟨b,off,none⟩ else some ⟨b,off + 2,none⟩) l.length (c - 1)) l := by
 obtain ⟨Vs,h1,h2,h3⟩ := h
 cases Vs with
 | nil => simp at h1
 | cons V Vs =>
   have hl : Vs.length = l.length := by simpa using h1
   have e : apairs (a :: l) (V :: Vs) = (a.rel,V) :: apairs l Vs := rfl
   have hp := apairs_len hl
   have hc : l.length + 1 ≤ c := by
    obtain ⟨_,_,hv,h4,_⟩ := h2
    rw [e,List.length_cons,hp] at hv h4
    injection hv with _ _ e3
    omega
   rw [e,← hp] at h2
   obtain ⟨b,off,rfl,hb,hs⟩ := SliceAt.tail 2 apairCells_len h2
   rw [hp] at hs
   refine ⟨b,off,rfl,hb,Vs,hl,?_,fun i h h' => h3 (i + 1) (by simp; omega) (by simp; omega)⟩
   by_cases hc1 : c = 1
   · rw [if_pos hc1]
     have h0 : (apairs l Vs).length = 0 := by omega
     have h00 : l.length = 0 := by omega
     refine ⟨some ⟨b,off,none⟩,c - 1,by rw [h0,h00],by omega,by rw [hc1]; decide,fun h => absurd h (by omega),fun e => by cases e⟩
   · rw [if_neg hc1]; exact hs
theorem setCell_self {w : World} {g j : Nat} {v : Value} {c : Array Value} {t : TypeId} {f : Nat × Nat} (h : w.heap[g]? = some (.cells c t f)) : (w.setCell ⟨g, j, none⟩ v).heap[g]? = some (.cells (c.setIfInBounds j v) t f) := by
 obtain ⟨hlt,hk⟩ := Array.getElem?_eq_some_iff.1 h
 show (w.heap.modify g _)[g]? = _
 rw [Array.getElem?_eq_getElem (by rw [Array.size_modify]; exact hlt),Array.getElem_modify_self,hk]
 rfl
theorem cells_set5 {w : World} {g : Nat} {z0 z1 z2 z3 z4 : Value} {t : TypeId} {f : Nat × Nat} (v0 v1 v2 v3 v4 : Value) (h : w.heap[g]? = some (.cells #[z0, z1, z2, z3, z4] t f)) : (((((w.setCell ⟨g, 0, none⟩ v0).setCell ⟨g, 1, none⟩ v1).setCell ⟨g, 2, none⟩ v2).setCell ⟨g, 3, none⟩ v3).setCell ⟨g, 4, none⟩ v4).heap[g]? = some (.cells #[v0, v1, v2, v3, v4] t f) :=
 setCell_self (setCell_self (setCell_self (setCell_self (setCell_self h))))
theorem BoxA.mk5 {w : World} {g : Nat} {z0 z1 z2 z3 z4 : Value} (b : List Int) (h : w.heap[g]? = some (.cells #[z0, z1, z2, z3, z4] 122 (0, 0))) : BoxA g b (((((w.setCell ⟨g, 0, none⟩ (.int .i64 (at5 b 0))).setCell ⟨g, 1, none⟩ (.int .i64 (at5 b 1))).setCell ⟨g, 2, none⟩ (.int .i64 (at5 b 2))).setCell ⟨g, 3, none⟩ (.int .i64 (at5 b 3))).setCell ⟨g, 4, none⟩ (.int .i64 (at5 b 4))) := cells_set5 _ _ _ _ _ h
theorem implIsValidTerm_at (t : Int) (q : Bool) (hq : validT t = q) (w : World) :
 Calls Tryz.prog 160 #[.int .i64 t] w fun e w' => e = .returned (.bool q) ∧ w = w' := by
 subst hq
 by_cases h1 : -10 ≤ t
 · have hd1 : decide (-10 ≤ t) = true := decide_eq_true h1
   have HV := Lib.hid (show decide (t < 5) = validT t by unfold validT inB; rw [decide_eq_decide]; omega)
   clear h1
   go_enter Tryz.func160,Tryz.ntmps160
   go_wp2
   go_ret
   exact ⟨ret_bool HV.out,rfl⟩
 · have hd1 : decide (-10 ≤ t) = false := decide_eq_false h1
   have HV := Lib.hid (show validT t = false by unfold validT inB; exact decide_eq_false (by omega))
   clear h1
   go_enter Tryz.func160,Tryz.ntmps160
   go_wp2
   go_ret
   exact ⟨ret_bool HV.out.symm,rfl⟩
theorem implIsVariable_any (t : Int) (w : World) :
 Calls Tryz.prog 161 #[.int .i64 t] w fun e w' => e = .returned (.bool (decide (0 ≤ t))) ∧ w = w' := by
 go_enter Tryz.func161,Tryz.ntmps161
 go_wp2
 go_ret
 exact ⟨rfl,rfl⟩
theorem ownsRow_cells {w : World} {B k n : Nat} {e : TypeId} {v : Value} {xs : List Value} (h : w.ownsRow B e k v n xs) (g : Nat) (hg : v.ownBlock = some g) : ∃ c, w.heap[g]? = some (.cells c e (0, 0)) := by
 rcases h.2 with ⟨rfl,_⟩ | ⟨g',cap,cur,rfl,_,hgb,_⟩
 · cases hg
 · obtain rfl : g' = g := by simpa [Value.ownBlock] using hg
   exact ⟨cur,hgb⟩
def noDefer (ops : Array Oper) : Bool := ops.all fun o => match o.op with | .defer _ => false | _ => true
theorem noDefer_at {ops : Array Oper} (h : noDefer ops = true) (j : Nat) (o : Oper) (ho : ops[j]? = some o) : ∀ c, o.op ≠ .defer c := by
 intro c e
 obtain ⟨hj,hk⟩ := Array.getElem?_eq_some_iff.1 ho
 unfold noDefer at h
 rw [Array.all_eq_true] at h
 have := h j hj
 rw [hk,e] at this
 cases this
theorem rowsIn_wide {n : Nat} {P : Program} {row : String} {args : Array Value} {w : World} {R : Value → World → Prop} (h : Rows P row args w R) : RowsIn Fence.wide n P row args w R :=
 fun c cs _ => let ⟨v,w',r,s⟩ := h c cs; ⟨v,w',r,stepsIn_wide.2 s⟩
theorem oper_round {l n : Nat} {P : Program} {o : Oper} {a : Act} {w : World} {K : Act → World → Prop} {Q : Exit → Act → World → Prop} (hd : ∀ c, o.op ≠ .defer c) (h : o.wp P a w K Q) : o.wpIn (Fence.wide.inRound l) n P a w K Q := by
 refine ⟨fun _ _ => trivial,?_⟩
 unfold Oper.wp at h
 rw [Oper.semAt_eq _ _ _ hd]
 generalize (execOp a.eval o).run P w = r at *
 have hdep : ((Fence.wide.inRound l).depth.isSome = true → 1 ≤ n) := fun h => by cases h
 cases r with
 | ok x w' =>
   cases x with
   | value v => exact h
   | skip => exact h
   | defer d => exact h
   | enter f args => exact ⟨hdep,((callsIn_wide (n := n - 1)).2 h).inRound l⟩
   | row row args => exact ⟨hdep,rowsIn_wide (n := n - 1) h⟩
   | _ => exact h.elim
 | halt x w' =>
   cases x with
   | panic v => exact h
   | _ => exact h.elim
theorem any_round {l n : Nat} {P : Program} {md : Region.Mode} {ops : Array Oper} {Q : Exit → Act → World → Prop} (hd : noDefer ops = true) (hQ : ¬ LetsOut Q) :
 ∀ (fuel : Nat) (listed : Array Bool) (a : Act) (w : World),wpAny P md ops Q fuel listed a w → wpAnyIn (Fence.wide.inRound l) n P md ops Q fuel listed a w
 | 0,_,_,_,h => h
 | fuel + 1,listed,a,w,h => by
   refine ⟨h.1,fun i hi => ?_⟩
   have h2 := h.2 i hi
   unfold wpOp at h2
   unfold wpOpIn
   cases ho : ops[i]? with
   | none => rw [ho] at h2; exact any_round hd hQ fuel _ a w h2
   | some o =>
     rw [ho] at h2
     simp only at h2 ⊢
     split
     · rename_i hw
       rw [if_pos hw] at h2
       rcases h2 with h2 | ⟨_,h2⟩
       · exact Oper.wpIn_mono (fun a w hh => any_round hd hQ fuel _ a w hh) (oper_round (noDefer_at hd i o ho) h2)
       · exact absurd h2 hQ
     · rename_i hw
       rw [if_neg hw] at h2
       exact ⟨fun _ _ => trivial,any_round hd hQ fuel _ _ w h2⟩
theorem wp_round_planL {l n : Nat} {P : Program} {ops : Array Oper} {C : World → Prop} {id : Nat} {Q' : Exit → Act → World → Prop} {a : Act} {w : World} (p : Plan) (hm : P.follows .mixedOrders = true) (hn : Region.noSelect ops = true) (hd : noDefer ops = true) (hQ : ¬ LetsOut Q') (hB : planL .any ops ops.size [(List.replicate ops.size false, p)] = true) (hC : p.looks = true → C w.drew)
 (h : wpPlan P ops C (Q' .normal) p a w.drew) : (Code.region id ops true).wpIn (Fence.wide.inRound l) n P Q' a w := by
 have hB := planL_sound .any ops ops.size _ hB (List.replicate ops.size false,p) (List.mem_singleton.2 rfl)
 refine wpIn_region_any hm (any_round hd hQ _ _ _ _ (plan_any (Q := Q' .normal) (Region.noSelect_spec hn) (fun _ _ h => h) _ _ p a _ (by
  cases hl : p.looks with
  | true => exact .inl ⟨_,hC hl⟩
  | false => exact .inr rfl) (fun h => hC (reads_looks p h)) (by simpa using hB) h))
theorem compareInt_at (x y : Int) (r : Int) (h : (if x < y then -1 else if y < x then 1 else 0 : Int) = r) (w : World) : Calls Tryz.prog 131 #[.int .i64 x, .int .i64 y] w fun e w' => e = .returned (.int .i64 r) ∧ w' = w := by
 subst h
 have e1 : (x != x) = false := by simp
 have e2 : (y != y) = false := by simp
 by_cases h1 : x < y
 · rw [if_pos h1]
   have d1 : decide (x < y) = true := decide_eq_true h1
   clear h1
   go_enter Tryz.func131,Tryz.ntmps131
   go_wp2
   go_ret
   exact ⟨rfl,rfl⟩
 · rw [if_neg h1]
   have d1 : decide (x < y) = false := decide_eq_false h1
   by_cases h2 : y < x
   · rw [if_pos h2]
     have d2 : decide (y < x) = true := decide_eq_true h2
     clear h1 h2
     go_enter Tryz.func131,Tryz.ntmps131
     go_wp2
     go_ret
     exact ⟨rfl,rfl⟩
   · rw [if_neg h2]
     have d2 : decide (y < x) = false := decide_eq_false h2
     clear h1 h2
     go_enter Tryz.func131,Tryz.ntmps131
     go_wp2
     go_ret
     exact ⟨rfl,rfl⟩
set_option maxHeartbeats 1600000 in
theorem implInts_any (v u : Value) (a b : List Int) (w : World) (hl : IntsAt w w.heap.size v a) (hm : IntsAt w w.heap.size u b) :
 Calls Tryz.prog 132 #[v,u] w fun e w' => e = .returned (.int .i64 (cmpInts a b)) ∧ w = w' := by
 have HL := Lib.hid hl
 have HM := Lib.hid hm
 obtain ⟨A,c,rfl,hlc,hcm,-⟩ := hl
 obtain ⟨A',c',rfl,hlc',hcm',-⟩ := hm
 unfold maxLen at hcm hcm'
 go_enter Tryz.func132,Tryz.ntmps132
 go_wp2
 go_loopw [11] (fun i wr => ∃ k : Nat,k ≤ a.length ∧ k ≤ b.length ∧ i = .int .i64 k ∧ Hid (CmpTo a b k) ∧ w = wr) (fun i _ => a.length - (intOf i).toNat)
 case atStart => exact ⟨0,by omega,by omega,rfl,Lib.hid (CmpTo.zero a b),rfl⟩
 case round =>
  obtain ⟨k,hk,hk',rfl,HT,rfl⟩ := hrel
  by_cases hlt : k < a.length
  · obtain ⟨p,off,rfl,hb,c0⟩ := IntsAt.elem HL.out k hlt
    by_cases hlt' : k < b.length
    · obtain ⟨p',off',rfl,hb',d0⟩ := IntsAt.elem HM.out k hlt'
      by_cases h1 : a[k] < b[k]
      · have HV := Lib.hid (HT.out.less hlt hlt' h1)
        have hc := compareInt_at a[k] b[k] (-1) (by rw [if_pos h1]) w
        clear h1
        go_wp2_with (go_at_call 131; refine hc.mono ?_; rintro e w1 ⟨rfl,rfl⟩)
        go_ret
        exact ⟨ret_int HV.out.symm,rfl⟩
      · by_cases h2 : b[k] < a[k]
        · have HV := Lib.hid (HT.out.more hlt hlt' h2)
          have hc := compareInt_at a[k] b[k] 1 (by rw [if_neg h1,if_pos h2]) w
          clear h1 h2
          go_wp2_with (go_at_call 131; refine hc.mono ?_; rintro e w1 ⟨rfl,rfl⟩)
          go_ret
          exact ⟨ret_int HV.out.symm,rfl⟩
        · have HV := Lib.hid (HT.out.next hlt hlt' h1 h2)
          have hc := compareInt_at a[k] b[k] 0 (by rw [if_neg h1,if_neg h2]) w
          clear h1 h2
          go_wp2_with (go_at_call 131; refine hc.mono ?_; rintro e w1 ⟨rfl,rfl⟩)
          go_roundw
          case rel => exact ⟨k + 1,by omega,by omega,by go_num,HV,by trivial⟩
          case measure => simp [intOf]; omega
    · have HV := Lib.hid ((HT.out.done (by omega) hk hk').trans ((if_neg (by omega)).trans (if_pos (by omega))))
      go_wp2
      go_ret
      exact ⟨ret_int HV.out.symm,rfl⟩
  · have HV := Lib.hid (HT.out.done (by omega) hk hk')
    by_cases e1 : a.length < b.length
    · have HV' := Lib.hid (HV.out.trans (if_pos e1))
      go_wp2
      go_ret
      exact ⟨ret_int HV'.out.symm,rfl⟩
    · have HV' := Lib.hid (HV.out.trans ((if_neg e1).trans (if_neg (by omega))))
      go_wp2
      go_ret
      exact ⟨ret_int HV'.out.symm,rfl⟩
theorem orInt_any (x y r : Int) (h : (if x = 0 then y else x) = r) (g : Nat) (w : World) (h0 : w.cell? ⟨g, 0, none⟩ = some (.int .i64 x)) (h1 : w.cell? ⟨g, 1, none⟩ = some (.int .i64 y)) :
 Calls Tryz.prog 130 #[.slice (some ⟨g,0,none⟩) 2 2] w fun e w' => e = .returned (.int .i64 r) ∧ w = w' := by
 subst h
 by_cases hx : x = 0
 · subst hx
   rw [if_pos rfl]
   by_cases hy : y = 0
   · subst hy
     have hn0 : ((0 : Int) != 0) = false := rfl
     go_enter Tryz.func130,Tryz.ntmps130
     go_wp2
     refine wp_loop_rounds 3 ?_
     rw [rounds_succ]
     go_wp2
     rw [rounds_succ]
     go_wp2
     rw [rounds_succ]
     go_wp2
     go_ret
     exact ⟨rfl,rfl⟩
   · have hyb : (y != 0) = true := bne_iff_ne.2 hy
     clear hy
     go_enter Tryz.func130,Tryz.ntmps130
     go_wp2
     refine wp_loop_rounds 2 ?_
     rw [rounds_succ]
     go_wp2
     rw [rounds_succ]
     go_wp2
     go_ret
     exact ⟨rfl,rfl⟩
 · have hxb : (x != 0) = true := bne_iff_ne.2 hx
   rw [if_neg hx]
   clear hx
   go_enter Tryz.func130,Tryz.ntmps130
   go_wp2
   refine wp_loop_rounds 1 ?_
   rw [rounds_succ]
   go_wp2
   go_ret
   exact ⟨rfl,rfl⟩
set_option maxHeartbeats 1600000 in
set_option maxRecDepth 100000 in
theorem implCompareFacts_eq (r s : Int) (v u : Value) (a b : List Int) (w : World) (hl : IntsAt w w.heap.size v a) (hm : IntsAt w w.heap.size u b) :
 Calls Tryz.prog 73 #[.agg #[.int .i64 r,v],.agg #[.int .i64 s,u]] w fun e w' => e = .returned (.int .i64 (cmpFact r a s b)) ∧ Below w.heap.size w w' ∧ ∃ o1 o2 o3,w' = ((w.alloc o1).alloc o2).drew.alloc o3 := by
 have hE : Below w.heap.size w ((w.alloc (.cells #[.int .i64 r,v] 66)).alloc (.cells #[.int .i64 s,u] 66)) := below_more (below_more (Below.refl _ _) _) _
 have hEz : w.heap.size + 2 = ((w.alloc (.cells #[.int .i64 r,v] 66)).alloc (.cells #[.int .i64 s,u] 66)).heap.size := by simp
 have hcl := (hl.below (hE.trans ((Below.refl _ _).drew : Below w.heap.size ((w.alloc (.cells #[.int .i64 r,v] 66)).alloc (.cells #[.int .i64 s,u] 66)) ((w.alloc (.cells #[.int .i64 r,v] 66)).alloc (.cells #[.int .i64 s,u] 66)).drew)) (Nat.le_refl _)).more (show w.heap.size ≤ ((w.alloc (.cells #[.int .i64 r,v] 66)).alloc (.cells #[.int .i64 s,u] 66)).drew.heap.size by show w.heap.size ≤ ((w.alloc (.cells #[.int .i64 r,v] 66)).alloc (.cells #[.int .i64 s,u] 66)).heap.size; omega)
 have hcm := (hm.below (hE.trans ((Below.refl _ _).drew : Below w.heap.size ((w.alloc (.cells #[.int .i64 r,v] 66)).alloc (.cells #[.int .i64 s,u] 66)) ((w.alloc (.cells #[.int .i64 r,v] 66)).alloc (.cells #[.int .i64 s,u] 66)).drew)) (Nat.le_refl _)).more (show w.heap.size ≤ ((w.alloc (.cells #[.int .i64 r,v] 66)).alloc (.cells #[.int .i64 s,u] 66)).drew.heap.size by show w.heap.size ≤ ((w.alloc (.cells #[.int .i64 r,v] 66)).alloc (.cells #[.int .i64 s,u] 66)).heap.size; omega)
 have G0 := Aft.cell (B := ((w.alloc (.cells #[.int .i64 r,v] 66)).alloc (.cells #[.int .i64 s,u] 66)).heap.size) (by omega) (show ((w.alloc (.cells #[.int .i64 r,v] 66)).alloc (.cells #[.int .i64 s,u] 66)).cell? ⟨w.heap.size,0,none⟩ = some (.int .i64 r) by simp [go_sem])
 have G1 := Aft.cell (B := ((w.alloc (.cells #[.int .i64 r,v] 66)).alloc (.cells #[.int .i64 s,u] 66)).heap.size) (by omega) (show ((w.alloc (.cells #[.int .i64 r,v] 66)).alloc (.cells #[.int .i64 s,u] 66)).cell? ⟨w.heap.size,1,none⟩ = some (v) by simp [go_sem])
 have G2 := Aft.cell (B := ((w.alloc (.cells #[.int .i64 r,v] 66)).alloc (.cells #[.int .i64 s,u] 66)).heap.size) (by omega) (show ((w.alloc (.cells #[.int .i64 r,v] 66)).alloc (.cells #[.int .i64 s,u] 66)).cell? ⟨w.heap.size + 1,0,none⟩ = some (.int .i64 s) by simp [go_sem])
 have G3 := Aft.cell (B := ((w.alloc (.cells #[.int .i64 r,v] 66)).alloc (.cells #[.int .i64 s,u] 66)).heap.size) (by omega) (show ((w.alloc (.cells #[.int .i64 r,v] 66)).alloc (.cells #[.int .i64 s,u] 66)).cell? ⟨w.heap.size + 1,1,none⟩ = some (u) by simp [go_sem])
 obtain ⟨X,hC⟩ : ∃ X : Int,(if r < s then -1 else if s < r then 1 else 0 : Int) = X := ⟨_,rfl⟩
 have HX : Hid ((if X = 0 then cmpInts a b else X) = cmpFact r a s b) := Lib.hid (by
  subst hC; unfold cmpFact
  by_cases h1 : r < s
  · simp [h1]
  · by_cases h2 : s < r <;> simp [h1,h2])
 have HC := Lib.hid hC
 have HB1 := Lib.hid (show Below ((w.alloc (.cells #[.int .i64 r,v] 66)).alloc (.cells #[.int .i64 s,u] 66)).heap.size ((w.alloc (.cells #[.int .i64 r,v] 66)).alloc (.cells #[.int .i64 s,u] 66)) (((w.alloc (.cells #[.int .i64 r,v] 66)).alloc (.cells #[.int .i64 s,u] 66)).drew.alloc (.cells #[.int .i64 X,.int .i64 (cmpInts a b)] 3)) from (Below.refl ((w.alloc (.cells #[.int .i64 r,v] 66)).alloc (.cells #[.int .i64 s,u] 66)).heap.size ((w.alloc (.cells #[.int .i64 r,v] 66)).alloc (.cells #[.int .i64 s,u] 66))).drew.alloc (show ((w.alloc (.cells #[.int .i64 r,v] 66)).alloc (.cells #[.int .i64 s,u] 66)).heap.size ≤ ((w.alloc (.cells #[.int .i64 r,v] 66)).alloc (.cells #[.int .i64 s,u] 66)).drew.heap.size from Nat.le_refl _) _)
 have HEz := Lib.hid hEz
 clear hC hl hm hEz
 go_enter Tryz.func73,Tryz.ntmps73
 go_wp2
 refine wp_region_planL (C := fun w' => ∃ u : Aft ((w.alloc (.cells #[.int .i64 r,v] 66)).alloc (.cells #[.int .i64 s,u] 66)).heap.size ((w.alloc (.cells #[.int .i64 r,v] 66)).alloc (.cells #[.int .i64 s,u] 66)),w' = u.now) (.still 0 (.still 1 (.still 2 (.still 3 (.still 5 (.still 6 (.still 7 (.still 8 (.move true 4 (.move true 9 (.move true 10 (.move true 11 (.still 12 .done) .none) .none) .none) .none))))))))) (by kernel_rfl) (by kernel_rfl) (by kernel_rfl) (fun _ => ⟨⟨_,(Below.refl _ _).drew⟩,rfl⟩) ?_
 iterate 8
  refine plan_look _ rfl rfl ?_
  go_big_quiet_step (fail)
  refine wpQuiet_nil ?_
 refine plan_call _ 131 _ _ _ _ _ rfl _ Tryz.func131 (by kernel_rfl) (by kernel_rfl) ?_ True.intro
 refine (compareInt_at r s X HC.out _).mono ?_
 rintro _ _ ⟨rfl,rfl⟩
 refine ⟨_,rfl,fun _ => ⟨⟨_,(Below.refl _ _).drew⟩,rfl⟩,?_⟩
 refine plan_put ?_ (by simp only [Act.put,putA,putB,putC]; rfl)
 refine plan_call _ 132 _ _ _ _ _ rfl _ Tryz.func132 (by kernel_rfl) (by kernel_rfl) ?_ True.intro
 refine (implInts_any v u a b _ hcl hcm).mono ?_
 rintro _ _ ⟨rfl,rfl⟩
 refine ⟨_,rfl,fun _ => ⟨⟨_,(Below.refl _ _).drew⟩,rfl⟩,?_⟩
 refine plan_put ?_ (by simp only [Act.put,putA,putB,putC]; rfl)
 refine plan_value (u := .slice (some ⟨((w.alloc (.cells #[.int .i64 r,v] 66)).alloc (.cells #[.int .i64 s,u] 66)).heap.size,0,none⟩) 2 2) (w' := ((w.alloc (.cells #[.int .i64 r,v] 66)).alloc (.cells #[.int .i64 s,u] 66)).drew.alloc (.cells #[.int .i64 X,.int .i64 (cmpInts a b)] 3)) _ rfl rfl rfl (by simp [go_sem]) (fun _ => ⟨⟨_,HB1.out⟩,rfl⟩) ?_ True.intro
 refine plan_put ?_ (by simp only [Act.put,putA,putB,putC]; rfl)
 refine plan_call _ 130 _ _ _ _ _ rfl _ Tryz.func130 (by kernel_rfl) (by kernel_rfl) ?_ True.intro
 refine (orInt_any X (cmpInts a b) (cmpFact r a s b) HX.out ((w.alloc (.cells #[.int .i64 r,v] 66)).alloc (.cells #[.int .i64 s,u] 66)).heap.size _ (box_cell ((w.alloc (.cells #[.int .i64 r,v] 66)).alloc (.cells #[.int .i64 s,u] 66)).drew #[.int .i64 X,.int .i64 (cmpInts a b)] _ 0) (box_cell ((w.alloc (.cells #[.int .i64 r,v] 66)).alloc (.cells #[.int .i64 s,u] 66)).drew #[.int .i64 X,.int .i64 (cmpInts a b)] _ 1)).mono ?_
 rintro _ _ ⟨rfl,rfl⟩
 refine ⟨_,rfl,fun _ => ⟨⟨_,HB1.out⟩,rfl⟩,?_⟩
 refine plan_put ?_ (by simp only [Act.put,putA,putB,putC]; rfl)
 refine plan_look _ rfl rfl ?_
 go_big_quiet_step (fail)
 refine wpQuiet_nil ?_
 refine plan_done ?_
 go_wp2
 go_ret
 exact ⟨rfl,hE.trans (HB1.out.mono hE.size),_,_,_,rfl⟩
theorem implCompareFacts_any (r s : Int) (v u : Value) (a b : List Int) (w : World) (hl : IntsAt w w.heap.size v a) (hm : IntsAt w w.heap.size u b) :
 Calls Tryz.prog 73 #[.agg #[.int .i64 r,v],.agg #[.int .i64 s,u]] w fun e w' => e = .returned (.int .i64 (cmpFact r a s b)) ∧ Below w.heap.size w w' :=
 (implCompareFacts_eq r s v u a b w hl hm).mono fun _ _ ⟨he,hb,_⟩ => ⟨he,hb⟩
end Go.Proofs.YtobdijcnfmgidaaGreat
