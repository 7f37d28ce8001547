/-
  Walks and plain lemmas for the laws of this seat: what single Go functions return, for every argument.
-/
import Derived.RangeFuncNested
import Derived.RangeFuncBound
import Derived.RangeFuncCalls
import Derived.RangeFuncLeaves
import Derived.Shelf.Abstract
import Derived.Shelf.RegionOpen
import Derived.WalkKit
import Derived.OwnWalkIn
import Derived.TacticsInMore
import Derived.LoopNIn
import Derived.LoopIn
import Derived.OrdersIn
import Derived.Lib.SliceRun
import Derived.Test.YtobdijcnfmgidaaGreatBase
import Derived.Test.YtobdijcnfmgidaaGreatPlan
import Derived.Test.YtobdijcnfmgidaaGreatInts
import Derived.Test.YtobdijcnfmgidaaGreatTyAtom
import Derived.Test.YtobdijcnfmgidaaGreatRel
import Derived.Test.YtobdijcnfmgidaaGreatFact
import Derived.Test.YtobdijcnfmgidaaGreatTySS
namespace Go.Proofs.YtobdijcnfmgidaaGreat
open Go.RowKit

/-- what a round that goes on keeps: all below n₀, and all blocks of cells that are neither a row of rows nor a box of one -/
structure Kp (n₀ : Nat) (W W' : World) : Prop where
  low : Below n₀ W W'
  far : ∀ (k : Nat) (c : Array Value) (t : TypeId) (f : Nat × Nat), W.heap[k]? = some (.cells c t f) → t ≠ 31 → t ≠ 38 → W'.heap[k]? = some (.cells c t f)
theorem Kp.refl (n₀ : Nat) (W : World) : Kp n₀ W W := ⟨Below.refl _ _, fun _ _ _ _ h _ _ => h⟩
theorem Kp.trans {n₀ : Nat} {A B C : World} (h : Kp n₀ A B) (h' : Kp n₀ B C) : Kp n₀ A C := ⟨h.low.trans h'.low, fun _ _ _ _ hk h1 h2 => h'.far _ _ _ _ (h.far _ _ _ _ hk h1 h2) h1 h2⟩
theorem Kp.below {n₀ : Nat} {W W' : World} (h : Below W.heap.size W W') (hn : n₀ ≤ W.heap.size) : Kp n₀ W W' :=
  ⟨h.mono hn, fun k _ _ _ hk _ _ => (h.block k (Array.getElem?_eq_some_iff.1 hk).1).trans hk⟩
theorem Kp.book {n₀ : Nat} {w : World} (hn : n₀ ≤ w.heap.size) (W : World) (l : Nat) (o o' : Obj) (hl : w.heap.size ≤ l) (h : W.heap[l]? = some o) (hc : o.isCells = false) (hw : o.isWalk = false) : Kp n₀ W (W.putObj l o') :=
  ⟨belowK_b hn W l o o' hl h hc hw, fun k _ _ _ hk _ _ => by
    have hne : k ≠ l := fun e => by subst e; rw [h] at hk; cases hk; cases hc
    exact (World.putObj_heap_other hne).trans hk⟩
theorem grown_none {W W' : World} (h : Below W.heap.size W W') : W.grownBy W' none := ⟨h.os, h.tape, h.output, h.size, fun k hk _ => h.block k hk⟩
theorem RoundIn.anyDepth {F : Fence} (hd : F.depth = none) {m m' : Nat} {P : Program} {l : Nat} {f : FuncId} {tmps : Array Value} {assign body : Code} {w : World} {R : Ending → World → Prop}
    (h : RoundIn F m P l f tmps assign body w R) : RoundIn F m' P l f tmps assign body w R := ⟨h.1, fun c cs _ => h.2 c cs (fun d h => by rw [hd] at h; cases h)⟩
theorem YieldAt.anyDepth {F : Fence} (hd : F.depth = none) {m : Nat} (m' : Nat) {P : Program} {l : Nat} {args : Array Value} {W : World} {R : Ending → World → Prop} (h : YieldAt F m P l args W R) : YieldAt F m' P l args W R := by
  obtain ⟨fn, tmps, assign, body, hy, hR⟩ := h
  exact ⟨fn, tmps, assign, body, hy, RoundIn.anyDepth hd hR⟩
/-- block g is a box that holds the binding -/
def BoxA (g : Nat) (b : List Int) (w : World) : Prop := w.heap[g]? = some (.cells #[.int .i64 (at5 b 0), .int .i64 (at5 b 1), .int .i64 (at5 b 2), .int .i64 (at5 b 3), .int .i64 (at5 b 4)] 122 (0, 0))
theorem BoxA.new (w : World) (b : List Int) : BoxA w.heap.size b (w.alloc (.cells #[.int .i64 (at5 b 0), .int .i64 (at5 b 1), .int .i64 (at5 b 2), .int .i64 (at5 b 3), .int .i64 (at5 b 4)] 122)) := World.alloc_heap_new w _
theorem BoxA.lt {g : Nat} {b : List Int} {w : World} (h : BoxA g b w) : g < w.heap.size := (Array.getElem?_eq_some_iff.1 h).1
theorem BoxA.kp {g n₀ : Nat} {b : List Int} {w w' : World} (h : BoxA g b w) (hk : Kp n₀ w w') : BoxA g b w' := hk.far g _ _ _ h (by decide) (by decide)
theorem BoxA.below {g : Nat} {b : List Int} {w w' : World} (h : BoxA g b w) (hk : Below w.heap.size w w') : BoxA g b w' := (hk.block g h.lt).trans h
theorem BoxA.arr {g : Nat} {b : List Int} {w : World} (h : BoxA g b w) : Arr g b w := by
  have h : w.heap[g]? = _ := h
  refine ⟨fun j hj => ?_, fun o => by simp [World.frozen?, h]⟩
  rcases (show j = 0 ∨ j = 1 ∨ j = 2 ∨ j = 3 ∨ j = 4 by omega) with e | e | e | e | e <;> subst e <;> simp [World.cell?, h]
theorem SliceAt.tail {α : Type} {f : α → List Value} (k : Nat) (hf : ∀ x, (f x).length = k) {w : World} {B c : Nat} {A : Option Addr} {a : α} {l : List α} (h : SliceAt f w B (.slice A (l.length + 1) c) (a :: l)) :
    ∃ b off, A = some ⟨b, off, none⟩ ∧ b < B ∧ SliceAt f w B (.slice (some ⟨b, off + k, none⟩) l.length (c - 1)) l := by
  obtain ⟨A', c', hv, h1, h2, h3, h4⟩ := h
  rw [List.length_cons] at hv h1
  injection hv with e1 _ e2
  subst e1 e2
  obtain ⟨b, off, rfl, hb, hc⟩ := h3 (by simp)
  refine ⟨b, off, rfl, hb, some ⟨b, off + k, none⟩, c - 1, rfl, by omega, by omega, fun _ => ⟨b, off + k, rfl, hb, fun j u hu => ?_⟩, fun e => by cases e⟩
  rw [Nat.add_assoc]
  refine hc (k + j) u ?_
  rw [List.flatMap_cons, List.getElem?_append_right (by rw [hf]; omega), hf, Nat.add_sub_cancel_left]
  exact hu
theorem AtomS_at.tail {w : World} {B c : Nat} {A : Option Addr} {a : Atm} {l : List Atm} (h : AtomS_at w B (.slice A (l.length + 1) c) (a :: l)) :
    ∃ b off, A = some ⟨b, off, none⟩ ∧ b < B ∧ AtomS_at w B (.slice (if c = 1 then some ⟨b, off, none⟩ else some ⟨b, off + 2, none⟩) l.length (c - 1)) l := by
  obtain ⟨Vs, h1, h2, h3⟩ := h
  cases Vs with
  | nil => simp at h1
  | cons V Vs =>
    have hl : Vs.length = l.length := by simpa using h1
    have e : apairs (a :: l) (V :: Vs) = (a.rel, V) :: apairs l Vs := rfl
    have hp := apairs_len hl
    have hc : l.length + 1 ≤ c := by
      obtain ⟨_, _, hv, h4, _⟩ := h2
      rw [e, List.length_cons, hp] at hv h4
      injection hv with _ _ e3
      omega
    rw [e, ← hp] at h2
    obtain ⟨b, off, rfl, hb, hs⟩ := SliceAt.tail 2 apairCells_len h2
    rw [hp] at hs
    refine ⟨b, off, rfl, hb, Vs, hl, ?_, fun i h h' => h3 (i + 1) (by simp; omega) (by simp; omega)⟩
    by_cases hc1 : c = 1
    · rw [if_pos hc1]
      have h0 : (apairs l Vs).length = 0 := by omega
      have h00 : l.length = 0 := by omega
      refine ⟨some ⟨b, off, none⟩, c - 1, by rw [h0, h00], by omega, by rw [hc1]; decide, fun h => absurd h (by omega), fun e => by cases e⟩
    · rw [if_neg hc1]; exact hs
theorem setCell_self {w : World} {g j : Nat} {v : Value} {c : Array Value} {t : TypeId} {f : Nat × Nat} (h : w.heap[g]? = some (.cells c t f)) : (w.setCell ⟨g, j, none⟩ v).heap[g]? = some (.cells (c.setIfInBounds j v) t f) := by
  obtain ⟨hlt, hk⟩ := Array.getElem?_eq_some_iff.1 h
  show (w.heap.modify g _)[g]? = _
  rw [Array.getElem?_eq_getElem (by rw [Array.size_modify]; exact hlt), Array.getElem_modify_self, hk]
  rfl
theorem cells_set5 {w : World} {g : Nat} {z0 z1 z2 z3 z4 : Value} {t : TypeId} {f : Nat × Nat} (v0 v1 v2 v3 v4 : Value) (h : w.heap[g]? = some (.cells #[z0, z1, z2, z3, z4] t f)) : (((((w.setCell ⟨g, 0, none⟩ v0).setCell ⟨g, 1, none⟩ v1).setCell ⟨g, 2, none⟩ v2).setCell ⟨g, 3, none⟩ v3).setCell ⟨g, 4, none⟩ v4).heap[g]? = some (.cells #[v0, v1, v2, v3, v4] t f) :=
  setCell_self (setCell_self (setCell_self (setCell_self (setCell_self h))))
theorem BoxA.mk5 {w : World} {g : Nat} {z0 z1 z2 z3 z4 : Value} (b : List Int) (h : w.heap[g]? = some (.cells #[z0, z1, z2, z3, z4] 122 (0, 0))) : BoxA g b (((((w.setCell ⟨g, 0, none⟩ (.int .i64 (at5 b 0))).setCell ⟨g, 1, none⟩ (.int .i64 (at5 b 1))).setCell ⟨g, 2, none⟩ (.int .i64 (at5 b 2))).setCell ⟨g, 3, none⟩ (.int .i64 (at5 b 3))).setCell ⟨g, 4, none⟩ (.int .i64 (at5 b 4))) := cells_set5 _ _ _ _ _ h

theorem implIsValidTerm_at (t : Int) (q : Bool) (hq : validT t = q) (w : World) :
    Calls Tryz.prog 160 #[.int .i64 t] w fun e w' => e = .returned (.bool q) ∧ w = w' := by
  subst hq
  by_cases h1 : -10 ≤ t
  · have hd1 : decide (-10 ≤ t) = true := decide_eq_true h1
    have HV := Lib.hid (show decide (t < 5) = validT t by unfold validT inB; rw [decide_eq_decide]; omega)
    clear h1
    go_enter Tryz.func160, Tryz.ntmps160
    go_wp2
    go_ret
    exact ⟨ret_bool HV.out, rfl⟩
  · have hd1 : decide (-10 ≤ t) = false := decide_eq_false h1
    have HV := Lib.hid (show validT t = false by unfold validT inB; exact decide_eq_false (by omega))
    clear h1
    go_enter Tryz.func160, Tryz.ntmps160
    go_wp2
    go_ret
    exact ⟨ret_bool HV.out.symm, rfl⟩
theorem implIsVariable_any (t : Int) (w : World) :
    Calls Tryz.prog 161 #[.int .i64 t] w fun e w' => e = .returned (.bool (decide (0 ≤ t))) ∧ w = w' := by
  go_enter Tryz.func161, Tryz.ntmps161
  go_wp2
  go_ret
  exact ⟨rfl, rfl⟩

theorem ownsRow_cells {w : World} {B k n : Nat} {e : TypeId} {v : Value} {xs : List Value} (h : w.ownsRow B e k v n xs) (g : Nat) (hg : v.ownBlock = some g) : ∃ c, w.heap[g]? = some (.cells c e (0, 0)) := by
  rcases h.2 with ⟨rfl, _⟩ | ⟨g', cap, cur, rfl, _, hgb, _⟩
  · cases hg
  · obtain rfl : g' = g := by simpa [Value.ownBlock] using hg
    exact ⟨cur, hgb⟩

/-- no operation is a defer statement -/
def noDefer (ops : Array Oper) : Bool := ops.all fun o => match o.op with | .defer _ => false | _ => true
theorem noDefer_at {ops : Array Oper} (h : noDefer ops = true) (j : Nat) (o : Oper) (ho : ops[j]? = some o) : ∀ c, o.op ≠ .defer c := by
  intro c e
  obtain ⟨hj, hk⟩ := Array.getElem?_eq_some_iff.1 ho
  unfold noDefer at h
  rw [Array.all_eq_true] at h
  have := h j hj
  rw [hk, e] at this
  cases this
theorem rowsIn_wide {n : Nat} {P : Program} {row : String} {args : Array Value} {w : World} {R : Value → World → Prop} (h : Rows P row args w R) : RowsIn Fence.wide n P row args w R :=
  fun c cs _ => let ⟨v, w', r, s⟩ := h c cs; ⟨v, w', r, stepsIn_wide.2 s⟩
/-- an operation that is no defer statement goes in a round as anywhere -/
theorem oper_round {l n : Nat} {P : Program} {o : Oper} {a : Act} {w : World} {K : Act → World → Prop} {Q : Exit → Act → World → Prop} (hd : ∀ c, o.op ≠ .defer c) (h : o.wp P a w K Q) : o.wpIn (Fence.wide.inRound l) n P a w K Q := by
  refine ⟨fun _ _ => trivial, ?_⟩
  unfold Oper.wp at h
  rw [Oper.semAt_eq _ _ _ hd]
  generalize (execOp a.eval o).run P w = r at *
  have hdep : ((Fence.wide.inRound l).depth.isSome = true → 1 ≤ n) := fun h => by cases h
  cases r with
  | ok x w' =>
    cases x with
    | value v => exact h
    | skip => exact h
    | defer d => exact h
    | enter f args => exact ⟨hdep, ((callsIn_wide (n := n - 1)).2 h).inRound l⟩
    | row row args => exact ⟨hdep, rowsIn_wide (n := n - 1) h⟩
    | _ => exact h.elim
  | halt x w' =>
    cases x with
    | panic v => exact h
    | _ => exact h.elim
theorem any_round {l n : Nat} {P : Program} {md : Region.Mode} {ops : Array Oper} {Q : Exit → Act → World → Prop} (hd : noDefer ops = true) (hQ : ¬ LetsOut Q) :
    ∀ (fuel : Nat) (listed : Array Bool) (a : Act) (w : World), wpAny P md ops Q fuel listed a w → wpAnyIn (Fence.wide.inRound l) n P md ops Q fuel listed a w
  | 0, _, _, _, h => h
  | fuel + 1, listed, a, w, h => by
    refine ⟨h.1, fun i hi => ?_⟩
    have h2 := h.2 i hi
    unfold wpOp at h2
    unfold wpOpIn
    cases ho : ops[i]? with
    | none => rw [ho] at h2; exact any_round hd hQ fuel _ a w h2
    | some o =>
      rw [ho] at h2
      simp only at h2 ⊢
      split
      · rename_i hw
        rw [if_pos hw] at h2
        rcases h2 with h2 | ⟨_, h2⟩
        · exact Oper.wpIn_mono (fun a w hh => any_round hd hQ fuel _ a w hh) (oper_round (noDefer_at hd i o ho) h2)
        · exact absurd h2 hQ
      · rename_i hw
        rw [if_neg hw] at h2
        exact ⟨fun _ _ => trivial, any_round hd hQ fuel _ _ w h2⟩
/-- a region that draws its order, in a round of a range over a function -/
theorem wp_round_planL {l n : Nat} {P : Program} {ops : Array Oper} {C : World → Prop} {id : Nat} {Q' : Exit → Act → World → Prop} {a : Act} {w : World} (p : Plan) (hm : P.follows .mixedOrders = true) (hn : Region.noSelect ops = true) (hd : noDefer ops = true) (hQ : ¬ LetsOut Q') (hB : planL .any ops ops.size [(List.replicate ops.size false, p)] = true) (hC : p.looks = true → C w.drew)
    (h : wpPlan P ops C (Q' .normal) p a w.drew) : (Code.region id ops true).wpIn (Fence.wide.inRound l) n P Q' a w := by
  have hB := planL_sound .any ops ops.size _ hB (List.replicate ops.size false, p) (List.mem_singleton.2 rfl)
  refine wpIn_region_any hm (any_round hd hQ _ _ _ _ (plan_any (Q := Q' .normal) (Region.noSelect_spec hn) (fun _ _ h => h) _ _ p a _ (by
    cases hl : p.looks with
    | true => exact .inl ⟨_, hC hl⟩
    | false => exact .inr rfl) (fun h => hC (reads_looks p h)) (by simpa using hB) h))

theorem IntS_at.later {w w' : World} {v : Value} {l : List Int} (h : IntS_at w w.heap.size v l) (hb : Below w.heap.size w w') : IntS_at w' w'.heap.size v l := (h.below hb (Nat.le_refl _)).more hb.size

/-- a fact, as the proofs speak of it -/
structure Fct where
  rel : Int
  vals : List Int
def Fact_at (w : World) (B : Nat) (v : Value) (x : Fct) : Prop := ∃ V, v = .agg #[.int .i64 x.rel, V] ∧ IntS_at w B V x.vals
def Fact_own (B C : Nat) (v : Value) (x : Fct) (w : World) : Prop := ∃ V, v = .agg #[.int .i64 x.rel, V] ∧ IntS_own B C V x.vals w
theorem Fact_at.below {w w' : World} {B B' : Nat} {v : Value} {x : Fct} (h : Fact_at w B v x) (hb : Below B' w w') (hB : B ≤ B') : Fact_at w' B v x := by
  obtain ⟨V, rfl, h⟩ := h; exact ⟨V, rfl, h.below hb hB⟩
theorem Fact_at.more {w : World} {B B' : Nat} {v : Value} {x : Fct} (h : Fact_at w B v x) (hB : B ≤ B') : Fact_at w B' v x := by
  obtain ⟨V, rfl, h⟩ := h; exact ⟨V, rfl, h.more hB⟩
theorem Fact_own.at_ {B C D : Nat} {v : Value} {x : Fct} {w : World} (h : Fact_own B C v x w) (hD : C ≤ D) : Fact_at w D v x := by
  obtain ⟨V, rfl, h⟩ := h; exact ⟨V, rfl, h.at_ hD⟩
theorem Fact_own.chg {B C B' C' : Nat} {v : Value} {x : Fct} {w w' : World} (h : Fact_own B C v x w) (hc : Chg (Mid B' C') w w') (hd : C ≤ B' ∨ C' ≤ B) : Fact_own B C v x w' := by
  obtain ⟨V, rfl, h⟩ := h; exact ⟨V, rfl, h.chg hc hd⟩
theorem Fact_own.below {B C D : Nat} {v : Value} {x : Fct} {w w' : World} (h : Fact_own B C v x w) (hb : Below D w w') (hD : C ≤ D) : Fact_own B C v x w' := by
  obtain ⟨V, rfl, h⟩ := h; exact ⟨V, rfl, h.below hb hD⟩
def Fact_wf (x : Fct) : Prop := (-9223372036854775808 ≤ x.rel ∧ x.rel ≤ 9223372036854775807) ∧ IntS_wf x.vals
def Fact_sz (x : Fct) : Nat := x.vals.length
def Fact_mk (k : Nat) (x : Fct) : Fct := ⟨x.rel, IntS_mk k x.vals⟩
def Fact_cnt (x : Fct) : Nat := x.vals.length
theorem Fact_cnt_le (x : Fct) : Fact_cnt x ≤ 4 * Fact_sz x := by unfold Fact_cnt Fact_sz; omega
theorem Fact_form {w : World} {B : Nat} {v : Value} {x : Fct} (h : Fact_at w B v x) : ∃ P c, v = .agg #[.int .i64 x.rel, .slice P x.vals.length c] := by
  obtain ⟨V, rfl, P, c, rfl, _⟩ := h
  exact ⟨P, c, rfl⟩

instance : Inhabited Fct := ⟨⟨0, []⟩⟩
theorem Fct.ext' {a b : Fct} (h : a.rel = b.rel) (h' : a.vals = b.vals) : a = b := by cases a; cases b; simp_all
def pairCells (p : Int × Value) : List Value := [.int .i64 p.1, p.2]
theorem pairCells_len (p : Int × Value) : (pairCells p).length = 2 := rfl
/-- facts and the slices that hold their values, side by side -/
def pairs (l : List Fct) (Vs : List Value) : List (Int × Value) := List.zipWith (fun x V => (x.rel, V)) l Vs
theorem pairs_len {l : List Fct} {Vs : List Value} (h : Vs.length = l.length) : (pairs l Vs).length = l.length := by unfold pairs; rw [List.length_zipWith]; omega
theorem pairs_at {l : List Fct} {Vs : List Value} (i : Nat) (h : i < (pairs l Vs).length) (h1 : i < l.length) (h2 : i < Vs.length) : (pairs l Vs)[i] = (l[i].rel, Vs[i]) := by simp [pairs]
theorem pairs_set {l : List Fct} {Vs : List Value} (i : Nat) (x : Fct) (h2 : i < Vs.length) : pairs (l.set i x) Vs = (pairs l Vs).set i (x.rel, Vs[i]) := by
  apply List.ext_getElem
  · simp [pairs]
  · intro j h1 h3
    simp only [pairs, List.getElem_zipWith, List.getElem_set]
    split
    · rename_i hij; subst hij; rfl
    · rfl
def FactS_at (w : World) (B : Nat) (v : Value) (l : List Fct) : Prop := ∃ Vs : List Value, Vs.length = l.length ∧ SliceAt pairCells w B v (pairs l Vs) ∧ ∀ (i : Nat) (h : i < l.length) (h' : i < Vs.length), IntS_at w B Vs[i] l[i].vals
structure FactSO (e : TypeId) (B C : Nat) (v : Value) (Vs : List Value) (l : List Fct) (w : World) : Prop where
  len : Vs.length = l.length
  row : w.ownsRow B e 2 v (pairs l Vs).length ((pairs l Vs).flatMap pairCells)
  ins : Value.inside C v
  el : ∀ (i : Nat) (h : i < l.length) (h' : i < Vs.length), IntS_own B C Vs[i] l[i].vals w
  dis : Apart Vs
def FactS_own (B C : Nat) (v : Value) (l : List Fct) (w : World) : Prop := ∃ Vs, FactSO 66 B C v Vs l w
theorem FactS_at.below {w w' : World} {B B' : Nat} {v : Value} {l : List Fct} (h : FactS_at w B v l) (hb : Below B' w w') (hB : B ≤ B') : FactS_at w' B v l := by
  obtain ⟨Vs, h1, h2, h3⟩ := h
  exact ⟨Vs, h1, h2.below hb hB, fun i h h' => (h3 i h h').below hb hB⟩
theorem FactS_at.more {w : World} {B B' : Nat} {v : Value} {l : List Fct} (h : FactS_at w B v l) (hB : B ≤ B') : FactS_at w B' v l := by
  obtain ⟨Vs, h1, h2, h3⟩ := h
  exact ⟨Vs, h1, h2.more hB, fun i h h' => (h3 i h h').more hB⟩
theorem FactSO.at_ {e : TypeId} {B C D : Nat} {v : Value} {Vs : List Value} {l : List Fct} {w : World} (h : FactSO e B C v Vs l w) (hD : C ≤ D) : FactS_at w D v l :=
  ⟨Vs, h.len, SliceAt.inside (SliceAt.of_own h.row) (fun g hg => Nat.lt_of_lt_of_le (h.ins g hg) hD), fun i h1 h2 => (h.el i h1 h2).at_ hD⟩
theorem FactS_own.at_ {B C D : Nat} {v : Value} {l : List Fct} {w : World} (h : FactS_own B C v l w) (hD : C ≤ D) : FactS_at w D v l := by
  obtain ⟨Vs, h⟩ := h; exact h.at_ hD
theorem FactSO.chg {e : TypeId} {B C B' C' : Nat} {v : Value} {Vs : List Value} {l : List Fct} {w w' : World} (h : FactSO e B C v Vs l w) (hc : Chg (Mid B' C') w w') (hd : C ≤ B' ∨ C' ≤ B) : FactSO e B C v Vs l w' :=
  ⟨h.len, hc.row h.row (fun g hg hm => by have h1 := (World.ownsRow.lt h.row g hg).1; have h2 := h.ins g hg; have h3 : B' ≤ g := hm.1; have h4 : g < C' := hm.2; omega), h.ins, fun i h1 h2 => (h.el i h1 h2).chg hc hd, h.dis⟩
theorem FactS_own.chg {B C B' C' : Nat} {v : Value} {l : List Fct} {w w' : World} (h : FactS_own B C v l w) (hc : Chg (Mid B' C') w w') (hd : C ≤ B' ∨ C' ≤ B) : FactS_own B C v l w' := by
  obtain ⟨Vs, h⟩ := h; exact ⟨Vs, h.chg hc hd⟩
theorem FactSO.below {e : TypeId} {B C D : Nat} {v : Value} {Vs : List Value} {l : List Fct} {w w' : World} (h : FactSO e B C v Vs l w) (hb : Below D w w') (hD : C ≤ D) : FactSO e B C v Vs l w' :=
  ⟨h.len, (Chg.of_below' hb).row h.row (fun g hg hm => by have h2 := h.ins g hg; have h3 : D ≤ g := hm; omega), h.ins, fun i h1 h2 => (h.el i h1 h2).below hb hD, h.dis⟩
theorem FactS_own.below {B C D : Nat} {v : Value} {l : List Fct} {w w' : World} (h : FactS_own B C v l w) (hb : Below D w w') (hD : C ≤ D) : FactS_own B C v l w' := by
  obtain ⟨Vs, h⟩ := h; exact ⟨Vs, h.below hb hD⟩
theorem FactSO.mono {e : TypeId} {B B' C C' : Nat} {v : Value} {Vs : List Value} {l : List Fct} {w : World} (h : FactSO e B C v Vs l w) (hB : B' ≤ B) (hC : C ≤ C') : FactSO e B' C' v Vs l w :=
  ⟨h.len, row_mono h.row hB, fun g hg => Nat.lt_of_lt_of_le (h.ins g hg) hC, fun i h1 h2 => (h.el i h1 h2).mono hB hC, h.dis⟩
theorem FactS_own.mono {B B' C C' : Nat} {v : Value} {l : List Fct} {w : World} (h : FactS_own B C v l w) (hB : B' ≤ B) (hC : C ≤ C') : FactS_own B' C' v l w := by
  obtain ⟨Vs, h⟩ := h; exact ⟨Vs, h.mono hB hC⟩
/-- one fact, read -/
theorem FactS_at.elem {w : World} {B c : Nat} {A : Option Addr} {l : List Fct} (h : FactS_at w B (.slice A l.length c) l) (j : Nat) (hj : j < l.length) :
    ∃ b off V, A = some ⟨b, off, none⟩ ∧ b < B ∧ w.cell? ⟨b, off + j * 2, none⟩ = some (.int .i64 l[j].rel) ∧ w.cell? ⟨b, off + j * 2 + 1, none⟩ = some V ∧ IntS_at w B V l[j].vals := by
  obtain ⟨Vs, h1, h2, h3⟩ := h
  have hp := pairs_len h1
  obtain ⟨A', c', hv, -, -, hc⟩ := h2
  rw [hp] at hv
  injection hv with e1 _ e2
  subst e1 e2
  obtain ⟨b, off, rfl, hb, hc⟩ := hc.1 (by omega)
  have hjp : j < (pairs l Vs).length := by omega
  have g (i : Nat) (hi : i < 2) := flat_get pairCells 2 pairCells_len (pairs l Vs) j i hjp hi
  have e := pairs_at j hjp hj (by omega : j < Vs.length)
  rw [e] at g
  refine ⟨b, off, Vs[j], rfl, hb, hc _ _ (g 0 (by omega)), ?_, h3 j hj (by omega)⟩
  rw [Nat.add_assoc]; exact hc _ _ (g 1 (by omega))
theorem FactS_at.form {w : World} {B : Nat} {v : Value} {l : List Fct} (h : FactS_at w B v l) : ∃ A c, v = .slice A l.length c ∧ l.length ≤ c ∧ c ≤ maxLen := by
  obtain ⟨Vs, h1, ⟨A, c, hv, h3, h4, _⟩, _⟩ := h
  rw [pairs_len h1] at hv h3
  exact ⟨A, c, hv, h3, h4⟩
def valsLen : List Fct → Nat
  | [] => 0
  | x :: t => x.vals.length + valsLen t
theorem valsLen_append (l m : List Fct) : valsLen (l ++ m) = valsLen l + valsLen m := by
  induction l with
  | nil => simp [valsLen]
  | cons a t ih => simp only [List.cons_append, valsLen, ih]; omega
theorem valsLen_take (l : List Fct) (k : Nat) (h : k < l.length) : valsLen (l.take (k + 1)) = valsLen (l.take k) + l[k].vals.length := by
  rw [List.take_succ_eq_append_getElem h, valsLen_append]; simp [valsLen]
theorem valsLen_le (l : List Fct) (k : Nat) : valsLen (l.take k) ≤ valsLen l := by
  have := valsLen_append (l.take k) (l.drop k)
  rw [List.take_append_drop] at this; omega
def FactS_wf (l : List Fct) : Prop := ∀ (i : Nat) (h : i < l.length), Fact_wf l[i]
def FactS_sz (l : List Fct) : Nat := l.length + valsLen l
def FactS_cnt (l : List Fct) : Nat := l.length + valsLen l
theorem FactS_cnt_le (l : List Fct) : FactS_cnt l ≤ 4 * FactS_sz l := by unfold FactS_cnt FactS_sz; omega
/-- what a mark writes -/
def markFct (k : Nat) (l : List Fct) (i : Nat) : Fct := ⟨((k + i + valsLen (l.take i) : Nat) : Int), markInts (k + i + valsLen (l.take i) + 1) (l.getD i default).vals.length⟩
def FactS_mk (k : Nat) (l : List Fct) : List Fct := (List.range l.length).map (markFct k l)
theorem FactS_mk_len (k : Nat) (l : List Fct) : (FactS_mk k l).length = l.length := by simp [FactS_mk]
theorem FactS_mk_at (k : Nat) (l : List Fct) (i : Nat) (h : i < (FactS_mk k l).length) : (FactS_mk k l)[i] = markFct k l i := by simp [FactS_mk]

/-- an instance, as the proofs speak of it -/
structure Inst where
  rels : List Rel
  facts : List Fct
def Instance_at (w : World) (B : Nat) (v : Value) (x : Inst) : Prop := ∃ V1 V2, v = .agg #[V1, V2] ∧ RelationS_at w B V1 x.rels ∧ FactS_at w B V2 x.facts
def Instance_own (B C : Nat) (v : Value) (x : Inst) (w : World) : Prop := ∃ V1 V2, v = .agg #[V1, V2] ∧ RelationS_own B C V1 x.rels w ∧ FactS_own B C V2 x.facts w
theorem Instance_at.below {w w' : World} {B B' : Nat} {v : Value} {x : Inst} (h : Instance_at w B v x) (hb : Below B' w w') (hB : B ≤ B') : Instance_at w' B v x := by
  obtain ⟨V1, V2, rfl, h1, h2⟩ := h; exact ⟨V1, V2, rfl, h1.below hb hB, h2.below hb hB⟩
theorem Instance_at.more {w : World} {B B' : Nat} {v : Value} {x : Inst} (h : Instance_at w B v x) (hB : B ≤ B') : Instance_at w B' v x := by
  obtain ⟨V1, V2, rfl, h1, h2⟩ := h; exact ⟨V1, V2, rfl, h1.more hB, h2.more hB⟩
theorem Instance_own.at_ {B C D : Nat} {v : Value} {x : Inst} {w : World} (h : Instance_own B C v x w) (hD : C ≤ D) : Instance_at w D v x := by
  obtain ⟨V1, V2, rfl, h1, h2⟩ := h; exact ⟨V1, V2, rfl, h1.at_ hD, h2.at_ hD⟩
theorem Instance_own.chg {B C B' C' : Nat} {v : Value} {x : Inst} {w w' : World} (h : Instance_own B C v x w) (hc : Chg (Mid B' C') w w') (hd : C ≤ B' ∨ C' ≤ B) : Instance_own B C v x w' := by
  obtain ⟨V1, V2, rfl, h1, h2⟩ := h; exact ⟨V1, V2, rfl, h1.chg hc hd, h2.chg hc hd⟩
theorem Instance_own.below {B C D : Nat} {v : Value} {x : Inst} {w w' : World} (h : Instance_own B C v x w) (hb : Below D w w') (hD : C ≤ D) : Instance_own B C v x w' := by
  obtain ⟨V1, V2, rfl, h1, h2⟩ := h; exact ⟨V1, V2, rfl, h1.below hb hD, h2.below hb hD⟩
theorem RelationS_at.form {w : World} {B : Nat} {v : Value} {l : List Rel} (h : RelationS_at w B v l) : ∃ A c, v = .slice A l.length c ∧ l.length ≤ c ∧ c ≤ maxLen := by
  obtain ⟨A, c, hv, h1, h2, _⟩ := h; exact ⟨A, c, hv, h1, h2⟩
theorem Instance_form {w : World} {B : Nat} {v : Value} {x : Inst} (h : Instance_at w B v x) : ∃ P c Q d, v = .agg #[.slice P x.rels.length c, .slice Q x.facts.length d] := by
  obtain ⟨V1, V2, rfl, h1, h2⟩ := h
  obtain ⟨P, c, rfl, _⟩ := h1.form
  obtain ⟨Q, d, rfl, _⟩ := h2.form
  exact ⟨P, c, Q, d, rfl⟩
def Instance_wf (x : Inst) : Prop := RelationS_wf x.rels ∧ FactS_wf x.facts
def Instance_sz (x : Inst) : Nat := RelationS_sz x.rels + FactS_sz x.facts
def Instance_cnt (x : Inst) : Nat := RelationS_cnt x.rels + FactS_cnt x.facts
theorem Instance_cnt_le (x : Inst) : Instance_cnt x ≤ 4 * Instance_sz x := by
  have h1 := RelationS_cnt_le x.rels
  have h2 := FactS_cnt_le x.facts
  unfold Instance_cnt Instance_sz; omega

theorem pairs_set2 {l : List Fct} {Vs : List Value} (i : Nat) (x : Fct) (V : Value) : pairs (l.set i x) (Vs.set i V) = (pairs l Vs).set i (x.rel, V) := by
  apply List.ext_getElem
  · simp [pairs]
  · intro j h1 h3
    simp only [pairs, List.getElem_zipWith, List.getElem_set]
    split
    · rename_i hij; subst hij; rfl
    · rfl
/-- one fact stored whole -/
theorem FactSO.set {e : TypeId} (he : e ≠ 3) {B C g n cap : Nat} {Vs : List Value} {l : List Fct} {w : World} (h : FactSO e B C (.slice (some ⟨g, 0, none⟩) n cap) Vs l w) (hn : l.length = n) (j : Nat) (hj : j < n) (x : Fct) (V : Value) (hV : IntS_own B C V x.vals w)
    (hd : ∀ (i : Nat) (hi : i < Vs.length), i ≠ j → ∀ q, Vs[i].ownBlock = some q → V.ownBlock ≠ some q) :
    FactSO e B C (.slice (some ⟨g, 0, none⟩) n cap) (Vs.set j V) (l.set j x) ((w.setCell ⟨g, j * 2, none⟩ (.int .i64 x.rel)).setCell ⟨g, j * 2 + 1, none⟩ V) := by
  have hp := pairs_len h.len
  have hrow := h.row
  rw [hp, hn] at hrow
  have h1 := (World.ownsRow.stored hrow (j * 2) (.int .i64 x.rel)).1
  have h2 := (World.ownsRow.stored h1 (j * 2 + 1) V).1
  have hC : Chg (fun q => q = g) w ((w.setCell ⟨g, j * 2, none⟩ (.int .i64 x.rel)).setCell ⟨g, j * 2 + 1, none⟩ V) := ((Chg.refl (fun q => q = g) w).setCell (p := ⟨g, j * 2, none⟩) rfl _).setCell (p := ⟨g, j * 2 + 1, none⟩) rfl _
  have keep : ∀ {U : Value} {us : List Int}, IntS_own B C U us w → IntS_own B C U us ((w.setCell ⟨g, j * 2, none⟩ (.int .i64 x.rel)).setCell ⟨g, j * 2 + 1, none⟩ V) := fun hU => ⟨hU.1.chg hC (fun q hq e1 => inner_ne he h.row hU g rfl (by rw [hq, e1])), hU.2⟩
  refine ⟨by rw [List.length_set, List.length_set, h.len], ?_, h.ins, fun i h3 h4 => ?_, h.dis.set j V hd⟩
  · rw [pairs_set2, List.length_set, hp, hn, ← flat_set pairCells 2 pairCells_len (pairs l Vs) j (by omega) (x.rel, V)]
    exact h2
  · rw [List.length_set] at h3 h4
    simp only [List.getElem_set]
    split
    · exact keep hV
    · exact keep (h.el i h3 h4)
/-- a fact's relation stored -/
theorem FactSO.setRel {e : TypeId} (he : e ≠ 3) {B C g n cap : Nat} {Vs : List Value} {l : List Fct} {w : World} (h : FactSO e B C (.slice (some ⟨g, 0, none⟩) n cap) Vs l w) (hn : l.length = n) (j : Nat) (hj : j < l.length) (q : Int) :
    FactSO e B C (.slice (some ⟨g, 0, none⟩) n cap) Vs (l.set j ⟨q, l[j].vals⟩) (w.setCell ⟨g, j * 2, none⟩ (.int .i64 q)) := by
  have hp := pairs_len h.len
  have hrow := h.row
  rw [hp, hn] at hrow
  have h1 := (World.ownsRow.stored hrow (j * 2) (.int .i64 q)).1
  have hC : Chg (fun q => q = g) w (w.setCell ⟨g, j * 2, none⟩ (.int .i64 q)) := (Chg.refl (fun q => q = g) w).setCell (p := ⟨g, j * 2, none⟩) rfl _
  have hjv : j < Vs.length := by rw [h.len]; exact hj
  refine ⟨by rw [List.length_set, h.len], ?_, h.ins, fun i h3 h4 => ?_, h.dis⟩
  · rw [pairs_set j _ hjv, List.length_set, hp, hn, ← flat_set pairCells 2 pairCells_len (pairs l Vs) j (by omega) (q, Vs[j])]
    have e1 : ((pairs l Vs).flatMap pairCells)[j * 2 + 1]? = some Vs[j] := by
      have := flat_get pairCells 2 pairCells_len (pairs l Vs) j 1 (by omega) (by omega)
      rw [this, pairs_at j (by omega) hj hjv]; rfl
    have e2 : setMany ((pairs l Vs).flatMap pairCells) (j * 2) (pairCells (q, Vs[j])) = ((pairs l Vs).flatMap pairCells).set (j * 2) (.int .i64 q) := by
      show (((pairs l Vs).flatMap pairCells).set (j * 2) (.int .i64 q)).set (j * 2 + 1) Vs[j] = _
      exact set_same (by rw [List.getElem?_set_ne (by omega)]; exact e1)
    rw [e2]
    exact h1
  · rw [List.length_set] at h3
    have hk : IntS_own B C Vs[i] l[i].vals (w.setCell ⟨g, j * 2, none⟩ (.int .i64 q)) := ⟨(h.el i h3 h4).1.chg hC (fun q hq e1 => inner_ne he h.row (h.el i h3 h4) g rfl (by rw [hq, e1])), (h.el i h3 h4).2⟩
    simp only [List.getElem_set]
    split
    · rename_i hij; subst hij; exact hk
    · exact hk
/-- a fact's values written in their own slice -/
theorem FactSO.setVals {e : TypeId} (he : e ≠ 3) {B C : Nat} {v : Value} {Vs : List Value} {l : List Fct} {w w' : World} (h : FactSO e B C v Vs l w) (j : Nat) (hj : j < l.length) (hjv : j < Vs.length) (us : List Int) (hV : IntS_own B C Vs[j] us w') (hc : Chg (fun q => Vs[j].ownBlock = some q) w w') :
    FactSO e B C v Vs (l.set j ⟨l[j].rel, us⟩) w' := by
  have hp := pairs_len h.len
  refine ⟨by rw [List.length_set, h.len], ?_, h.ins, fun i h3 h4 => ?_, h.dis⟩
  · have e1 : pairs (l.set j ⟨l[j].rel, us⟩) Vs = pairs l Vs := by
      rw [pairs_set j _ hjv]
      refine List.ext_getElem (by simp) fun i h5 h6 => ?_
      rw [List.getElem_set]
      split
      · rename_i hij; subst hij; rw [pairs_at j (by omega) hj hjv]
      · rfl
    rw [e1]
    exact hc.row h.row (fun g hg => inner_ne he h.row (h.el j hj hjv) g hg)
  · rw [List.length_set] at h3
    simp only [List.getElem_set]
    split
    · rename_i hij; subst hij; exact hV
    · rename_i hij
      exact ⟨(h.el i h3 h4).1.chg hc (fun q hq => h.dis.at_ i j h4 hjv (by omega) q hq), (h.el i h3 h4).2⟩
theorem FactSO.cells {e : TypeId} {B C g n cap : Nat} {Vs : List Value} {l : List Fct} {w : World} (h : FactSO e B C (.slice (some ⟨g, 0, none⟩) n cap) Vs l w) (hn : l.length = n) (j : Nat) (hj : j < l.length) (hjv : j < Vs.length) :
    w.cell? ⟨g, j * 2, none⟩ = some (.int .i64 l[j].rel) ∧ w.cell? ⟨g, j * 2 + 1, none⟩ = some Vs[j] := by
  have hp := pairs_len h.len
  have hrow := h.row
  rw [hp, hn] at hrow
  have hjp : j < (pairs l Vs).length := by omega
  have g (i : Nat) (hi : i < 2) := (World.ownsRow.cellAt hrow (j * 2 + i) (by omega)).trans (flat_get pairCells 2 pairCells_len (pairs l Vs) j i hjp hi)
  rw [pairs_at j hjp hj hjv] at g
  exact ⟨g 0 (by omega), g 1 (by omega)⟩
theorem FactSO.frozen {e : TypeId} {B C g n cap : Nat} {Vs : List Value} {l : List Fct} {w : World} (h : FactSO e B C (.slice (some ⟨g, 0, none⟩) n cap) Vs l w) (hn : l.length = n) (j : Nat) : w.frozen? ⟨g, j, none⟩ = false := by
  have hrow := h.row
  rw [pairs_len h.len, hn] at hrow
  exact World.ownsRow.frozenAt hrow j
def zeroFct : Fct := ⟨0, []⟩
theorem madeCells_pair (n : Nat) : (madeCells #[.int .i64 0, .slice none 0 0] (n * 2)).toList = (pairs (List.replicate n zeroFct) (List.replicate n (.slice none 0 0))).flatMap pairCells := by
  apply List.ext_getElem?
  intro i
  have hp : (pairs (List.replicate n zeroFct) (List.replicate n (.slice none 0 0))).length = n := by rw [pairs_len (by simp)]; simp
  by_cases hi : i < n * 2
  · have e : i = i / 2 * 2 + i % 2 := by omega
    have h1 : i / 2 < (pairs (List.replicate n zeroFct) (List.replicate n (.slice none 0 0))).length := by omega
    have := flat_get pairCells 2 pairCells_len (pairs (List.replicate n zeroFct) (List.replicate n (.slice none 0 0))) (i / 2) (i % 2) h1 (by omega)
    rw [← e] at this
    rw [this, pairs_at _ h1 (by simp; omega) (by simp; omega)]
    simp only [List.getElem_replicate]
    have h3 : i % 2 = 0 ∨ i % 2 = 1 := by omega
    rcases h3 with h3 | h3 <;> simp [madeCells, hi, h3, pairCells, zeroFct]
  · rw [List.getElem?_eq_none (by simp [madeCells]; omega), List.getElem?_eq_none]
    rw [flat_len pairCells 2 pairCells_len, hp]; omega
theorem FactSO.made {e : TypeId} (w : World) (n : Nat) (hn : n ≤ 1048576) : FactSO e w.heap.size (w.heap.size + 1) (.slice (some ⟨w.heap.size, 0, none⟩) n n) (List.replicate n (.slice none 0 0)) (List.replicate n zeroFct) (w.alloc (.cells (madeCells #[.int .i64 0, .slice none 0 0] (n * 2)) e)) := by
  have hp : (pairs (List.replicate n zeroFct) (List.replicate n (.slice none 0 0))).length = n := by rw [pairs_len (by simp)]; simp
  refine ⟨by simp, ?_, fun g hg => by cases hg; exact Nat.lt_succ_self _, fun i h h' => ?_, ?_⟩
  · rw [hp, ← madeCells_pair]
    exact World.ownsRow_lit w _ n (Nat.le_refl _) (by unfold maxLen; omega) (size_madeCells _ _)
  · simp only [List.getElem_replicate]
    exact ⟨OwnInts.nil _ _, fun g hg => by cases hg⟩
  · exact List.pairwise_iff_getElem.2 fun i j hi hj _ g h1 => by rw [List.getElem_replicate] at h1; cases h1

theorem infoFct : (Tryz.prog.info? 66).map (fun i => (i.zero, i.size, i.bytes)) = some (some (.agg #[.int .i64 0, .slice none 0 0]), 2, 32) := by kernel_rfl

theorem make_facts (w : World) (n : Nat) (hn : n ≤ 1048576) : (Instr.makeSlice 25 (.int .i64 (n : Int)) (.int .i64 (n : Int))).run Tryz.prog w = .ok (.slice (some ⟨w.heap.size, 0, none⟩) n n) (w.alloc (.cells (madeCells #[.int .i64 0, .slice none 0 0] (n * 2)) 66)) := by
  obtain ⟨i0, hi, hz0, hz1, hz2⟩ := info_parts infoFct
  have hr := run_make (P := Tryz.prog) w 25 66 i0 _ Tryz.underlying25 hi hz0 .i64 .i64 (n : Int) (n : Int) (by omega) (by omega) (by rw [hz2]; omega) (by omega)
  simp only [Int.toNat_natCast, hz1] at hr
  exact hr
theorem take_zero_fct (l : List Fct) (k : Nat) (h : k < l.length) : (l.take k ++ List.replicate (l.length - k) zeroFct).set k l[k] = l.take (k + 1) ++ List.replicate (l.length - (k + 1)) zeroFct := by
  rw [List.set_append_right _ _ (by simp; omega), List.length_take_of_le (by omega), Nat.sub_self, List.take_succ_eq_append_getElem h, show l.length - k = (l.length - (k + 1)) + 1 by omega, List.replicate_succ, List.set_cons_zero, List.append_assoc]
  rfl

theorem FactS_at.later {w w' : World} {v : Value} {l : List Fct} (h : FactS_at w w.heap.size v l) (hb : Below w.heap.size w w') : FactS_at w' w'.heap.size v l := (h.below hb (Nat.le_refl _)).more hb.size
theorem Instance_at.later {w w' : World} {v : Value} {x : Inst} (h : Instance_at w w.heap.size v x) (hb : Below w.heap.size w w') : Instance_at w' w'.heap.size v x := (h.below hb (Nat.le_refl _)).more hb.size
theorem Fact_at.later {w w' : World} {v : Value} {x : Fct} (h : Fact_at w w.heap.size v x) (hb : Below w.heap.size w w') : Fact_at w' w'.heap.size v x := (h.below hb (Nat.le_refl _)).more hb.size

theorem pairs_snoc {l : List Fct} {Vs : List Value} (h : Vs.length = l.length) (x : Fct) (U : Value) : pairs (l ++ [x]) (Vs ++ [U]) = pairs l Vs ++ [(x.rel, U)] := by
  unfold pairs; rw [List.zipWith_append h.symm]; rfl
/-- a fact appended to a slice of facts of the call's own -/
theorem FactSO.snoc {e : TypeId} (he : e ≠ 3) {B C C' : Nat} {v v' U : Value} {Vs : List Value} {l : List Fct} {x : Fct} {w w' : World} (h : FactSO e B C v Vs l w) (hC : C ≤ C')
    (hrow : w'.ownsRow B e 2 v' (pairs l Vs ++ [(x.rel, U)]).length ((pairs l Vs ++ [(x.rel, U)]).flatMap pairCells)) (hg : w.grownBy w' v.ownBlock) (hin : Value.inside C' v')
    (hU : IntS_own B C' U x.vals w) (hd : ∀ (i : Nat) (hi : i < Vs.length), ∀ g, Vs[i].ownBlock = some g → U.ownBlock ≠ some g) : FactSO e B C' v' (Vs ++ [U]) (l ++ [x]) w' := by
  have keep : ∀ {V : Value} {us : List Int}, IntS_own B C' V us w → IntS_own B C' V us w' := fun hV => by
    refine ⟨World.ownsRow.kept hV.1 hg ?_, hV.2⟩
    rcases own_ne hV.1 h.row (fun e1 => he e1.symm) with h1 | h1
    · exact .inl h1
    · exact .inr h1
  refine ⟨by rw [List.length_append, List.length_append, h.len]; rfl, by rw [pairs_snoc h.len]; exact hrow, hin, fun i h1 h2 => ?_, h.dis.snoc U hd⟩
  · by_cases hi : i < l.length
    · have hiv : i < Vs.length := by rw [h.len]; exact hi
      rw [List.getElem_append_left hi, List.getElem_append_left hiv]
      exact keep ((h.el i hi hiv).mono (Nat.le_refl _) hC)
    · have hil : i = l.length := by rw [List.length_append, List.length_singleton] at h1; omega
      subst hil
      rw [List.getElem_append_right (show l.length ≤ l.length from Nat.le_refl _)]
      have : Vs.length ≤ l.length := by rw [h.len]; exact Nat.le_refl _
      rw [List.getElem_append_right this]
      simp only [Nat.sub_self, List.getElem_cons_zero, h.len]
      exact keep hU

/-- relations of the call's own where facts alone have turned -/
theorem rels_keep {B C B' C' q : Nat} {v u : Value} {l : List Rel} {Vs : List Value} {m : List Fct} {w w' : World} (hR : RelationS_own B C v l w) (hO : FactSO 66 B' C' u Vs m w) (hu : u.ownBlock = some q) (hc : Chg (fun k => k = q) w w') : RelationS_own B C v l w' :=
  ⟨hc.row hR.1 (fun g hg e => by
    rcases own_ne hR.1 hO.row (by decide) with h | h
    · rw [h] at hg; cases hg
    · rw [hg, hu] at h; exact h (by rw [e])), hR.2⟩
theorem valsLen_filter (p : Fct → Bool) (l : List Fct) : valsLen (l.filter p) ≤ valsLen l := by
  induction l with
  | nil => simp [valsLen]
  | cons f t ih =>
    cases hf : p f with
    | true => rw [List.filter_cons_of_pos hf]; simp only [valsLen]; omega
    | false => rw [List.filter_cons_of_neg (by rw [hf]; simp)]; simp only [valsLen]; omega

end Go.Proofs.YtobdijcnfmgidaaGreat
