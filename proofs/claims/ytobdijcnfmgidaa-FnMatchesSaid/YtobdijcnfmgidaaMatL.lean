/-
  Walks and plain lemmas for the laws of this seat: what single Go functions return, for every argument.
-/
import Derived.RangeFuncNested
import Derived.RangeFuncBound
import Derived.RangeFuncCalls
import Derived.RangeFuncLeaves
import Derived.Shelf.Abstract
import Derived.Shelf.RegionOpen
import Derived.WalkKit
import Derived.OwnWalkIn
import Derived.TacticsInMore
import Derived.LoopNIn
import Derived.LoopIn
import Derived.OrdersIn
import Derived.Test.YtobdijcnfmgidaaBase
import Derived.Test.YtobdijcnfmgidaaMem
import Derived.Test.YtobdijcnfmgidaaInts
import Derived.Test.YtobdijcnfmgidaaPlan
import Derived.Test.YtobdijcnfmgidaaAft
import Derived.Test.YtobdijcnfmgidaaTyAtom
import Derived.Test.YtobdijcnfmgidaaDrawD9
import Derived.Test.YtobdijcnfmgidaaParInI
import Derived.Test.YtobdijcnfmgidaaMatK
import Derived.Test.YtobdijcnfmgidaaInstM
import Derived.Test.YtobdijcnfmgidaaMatF
namespace Go.Proofs.Ytobdijcnfmgidaa
open Go.RowKit

theorem find_ok {x : Inst} {l : List Atm} {b : List Int} (h : b ∈ FindMatches_r0 x l) : okM x l = true := by
  cases hk : okM x l with
  | false => rw [find_no hk] at h; cases h
  | true => rfl
theorem find_facts {x : Inst} {l : List Atm} {b : List Int} (h : b ∈ FindMatches_r0 x l) : b.length = 5 ∧ ∀ a ∈ l, (∀ t ∈ a.vals, t.toNat < b.length) ∧ ∃ f ∈ x.facts, a.rel = f.rel ∧ a.vals.map (fillT b) = f.vals := by
  have hk := find_ok h
  rw [find_walk hk] at h
  have hx := okM_inst hk
  have hfs : ∀ f ∈ x.facts, ∀ v ∈ f.vals, v ≠ 10 := fun f hf v hv => validV_ne (instOk_val hx f hf v hv)
  have ht5 : ∀ a ∈ l, ∀ t ∈ a.vals, t.toNat < 5 := fun a ha t ht => (atomOk_t (okM_at hk a ha) t ht).2
  obtain ⟨g1, g2, -⟩ := (walkM_mem x.facts hfs l blank5 b (by simpa [blank5] using ht5)).1 h
  have h5 : b.length = 5 := by rw [g1.1]; rfl
  exact ⟨h5, fun a ha => ⟨by rw [h5]; exact ht5 a ha, g2 a ha⟩⟩
/-- a match's atoms become facts of the instance -/
theorem find_inst {x : Inst} {l : List Atm} {b : List Int} (h : b ∈ FindMatches_r0 x l) {a : Atm} (ha : a ∈ l) : Instantiate_ok a b = true ∧ hasInst x (Instantiate_r0 a b) = true := by
  have hx := okM_inst (find_ok h)
  obtain ⟨h5, h1⟩ := find_facts h
  have h2 := (instIn_iff hx (h1 a ha).1).2 (h1 a ha).2
  unfold instIn at h2
  split at h2
  · rename_i vs hvs
    obtain ⟨e1, e2⟩ := inst_yes hvs
    exact ⟨e2, by unfold hasInst; rw [e1, hx, h2]; rfl⟩
  · cases h2
/-- a match extends itself -/
theorem find_ext {x : Inst} {l : List Atm} {b : List Int} (h : b ∈ FindMatches_r0 x l) : hasExt x l b = true := by
  have hk := find_ok h
  have hx := okM_inst hk
  obtain ⟨h5, h1⟩ := find_facts h
  have hfs : ∀ f ∈ x.facts, ∀ v ∈ f.vals, v ≠ 10 := fun f hf v hv => validV_ne (instOk_val hx f hf v hv)
  have hm : b ∈ walkM x.facts l b := (walkM_mem x.facts hfs l b b fun a ha => (h1 a ha).1).2 ⟨extB.refl b, fun a ha => (h1 a ha).2, fun _ _ => rfl⟩
  unfold hasExt
  rw [hk, decide_eq_true h5, decide_eq_true (List.length_pos_of_mem hm)]
  rfl
theorem find_nodup (x : Inst) (l : List Atm) : (FindMatches_r0 x l).Nodup := by
  cases hk : okM x l with
  | false => rw [find_no hk]; exact List.nodup_nil
  | true =>
    rw [find_walk hk]
    exact walkM_nodup x.facts (fun f hf v hv => validV_ne (instOk_val (okM_inst hk) f hf v hv)) (instOk_nodup (okM_inst hk)) l blank5 (fun a ha t ht => (atomOk_t (okM_at hk a ha) t ht).2)
/-- a row is not among those before it -/
theorem nodup_take {α : Type} {L : List α} (h : L.Nodup) (i : Nat) (hi : i < L.length) : L[i] ∉ L.take i := by
  intro hm
  obtain ⟨k, hk, e⟩ := List.getElem_of_mem hm
  rw [List.getElem_take] at e
  have hk' : k < i := by rw [List.length_take] at hk; omega
  exact (List.pairwise_iff_getElem.1 h k i (by omega) hi hk') e

def at5 (b : List Int) (j : Nat) : Int := b.getD j 0
/-- a binding of five as an array -/
abbrev bAgg (b : List Int) : Value := .agg #[.int .i64 (at5 b 0), .int .i64 (at5 b 1), .int .i64 (at5 b 2), .int .i64 (at5 b 3), .int .i64 (at5 b 4)]
/-- block g holds the binding -/
def Arr (g : Nat) (b : List Int) (w : World) : Prop := (∀ j, j < 5 → w.cell? ⟨g, j, none⟩ = some (.int .i64 (at5 b j))) ∧ ∀ o, w.frozen? ⟨g, o, none⟩ = false
theorem Arr.below {g B : Nat} {b : List Int} {w w' : World} (h : Arr g b w) (hb : Below B w w') (hg : g < B) : Arr g b w' :=
  ⟨fun j hj => (hb.cell (p := ⟨g, j, none⟩) hg).trans (h.1 j hj), fun o => (hb.frozen (p := ⟨g, o, none⟩) hg).trans (h.2 o)⟩
theorem Arr.set {g : Nat} {b : List Int} {w : World} (h : Arr g b w) (hb : b.length = 5) (j : Nat) (hj : j < 5) (v : Int) : Arr g (b.set j v) (w.setCell ⟨g, j, none⟩ (.int .i64 v)) := by
  refine ⟨fun i hi => ?_, fun o => by rw [World.frozen?_setCell]; exact h.2 o⟩
  unfold at5
  rw [List.getD_eq_getElem?_getD, List.getElem?_set]
  by_cases e : j = i
  · subst e
    rw [if_pos rfl, if_pos (by omega)]
    exact World.cell?_setCell_same (w := w) (a := ⟨g, j, none⟩) (v := .int .i64 v) (h.1 j hj)
  · rw [if_neg e, ← List.getD_eq_getElem?_getD]
    refine Eq.trans ?_ (h.1 i hi)
    exact World.cell?_setCell_other (w := w) (a := ⟨g, j, none⟩) (v := .int .i64 v) (b := ⟨g, i, none⟩) (fun e9 => e (by injection e9))
theorem Arr.ints {g B : Nat} {b : List Int} {w : World} (h : Arr g b w) (hb : b.length = 5) (hg : g < B) : IntsAt w B (.slice (some ⟨g, 0, none⟩) 5 5) b := by
  refine ⟨some ⟨g, 0, none⟩, 5, by rw [hb], by omega, by decide, fun _ => ⟨g, 0, rfl, hg, fun j u hu => ?_⟩, fun e => by cases e⟩
  rw [flat_int] at hu
  have hj : j < 5 := by
    have := (List.getElem?_eq_some_iff.1 hu).1
    rw [List.length_map] at this; omega
  rw [Nat.zero_add, h.1 j hj]
  rw [List.getElem?_map] at hu
  unfold at5
  rw [List.getD_eq_getElem?_getD]
  cases hq : b[j]? with
  | none => rw [hq] at hu; cases hu
  | some z => rw [hq] at hu; exact hu
theorem below_set5 {B g : Nat} {w w' : World} (h : Below B w w') (hg : B ≤ g) (v0 v1 v2 v3 v4 : Value) : Below B w (((((w'.setCell ⟨g, 0, none⟩ v0).setCell ⟨g, 1, none⟩ v1).setCell ⟨g, 2, none⟩ v2).setCell ⟨g, 3, none⟩ v3).setCell ⟨g, 4, none⟩ v4) :=
  ((((h.setCell (p := ⟨g, 0, none⟩) hg _).setCell (p := ⟨g, 1, none⟩) hg _).setCell (p := ⟨g, 2, none⟩) hg _).setCell (p := ⟨g, 3, none⟩) hg _).setCell (p := ⟨g, 4, none⟩) hg _
theorem set_getD_self (b : List Int) (j : Nat) : b.set j (b.getD j 0) = b := by
  apply List.ext_getElem?
  intro i
  rw [List.getElem?_set]
  split
  · rename_i e
    subst e
    split
    · rename_i h; rw [List.getD_eq_getElem?_getD, List.getElem?_eq_getElem h]; rfl
    · rename_i h; rw [List.getElem?_eq_none (by omega)]
  · rfl
theorem Arr.new (w : World) (t : TypeId) (b : List Int) : Arr w.heap.size b (w.alloc (.cells #[.int .i64 (at5 b 0), .int .i64 (at5 b 1), .int .i64 (at5 b 2), .int .i64 (at5 b 3), .int .i64 (at5 b 4)] t)) := by
  refine ⟨fun j hj => ?_, fun o => by simp [go_sem]⟩
  rcases (show j = 0 ∨ j = 1 ∨ j = 2 ∨ j = 3 ∨ j = 4 by omega) with h | h | h | h | h <;> subst h <;> simp [go_sem]

/-- what a round that goes on keeps: all below n₀, and all blocks of cells that are neither a row of rows nor a box of one -/
structure Kp (n₀ : Nat) (W W' : World) : Prop where
  low : Below n₀ W W'
  far : ∀ (k : Nat) (c : Array Value) (t : TypeId) (f : Nat × Nat), W.heap[k]? = some (.cells c t f) → t ≠ 30 → t ≠ 40 → W'.heap[k]? = some (.cells c t f)
theorem Kp.refl (n₀ : Nat) (W : World) : Kp n₀ W W := ⟨Below.refl _ _, fun _ _ _ _ h _ _ => h⟩
theorem Kp.trans {n₀ : Nat} {A B C : World} (h : Kp n₀ A B) (h' : Kp n₀ B C) : Kp n₀ A C := ⟨h.low.trans h'.low, fun _ _ _ _ hk h1 h2 => h'.far _ _ _ _ (h.far _ _ _ _ hk h1 h2) h1 h2⟩
theorem Kp.below {n₀ : Nat} {W W' : World} (h : Below W.heap.size W W') (hn : n₀ ≤ W.heap.size) : Kp n₀ W W' :=
  ⟨h.mono hn, fun k _ _ _ hk _ _ => (h.block k (Array.getElem?_eq_some_iff.1 hk).1).trans hk⟩
theorem Kp.book {n₀ : Nat} {w : World} (hn : n₀ ≤ w.heap.size) (W : World) (l : Nat) (o o' : Obj) (hl : w.heap.size ≤ l) (h : W.heap[l]? = some o) (hc : o.isCells = false) (hw : o.isWalk = false) : Kp n₀ W (W.putObj l o') :=
  ⟨belowK_b hn W l o o' hl h hc hw, fun k _ _ _ hk _ _ => by
    have hne : k ≠ l := fun e => by subst e; rw [h] at hk; cases hk; cases hc
    exact (World.putObj_heap_other hne).trans hk⟩
theorem grown_none {W W' : World} (h : Below W.heap.size W W') : W.grownBy W' none := ⟨h.os, h.tape, h.output, h.size, fun k hk _ => h.block k hk⟩
theorem RoundIn.anyDepth {F : Fence} (hd : F.depth = none) {m m' : Nat} {P : Program} {l : Nat} {f : FuncId} {tmps : Array Value} {assign body : Code} {w : World} {R : Ending → World → Prop}
    (h : RoundIn F m P l f tmps assign body w R) : RoundIn F m' P l f tmps assign body w R := ⟨h.1, fun c cs _ => h.2 c cs (fun d h => by rw [hd] at h; cases h)⟩
theorem YieldAt.anyDepth {F : Fence} (hd : F.depth = none) {m : Nat} (m' : Nat) {P : Program} {l : Nat} {args : Array Value} {W : World} {R : Ending → World → Prop} (h : YieldAt F m P l args W R) : YieldAt F m' P l args W R := by
  obtain ⟨fn, tmps, assign, body, hy, hR⟩ := h
  exact ⟨fn, tmps, assign, body, hy, RoundIn.anyDepth hd hR⟩
/-- block g is a box that holds the binding -/
def BoxA (g : Nat) (b : List Int) (w : World) : Prop := w.heap[g]? = some (.cells #[.int .i64 (at5 b 0), .int .i64 (at5 b 1), .int .i64 (at5 b 2), .int .i64 (at5 b 3), .int .i64 (at5 b 4)] 90 (0, 0))
theorem BoxA.new (w : World) (b : List Int) : BoxA w.heap.size b (w.alloc (.cells #[.int .i64 (at5 b 0), .int .i64 (at5 b 1), .int .i64 (at5 b 2), .int .i64 (at5 b 3), .int .i64 (at5 b 4)] 90)) := World.alloc_heap_new w _
theorem BoxA.lt {g : Nat} {b : List Int} {w : World} (h : BoxA g b w) : g < w.heap.size := (Array.getElem?_eq_some_iff.1 h).1
theorem BoxA.kp {g n₀ : Nat} {b : List Int} {w w' : World} (h : BoxA g b w) (hk : Kp n₀ w w') : BoxA g b w' := hk.far g _ _ _ h (by decide) (by decide)
theorem BoxA.below {g : Nat} {b : List Int} {w w' : World} (h : BoxA g b w) (hk : Below w.heap.size w w') : BoxA g b w' := (hk.block g h.lt).trans h
theorem BoxA.arr {g : Nat} {b : List Int} {w : World} (h : BoxA g b w) : Arr g b w := by
  have h : w.heap[g]? = _ := h
  refine ⟨fun j hj => ?_, fun o => by simp [World.frozen?, h]⟩
  rcases (show j = 0 ∨ j = 1 ∨ j = 2 ∨ j = 3 ∨ j = 4 by omega) with e | e | e | e | e <;> subst e <;> simp [World.cell?, h]
theorem SliceAt.tail {α : Type} {f : α → List Value} (k : Nat) (hf : ∀ x, (f x).length = k) {w : World} {B c : Nat} {A : Option Addr} {a : α} {l : List α} (h : SliceAt f w B (.slice A (l.length + 1) c) (a :: l)) :
    ∃ b off, A = some ⟨b, off, none⟩ ∧ b < B ∧ SliceAt f w B (.slice (some ⟨b, off + k, none⟩) l.length (c - 1)) l := by
  obtain ⟨A', c', hv, h1, h2, h3, h4⟩ := h
  rw [List.length_cons] at hv h1
  injection hv with e1 _ e2
  subst e1 e2
  obtain ⟨b, off, rfl, hb, hc⟩ := h3 (by simp)
  refine ⟨b, off, rfl, hb, some ⟨b, off + k, none⟩, c - 1, rfl, by omega, by omega, fun _ => ⟨b, off + k, rfl, hb, fun j u hu => ?_⟩, fun e => by cases e⟩
  rw [Nat.add_assoc]
  refine hc (k + j) u ?_
  rw [List.flatMap_cons, List.getElem?_append_right (by rw [hf]; omega), hf, Nat.add_sub_cancel_left]
  exact hu
theorem AtomS_at.tail {w : World} {B c : Nat} {A : Option Addr} {a : Atm} {l : List Atm} (h : AtomS_at w B (.slice A (l.length + 1) c) (a :: l)) :
    ∃ b off, A = some ⟨b, off, none⟩ ∧ b < B ∧ AtomS_at w B (.slice (if c = 1 then some ⟨b, off, none⟩ else some ⟨b, off + 2, none⟩) l.length (c - 1)) l := by
  obtain ⟨Vs, h1, h2, h3⟩ := h
  cases Vs with
  | nil => simp at h1
  | cons V Vs =>
    have hl : Vs.length = l.length := by simpa using h1
    have e : apairs (a :: l) (V :: Vs) = (a.rel, V) :: apairs l Vs := rfl
    have hp := apairs_len hl
    have hc : l.length + 1 ≤ c := by
      obtain ⟨_, _, hv, h4, _⟩ := h2
      rw [e, List.length_cons, hp] at hv h4
      injection hv with _ _ e3
      omega
    rw [e, ← hp] at h2
    obtain ⟨b, off, rfl, hb, hs⟩ := SliceAt.tail 2 apairCells_len h2
    rw [hp] at hs
    refine ⟨b, off, rfl, hb, Vs, hl, ?_, fun i h h' => h3 (i + 1) (by simp; omega) (by simp; omega)⟩
    by_cases hc1 : c = 1
    · rw [if_pos hc1]
      have h0 : (apairs l Vs).length = 0 := by omega
      have h00 : l.length = 0 := by omega
      refine ⟨some ⟨b, off, none⟩, c - 1, by rw [h0, h00], by omega, by rw [hc1]; decide, fun h => absurd h (by omega), fun e => by cases e⟩
    · rw [if_neg hc1]; exact hs
theorem setCell_self {w : World} {g j : Nat} {v : Value} {c : Array Value} {t : TypeId} {f : Nat × Nat} (h : w.heap[g]? = some (.cells c t f)) : (w.setCell ⟨g, j, none⟩ v).heap[g]? = some (.cells (c.setIfInBounds j v) t f) := by
  obtain ⟨hlt, hk⟩ := Array.getElem?_eq_some_iff.1 h
  show (w.heap.modify g _)[g]? = _
  rw [Array.getElem?_eq_getElem (by rw [Array.size_modify]; exact hlt), Array.getElem_modify_self, hk]
  rfl
theorem cells_set5 {w : World} {g : Nat} {z0 z1 z2 z3 z4 : Value} {t : TypeId} {f : Nat × Nat} (v0 v1 v2 v3 v4 : Value) (h : w.heap[g]? = some (.cells #[z0, z1, z2, z3, z4] t f)) : (((((w.setCell ⟨g, 0, none⟩ v0).setCell ⟨g, 1, none⟩ v1).setCell ⟨g, 2, none⟩ v2).setCell ⟨g, 3, none⟩ v3).setCell ⟨g, 4, none⟩ v4).heap[g]? = some (.cells #[v0, v1, v2, v3, v4] t f) :=
  setCell_self (setCell_self (setCell_self (setCell_self (setCell_self h))))
theorem BoxA.mk5 {w : World} {g : Nat} {z0 z1 z2 z3 z4 : Value} (b : List Int) (h : w.heap[g]? = some (.cells #[z0, z1, z2, z3, z4] 90 (0, 0))) : BoxA g b (((((w.setCell ⟨g, 0, none⟩ (.int .i64 (at5 b 0))).setCell ⟨g, 1, none⟩ (.int .i64 (at5 b 1))).setCell ⟨g, 2, none⟩ (.int .i64 (at5 b 2))).setCell ⟨g, 3, none⟩ (.int .i64 (at5 b 3))).setCell ⟨g, 4, none⟩ (.int .i64 (at5 b 4))) := cells_set5 _ _ _ _ _ h

theorem ownsRow_cells {w : World} {B k n : Nat} {e : TypeId} {v : Value} {xs : List Value} (h : w.ownsRow B e k v n xs) (g : Nat) (hg : v.ownBlock = some g) : ∃ c, w.heap[g]? = some (.cells c e (0, 0)) := by
  rcases h.2 with ⟨rfl, _⟩ | ⟨g', cap, cur, rfl, _, hgb, _⟩
  · cases hg
  · obtain rfl : g' = g := by simpa [Value.ownBlock] using hg
    exact ⟨cur, hgb⟩

/-- rows stay where only blocks of other kinds turn -/
theorem IntSSO.chgN {S : Nat → Prop} {B C : Nat} {v : Value} {Vs : List Value} {l : List (List Int)} {w w' : World} (h : IntSSO B C v Vs l w) (hc : Chg S w w') (hS : ∀ q c t f, w.heap[q]? = some (.cells c t f) → (t = 3 ∨ t = 30) → ¬ S q) : IntSSO B C v Vs l w' :=
  ⟨h.len, hc.row h.row (fun g hg => by obtain ⟨c, hcc⟩ := ownsRow_cells h.row g hg; exact hS g _ _ _ hcc (.inr rfl)), h.ins, fun i h1 h2 => ⟨(h.el i h1 h2).1.chg hc (fun q hq => by obtain ⟨c, hcc⟩ := ownsRow_cells (h.el i h1 h2).1 q hq; exact hS q _ _ _ hcc (.inl rfl)), (h.el i h1 h2).2⟩, h.dis⟩
theorem ss_book {β : Type} (B : Nat) (f : β → List (List Int)) : Own (fun (s : β) W => ∃ v Vs, IntSSO B W.heap.size v Vs (f s) W) := by
  rintro s X Y row ⟨v, Vs, h⟩ hg hr
  refine ⟨v, Vs, (IntSSO.chgN h (chg_row hg) (fun q c t f hq _ e => ?_)).mono (Nat.le_refl _) hg.size⟩
  obtain ⟨o, ho, hoc⟩ := hr q e
  rw [hq] at ho; cases ho; cases hoc
/-- a box that holds rows -/
theorem box_ss_own {β : Type} (B g : Nat) (f : β → List (List Int)) : Own (fun (s : β) W => ∃ v Vs, Boxed W g 40 v ∧ IntSSO B W.heap.size v Vs (f s) W) := by
  rintro s X Y row ⟨v, Vs, hb, h⟩ hg hr
  refine ⟨v, Vs, hb.kept hg (fun e => ?_), (IntSSO.chgN h (chg_row hg) (fun q c t f hq _ e => ?_)).mono (Nat.le_refl _) hg.size⟩
  · obtain ⟨o, ho, hoc⟩ := hr g e.symm
    rw [show X.heap[g]? = _ from hb] at ho; cases ho; cases hoc
  · obtain ⟨o, ho, hoc⟩ := hr q e
    rw [hq] at ho; cases ho; cases hoc
theorem BoxA.own {β : Type} (g : Nat) (b : List Int) : Own (fun (_ : β) W => BoxA g b W) := by
  intro s X Y row hs hg hr
  refine (hg.block g hs.lt (fun e => ?_)).trans hs
  obtain ⟨o, ho, hoc⟩ := hr g e.symm
  rw [show X.heap[g]? = _ from hs] at ho; cases ho; cases hoc
theorem keeps_below {W W' : World} (h : Below W.heap.size W W') : KeepsOthers W W' := ⟨h.size, fun k _ hk _ => (h.block k (Array.getElem?_eq_some_iff.1 hk).1).trans hk⟩
/-- a binding's five values -/
def list5 (b : List Int) : List Int := [at5 b 0, at5 b 1, at5 b 2, at5 b 3, at5 b 4]
theorem list5_self {b : List Int} (h : b.length = 5) : list5 b = b := by
  match b, h with
  | [_, _, _, _, _], _ => rfl
theorem walkM_five (fs : List Fct) (l : List Atm) (b : List Int) (hb : b.length = 5) : ∀ c ∈ walkM fs l b, c.length = 5 := by
  induction l generalizing b with
  | nil => intro c hc; unfold walkM at hc; rw [List.mem_singleton] at hc; rw [hc, hb]
  | cons a r ih =>
    intro c hc
    rw [walkM_cons, List.mem_flatMap] at hc
    obtain ⟨f, _, hc⟩ := hc
    unfold walkF at hc
    split at hc
    · exact ih _ (by rw [fitA_len]; exact hb) c hc
    · cases hc
theorem walk_list5 (fs : List Fct) (l : List Atm) (b : List Int) (hb : b.length = 5) : (walkM fs l b).map list5 = walkM fs l b := by
  have h := walkM_five fs l b hb
  generalize walkM fs l b = L at h
  induction L with
  | nil => rfl
  | cons a t ih => rw [List.map_cons, list5_self (h a (by simp)), ih (fun c hc => h c (by simp [hc]))]
theorem BoxA.ints5 {g B : Nat} {b : List Int} {w : World} (h : BoxA g b w) (hg : g < B) : IntsAt w B (.slice (some ⟨g, 0, none⟩) 5 5) (list5 b) := by
  have hA : Arr g (list5 b) w := ⟨fun j hj => by
    rw [h.arr.1 j hj]
    rcases (show j = 0 ∨ j = 1 ∨ j = 2 ∨ j = 3 ∨ j = 4 by omega) with e | e | e | e | e <;> subst e <;> rfl, h.arr.2⟩
  exact hA.ints rfl hg

/-- no operation is a defer statement -/
def noDefer (ops : Array Oper) : Bool := ops.all fun o => match o.op with | .defer _ => false | _ => true
theorem noDefer_at {ops : Array Oper} (h : noDefer ops = true) (j : Nat) (o : Oper) (ho : ops[j]? = some o) : ∀ c, o.op ≠ .defer c := by
  intro c e
  obtain ⟨hj, hk⟩ := Array.getElem?_eq_some_iff.1 ho
  unfold noDefer at h
  rw [Array.all_eq_true] at h
  have := h j hj
  rw [hk, e] at this
  cases this
theorem rowsIn_wide {n : Nat} {P : Program} {row : String} {args : Array Value} {w : World} {R : Value → World → Prop} (h : Rows P row args w R) : RowsIn Fence.wide n P row args w R :=
  fun c cs _ => let ⟨v, w', r, s⟩ := h c cs; ⟨v, w', r, stepsIn_wide.2 s⟩
/-- an operation that is no defer statement goes in a round as anywhere -/
theorem oper_round {l n : Nat} {P : Program} {o : Oper} {a : Act} {w : World} {K : Act → World → Prop} {Q : Exit → Act → World → Prop} (hd : ∀ c, o.op ≠ .defer c) (h : o.wp P a w K Q) : o.wpIn (Fence.wide.inRound l) n P a w K Q := by
  refine ⟨fun _ _ => trivial, ?_⟩
  unfold Oper.wp at h
  rw [Oper.semAt_eq _ _ _ hd]
  generalize (execOp a.eval o).run P w = r at *
  have hdep : ((Fence.wide.inRound l).depth.isSome = true → 1 ≤ n) := fun h => by cases h
  cases r with
  | ok x w' =>
    cases x with
    | value v => exact h
    | skip => exact h
    | defer d => exact h
    | enter f args => exact ⟨hdep, ((callsIn_wide (n := n - 1)).2 h).inRound l⟩
    | row row args => exact ⟨hdep, rowsIn_wide (n := n - 1) h⟩
    | _ => exact h.elim
  | halt x w' =>
    cases x with
    | panic v => exact h
    | _ => exact h.elim
theorem any_round {l n : Nat} {P : Program} {md : Region.Mode} {ops : Array Oper} {Q : Exit → Act → World → Prop} (hd : noDefer ops = true) (hQ : ¬ LetsOut Q) :
    ∀ (fuel : Nat) (listed : Array Bool) (a : Act) (w : World), wpAny P md ops Q fuel listed a w → wpAnyIn (Fence.wide.inRound l) n P md ops Q fuel listed a w
  | 0, _, _, _, h => h
  | fuel + 1, listed, a, w, h => by
    refine ⟨h.1, fun i hi => ?_⟩
    have h2 := h.2 i hi
    unfold wpOp at h2
    unfold wpOpIn
    cases ho : ops[i]? with
    | none => rw [ho] at h2; exact any_round hd hQ fuel _ a w h2
    | some o =>
      rw [ho] at h2
      simp only at h2 ⊢
      split
      · rename_i hw
        rw [if_pos hw] at h2
        rcases h2 with h2 | ⟨_, h2⟩
        · exact Oper.wpIn_mono (fun a w hh => any_round hd hQ fuel _ a w hh) (oper_round (noDefer_at hd i o ho) h2)
        · exact absurd h2 hQ
      · rename_i hw
        rw [if_neg hw] at h2
        exact ⟨fun _ _ => trivial, any_round hd hQ fuel _ _ w h2⟩
/-- a region that draws its order, in a round of a range over a function -/
theorem wp_round_planL {l n : Nat} {P : Program} {ops : Array Oper} {C : World → Prop} {id : Nat} {Q' : Exit → Act → World → Prop} {a : Act} {w : World} (p : Plan) (hm : P.follows .mixedOrders = true) (hn : Region.noSelect ops = true) (hd : noDefer ops = true) (hQ : ¬ LetsOut Q') (hB : planL .any ops ops.size [(List.replicate ops.size false, p)] = true) (hC : p.looks = true → C w.drew)
    (h : wpPlan P ops C (Q' .normal) p a w.drew) : (Code.region id ops true).wpIn (Fence.wide.inRound l) n P Q' a w := by
  have hB := planL_sound .any ops ops.size _ hB (List.replicate ops.size false, p) (List.mem_singleton.2 rfl)
  refine wpIn_region_any hm (any_round hd hQ _ _ _ _ (plan_any (Q := Q' .normal) (Region.noSelect_spec hn) (fun _ _ h => h) _ _ p a _ (by
    cases hl : p.looks with
    | true => exact .inl ⟨_, hC hl⟩
    | false => exact .inr rfl) (fun h => hC (reads_looks p h)) (by simpa using hB) h))

theorem implIsValidTerm_at (t : Int) (q : Bool) (hq : validT t = q) (w : World) :
    Calls Try.prog 139 #[.int .i64 t] w fun e w' => e = .returned (.bool q) ∧ w = w' := by
  subst hq
  by_cases h1 : -10 ≤ t
  · have hd1 : decide (-10 ≤ t) = true := decide_eq_true h1
    have HV := Lib.hid (show decide (t < 5) = validT t by unfold validT inB; rw [decide_eq_decide]; omega)
    clear h1
    go_enter Try.func139, Try.ntmps139
    go_wp2
    go_ret
    exact ⟨ret_bool HV.out, rfl⟩
  · have hd1 : decide (-10 ≤ t) = false := decide_eq_false h1
    have HV := Lib.hid (show validT t = false by unfold validT inB; exact decide_eq_false (by omega))
    clear h1
    go_enter Try.func139, Try.ntmps139
    go_wp2
    go_ret
    exact ⟨ret_bool HV.out.symm, rfl⟩
theorem implIsVariable_any (t : Int) (w : World) :
    Calls Try.prog 102 #[.int .i64 t] w fun e w' => e = .returned (.bool (decide (0 ≤ t))) ∧ w = w' := by
  go_enter Try.func102, Try.ntmps102
  go_wp2
  go_ret
  exact ⟨rfl, rfl⟩

set_option maxRecDepth 100000 in
theorem implTermValue_any (t : Int) (b : List Int) (v : Value) (w : World) (hb : IntsAt w w.heap.size v b) (h0 : -9223372036854775808 ≤ t) (ht : t < b.length) :
    Calls Try.prog 60 #[.int .i64 t, v] w fun e w' => e = .returned (.int .i64 (fillT b t)) ∧ w = w' := by
  have hvar := implIsVariable_any t w
  by_cases hneg : t < 0
  · have d1 : decide (0 ≤ t) = false := decide_eq_false (by omega)
    have HF := Lib.hid (show fillT b t = -1 - t by unfold fillT; rw [if_pos hneg])
    have hz : 0 ≤ -1 - t := by omega
    rw [d1] at hvar
    go_enter Try.func60, Try.ntmps60
    go_wp2_with (go_at_call 102; refine hvar.mono ?_; rintro e w3 ⟨rfl, rfl⟩)
    go_ret
    exact ⟨by rw [HF.out] <;> go_num, rfl⟩
  · have d1 : decide (0 ≤ t) = true := decide_eq_true (by omega)
    rw [d1] at hvar
    obtain ⟨j, rfl⟩ : ∃ j : Nat, t = (j : Int) := ⟨t.toNat, by omega⟩
    have hj : j < b.length := by omega
    have HF := Lib.hid (show fillT b (j : Int) = b[j] by unfold fillT; rw [if_neg hneg]; simp [List.getD, hj])
    have HB := Lib.hid hb
    obtain ⟨P, c, rfl, hc1, hc2, -⟩ := hb
    unfold maxLen at hc2
    obtain ⟨b0, off0, rfl, hb0, e0⟩ := IntsAt.elem HB.out j hj
    clear hneg
    go_enter Try.func60, Try.ntmps60
    go_wp2_with (go_at_call 102; refine hvar.mono ?_; rintro e w3 ⟨rfl, rfl⟩)
    go_ret
    exact ⟨by rw [HF.out]; rfl, rfl⟩

set_option maxHeartbeats 1600000 in
set_option maxRecDepth 100000 in
theorem implNothingBound_any (w : World) :
    Calls Try.prog 54 #[] w fun e w' => e = .returned (bAgg blank5) ∧ Below w.heap.size w w' := by
  obtain ⟨E, hEq⟩ : ∃ E, E = ((w.alloc (.cells #[.int .i64 0, .int .i64 0, .int .i64 0, .int .i64 0, .int .i64 0] 90)).alloc (.cells #[.int .i64 0, .int .i64 0, .int .i64 0, .int .i64 0, .int .i64 0] 90)) := ⟨_, rfl⟩
  have hE : Below w.heap.size w E := by rw [hEq]; exact below_more (below_more (Below.refl _ _) _) _
  have HEz := Lib.hid (show E.heap.size = w.heap.size + 2 by rw [hEq]; simp)
  have R0 := Lib.hid (show ∀ j, j < 5 → E.cell? ⟨w.heap.size, j, none⟩ = some (.int .i64 0) by
    intro j hj
    rcases (show j = 0 ∨ j = 1 ∨ j = 2 ∨ j = 3 ∨ j = 4 by omega) with h | h | h | h | h <;> subst h <;> (rw [hEq]; simp [go_sem]))
  have RZ := Lib.hid (show ∀ o, E.frozen? ⟨w.heap.size, o, none⟩ = false by intro o; rw [hEq]; simp [go_sem])
  have A0 := Lib.hid (show Arr (w.heap.size + 1) [0, 0, 0, 0, 0] E by
    refine ⟨fun j hj => ?_, fun o => by rw [hEq]; simp [go_sem]⟩
    rcases (show j = 0 ∨ j = 1 ∨ j = 2 ∨ j = 3 ∨ j = 4 by omega) with h | h | h | h | h <;> subst h <;> (rw [hEq]; simp [go_sem, at5]))
  go_enter Try.func54, Try.ntmps54
  go_wp2
  rw [← hEq]
  clear hEq
  go_loopw [3] (fun i wr => ∃ (k : Nat) (bk : List Int), k ≤ 5 ∧ i = .int .i64 k ∧ Hid (bk.length = 5) ∧ Hid (∀ j, j < k → at5 bk j = 10) ∧ Hid (Arr (w.heap.size + 1) bk wr) ∧ Hid (Chg (fun q => q = w.heap.size + 1) E wr)) (fun i _ => 5 - (intOf i).toNat)
  case atStart => exact ⟨0, [0, 0, 0, 0, 0], by omega, rfl, Lib.hid rfl, Lib.hid (fun j hj => by omega), A0, Lib.hid (Chg.refl _ _)⟩
  case round =>
    obtain ⟨k, bk, hk, rfl, HL, HT, HA, HC⟩ := hrel
    by_cases hlt : k < 5
    · have e0 := HA.out.1 k hlt
      have ez := HA.out.2 k
      have HA2 := Lib.hid (HA.out.set HL.out k hlt 10)
      have HC2 := Lib.hid (HC.out.setCell (p := ⟨w.heap.size + 1, k, none⟩) rfl (.int .i64 10))
      go_wp2
      go_roundw
      case rel =>
        refine ⟨k + 1, bk.set k 10, by omega, by go_num, Lib.hid (by rw [List.length_set]; exact HL.out), Lib.hid (fun j hj => ?_), HA2, HC2⟩
        unfold at5
        rw [List.getD_eq_getElem?_getD, List.getElem?_set]
        split
        · rename_i e; subst e; rw [if_pos (by rw [HL.out]; omega)]; rfl
        · rw [← List.getD_eq_getElem?_getD]; exact HT.out j (by omega)
      case measure => simp [intOf]; omega
    · obtain rfl : k = 5 := by omega
      have a0 := (HA.out.1 0 (by omega)).trans (by rw [HT.out 0 (by omega)])
      have a1 := (HA.out.1 1 (by omega)).trans (by rw [HT.out 1 (by omega)])
      have a2 := (HA.out.1 2 (by omega)).trans (by rw [HT.out 2 (by omega)])
      have a3 := (HA.out.1 3 (by omega)).trans (by rw [HT.out 3 (by omega)])
      have a4 := (HA.out.1 4 (by omega)).trans (by rw [HT.out 4 (by omega)])
      have hz : w.heap.size < E.heap.size := by rw [HEz.out]; omega
      have r0 := (HC.out.cell (b := w.heap.size) (o := 0) hz (by omega)).trans (R0.out 0 (by omega))
      have r1 := (HC.out.cell (b := w.heap.size) (o := 1) hz (by omega)).trans (R0.out 1 (by omega))
      have r2 := (HC.out.cell (b := w.heap.size) (o := 2) hz (by omega)).trans (R0.out 2 (by omega))
      have r3 := (HC.out.cell (b := w.heap.size) (o := 3) hz (by omega)).trans (R0.out 3 (by omega))
      have r4 := (HC.out.cell (b := w.heap.size) (o := 4) hz (by omega)).trans (R0.out 4 (by omega))
      have rz := fun o => (HC.out.frozen (b := w.heap.size) (o := o) hz (by omega)).trans (RZ.out o)
      have HB := Lib.hid (show Below w.heap.size w wr from hE.trans (HC.out.below (B := w.heap.size) (fun q hq => by omega) (by omega)))
      go_wp2
      refine bodyPost_ret (v := bAgg blank5) (by simp [results, Try.results54, go_sem, r0, r1, r2, r3, r4, blank5, at5]) rfl ⟨rfl, ?_⟩
      exact below_set5 HB.out (Nat.le_refl _) _ _ _ _ _

end Go.Proofs.Ytobdijcnfmgidaa
