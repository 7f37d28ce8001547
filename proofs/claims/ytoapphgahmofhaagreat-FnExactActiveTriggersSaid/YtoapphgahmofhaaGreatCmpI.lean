/-
  Walks and plain lemmas for the laws of this seat: what single Go functions return, for every argument.
-/
import Derived.RangeFuncNested
import Derived.RangeFuncBound
import Derived.RangeFuncCalls
import Derived.RangeFuncLeaves
import Derived.Shelf.Abstract
import Derived.Shelf.RegionOpen
import Derived.WalkKit
import Derived.OwnWalkIn
import Derived.TacticsInMore
import Derived.LoopNIn
import Derived.LoopIn
import Derived.Test.YtoapphgahmofhaaGreatBase
import Derived.Test.YtoapphgahmofhaaGreatMem
import Derived.Test.YtoapphgahmofhaaGreatInts
import Derived.Test.YtoapphgahmofhaaGreatTyAtom
import Derived.Test.YtoapphgahmofhaaGreatTySS
namespace Go.Proofs.YtoapphgahmofhaaGreat
open Go.RowKit

set_option maxHeartbeats 1600000 in
theorem specInts_any (v u : Value) (a b : List Int) (w : World) (hl : IntsAt w w.heap.size v a) (hm : IntsAt w w.heap.size u b) :
    Calls Tryz.prog 89 #[v, u] w fun e w' => e = .returned (.int .i64 (cmpInts a b)) ∧ Below w.heap.size w w' := by
  have HL := Lib.hid hl
  have HM := Lib.hid hm
  obtain ⟨A, c, rfl, hlc, hcm, -⟩ := hl
  obtain ⟨A', c', rfl, hlc', hcm', -⟩ := hm
  unfold maxLen at hcm hcm'
  go_enter Tryz.func89, Tryz.ntmps89
  go_wp2
  go_loopw [5] (fun i wr => ∃ k : Nat, k ≤ a.length ∧ k ≤ b.length ∧ i = .int .i64 k ∧ Hid (CmpTo a b k) ∧ Below w.heap.size w wr) (fun i _ => a.length - (intOf i).toNat)
  case atStart => exact ⟨0, by omega, by omega, rfl, Lib.hid (CmpTo.zero a b), Below.refl _ _⟩
  case round =>
    obtain ⟨k, hk, hk', rfl, HT, hW⟩ := hrel
    by_cases hlt : k < a.length ∧ k < b.length
    · obtain ⟨hlt, hlt'⟩ := hlt
      obtain ⟨p, off, rfl, hb, c0⟩ := IntsAt.elem HL.out k hlt
      obtain ⟨p', off', rfl, hb', d0⟩ := IntsAt.elem HM.out k hlt'
      have C0 := Aft.cell hb c0
      have D0 := Aft.cell hb' d0
      clear c0 d0
      by_cases h1 : a[k] < b[k]
      · have HV := Lib.hid (HT.out.less hlt hlt' h1)
        have hd : decide (a[k] < b[k]) = true := decide_eq_true h1
        clear h1
        go_wp2
        refine wp_region_aft hW (by kernel_rfl) (by kernel_rfl) ?_
        repeat (go_big_quiet_step (fail))
        refine wpQuiet_nil ?_
        refine aft_end ?_
        intro w1 hh
        go_wp2
        go_ret
        exact ⟨ret_int HV.out.symm, hh⟩
      · have hd : decide (a[k] < b[k]) = false := decide_eq_false h1
        by_cases h2 : b[k] < a[k]
        · have HV := Lib.hid (HT.out.more hlt hlt' h2)
          have hd2 : decide (b[k] < a[k]) = true := decide_eq_true h2
          clear h1 h2
          go_wp2
          refine wp_region_aft hW (by kernel_rfl) (by kernel_rfl) ?_
          repeat (go_big_quiet_step (fail))
          refine wpQuiet_nil ?_
          refine aft_end ?_
          intro w1 hh
          go_wp2
          refine wp_region_aft hh (by kernel_rfl) (by kernel_rfl) ?_
          repeat (go_big_quiet_step (fail))
          refine wpQuiet_nil ?_
          refine aft_end ?_
          intro w2 hh2
          go_wp2
          go_ret
          exact ⟨ret_int HV.out.symm, hh2⟩
        · have HV := Lib.hid (HT.out.next hlt hlt' h1 h2)
          have hd2 : decide (b[k] < a[k]) = false := decide_eq_false h2
          clear h1 h2
          go_wp2
          refine wp_region_aft hW (by kernel_rfl) (by kernel_rfl) ?_
          repeat (go_big_quiet_step (fail))
          refine wpQuiet_nil ?_
          refine aft_end ?_
          intro w1 hh
          go_wp2
          refine wp_region_aft hh (by kernel_rfl) (by kernel_rfl) ?_
          repeat (go_big_quiet_step (fail))
          refine wpQuiet_nil ?_
          refine aft_end ?_
          intro w2 hh2
          go_wp2
          go_roundw
          case rel => exact ⟨k + 1, by omega, by omega, by go_num, HV, hh2⟩
          case measure => simp [intOf]; omega
    · have HV := Lib.hid (HT.out.done (by omega) hk hk')
      by_cases e1 : a.length < b.length
      · have HV' := Lib.hid (HV.out.trans (if_pos e1))
        by_cases hka : k < a.length
        · omega
        all_goals
          go_wp2
          go_ret
          exact ⟨ret_int HV'.out.symm, hW⟩
      · by_cases e2 : b.length < a.length
        · have HV' := Lib.hid (HV.out.trans ((if_neg e1).trans (if_pos e2)))
          have hka : k < a.length := by omega
          have hkb : ¬ k < b.length := by omega
          go_wp2
          go_ret
          exact ⟨ret_int HV'.out.symm, hW⟩
        · have HV' := Lib.hid (HV.out.trans ((if_neg e1).trans (if_neg e2)))
          have hka : ¬ k < a.length := by omega
          have hkb : ¬ k < b.length := by omega
          go_wp2
          go_ret
          exact ⟨ret_int HV'.out.symm, hW⟩

set_option maxHeartbeats 800000 in
theorem specHas_any (v : Value) (l : List Int) (x : Int) (w : World) (hl : IntS_at w w.heap.size v l) :
    Calls Tryz.prog 43 #[v, .int .i64 x] w fun e w' => e = .returned (.bool (decide (x ∈ l))) ∧ w = w' := by
  have HL := Lib.hid hl
  obtain ⟨A, c, rfl, hlc, hcm, -⟩ := hl
  unfold maxLen at hcm
  go_enter Tryz.func43, Tryz.ntmps43
  go_wp2
  go_loop [5] (fun i => ∃ k : Nat, k ≤ l.length ∧ i = .int .i64 k ∧ Hid (x ∉ l.take k)) (fun i => l.length - (intOf i).toNat)
  case atStart => exact ⟨0, by omega, rfl, Lib.hid (by simp)⟩
  case round =>
    obtain ⟨k, hk, rfl, HT⟩ := hrel
    by_cases hlt : k < l.length
    · obtain ⟨b, off, rfl, hb, c0⟩ := IntsAt.elem HL.out k hlt
      by_cases he : l[k] = x
      · have HV := Lib.hid (decide_eq_true (show x ∈ l by rw [← he]; exact List.getElem_mem hlt))
        have hb2 : (l[k] == x) = true := by rw [he]; exact beq_self_eq_true x
        clear he
        go_wp2
        go_ret
        exact ⟨ret_bool HV.out.symm, rfl⟩
      · have HN := Lib.hid (show x ∉ l.take (k + 1) by
          rw [List.take_succ_eq_append_getElem hlt, List.mem_append, List.mem_singleton]
          exact fun h => h.elim HT.out (fun e => he e.symm))
        have hb2 : (l[k] == x) = false := beq_eq_false_iff_ne.2 he
        clear he
        go_wp2
        go_round
        case rel => exact ⟨k + 1, by omega, by go_num, HN⟩
        case measure => simp [intOf]; omega
    · obtain rfl : k = l.length := by omega
      have HV := Lib.hid (decide_eq_false (show x ∉ l by have := HT.out; rwa [List.take_of_length_le (Nat.le_refl _)] at this))
      go_wp2
      go_ret
      exact ⟨ret_bool HV.out.symm, rfl⟩
theorem specHas_at (v : Value) (l : List Int) (x : Int) (bb : Bool) (hq : decide (x ∈ l) = bb) (w : World) (hl : IntS_at w w.heap.size v l) :
    Calls Tryz.prog 43 #[v, .int .i64 x] w fun e w' => e = .returned (.bool bb) ∧ w = w' := by
  subst hq; exact specHas_any v l x w hl

def at5 (b : List Int) (j : Nat) : Int := b.getD j 0
/-- a binding of five as an array -/
abbrev bAgg (b : List Int) : Value := .agg #[.int .i64 (at5 b 0), .int .i64 (at5 b 1), .int .i64 (at5 b 2), .int .i64 (at5 b 3), .int .i64 (at5 b 4)]
/-- block g holds the binding -/
def Arr (g : Nat) (b : List Int) (w : World) : Prop := (∀ j, j < 5 → w.cell? ⟨g, j, none⟩ = some (.int .i64 (at5 b j))) ∧ ∀ o, w.frozen? ⟨g, o, none⟩ = false
theorem Arr.below {g B : Nat} {b : List Int} {w w' : World} (h : Arr g b w) (hb : Below B w w') (hg : g < B) : Arr g b w' :=
  ⟨fun j hj => (hb.cell (p := ⟨g, j, none⟩) hg).trans (h.1 j hj), fun o => (hb.frozen (p := ⟨g, o, none⟩) hg).trans (h.2 o)⟩
theorem Arr.set {g : Nat} {b : List Int} {w : World} (h : Arr g b w) (hb : b.length = 5) (j : Nat) (hj : j < 5) (v : Int) : Arr g (b.set j v) (w.setCell ⟨g, j, none⟩ (.int .i64 v)) := by
  refine ⟨fun i hi => ?_, fun o => by rw [World.frozen?_setCell]; exact h.2 o⟩
  unfold at5
  rw [List.getD_eq_getElem?_getD, List.getElem?_set]
  by_cases e : j = i
  · subst e
    rw [if_pos rfl, if_pos (by omega)]
    exact World.cell?_setCell_same (w := w) (a := ⟨g, j, none⟩) (v := .int .i64 v) (h.1 j hj)
  · rw [if_neg e, ← List.getD_eq_getElem?_getD]
    refine Eq.trans ?_ (h.1 i hi)
    exact World.cell?_setCell_other (w := w) (a := ⟨g, j, none⟩) (v := .int .i64 v) (b := ⟨g, i, none⟩) (fun e9 => e (by injection e9))
theorem Arr.ints {g B : Nat} {b : List Int} {w : World} (h : Arr g b w) (hb : b.length = 5) (hg : g < B) : IntsAt w B (.slice (some ⟨g, 0, none⟩) 5 5) b := by
  refine ⟨some ⟨g, 0, none⟩, 5, by rw [hb], by omega, by decide, fun _ => ⟨g, 0, rfl, hg, fun j u hu => ?_⟩, fun e => by cases e⟩
  rw [flat_int] at hu
  have hj : j < 5 := by
    have := (List.getElem?_eq_some_iff.1 hu).1
    rw [List.length_map] at this; omega
  rw [Nat.zero_add, h.1 j hj]
  rw [List.getElem?_map] at hu
  unfold at5
  rw [List.getD_eq_getElem?_getD]
  cases hq : b[j]? with
  | none => rw [hq] at hu; cases hu
  | some z => rw [hq] at hu; exact hu
theorem below_set5 {B g : Nat} {w w' : World} (h : Below B w w') (hg : B ≤ g) (v0 v1 v2 v3 v4 : Value) : Below B w (((((w'.setCell ⟨g, 0, none⟩ v0).setCell ⟨g, 1, none⟩ v1).setCell ⟨g, 2, none⟩ v2).setCell ⟨g, 3, none⟩ v3).setCell ⟨g, 4, none⟩ v4) :=
  ((((h.setCell (p := ⟨g, 0, none⟩) hg _).setCell (p := ⟨g, 1, none⟩) hg _).setCell (p := ⟨g, 2, none⟩) hg _).setCell (p := ⟨g, 3, none⟩) hg _).setCell (p := ⟨g, 4, none⟩) hg _
theorem set_getD_self (b : List Int) (j : Nat) : b.set j (b.getD j 0) = b := by
  apply List.ext_getElem?
  intro i
  rw [List.getElem?_set]
  split
  · rename_i e
    subst e
    split
    · rename_i h; rw [List.getD_eq_getElem?_getD, List.getElem?_eq_getElem h]; rfl
    · rename_i h; rw [List.getElem?_eq_none (by omega)]
  · rfl
theorem Arr.new (w : World) (t : TypeId) (b : List Int) : Arr w.heap.size b (w.alloc (.cells #[.int .i64 (at5 b 0), .int .i64 (at5 b 1), .int .i64 (at5 b 2), .int .i64 (at5 b 3), .int .i64 (at5 b 4)] t)) := by
  refine ⟨fun j hj => ?_, fun o => by simp [go_sem]⟩
  rcases (show j = 0 ∨ j = 1 ∨ j = 2 ∨ j = 3 ∨ j = 4 by omega) with h | h | h | h | h <;> subst h <;> simp [go_sem]

/-- what a round that goes on keeps: all below n₀, and all blocks of cells that are neither a row of rows nor a box of one -/
structure Kp (n₀ : Nat) (W W' : World) : Prop where
  low : Below n₀ W W'
  far : ∀ (k : Nat) (c : Array Value) (t : TypeId) (f : Nat × Nat), W.heap[k]? = some (.cells c t f) → t ≠ 31 → t ≠ 35 → W'.heap[k]? = some (.cells c t f)
theorem Kp.refl (n₀ : Nat) (W : World) : Kp n₀ W W := ⟨Below.refl _ _, fun _ _ _ _ h _ _ => h⟩
theorem Kp.trans {n₀ : Nat} {A B C : World} (h : Kp n₀ A B) (h' : Kp n₀ B C) : Kp n₀ A C := ⟨h.low.trans h'.low, fun _ _ _ _ hk h1 h2 => h'.far _ _ _ _ (h.far _ _ _ _ hk h1 h2) h1 h2⟩
theorem Kp.below {n₀ : Nat} {W W' : World} (h : Below W.heap.size W W') (hn : n₀ ≤ W.heap.size) : Kp n₀ W W' :=
  ⟨h.mono hn, fun k _ _ _ hk _ _ => (h.block k (Array.getElem?_eq_some_iff.1 hk).1).trans hk⟩
theorem Kp.book {n₀ : Nat} {w : World} (hn : n₀ ≤ w.heap.size) (W : World) (l : Nat) (o o' : Obj) (hl : w.heap.size ≤ l) (h : W.heap[l]? = some o) (hc : o.isCells = false) (hw : o.isWalk = false) : Kp n₀ W (W.putObj l o') :=
  ⟨belowK_b hn W l o o' hl h hc hw, fun k _ _ _ hk _ _ => by
    have hne : k ≠ l := fun e => by subst e; rw [h] at hk; cases hk; cases hc
    exact (World.putObj_heap_other hne).trans hk⟩
theorem grown_none {W W' : World} (h : Below W.heap.size W W') : W.grownBy W' none := ⟨h.os, h.tape, h.output, h.size, fun k hk _ => h.block k hk⟩
theorem RoundIn.anyDepth {F : Fence} (hd : F.depth = none) {m m' : Nat} {P : Program} {l : Nat} {f : FuncId} {tmps : Array Value} {assign body : Code} {w : World} {R : Ending → World → Prop}
    (h : RoundIn F m P l f tmps assign body w R) : RoundIn F m' P l f tmps assign body w R := ⟨h.1, fun c cs _ => h.2 c cs (fun d h => by rw [hd] at h; cases h)⟩
theorem YieldAt.anyDepth {F : Fence} (hd : F.depth = none) {m : Nat} (m' : Nat) {P : Program} {l : Nat} {args : Array Value} {W : World} {R : Ending → World → Prop} (h : YieldAt F m P l args W R) : YieldAt F m' P l args W R := by
  obtain ⟨fn, tmps, assign, body, hy, hR⟩ := h
  exact ⟨fn, tmps, assign, body, hy, RoundIn.anyDepth hd hR⟩
/-- block g is a box that holds the binding -/
def BoxA (g : Nat) (b : List Int) (w : World) : Prop := w.heap[g]? = some (.cells #[.int .i64 (at5 b 0), .int .i64 (at5 b 1), .int .i64 (at5 b 2), .int .i64 (at5 b 3), .int .i64 (at5 b 4)] 104 (0, 0))
theorem BoxA.new (w : World) (b : List Int) : BoxA w.heap.size b (w.alloc (.cells #[.int .i64 (at5 b 0), .int .i64 (at5 b 1), .int .i64 (at5 b 2), .int .i64 (at5 b 3), .int .i64 (at5 b 4)] 104)) := World.alloc_heap_new w _
theorem BoxA.lt {g : Nat} {b : List Int} {w : World} (h : BoxA g b w) : g < w.heap.size := (Array.getElem?_eq_some_iff.1 h).1
theorem BoxA.kp {g n₀ : Nat} {b : List Int} {w w' : World} (h : BoxA g b w) (hk : Kp n₀ w w') : BoxA g b w' := hk.far g _ _ _ h (by decide) (by decide)
theorem BoxA.below {g : Nat} {b : List Int} {w w' : World} (h : BoxA g b w) (hk : Below w.heap.size w w') : BoxA g b w' := (hk.block g h.lt).trans h
theorem BoxA.arr {g : Nat} {b : List Int} {w : World} (h : BoxA g b w) : Arr g b w := by
  have h : w.heap[g]? = _ := h
  refine ⟨fun j hj => ?_, fun o => by simp [World.frozen?, h]⟩
  rcases (show j = 0 ∨ j = 1 ∨ j = 2 ∨ j = 3 ∨ j = 4 by omega) with e | e | e | e | e <;> subst e <;> simp [World.cell?, h]
theorem SliceAt.tail {α : Type} {f : α → List Value} (k : Nat) (hf : ∀ x, (f x).length = k) {w : World} {B c : Nat} {A : Option Addr} {a : α} {l : List α} (h : SliceAt f w B (.slice A (l.length + 1) c) (a :: l)) :
    ∃ b off, A = some ⟨b, off, none⟩ ∧ b < B ∧ SliceAt f w B (.slice (some ⟨b, off + k, none⟩) l.length (c - 1)) l := by
  obtain ⟨A', c', hv, h1, h2, h3, h4⟩ := h
  rw [List.length_cons] at hv h1
  injection hv with e1 _ e2
  subst e1 e2
  obtain ⟨b, off, rfl, hb, hc⟩ := h3 (by simp)
  refine ⟨b, off, rfl, hb, some ⟨b, off + k, none⟩, c - 1, rfl, by omega, by omega, fun _ => ⟨b, off + k, rfl, hb, fun j u hu => ?_⟩, fun e => by cases e⟩
  rw [Nat.add_assoc]
  refine hc (k + j) u ?_
  rw [List.flatMap_cons, List.getElem?_append_right (by rw [hf]; omega), hf, Nat.add_sub_cancel_left]
  exact hu
theorem AtomS_at.tail {w : World} {B c : Nat} {A : Option Addr} {a : Atm} {l : List Atm} (h : AtomS_at w B (.slice A (l.length + 1) c) (a :: l)) :
    ∃ b off, A = some ⟨b, off, none⟩ ∧ b < B ∧ AtomS_at w B (.slice (if c = 1 then some ⟨b, off, none⟩ else some ⟨b, off + 2, none⟩) l.length (c - 1)) l := by
  obtain ⟨Vs, h1, h2, h3⟩ := h
  cases Vs with
  | nil => simp at h1
  | cons V Vs =>
    have hl : Vs.length = l.length := by simpa using h1
    have e : apairs (a :: l) (V :: Vs) = (a.rel, V) :: apairs l Vs := rfl
    have hp := apairs_len hl
    have hc : l.length + 1 ≤ c := by
      obtain ⟨_, _, hv, h4, _⟩ := h2
      rw [e, List.length_cons, hp] at hv h4
      injection hv with _ _ e3
      omega
    rw [e, ← hp] at h2
    obtain ⟨b, off, rfl, hb, hs⟩ := SliceAt.tail 2 apairCells_len h2
    rw [hp] at hs
    refine ⟨b, off, rfl, hb, Vs, hl, ?_, fun i h h' => h3 (i + 1) (by simp; omega) (by simp; omega)⟩
    by_cases hc1 : c = 1
    · rw [if_pos hc1]
      have h0 : (apairs l Vs).length = 0 := by omega
      have h00 : l.length = 0 := by omega
      refine ⟨some ⟨b, off, none⟩, c - 1, by rw [h0, h00], by omega, by rw [hc1]; decide, fun h => absurd h (by omega), fun e => by cases e⟩
    · rw [if_neg hc1]; exact hs
theorem setCell_self {w : World} {g j : Nat} {v : Value} {c : Array Value} {t : TypeId} {f : Nat × Nat} (h : w.heap[g]? = some (.cells c t f)) : (w.setCell ⟨g, j, none⟩ v).heap[g]? = some (.cells (c.setIfInBounds j v) t f) := by
  obtain ⟨hlt, hk⟩ := Array.getElem?_eq_some_iff.1 h
  show (w.heap.modify g _)[g]? = _
  rw [Array.getElem?_eq_getElem (by rw [Array.size_modify]; exact hlt), Array.getElem_modify_self, hk]
  rfl
theorem cells_set5 {w : World} {g : Nat} {z0 z1 z2 z3 z4 : Value} {t : TypeId} {f : Nat × Nat} (v0 v1 v2 v3 v4 : Value) (h : w.heap[g]? = some (.cells #[z0, z1, z2, z3, z4] t f)) : (((((w.setCell ⟨g, 0, none⟩ v0).setCell ⟨g, 1, none⟩ v1).setCell ⟨g, 2, none⟩ v2).setCell ⟨g, 3, none⟩ v3).setCell ⟨g, 4, none⟩ v4).heap[g]? = some (.cells #[v0, v1, v2, v3, v4] t f) :=
  setCell_self (setCell_self (setCell_self (setCell_self (setCell_self h))))
theorem BoxA.mk5 {w : World} {g : Nat} {z0 z1 z2 z3 z4 : Value} (b : List Int) (h : w.heap[g]? = some (.cells #[z0, z1, z2, z3, z4] 104 (0, 0))) : BoxA g b (((((w.setCell ⟨g, 0, none⟩ (.int .i64 (at5 b 0))).setCell ⟨g, 1, none⟩ (.int .i64 (at5 b 1))).setCell ⟨g, 2, none⟩ (.int .i64 (at5 b 2))).setCell ⟨g, 3, none⟩ (.int .i64 (at5 b 3))).setCell ⟨g, 4, none⟩ (.int .i64 (at5 b 4))) := cells_set5 _ _ _ _ _ h

theorem implIsValidTerm_at (t : Int) (q : Bool) (hq : validT t = q) (w : World) :
    Calls Tryz.prog 124 #[.int .i64 t] w fun e w' => e = .returned (.bool q) ∧ w = w' := by
  subst hq
  by_cases h1 : -10 ≤ t
  · have hd1 : decide (-10 ≤ t) = true := decide_eq_true h1
    have HV := Lib.hid (show decide (t < 5) = validT t by unfold validT inB; rw [decide_eq_decide]; omega)
    clear h1
    go_enter Tryz.func124, Tryz.ntmps124
    go_wp2
    go_ret
    exact ⟨ret_bool HV.out, rfl⟩
  · have hd1 : decide (-10 ≤ t) = false := decide_eq_false h1
    have HV := Lib.hid (show validT t = false by unfold validT inB; exact decide_eq_false (by omega))
    clear h1
    go_enter Tryz.func124, Tryz.ntmps124
    go_wp2
    go_ret
    exact ⟨ret_bool HV.out.symm, rfl⟩
theorem implIsVariable_any (t : Int) (w : World) :
    Calls Tryz.prog 71 #[.int .i64 t] w fun e w' => e = .returned (.bool (decide (0 ≤ t))) ∧ w = w' := by
  go_enter Tryz.func71, Tryz.ntmps71
  go_wp2
  go_ret
  exact ⟨rfl, rfl⟩

theorem IntS_at.later {w w' : World} {v : Value} {l : List Int} (h : IntS_at w w.heap.size v l) (hb : Below w.heap.size w w') : IntS_at w' w'.heap.size v l := (h.below hb (Nat.le_refl _)).more hb.size

end Go.Proofs.YtoapphgahmofhaaGreat
