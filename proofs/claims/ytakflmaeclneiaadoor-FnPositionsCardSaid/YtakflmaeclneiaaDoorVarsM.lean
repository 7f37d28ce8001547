/-
  Walks and plain lemmas for the laws of this seat: what single Go functions return, for every argument.
-/
import Derived.Test.YtakflmaeclneiaaDoorDraw
import Derived.Test.YtakflmaeclneiaaDoorTyAtom
import Derived.Test.YtakflmaeclneiaaDoorDrawD9
import Derived.Test.YtakflmaeclneiaaDoorNum
import Derived.Test.YtakflmaeclneiaaDoorMInst
namespace Go.Proofs.YtakflmaeclneiaaDoor
open Go.RowKit

/-- the variables among terms, one after another -/
def posOf (vs : List Int) : List Int := vs.filter fun t => decide (0 ≤ t)
def vposOf (l : List Atm) : List Int := l.flatMap fun a => posOf a.vals
theorem posOf_take (vs : List Int) (k : Nat) (h : k < vs.length) : posOf (vs.take (k + 1)) = posOf (vs.take k) ++ (if 0 ≤ vs[k] then [vs[k]] else []) := by
  unfold posOf
  rw [List.take_succ_eq_append_getElem h, List.filter_append]
  congr 1
  by_cases hp : 0 ≤ vs[k] <;> simp [hp]
theorem posOf_len (vs : List Int) : (posOf vs).length ≤ vs.length := List.length_filter_le _ _
theorem vposOf_take (l : List Atm) (k : Nat) (h : k < l.length) : vposOf (l.take (k + 1)) = vposOf (l.take k) ++ posOf l[k].vals := by
  unfold vposOf; rw [List.take_succ_eq_append_getElem h, List.flatMap_append]; simp
theorem vposOf_len (l : List Atm) : (vposOf l).length ≤ avalsLen l := by
  induction l with
  | nil => simp [vposOf]
  | cons a t ih =>
    have h1 := posOf_len a.vals
    unfold vposOf at ih ⊢
    rw [List.flatMap_cons, List.length_append]
    simp only [avalsLen]; omega
theorem addTerms_mem (vs out : List Int) (x : Int) : x ∈ addTerms out vs ↔ x ∈ out ∨ x ∈ posOf vs := by
  induction vs generalizing out with
  | nil => simp [addTerms, posOf]
  | cons a t ih =>
    have h := ih (addVar out a)
    unfold addTerms at h ⊢
    rw [List.foldl_cons, h]
    unfold addVar posOf
    rw [List.filter_cons]
    by_cases hp : 0 ≤ a
    · rw [if_pos hp, decide_eq_true hp, if_pos rfl, putI_mem, List.mem_cons]
      constructor
      · rintro ((h | h) | h)
        · exact .inr (.inl h)
        · exact .inl h
        · exact .inr (.inr h)
      · rintro (h | h | h)
        · exact .inl (.inr h)
        · exact .inl (.inl h)
        · exact .inr h
    · rw [if_neg hp, decide_eq_false hp]; simp
theorem varsFold_mem (l : List Atm) (out : List Int) (x : Int) : x ∈ l.foldl (fun o a => addTerms o a.vals) out ↔ x ∈ out ∨ x ∈ vposOf l := by
  induction l generalizing out with
  | nil => simp [vposOf]
  | cons a t ih =>
    rw [List.foldl_cons, ih, addTerms_mem]
    unfold vposOf
    rw [List.flatMap_cons, List.mem_append, or_assoc]
theorem varsOf_mem (l : List Atm) (x : Int) : x ∈ varsOf l ↔ x ∈ vposOf l := by
  unfold varsOf; rw [varsFold_mem]; simp
theorem addTerms_asc (vs out : List Int) (h : out.Pairwise (· < ·)) : (addTerms out vs).Pairwise (· < ·) := by
  induction vs generalizing out with
  | nil => exact h
  | cons a t ih =>
    unfold addTerms
    rw [List.foldl_cons]
    refine ih _ ?_
    unfold addVar
    split
    · exact putI_asc out a h
    · exact h
theorem varsOf_asc (l : List Atm) : (varsOf l).Pairwise (· < ·) := by
  have : ∀ (l : List Atm) (out : List Int), out.Pairwise (· < ·) → (l.foldl (fun o a => addTerms o a.vals) out).Pairwise (· < ·) := by
    intro l
    induction l with
    | nil => intro out h; exact h
    | cons a t ih => intro out h; rw [List.foldl_cons]; exact ih _ (addTerms_asc a.vals out h)
  exact this l [] List.Pairwise.nil
/-- sorted, doubles dropped: the variables in ascending order -/
theorem compact_vars (l : List Atm) : Lib.compact ((vposOf l).mergeSort fun x y => decide (x ≤ y)) = varsOf l := by
  have hs : ((vposOf l).mergeSort fun x y => decide (x ≤ y)).Pairwise (· ≤ ·) := by
    have := List.pairwise_mergeSort (le := fun (x y : Int) => decide (x ≤ y)) (by intro a b c; simp; omega) (by intro a b; simp; omega) (vposOf l)
    exact this.imp (fun h => by simpa using h)
  obtain ⟨h1, h2⟩ := compact_upTo _ hs _ (Nat.le_refl _)
  refine asc_eq _ _ h1 (varsOf_asc l) (fun x => ?_)
  unfold Lib.compact
  rw [h2, List.take_of_length_le (Nat.le_refl _), List.mem_mergeSort, varsOf_mem]

/-- the head's variables that are the body's too, or those that are not -/
def headVars (x : Dep) (b : Bool) : List Int := (varsOf x.head).filter fun t => decide (t ∈ varsOf x.body) == b
theorem headVars_len (x : Dep) (b : Bool) : (headVars x b).length ≤ avalsLen x.head := Nat.le_trans (List.length_filter_le _ _) (varsOf_len _)
theorem headVars_keep (x : Dep) (b : Bool) : keepN (fun t => (varsOf x.body).contains t != b) (varsOf x.head) = headVars x b := by
  unfold keepN headVars
  congr 1
  funext t
  show (!((varsOf x.body).contains t != b)) = _
  rw [List.contains_eq_mem]
  cases decide (t ∈ varsOf x.body) <;> cases b <;> rfl
theorem filter_take {α : Type} (p : α → Bool) (l : List α) (k : Nat) (h : k < l.length) : (l.take (k + 1)).filter p = (l.take k).filter p ++ (if p l[k] = true then [l[k]] else []) := by
  rw [List.take_succ_eq_append_getElem h, List.filter_append]
  congr 1
  cases hp : p l[k] <;> simp [hp]
def ExistentialVariables_r0 (x : Dep) : List Int := headVars x false
def FrontierVariables_r0 (x : Dep) : List Int := headVars x true

/-- a dependency's box: its two rows, nothing else said -/
structure BoxD (D : Nat) (V0 V1 : Value) (w : World) : Prop where
  c0 : w.cell? ⟨D, 0, none⟩ = some V0
  c1 : w.cell? ⟨D, 1, none⟩ = some V1
  c2 : w.cell? ⟨D, 2, none⟩ = some (.bool false)
  c3 : w.cell? ⟨D, 3, none⟩ = some (.int .i64 0)
  c4 : w.cell? ⟨D, 4, none⟩ = some (.int .i64 0)
  fz : ∀ o, w.frozen? ⟨D, o, none⟩ = false
theorem BoxD.same {D : Nat} {V0 V1 : Value} {w w' : World} (h : BoxD D V0 V1 w) (hc : ∀ o, w'.cell? ⟨D, o, none⟩ = w.cell? ⟨D, o, none⟩) (hf : ∀ o, w'.frozen? ⟨D, o, none⟩ = w.frozen? ⟨D, o, none⟩) : BoxD D V0 V1 w' :=
  ⟨(hc 0).trans h.c0, (hc 1).trans h.c1, (hc 2).trans h.c2, (hc 3).trans h.c3, (hc 4).trans h.c4, fun o => (hf o).trans (h.fz o)⟩
theorem BoxD.below {D B : Nat} {V0 V1 : Value} {w w' : World} (h : BoxD D V0 V1 w) (hb : Below B w w') (hD : D < B) : BoxD D V0 V1 w' :=
  h.same (fun o => hb.cell (p := ⟨D, o, none⟩) hD) (fun o => hb.frozen (p := ⟨D, o, none⟩) hD)
theorem BoxD.grown {D p : Nat} {V0 V1 : Value} {w w' : World} (h : BoxD D V0 V1 w) (hg : w.grownBy w' (some p)) (hD : D < w.heap.size) (hp : D ≠ p) : BoxD D V0 V1 w' :=
  ⟨grown_cell hg h.c0 hp, grown_cell hg h.c1 hp, grown_cell hg h.c2 hp, grown_cell hg h.c3 hp, grown_cell hg h.c4 hp, fun o => grown_frozen hg hD hp (h.fz o)⟩
theorem BoxD.set0 {D : Nat} {V0 V1 : Value} {w : World} (h : BoxD D V0 V1 w) (U : Value) : BoxD D U V1 (w.setCell ⟨D, 0, none⟩ U) := by
  obtain ⟨c0, c1, c2, c3, c4, fz⟩ := h
  exact ⟨by simp [go_sem, c0], by simp [go_sem, c1], by simp [go_sem, c2], by simp [go_sem, c3], by simp [go_sem, c4], fun o => by simp [fz]⟩
theorem BoxD.set1 {D : Nat} {V0 V1 : Value} {w : World} (h : BoxD D V0 V1 w) (U : Value) : BoxD D V0 U (w.setCell ⟨D, 1, none⟩ U) := by
  obtain ⟨c0, c1, c2, c3, c4, fz⟩ := h
  exact ⟨by simp [go_sem, c0], by simp [go_sem, c1], by simp [go_sem, c2], by simp [go_sem, c3], by simp [go_sem, c4], fun o => by simp [fz]⟩
theorem AtomSO.grown {e : TypeId} {B C p : Nat} {v : Value} {Vs : List Value} {l : List Atm} {w w' : World} (h : AtomSO e B C v Vs l w) (hg : w.grownBy w' (some p)) (hp : p < B) : AtomSO e B C v Vs l w' :=
  h.kept hg (fun q hq e1 => by injection e1 with e1; have := (h.foot q hq).1; omega)
theorem vars_bd {l : List Atm} (h : ∀ a ∈ l, AtmSmall a) : ∀ t ∈ varsOf l, -11 ≤ t ∧ t ≤ 5 := by
  intro t ht
  have h1 := (varsOf_mem l t).1 ht
  unfold vposOf at h1
  obtain ⟨a, ha, h2⟩ := List.mem_flatMap.1 h1
  unfold posOf at h2
  exact (h a ha).2.2 t (List.mem_filter.1 h2).1
theorem AtmSmall.sz {l : List Atm} (h : ∀ a ∈ l, AtmSmall a) : AtomS_sz l ≤ 3 * l.length := by
  induction l with
  | nil => exact Nat.le_refl _
  | cons a t ih =>
    have h1 := (h a (by simp)).2.1.2
    have h2 := ih (fun b hb => h b (by simp [hb]))
    unfold AtomS_sz at h2 ⊢
    show (a :: t).length + (a.vals.length + avalsLen t) ≤ _
    simp only [List.length_cons]; omega
theorem chg_grown {p D : Nat} {w w5 wr : World} (hg : w.grownBy w5 (some p)) (hc : Chg (fun q => q = p ∨ q = D) w5 wr) (hD : w.heap.size ≤ D) : w.grownBy wr (some p) :=
  ⟨hc.os.trans hg.os, hc.tape.trans hg.tape, hc.output.trans hg.output, Nat.le_trans hg.size hc.size, fun k hk hne => (hc.block k (Nat.lt_of_lt_of_le hk hg.size) (fun e => by
    rcases e with e | e
    · exact hne (by rw [e])
    · omega)).trans (hg.block k hk hne)⟩
/-- what a draw hands back through its result's box -/
theorem rule_fin {n p : Nat} {cv : Value} {code : List UInt8} {st st2 : DrawSt} {w wl : World} {X : DepX} {x : Dep} {V0 V1 : Value} (hC : CurS w p cv code st) (hC2 : CurS wl p cv code st2) (hg : w.grownBy wl (some p)) (hX : DepOwn (w.heap.size + 1) wl.heap.size X x wl) (hs : DepSmall n x) (h0 : X.1.1 = V0) (h1 : X.2.1 = V1) :
    GivesDep9 n p cv code w (.returned (.agg #[V0, V1, .bool x.egd, .int .i64 x.left, .int .i64 x.right])) (((((wl.setCell ⟨w.heap.size, 0, none⟩ V0).setCell ⟨w.heap.size, 1, none⟩ V1).setCell ⟨w.heap.size, 2, none⟩ (.bool x.egd)).setCell ⟨w.heap.size, 3, none⟩ (.int .i64 x.left)).setCell ⟨w.heap.size, 4, none⟩ (.int .i64 x.right)) := by
  subst h0 h1
  have hbW : Below w.heap.size wl (((((wl.setCell ⟨w.heap.size, 0, none⟩ X.1.1).setCell ⟨w.heap.size, 1, none⟩ X.2.1).setCell ⟨w.heap.size, 2, none⟩ (.bool x.egd)).setCell ⟨w.heap.size, 3, none⟩ (.int .i64 x.left)).setCell ⟨w.heap.size, 4, none⟩ (.int .i64 x.right)) := (((((Below.refl w.heap.size wl).setCell (p := ⟨w.heap.size, 0, none⟩) (Nat.le_refl _) _).setCell (p := ⟨w.heap.size, 1, none⟩) (Nat.le_refl _) _).setCell (p := ⟨w.heap.size, 2, none⟩) (Nat.le_refl _) _).setCell (p := ⟨w.heap.size, 3, none⟩) (Nat.le_refl _) _).setCell (p := ⟨w.heap.size, 4, none⟩) (Nat.le_refl _) _
  have hch : Chg (fun g => g < w.heap.size + 1) wl (((((wl.setCell ⟨w.heap.size, 0, none⟩ X.1.1).setCell ⟨w.heap.size, 1, none⟩ X.2.1).setCell ⟨w.heap.size, 2, none⟩ (.bool x.egd)).setCell ⟨w.heap.size, 3, none⟩ (.int .i64 x.left)).setCell ⟨w.heap.size, 4, none⟩ (.int .i64 x.right)) := ((((((Chg.refl (fun g => g < w.heap.size + 1) wl).setCell (p := ⟨w.heap.size, 0, none⟩) (Nat.lt_succ_self w.heap.size) X.1.1).setCell (p := ⟨w.heap.size, 1, none⟩) (Nat.lt_succ_self w.heap.size) X.2.1).setCell (p := ⟨w.heap.size, 2, none⟩) (Nat.lt_succ_self w.heap.size) (.bool x.egd)).setCell (p := ⟨w.heap.size, 3, none⟩) (Nat.lt_succ_self w.heap.size) (.int .i64 x.left)).setCell (p := ⟨w.heap.size, 4, none⟩) (Nat.lt_succ_self w.heap.size) (.int .i64 x.right))
  refine ⟨X, x, rfl, ?_, hs, ⟨_, Cur.below hC hC2 hbW⟩, grown_of_below hg hbW⟩
  exact (hX.chgS hch (fun g hg e => by have := (hX.foot g hg).1; omega)).mono (Nat.le_succ _) (by simp only [World.size_setCell]; exact Nat.le_refl _)

/-- a dependency's box, whatever it holds -/
structure BoxX (D : Nat) (V0 V1 : Value) (q : Bool) (l r : Int) (w : World) : Prop where
  c0 : w.cell? ⟨D, 0, none⟩ = some V0
  c1 : w.cell? ⟨D, 1, none⟩ = some V1
  c2 : w.cell? ⟨D, 2, none⟩ = some (.bool q)
  c3 : w.cell? ⟨D, 3, none⟩ = some (.int .i64 l)
  c4 : w.cell? ⟨D, 4, none⟩ = some (.int .i64 r)
  fz : ∀ o, w.frozen? ⟨D, o, none⟩ = false
theorem BoxX.same {D : Nat} {V0 V1 : Value} {q : Bool} {l r : Int} {w w' : World} (h : BoxX D V0 V1 q l r w) (hc : ∀ o, w'.cell? ⟨D, o, none⟩ = w.cell? ⟨D, o, none⟩) (hf : ∀ o, w'.frozen? ⟨D, o, none⟩ = w.frozen? ⟨D, o, none⟩) : BoxX D V0 V1 q l r w' :=
  ⟨(hc 0).trans h.c0, (hc 1).trans h.c1, (hc 2).trans h.c2, (hc 3).trans h.c3, (hc 4).trans h.c4, fun o => (hf o).trans (h.fz o)⟩
theorem BoxX.below {D B : Nat} {V0 V1 : Value} {q : Bool} {l r : Int} {w w' : World} (h : BoxX D V0 V1 q l r w) (hb : Below B w w') (hD : D < B) : BoxX D V0 V1 q l r w' :=
  h.same (fun o => hb.cell (p := ⟨D, o, none⟩) hD) (fun o => hb.frozen (p := ⟨D, o, none⟩) hD)
theorem BoxX.grown {D : Nat} {row : Option Nat} {V0 V1 : Value} {q : Bool} {l r : Int} {w w' : World} (h : BoxX D V0 V1 q l r w) (hg : w.grownBy w' row) (hD : D < w.heap.size) (hp : some D ≠ row) : BoxX D V0 V1 q l r w' :=
  h.same (fun o => hg.cell_far ⟨D, o, none⟩ hD hp) (fun o => hg.frozen_far ⟨D, o, none⟩ hD hp)
theorem BoxD.grownR {D : Nat} {row : Option Nat} {V0 V1 : Value} {w w' : World} (h : BoxD D V0 V1 w) (hg : w.grownBy w' row) (hD : D < w.heap.size) (hp : some D ≠ row) : BoxD D V0 V1 w' :=
  h.same (fun o => hg.cell_far ⟨D, o, none⟩ hD hp) (fun o => hg.frozen_far ⟨D, o, none⟩ hD hp)
theorem DepOwn.grown {B C p : Nat} {X : DepX} {x : Dep} {w w' : World} (h : DepOwn B C X x w) (hg : w.grownBy w' (some p)) (hp : p < B) : DepOwn B C X x w' :=
  h.kept hg (fun q hq e1 => by injection e1 with e1; have := (h.foot q hq).1; omega)
/-- another block's cells turned, other fields said -/
theorem DepOwn.store {B C D : Nat} {X : DepX} {b hd : List Atm} {q q' : Bool} {l l' r r' : Int} {w w' : World} (h : DepOwn B C X ⟨b, hd, q, l, r⟩ w) (hc : Chg (fun g => g = D) w w') (hD : C ≤ D) : DepOwn B C X ⟨b, hd, q', l', r'⟩ w' := by
  have h2 := h.chgS hc (fun g hg e => by have := (h.foot g hg).2; omega)
  exact ⟨h2.1, h2.2.1, h2.2.2⟩
/-- a row that is not empty lies in a block of its own -/
theorem AtomSO.block {e : TypeId} {B C : Nat} {v : Value} {Vs : List Value} {l : List Atm} {w : World} (h : AtomSO e B C v Vs l w) (hl : 0 < l.length) : ∃ g cap, v = .slice (some ⟨g, 0, none⟩) l.length cap ∧ B ≤ g ∧ g < C := by
  have hp := apairs_len h.len
  have hr := h.row
  rw [hp] at hr
  obtain ⟨g, cap, rfl, h1, h2⟩ := World.ownsRow.form hr hl
  exact ⟨g, cap, rfl, h1, h.ins g rfl⟩

end Go.Proofs.YtakflmaeclneiaaDoor
