/-
  Walks and plain lemmas for the laws of this seat: what single Go functions return, for every argument.
-/
import Derived.Test.YtakflmaeclneiaaDoorMem
namespace Go.Proofs.YtakflmaeclneiaaDoor
open Go.RowKit

def intCell (n : Int) : List Value := [.int .i64 n]
theorem flat_int (l : List Int) : l.flatMap intCell = l.map (Value.int .i64) := by
  induction l with
  | nil => rfl
  | cons a t ih => rw [List.flatMap_cons, List.map_cons, ih]; rfl
abbrev IntsAt (w : World) (B : Nat) (v : Value) (l : List Int) : Prop := SliceAt intCell w B v l
/-- a slice of ints of the call's own -/
def OwnInts (B : Nat) (v : Value) (l : List Int) (w : World) : Prop := w.ownsRow B 3 1 v l.length (l.map (Value.int .i64))
theorem OwnInts.at_ {B : Nat} {v : Value} {l : List Int} {w : World} (h : OwnInts B v l w) : IntsAt w w.heap.size v l := by
  unfold OwnInts at h
  rw [← flat_int] at h
  exact SliceAt.of_own h
theorem IntsAt.elem {w : World} {B c : Nat} {A : Option Addr} {l : List Int} (h : IntsAt w B (.slice A l.length c) l) (j : Nat) (hj : j < l.length) :
    ∃ b off, A = some ⟨b, off, none⟩ ∧ b < B ∧ w.cell? ⟨b, off + j, none⟩ = some (.int .i64 l[j]) := by
  obtain ⟨A', c', hv, h1, h2, h3⟩ := h
  obtain ⟨b, off, hA, hb, hc⟩ := h3.1 (by omega)
  subst hA
  injection hv with h4 _ _
  subst h4
  refine ⟨b, off, rfl, hb, hc j _ ?_⟩
  rw [flat_int]; simp [hj]
theorem infoInt : (Tryd.prog.info? 3).map (fun i => (i.zero, i.size, i.bytes)) = some (some (.int .i64 0), 1, 8) := by kernel_rfl
theorem make_ints (w : World) (n c : Nat) (hnc : n ≤ c) (hn : c ≤ 1048576) : (Instr.makeSlice 56 (.int .i64 (n : Int)) (.int .i64 (c : Int))).run Tryd.prog w = .ok (.slice (some ⟨w.heap.size, 0, none⟩) n c) (w.alloc (.cells (madeCells #[.int .i64 0] c) 3)) := by
  obtain ⟨i0, hi, hz0, hz1, hz2⟩ := info_parts infoInt
  have hr := run_make (P := Tryd.prog) w 56 3 i0 _ Tryd.underlying56 hi hz0 .i64 .i64 (n : Int) (c : Int) (by omega) (by omega) (by rw [hz2]; omega) (by omega)
  simp only [Int.toNat_natCast, hz1, Nat.mul_one] at hr
  exact hr
theorem OwnInts.full (w : World) (n : Nat) (hn : n ≤ 1048576) (B : Nat) (hB : B ≤ w.heap.size) : OwnInts B (.slice (some ⟨w.heap.size, 0, none⟩) n n) (List.replicate n 0) (w.alloc (.cells (madeCells #[.int .i64 0] n) 3)) := by
  unfold OwnInts
  have e : (madeCells #[.int .i64 0] n).toList = (List.replicate n (0 : Int)).map (Value.int .i64) := by rw [toList_madeCells_one, List.map_replicate]
  rw [← e, List.length_replicate]
  exact World.ownsRow_lit w _ n hB (by unfold maxLen; omega) (by rw [size_madeCells, Nat.mul_one])
theorem OwnInts.empty (w : World) (B : Nat) (hB : B ≤ w.heap.size) : OwnInts B (.slice (some ⟨w.heap.size, 0, none⟩) 0 0) [] (w.alloc (.cells #[] 3)) :=
  World.ownsRow_lit w #[] 0 hB (by decide) rfl
theorem OwnInts.nil (w : World) (B : Nat) : OwnInts B (.slice none 0 0) [] w := World.ownsRow_nil w B _ _
theorem OwnInts.one (w : World) (B : Nat) (x : Int) (hB : B ≤ w.heap.size) : OwnInts B (.slice (some ⟨w.heap.size, 0, none⟩) 1 1) [x] (w.alloc (.cells #[.int .i64 x] 3)) :=
  World.ownsRow_lit w #[.int .i64 x] 1 hB (by decide) rfl
theorem OwnInts.cell {B g n cap : Nat} {l : List Int} {w : World} (h : OwnInts B (.slice (some ⟨g, 0, none⟩) n cap) l w) (hn : l.length = n) (j : Nat) (hj : j < l.length) : w.cell? ⟨g, j, none⟩ = some (.int .i64 l[j]) := by
  subst hn
  rw [World.ownsRow.cellAt h j (by omega)]; simp [hj]
theorem OwnInts.frozen {B g n cap : Nat} {l : List Int} {w : World} (h : OwnInts B (.slice (some ⟨g, 0, none⟩) n cap) l w) (hn : l.length = n) (j : Nat) : w.frozen? ⟨g, j, none⟩ = false := by
  subst hn; exact World.ownsRow.frozenAt h j
theorem OwnInts.set {B g n cap : Nat} {l : List Int} {w : World} (h : OwnInts B (.slice (some ⟨g, 0, none⟩) n cap) l w) (hn : l.length = n) (j : Nat) (x : Int) :
    OwnInts B (.slice (some ⟨g, 0, none⟩) n cap) (l.set j x) (w.setCell ⟨g, j, none⟩ (.int .i64 x)) := by
  subst hn
  have := (World.ownsRow.stored h j (.int .i64 x)).1
  unfold OwnInts
  rw [List.length_set, List.map_set]
  exact this
theorem OwnInts.below {B B' : Nat} {v : Value} {l : List Int} {w w' : World} (h : OwnInts B v l w) (hb : Below B' w w') (hB : w.heap.size ≤ B') : OwnInts B v l w' := row_below h hb hB
/-- append(l, x) -/
theorem ints_app1 {ops : Array Oper} {rest : List Oper} {o : Oper} {a : Act} {Q : Exit → Act → World → Prop} {B : Nat} {v : Value} {l : List Int} {w : World} (hO : OwnInts B v l w)
    (hgd : o.guard = none) (s x : Operand) (ho : o.op = .call { callee := .builtin .append, args := #[s, x], argTypes := #[56, 56] }) (hs : a.eval s = v) (r : Int) (c bs : Nat) (hx : a.eval x = .slice (some ⟨bs, 0, none⟩) 1 c) (hbs : bs = w.heap.size)
    (hlen : l.length < 1048577) (hbase : B ≤ w.heap.size) (h : ∀ v' w', OwnInts B v' (l ++ [r]) w' → Below B w w' → w.grownBy w' v.ownBlock → wpList Tryd.prog ops Q rest (a.put o.dst v') w') :
    wpList Tryd.prog ops Q (o :: rest) a (w.alloc (.cells #[.int .i64 r] 3)) := by
  unfold OwnInts at hO
  rw [← flat_int] at hO
  refine wp_own_app intCell 1 8 (fun x u hu => by simp [intCell] at hu; subst hu; rfl) (fun _ => rfl) Tryd.underlying56 infoInt rfl (by decide) hO hgd s x ho hs r c (by rw [hx, hbs]) (by omega) (by omega) hbase ?_
  intro v' w' h1 h2 h3
  refine h v' w' ?_ h2 h3
  unfold OwnInts
  rw [← flat_int]; exact h1
def IntsWf (l : List Int) : Prop := ∀ (i : Nat) (h : i < l.length), -9223372036854775808 ≤ l[i] ∧ l[i] ≤ 9223372036854775807

theorem OwnInts.chg {S : Nat → Prop} {B : Nat} {v : Value} {l : List Int} {w w' : World} (h : OwnInts B v l w) (hc : Chg S w w') (hS : ∀ g, v.ownBlock = some g → ¬ S g) : OwnInts B v l w' := hc.row h hS
theorem OwnInts.lt {B : Nat} {v : Value} {l : List Int} {w : World} (h : OwnInts B v l w) : ∀ g, v.ownBlock = some g → B ≤ g ∧ g < w.heap.size := World.ownsRow.lt h
/-- what a mark writes -/
def markInts (k n : Nat) : List Int := (List.range n).map fun i => ((k + i : Nat) : Int)
theorem markInts_len (k n : Nat) : (markInts k n).length = n := by simp [markInts]
theorem markInts_at (k n i : Nat) (h : i < (markInts k n).length) : (markInts k n)[i] = ((k + i : Nat) : Int) := by simp [markInts]
theorem markInts_succ (k n : Nat) : markInts k (n + 1) = markInts k n ++ [((k + n : Nat) : Int)] := by simp [markInts, List.range_succ]
theorem markInts_set (l : List Int) (k i : Nat) (h : i < l.length) : (markInts k i ++ l.drop i).set i ((k + i : Nat) : Int) = markInts k (i + 1) ++ l.drop (i + 1) := by
  rw [List.set_append_right _ _ (by rw [markInts_len]; exact Nat.le_refl _), markInts_len, Nat.sub_self, List.drop_eq_getElem_cons h, List.set_cons_zero, markInts_succ, List.append_assoc]
  rfl

/-- ints in memory of the call's own, its blocks from B to C -/
def IntsO (B C : Nat) (v : Value) (l : List Int) (w : World) : Prop := OwnInts B v l w ∧ Value.inside C v
theorem OwnInts.mono {B B' : Nat} {v : Value} {l : List Int} {w : World} (h : OwnInts B v l w) (hB : B' ≤ B) : OwnInts B' v l w := by
  refine ⟨h.1, ?_⟩
  rcases h.2 with hn | ⟨g, cap, cur, rfl, hb, rest⟩
  · exact .inl hn
  · exact .inr ⟨g, cap, cur, rfl, Nat.le_trans hB hb, rest⟩
theorem IntsO.of {B : Nat} {v : Value} {l : List Int} {w : World} (h : OwnInts B v l w) : IntsO B w.heap.size v l w := ⟨h, fun g hg => (h.lt g hg).2⟩
theorem IntsO.mono {B B' C C' : Nat} {v : Value} {l : List Int} {w : World} (h : IntsO B C v l w) (hB : B' ≤ B) (hC : C ≤ C') : IntsO B' C' v l w := ⟨h.1.mono hB, fun g hg => Nat.lt_of_lt_of_le (h.2 g hg) hC⟩
theorem IntsO.at_ {B C D : Nat} {v : Value} {l : List Int} {w : World} (h : IntsO B C v l w) (hD : C ≤ D) : IntsAt w D v l := SliceAt.inside h.1.at_ (fun g hg => Nat.lt_of_lt_of_le (h.2 g hg) hD)
theorem IntsO.chg {B C B' C' : Nat} {v : Value} {l : List Int} {w w' : World} (h : IntsO B C v l w) (hc : Chg (Mid B' C') w w') (hd : C ≤ B' ∨ C' ≤ B) : IntsO B C v l w' :=
  ⟨h.1.chg hc (fun g hg hm => by have h1 := (h.1.lt g hg).1; have h2 := h.2 g hg; have h3 : B' ≤ g := hm.1; have h4 : g < C' := hm.2; omega), h.2⟩
theorem IntsO.below {B C D : Nat} {v : Value} {l : List Int} {w w' : World} (h : IntsO B C v l w) (hb : Below D w w') (hD : C ≤ D) : IntsO B C v l w' :=
  ⟨h.1.chg (Chg.of_below' hb) (fun g hg hm => by have h2 := h.2 g hg; have h3 : D ≤ g := hm; omega), h.2⟩
def IntS_at (w : World) (B : Nat) (v : Value) (l : List Int) : Prop := IntsAt w B v l
def IntS_own (B C : Nat) (v : Value) (l : List Int) (w : World) : Prop := IntsO B C v l w
theorem IntS_at.below {w w' : World} {B B' : Nat} {v : Value} {l : List Int} (h : IntS_at w B v l) (hb : Below B' w w') (hB : B ≤ B') : IntS_at w' B v l := SliceAt.below h hb hB
theorem IntS_at.more {w : World} {B B' : Nat} {v : Value} {l : List Int} (h : IntS_at w B v l) (hB : B ≤ B') : IntS_at w B' v l := SliceAt.more h hB
theorem IntS_own.at_ {B C D : Nat} {v : Value} {l : List Int} {w : World} (h : IntS_own B C v l w) (hD : C ≤ D) : IntS_at w D v l := IntsO.at_ h hD
theorem IntS_own.chg {B C B' C' : Nat} {v : Value} {l : List Int} {w w' : World} (h : IntS_own B C v l w) (hc : Chg (Mid B' C') w w') (hd : C ≤ B' ∨ C' ≤ B) : IntS_own B C v l w' := IntsO.chg h hc hd
theorem IntS_own.below {B C D : Nat} {v : Value} {l : List Int} {w w' : World} (h : IntS_own B C v l w) (hb : Below D w w') (hD : C ≤ D) : IntS_own B C v l w' := IntsO.below h hb hD
def IntS_wf (l : List Int) : Prop := IntsWf l
def IntS_sz (l : List Int) : Nat := l.length
def IntS_mk (k : Nat) (l : List Int) : List Int := markInts k l.length
def IntS_cnt (l : List Int) : Nat := l.length
theorem IntS_cnt_le (l : List Int) : IntS_cnt l ≤ 4 * IntS_sz l := by unfold IntS_cnt IntS_sz; omega

/-- append(l, r...) -/
theorem ints_apps {ops : Array Oper} {rest : List Oper} {o : Oper} {a : Act} {Q : Exit → Act → World → Prop} {B B' : Nat} {v : Value} {l r : List Int} {w : World} (hO : OwnInts B v l w)
    (hgd : o.guard = none) (s x : Operand) (ho : o.op = .call { callee := .builtin .append, args := #[s, x], argTypes := #[56, 56] }) (hs : a.eval s = v) (A : Option Addr) (m c : Nat) (hx : a.eval x = .slice A m c) (hm : r.length = m) (hr : IntsAt w B' (.slice A r.length c) r) (hA : A = none → c = 0)
    (hlen : l.length + r.length ≤ 2097153) (hbase : B ≤ w.heap.size) (h : ∀ v' w', OwnInts B v' (l ++ r) w' → Below B w w' → w.grownBy w' v.ownBlock → (v'.ownBlock = v.ownBlock ∨ v'.ownBlock = some w.heap.size) → wpList Tryd.prog ops Q rest (a.put o.dst v') w') :
    wpList Tryd.prog ops Q (o :: rest) a w := by
  unfold OwnInts at hO
  rw [← flat_int] at hO
  refine wp_own_apps intCell 1 8 (fun x u hu => by simp [intCell] at hu; subst hu; rfl) (fun _ => rfl) Tryd.underlying56 infoInt rfl (by decide) hO hgd s x ho hs A m c hx hm hr hA (by omega) (by omega) hbase ?_
  intro v' w' h1 h2 h3 h4
  refine h v' w' ?_ h2 h3 h4
  unfold OwnInts
  rw [← flat_int]; exact h1
theorem OwnInts.form {B : Nat} {v : Value} {l : List Int} {w : World} (h : OwnInts B v l w) (hl : 0 < l.length) : ∃ g cap, v = .slice (some ⟨g, 0, none⟩) l.length cap ∧ B ≤ g ∧ g < w.heap.size ∧ l.length ≤ cap ∧ cap ≤ maxLen := by
  obtain ⟨g, cap, rfl, h1, h2⟩ := World.ownsRow.form h hl
  obtain ⟨A, c, hv, h3, h4, _⟩ := h.at_
  injection hv with _ _ e
  subst e
  exact ⟨g, cap, rfl, h1, h2, h3, h4⟩

/-- numbers compared one after another -/
def cmpInts : List Int → List Int → Int
  | [], [] => 0
  | [], _ :: _ => -1
  | _ :: _, [] => 1
  | x :: a, y :: b => if x < y then -1 else if y < x then 1 else cmpInts a b
theorem cmpInts_self (a : List Int) : cmpInts a a = 0 := by
  induction a with
  | nil => rfl
  | cons x a ih => simp [cmpInts, ih]
theorem cmpInts_at {a b : List Int} {k : Nat} (h : k < a.length) (h' : k < b.length) : cmpInts (a.drop k) (b.drop k) = if a[k] < b[k] then -1 else if b[k] < a[k] then 1 else cmpInts (a.drop (k + 1)) (b.drop (k + 1)) := by
  rw [List.drop_eq_getElem_cons h, List.drop_eq_getElem_cons h']; rfl
/-- the first k numbers settle nothing -/
def CmpTo (a b : List Int) (k : Nat) : Prop := cmpInts a b = cmpInts (a.drop k) (b.drop k)
theorem CmpTo.zero (a b : List Int) : CmpTo a b 0 := rfl
theorem CmpTo.next {a b : List Int} {k : Nat} (h : CmpTo a b k) (h1 : k < a.length) (h2 : k < b.length) (h3 : ¬ a[k] < b[k]) (h4 : ¬ b[k] < a[k]) : CmpTo a b (k + 1) := by
  unfold CmpTo at *
  rw [h, cmpInts_at h1 h2, if_neg h3, if_neg h4]
theorem CmpTo.less {a b : List Int} {k : Nat} (h : CmpTo a b k) (h1 : k < a.length) (h2 : k < b.length) (h3 : a[k] < b[k]) : cmpInts a b = -1 := by
  unfold CmpTo at *
  rw [h, cmpInts_at h1 h2, if_pos h3]
theorem CmpTo.more {a b : List Int} {k : Nat} (h : CmpTo a b k) (h1 : k < a.length) (h2 : k < b.length) (h3 : b[k] < a[k]) : cmpInts a b = 1 := by
  unfold CmpTo at *
  rw [h, cmpInts_at h1 h2, if_neg (by omega), if_pos h3]
theorem CmpTo.done {a b : List Int} {k : Nat} (h : CmpTo a b k) (hk : k = a.length ∨ k = b.length) (h1 : k ≤ a.length) (h2 : k ≤ b.length) : cmpInts a b = if a.length < b.length then -1 else if b.length < a.length then 1 else 0 := by
  unfold CmpTo at h
  rw [h]
  by_cases e1 : a.length < b.length
  · obtain rfl : k = a.length := by omega
    rw [List.drop_length, List.drop_eq_getElem_cons e1, if_pos e1]; rfl
  · by_cases e2 : b.length < a.length
    · obtain rfl : k = b.length := by omega
      rw [List.drop_length, List.drop_eq_getElem_cons e2, if_neg e1, if_pos e2]; rfl
    · obtain rfl : k = a.length := by omega
      rw [List.drop_length, show a.length = b.length by omega, List.drop_length, if_neg (by omega), if_neg (by omega)]; rfl
theorem cmpInts_zero (a b : List Int) : cmpInts a b = 0 ↔ a = b := by
  induction a generalizing b with
  | nil => cases b <;> simp [cmpInts]
  | cons x a ih =>
    cases b with
    | nil => simp [cmpInts]
    | cons y b =>
      unfold cmpInts
      split
      · simp; omega
      · split
        · simp; omega
        · rw [ih]; simp; omega

/-- two rows of the call's own that share no block -/
def Two (B : Nat) (V1 V2 : Value) (l1 l2 : List Int) (w : World) : Prop := OwnInts B V1 l1 w ∧ OwnInts B V2 l2 w ∧ ∀ g, V1.ownBlock = some g → V2.ownBlock ≠ some g
theorem OwnInts.kept {B : Nat} {V1 V2 : Value} {l : List Int} {w w' : World} (h : OwnInts B V2 l w) (hg : w.grownBy w' V1.ownBlock) (hd : ∀ g, V1.ownBlock = some g → V2.ownBlock ≠ some g) : OwnInts B V2 l w' :=
  World.ownsRow.kept h hg (by
    cases hv : V2.ownBlock with
    | none => exact .inl rfl
    | some k => right; intro e; exact hd k e.symm hv)
theorem Two.first {B : Nat} {V1 V1' V2 : Value} {l1 l1' l2 : List Int} {w w' : World} (h : Two B V1 V2 l1 l2 w) (ho : OwnInts B V1' l1' w') (hg : w.grownBy w' V1.ownBlock) (hb : V1'.ownBlock = V1.ownBlock ∨ V1'.ownBlock = some w.heap.size) : Two B V1' V2 l1' l2 w' := by
  refine ⟨ho, h.2.1.kept hg h.2.2, fun g e1 e2 => ?_⟩
  rcases hb with hb | hb
  · exact h.2.2 g (by rw [← hb]; exact e1) e2
  · have h1 := (h.2.1.lt g e2).2
    rw [hb] at e1; injection e1 with e1; omega
theorem Two.second {B : Nat} {V1 V2 V2' : Value} {l1 l2 l2' : List Int} {w w' : World} (h : Two B V1 V2 l1 l2 w) (ho : OwnInts B V2' l2' w') (hg : w.grownBy w' V2.ownBlock) (hb : V2'.ownBlock = V2.ownBlock ∨ V2'.ownBlock = some w.heap.size) : Two B V1 V2' l1 l2' w' := by
  refine ⟨h.1.kept hg (fun g e1 e2 => h.2.2 g e2 e1), ho, fun g e1 e2 => ?_⟩
  rcases hb with hb | hb
  · exact h.2.2 g e1 (by rw [← hb]; exact e2)
  · have h1 := (h.1.lt g e1).2
    rw [hb] at e2; injection e2 with e2; omega
theorem Two.below {B D : Nat} {V1 V2 : Value} {l1 l2 : List Int} {w w' : World} (h : Two B V1 V2 l1 l2 w) (hb : Below D w w') (hD : w.heap.size ≤ D) : Two B V1 V2 l1 l2 w' := ⟨h.1.below hb hD, h.2.1.below hb hD, h.2.2⟩
theorem Two.chg {B : Nat} {S : Nat → Prop} {V1 V2 : Value} {l1 l2 : List Int} {w w' : World} (h : Two B V1 V2 l1 l2 w) (hc : Chg S w w') (hS : ∀ k, S k → k < B) : Two B V1 V2 l1 l2 w' :=
  ⟨h.1.chg hc (fun g hg hs => by have h1 := (h.1.lt g hg).1; have h2 := hS g hs; omega), h.2.1.chg hc (fun g hg hs => by have h1 := (h.2.1.lt g hg).1; have h2 := hS g hs; omega), h.2.2⟩

end Go.Proofs.YtakflmaeclneiaaDoor
