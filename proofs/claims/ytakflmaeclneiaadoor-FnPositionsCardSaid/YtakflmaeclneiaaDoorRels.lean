/-
  Walks and plain lemmas for the laws of this seat: what single Go functions return, for every argument.
-/
import Derived.Test.YtakflmaeclneiaaDoorFmtS
import Derived.Test.YtakflmaeclneiaaDoorMem
namespace Go.Proofs.YtakflmaeclneiaaDoor
open Go.RowKit

def relCells (r : Rel) : List Value := [.string r.name, .int .i64 r.arity, .bool r.source]
theorem relCells_len (r : Rel) : (relCells r).length = 3 := rfl
abbrev RelsAt (w : World) (B : Nat) (v : Value) (l : List Rel) : Prop := SliceAt relCells w B v l
/-- a slice of relations of the call's own -/
def OwnRels (B : Nat) (v : Value) (l : List Rel) (w : World) : Prop := w.ownsRow B 35 3 v l.length (l.flatMap relCells)
def zeroRel : Rel := ⟨ByteArray.empty, 0, false⟩
theorem OwnRels.at_ {B : Nat} {v : Value} {l : List Rel} {w : World} (h : OwnRels B v l w) : RelsAt w w.heap.size v l := SliceAt.of_own h
theorem RelsAt.cells {w : World} {B b off c : Nat} {l : List Rel} (h : RelsAt w B (.slice (some ⟨b, off, none⟩) l.length c) l) (j : Nat) (hj : j < l.length) :
    w.cell? ⟨b, off + j * 3, none⟩ = some (.string l[j].name) ∧ w.cell? ⟨b, off + j * 3 + 1, none⟩ = some (.int .i64 l[j].arity) ∧ w.cell? ⟨b, off + j * 3 + 2, none⟩ = some (.bool l[j].source) := by
  obtain ⟨A, c', hv, h1, h2, h3⟩ := h
  obtain ⟨b', off', hA, hb, hc⟩ := h3.1 (by omega)
  subst hA
  injection hv with h4 _ _
  injection h4 with h4
  injection h4 with h4 h5 _
  subst h4 h5
  have g (i : Nat) (hi : i < 3) := flat_get relCells 3 relCells_len l j i hj hi
  refine ⟨hc _ _ (g 0 (by omega)), ?_, ?_⟩
  · rw [Nat.add_assoc]; exact hc _ _ (g 1 (by omega))
  · rw [Nat.add_assoc]; exact hc _ _ (g 2 (by omega))
theorem madeCells_rel (n : Nat) : (madeCells #[.string ByteArray.empty, .int .i64 0, .bool false] (n * 3)).toList = (List.replicate n zeroRel).flatMap relCells := by
  apply List.ext_getElem?
  intro i
  by_cases hi : i < n * 3
  · have e : i = i / 3 * 3 + i % 3 := by omega
    have h1 : i / 3 < (List.replicate n zeroRel).length := by simp; omega
    have := flat_get relCells 3 relCells_len (List.replicate n zeroRel) (i / 3) (i % 3) h1 (by omega)
    rw [← e] at this
    rw [this]
    simp only [List.getElem_replicate]
    have h3 : i % 3 = 0 ∨ i % 3 = 1 ∨ i % 3 = 2 := by omega
    rcases h3 with h3 | h3 | h3 <;> simp [madeCells, hi, h3, relCells, zeroRel]
  · rw [List.getElem?_eq_none (by simp [madeCells]; omega), List.getElem?_eq_none]
    rw [flat_len relCells 3 relCells_len]; simp; omega
theorem infoRel : (Tryd.prog.info? 35).map (fun i => (i.zero, i.size, i.bytes)) = some (some (.agg #[.string ByteArray.empty, .int .i64 0, .bool false]), 3, 32) := by kernel_rfl
theorem make_rels (w : World) (n : Nat) (hn : n ≤ 1048576) : (Instr.makeSlice 24 (.int .i64 (n : Int)) (.int .i64 (n : Int))).run Tryd.prog w = .ok (.slice (some ⟨w.heap.size, 0, none⟩) n n) (w.alloc (.cells (madeCells #[.string ByteArray.empty, .int .i64 0, .bool false] (n * 3)) 35)) := by
  obtain ⟨i0, hi, hz0, hz1, hz2⟩ := info_parts infoRel
  have hr := run_make (P := Tryd.prog) w 24 35 i0 _ Tryd.underlying24 hi hz0 .i64 .i64 (n : Int) (n : Int) (by omega) (by omega) (by rw [hz2]; omega) (by omega)
  simp only [Int.toNat_natCast, hz1] at hr
  exact hr
theorem OwnRels.made (w : World) (n : Nat) (hn : n ≤ 1048576) (B : Nat) (hB : B ≤ w.heap.size) : OwnRels B (.slice (some ⟨w.heap.size, 0, none⟩) n n) (List.replicate n zeroRel) (w.alloc (.cells (madeCells #[.string ByteArray.empty, .int .i64 0, .bool false] (n * 3)) 35)) := by
  unfold OwnRels
  rw [← madeCells_rel, List.length_replicate]
  exact World.ownsRow_lit w _ n hB (by unfold maxLen; omega) (size_madeCells _ _)
theorem OwnRels.set {B g n cap : Nat} {l : List Rel} {w : World} (h : OwnRels B (.slice (some ⟨g, 0, none⟩) n cap) l w) (hn : l.length = n) (j : Nat) (hj : j < n) (r : Rel) :
    OwnRels B (.slice (some ⟨g, 0, none⟩) n cap) (l.set j r) (((w.setCell ⟨g, j * 3, none⟩ (.string r.name)).setCell ⟨g, j * 3 + 1, none⟩ (.int .i64 r.arity)).setCell ⟨g, j * 3 + 2, none⟩ (.bool r.source)) := by
  subst hn
  have h1 := (World.ownsRow.stored h (j * 3) (.string r.name)).1
  have h2 := (World.ownsRow.stored h1 (j * 3 + 1) (.int .i64 r.arity)).1
  have h3 := (World.ownsRow.stored h2 (j * 3 + 2) (.bool r.source)).1
  unfold OwnRels
  rw [List.length_set, ← flat_set relCells 3 relCells_len l j hj r]
  exact h3
theorem RelsAt.elem {w : World} {B c : Nat} {A : Option Addr} {l : List Rel} (h : RelsAt w B (.slice A l.length c) l) (j : Nat) (hj : j < l.length) :
    ∃ b off, A = some ⟨b, off, none⟩ ∧ b < B ∧ w.cell? ⟨b, off + j * 3, none⟩ = some (.string l[j].name) ∧ w.cell? ⟨b, off + j * 3 + 1, none⟩ = some (.int .i64 l[j].arity) ∧ w.cell? ⟨b, off + j * 3 + 2, none⟩ = some (.bool l[j].source) := by
  have h' := h
  obtain ⟨A', c', hv, h1, h2, h3⟩ := h
  obtain ⟨b, off, hA, hb, hc⟩ := h3.1 (by omega)
  subst hA
  injection hv with h4 _ _
  subst h4
  exact ⟨b, off, rfl, hb, RelsAt.cells h' j hj⟩
/-- the letters of all names -/
def relsLen : List Rel → Nat
  | [] => 0
  | r :: t => r.name.size + relsLen t
theorem relsLen_append (l m : List Rel) : relsLen (l ++ m) = relsLen l + relsLen m := by
  induction l with
  | nil => simp [relsLen]
  | cons a t ih => simp only [List.cons_append, relsLen, ih]; omega
theorem relsLen_take (l : List Rel) (k : Nat) (h : k < l.length) : relsLen (l.take (k + 1)) = relsLen (l.take k) + l[k].name.size := by
  rw [List.take_succ_eq_append_getElem h, relsLen_append]; simp [relsLen]
theorem relsLen_le (l : List Rel) (k : Nat) : relsLen (l.take k) ≤ relsLen l := by
  have := relsLen_append (l.take k) (l.drop k)
  rw [List.take_append_drop] at this; omega
/-- every name of l is as long as a string can be -/
def RelsWf (l : List Rel) : Prop := ∀ (i : Nat) (h : i < l.length), l[i].name.size ≤ maxLen
theorem OwnRels.cells {B g n cap : Nat} {l : List Rel} {w : World} (h : OwnRels B (.slice (some ⟨g, 0, none⟩) n cap) l w) (hn : l.length = n) (j : Nat) (hj : j < l.length) :
    w.cell? ⟨g, j * 3, none⟩ = some (.string l[j].name) ∧ w.cell? ⟨g, j * 3 + 1, none⟩ = some (.int .i64 l[j].arity) ∧ w.cell? ⟨g, j * 3 + 2, none⟩ = some (.bool l[j].source) := by
  subst hn
  have g (i : Nat) (hi : i < 3) := (World.ownsRow.cellAt h (j * 3 + i) (by omega)).trans (flat_get relCells 3 relCells_len l j i hj hi)
  exact ⟨g 0 (by omega), g 1 (by omega), g 2 (by omega)⟩
theorem OwnRels.frozen {B g n cap : Nat} {l : List Rel} {w : World} (h : OwnRels B (.slice (some ⟨g, 0, none⟩) n cap) l w) (hn : l.length = n) (j : Nat) : w.frozen? ⟨g, j, none⟩ = false := by
  subst hn; exact World.ownsRow.frozenAt h j
theorem OwnRels.below {B B' : Nat} {v : Value} {l : List Rel} {w w' : World} (h : OwnRels B v l w) (hb : Below B' w w') (hB : w.heap.size ≤ B') : OwnRels B v l w' :=
  World.ownsRow.kept (row := none) h ⟨hb.os, hb.tape, hb.output, hb.size, fun k hk _ => hb.block k (Nat.lt_of_lt_of_le hk hB)⟩ (by
    cases h' : v.ownBlock with
    | none => exact .inl rfl
    | some g => exact .inr (by simp))

theorem OwnRels.empty (w : World) (B : Nat) (hB : B ≤ w.heap.size) : OwnRels B (.slice (some ⟨w.heap.size, 0, none⟩) 0 0) [] (w.alloc (.cells #[] 35)) :=
  World.ownsRow_lit w #[] 0 hB (by decide) rfl
theorem OwnRels.empty_at (w : World) (o : Obj) (B g : Nat) (hg : g = w.heap.size + 1) (hB : B ≤ w.heap.size) : OwnRels B (.slice (some ⟨g, 0, none⟩) 0 0) [] ((w.alloc o).alloc (.cells #[] 35)) := by
  have e : g = (w.alloc o).heap.size := by simp [hg]
  subst e
  exact OwnRels.empty _ _ (by simp; omega)
theorem OwnRels.nil (w : World) (B : Nat) : OwnRels B (.slice none 0 0) [] w := World.ownsRow_nil w B _ _
theorem OwnRels.room (w : World) (c : Nat) (hc : c ≤ 1048577) (B : Nat) (hB : B ≤ w.heap.size) : OwnRels B (.slice (some ⟨w.heap.size, 0, none⟩) 0 c) [] (w.alloc (.cells (madeCells #[.string ByteArray.empty, .int .i64 0, .bool false] (c * 3)) 35)) :=
  World.ownsRow_made w _ c hB (by unfold maxLen; omega) (size_madeCells _ _)
theorem make_relsRoom (w : World) (c : Nat) (hn : c ≤ 1048577) : (Instr.makeSlice 24 (.int .i64 0) (.int .i64 (c : Int))).run Tryd.prog w = .ok (.slice (some ⟨w.heap.size, 0, none⟩) 0 c) (w.alloc (.cells (madeCells #[.string ByteArray.empty, .int .i64 0, .bool false] (c * 3)) 35)) := by
  obtain ⟨i0, hi, hz0, hz1, hz2⟩ := info_parts infoRel
  have hr := run_make (P := Tryd.prog) w 24 35 i0 _ Tryd.underlying24 hi hz0 .i64 .i64 0 (c : Int) (by omega) (by omega) (by rw [hz2]; omega) (by omega)
  simp only [Int.toNat_natCast, hz1] at hr
  exact hr
/-- append(l, r) -/
theorem rels_app1 {ops : Array Oper} {rest : List Oper} {o : Oper} {a : Act} {Q : Exit → Act → World → Prop} {B : Nat} {v : Value} {l : List Rel} {w : World} (hO : OwnRels B v l w)
    (hgd : o.guard = none) (s x : Operand) (ho : o.op = .call { callee := .builtin .append, args := #[s, x], argTypes := #[24, 24] }) (hs : a.eval s = v) (n : ByteArray) (i : Int) (b : Bool) (c bs : Nat) (hx : a.eval x = .slice (some ⟨bs, 0, none⟩) 1 c) (hbs : bs = w.heap.size)
    (hlen : l.length < 1048577) (hbase : B ≤ w.heap.size) (h : ∀ v' w', OwnRels B v' (l ++ [⟨n, i, b⟩]) w' → Below B w w' → w.grownBy w' v.ownBlock → wpList Tryd.prog ops Q rest (a.put o.dst v') w') :
    wpList Tryd.prog ops Q (o :: rest) a (w.alloc (.cells #[.string n, .int .i64 i, .bool b] 35)) :=
  wp_own_app relCells 3 32 (fun x u hu => by simp [relCells] at hu; rcases hu with rfl | rfl | rfl <;> rfl) relCells_len Tryd.underlying24 infoRel rfl (by decide) hO hgd s x ho hs ⟨n, i, b⟩ c (by rw [hx, hbs]) (by omega) (by omega) hbase h

theorem OwnRels.mono {B B' : Nat} {v : Value} {l : List Rel} {w : World} (h : OwnRels B v l w) (hB : B' ≤ B) : OwnRels B' v l w := by
  refine ⟨h.1, ?_⟩
  rcases h.2 with hn | ⟨g, cap, cur, rfl, hb, rest⟩
  · exact .inl hn
  · exact .inr ⟨g, cap, cur, rfl, Nat.le_trans hB hb, rest⟩
theorem OwnRels.lt {B : Nat} {v : Value} {l : List Rel} {w : World} (h : OwnRels B v l w) : ∀ g, v.ownBlock = some g → B ≤ g ∧ g < w.heap.size := World.ownsRow.lt h
theorem OwnRels.chg {S : Nat → Prop} {B : Nat} {v : Value} {l : List Rel} {w w' : World} (h : OwnRels B v l w) (hc : Chg S w w') (hS : ∀ g, v.ownBlock = some g → ¬ S g) : OwnRels B v l w' := hc.row h hS
def RelationS_at (w : World) (B : Nat) (v : Value) (l : List Rel) : Prop := RelsAt w B v l
def RelationS_own (B C : Nat) (v : Value) (l : List Rel) (w : World) : Prop := OwnRels B v l w ∧ Value.inside C v
theorem RelationS_own.of {B : Nat} {v : Value} {l : List Rel} {w : World} (h : OwnRels B v l w) : RelationS_own B w.heap.size v l w := ⟨h, fun g hg => (h.lt g hg).2⟩
theorem RelationS_own.mono {B B' C C' : Nat} {v : Value} {l : List Rel} {w : World} (h : RelationS_own B C v l w) (hB : B' ≤ B) (hC : C ≤ C') : RelationS_own B' C' v l w := ⟨h.1.mono hB, fun g hg => Nat.lt_of_lt_of_le (h.2 g hg) hC⟩
theorem RelationS_at.below {w w' : World} {B B' : Nat} {v : Value} {l : List Rel} (h : RelationS_at w B v l) (hb : Below B' w w') (hB : B ≤ B') : RelationS_at w' B v l := SliceAt.below h hb hB
theorem RelationS_at.more {w : World} {B B' : Nat} {v : Value} {l : List Rel} (h : RelationS_at w B v l) (hB : B ≤ B') : RelationS_at w B' v l := SliceAt.more h hB
theorem RelationS_own.at_ {B C D : Nat} {v : Value} {l : List Rel} {w : World} (h : RelationS_own B C v l w) (hD : C ≤ D) : RelationS_at w D v l := SliceAt.inside h.1.at_ (fun g hg => Nat.lt_of_lt_of_le (h.2 g hg) hD)
theorem RelationS_own.chg {B C B' C' : Nat} {v : Value} {l : List Rel} {w w' : World} (h : RelationS_own B C v l w) (hc : Chg (Mid B' C') w w') (hd : C ≤ B' ∨ C' ≤ B) : RelationS_own B C v l w' :=
  ⟨h.1.chg hc (fun g hg hm => by have h1 := (h.1.lt g hg).1; have h2 := h.2 g hg; have h3 : B' ≤ g := hm.1; have h4 : g < C' := hm.2; omega), h.2⟩
theorem RelationS_own.below {B C D : Nat} {v : Value} {l : List Rel} {w w' : World} (h : RelationS_own B C v l w) (hb : Below D w w') (hD : C ≤ D) : RelationS_own B C v l w' :=
  ⟨h.1.chg (Chg.of_below' hb) (fun g hg hm => by have h2 := h.2 g hg; have h3 : D ≤ g := hm; omega), h.2⟩
def RelationS_wf (l : List Rel) : Prop := RelsWf l
def RelationS_sz (l : List Rel) : Nat := l.length + relsLen l
def RelationS_cnt (l : List Rel) : Nat := 3 * l.length
theorem RelationS_cnt_le (l : List Rel) : RelationS_cnt l ≤ 4 * RelationS_sz l := by unfold RelationS_cnt RelationS_sz; omega

/-- append(l, r...) -/
theorem rels_apps {ops : Array Oper} {rest : List Oper} {o : Oper} {a : Act} {Q : Exit → Act → World → Prop} {B B' : Nat} {v : Value} {l r : List Rel} {w : World} (hO : OwnRels B v l w)
    (hgd : o.guard = none) (s x : Operand) (ho : o.op = .call { callee := .builtin .append, args := #[s, x], argTypes := #[24, 24] }) (hs : a.eval s = v) (A : Option Addr) (m c : Nat) (hx : a.eval x = .slice A m c) (hm : r.length = m) (hr : RelsAt w B' (.slice A r.length c) r) (hA : A = none → c = 0)
    (hlen : l.length + r.length ≤ 2097153) (hbase : B ≤ w.heap.size) (h : ∀ v' w', OwnRels B v' (l ++ r) w' → Below B w w' → w.grownBy w' v.ownBlock → (v'.ownBlock = v.ownBlock ∨ v'.ownBlock = some w.heap.size) → wpList Tryd.prog ops Q rest (a.put o.dst v') w') :
    wpList Tryd.prog ops Q (o :: rest) a w :=
  wp_own_apps relCells 3 32 (fun x u hu => by simp [relCells] at hu; rcases hu with rfl | rfl | rfl <;> rfl) relCells_len Tryd.underlying24 infoRel rfl (by decide) hO hgd s x ho hs A m c hx hm hr hA (by omega) (by omega) hbase h

/-- relation i is valid, and its name stands behind the one ahead of it -/
def okAt (l : List Rel) (i : Nat) : Bool := relOk (l.getD i zeroRel).name (l.getD i zeroRel).arity && (i == 0 || Op.bytesLess (l.getD (i - 1) zeroRel).name.toList (l.getD i zeroRel).name.toList)
def okTo (l : List Rel) (k : Nat) : Bool := (List.range k).all (okAt l)
def validRels (l : List Rel) : Bool := okTo l l.length && decide (l.length ≤ 6)
theorem getD_at {l : List Rel} {i : Nat} (h : i < l.length) : l.getD i zeroRel = l[i] := by simp [List.getD, List.getElem?_eq_getElem h]
theorem okTo_zero (l : List Rel) : okTo l 0 = true := rfl
theorem okTo_succ (l : List Rel) (k : Nat) : okTo l (k + 1) = (okTo l k && okAt l k) := by simp [okTo, List.range_succ, List.all_append]
theorem validRels_no (l : List Rel) (k : Nat) (hk : k < l.length) (h : okAt l k = false) : validRels l = false := by
  have : okTo l l.length = false := by
    unfold okTo
    rw [List.all_eq_false]
    exact ⟨k, List.mem_range.2 hk, by rw [h]; simp⟩
  unfold validRels; rw [this]; rfl
theorem validRels_long (l : List Rel) (h : ¬ l.length ≤ 6) : validRels l = false := by unfold validRels; rw [decide_eq_false h, Bool.and_false]
theorem validRels_yes (l : List Rel) (h : okTo l l.length = true) : validRels l = decide (l.length ≤ 6) := by unfold validRels; rw [h, Bool.true_and]
theorem okAt_bad (l : List Rel) (k : Nat) (h : k < l.length) (h1 : relOk l[k].name l[k].arity = false) : okAt l k = false := by
  unfold okAt; rw [getD_at h, h1]; rfl
theorem okAt_zero (l : List Rel) (h : 0 < l.length) (h1 : relOk l[0].name l[0].arity = true) : okAt l 0 = true := by
  unfold okAt; rw [getD_at h, h1]; rfl
theorem okAt_succ (l : List Rel) (j : Nat) (h : j + 1 < l.length) (h1 : relOk l[j + 1].name l[j + 1].arity = true) : okAt l (j + 1) = Op.bytesLess l[j].name.toList l[j + 1].name.toList := by
  unfold okAt
  rw [getD_at h, Nat.add_sub_cancel, getD_at (show j < l.length by omega), h1]
  simp

/-- the arity that relation r of the schema has -/
def arityAt (l : List Rel) (r : Int) : Int := (l.getD r.toNat zeroRel).arity
theorem arityAt_in {l : List Rel} {r : Int} (h : r.toNat < l.length) : arityAt l r = l[r.toNat].arity := by unfold arityAt; rw [getD_at h]

theorem validRels_at (l : List Rel) (h : validRels l = true) (k : Nat) (hk : k < l.length) : relOk l[k].name l[k].arity = true := by
  unfold validRels okTo at h
  simp only [Bool.and_eq_true, List.all_eq_true] at h
  have := h.1 k (List.mem_range.2 hk)
  unfold okAt at this
  rw [getD_at hk] at this
  simp only [Bool.and_eq_true] at this
  exact this.1
theorem relOk_bd (s : ByteArray) (a : Int) (h : relOk s a = true) : s.size = 1 ∧ 1 ≤ a ∧ a ≤ 3 := by
  unfold relOk inB at h
  simp only [Bool.and_eq_true, decide_eq_true_eq] at h
  refine ⟨?_, h.2⟩
  by_cases h1 : s.size = 1
  · exact h1
  · rw [nameOk_ne s h1] at h; cases h.1

end Go.Proofs.YtakflmaeclneiaaDoor
