/-
  Walks and plain lemmas for the laws of this seat: what single Go functions return, for every argument.
-/
import Derived.Lib.ItoaNum
import Derived.Lib.ItoaLen
import Derived.Test.YtobdijcnfmgidaaGreatBase
import Derived.Test.YtobdijcnfmgidaaGreatTyDepS
namespace Go.Proofs.YtobdijcnfmgidaaGreat
open Go.RowKit

/-- a relation, as the proofs speak of it -/
structure Rel where
  name : ByteArray
  arity : Int
  source : Bool
def relV (r : Rel) : Value := .agg #[.string r.name, .int .i64 r.arity, .bool r.source]
/-- one lower-case letter -/
def nameOk (s : ByteArray) : Bool := match s.data.toList with
  | [c] => decide ((97 : Int) ≤ ((c.toNat : Nat) : Int)) && decide (((c.toNat : Nat) : Int) ≤ 122)
  | _ => false
def relOk (s : ByteArray) (a : Int) : Bool := nameOk s && inB a 1 3
theorem nameOk_one (s : ByteArray) (h : s.size = 1) : nameOk s = (decide ((97 : Int) ≤ ((s[0].toNat : Nat) : Int)) && decide (((s[0].toNat : Nat) : Int) ≤ 122)) := by
  obtain ⟨⟨l⟩⟩ := s
  match l, h with
  | [c], _ => rfl
theorem nameOk_ne (s : ByteArray) (h : s.size ≠ 1) : nameOk s = false := by
  obtain ⟨⟨l⟩⟩ := s
  match l, h with
  | [], _ => rfl
  | _ :: _ :: _, _ => rfl
/-- what is left of a size's allowance -/
def szLeft (left n : Int) : Int := if n ≤ left then left - n else -1
theorem szLeft_yes {left n : Int} (h : n ≤ left) : szLeft left n = left - n := if_pos h
theorem szLeft_no {left n : Int} (h : ¬ n ≤ left) : szLeft left n = -1 := if_neg h

def relCells (r : Rel) : List Value := [.string r.name, .int .i64 r.arity, .bool r.source]
theorem relCells_len (r : Rel) : (relCells r).length = 3 := rfl
abbrev RelsAt (w : World) (B : Nat) (v : Value) (l : List Rel) : Prop := SliceAt relCells w B v l
/-- a slice of relations of the call's own -/
def OwnRels (B : Nat) (v : Value) (l : List Rel) (w : World) : Prop := w.ownsRow B 70 3 v l.length (l.flatMap relCells)
def zeroRel : Rel := ⟨ByteArray.empty, 0, false⟩
theorem OwnRels.at_ {B : Nat} {v : Value} {l : List Rel} {w : World} (h : OwnRels B v l w) : RelsAt w w.heap.size v l := SliceAt.of_own h
theorem RelsAt.cells {w : World} {B b off c : Nat} {l : List Rel} (h : RelsAt w B (.slice (some ⟨b, off, none⟩) l.length c) l) (j : Nat) (hj : j < l.length) :
    w.cell? ⟨b, off + j * 3, none⟩ = some (.string l[j].name) ∧ w.cell? ⟨b, off + j * 3 + 1, none⟩ = some (.int .i64 l[j].arity) ∧ w.cell? ⟨b, off + j * 3 + 2, none⟩ = some (.bool l[j].source) := by
  obtain ⟨A, c', hv, h1, h2, h3⟩ := h
  obtain ⟨b', off', hA, hb, hc⟩ := h3.1 (by omega)
  subst hA
  injection hv with h4 _ _
  injection h4 with h4
  injection h4 with h4 h5 _
  subst h4 h5
  have g (i : Nat) (hi : i < 3) := flat_get relCells 3 relCells_len l j i hj hi
  refine ⟨hc _ _ (g 0 (by omega)), ?_, ?_⟩
  · rw [Nat.add_assoc]; exact hc _ _ (g 1 (by omega))
  · rw [Nat.add_assoc]; exact hc _ _ (g 2 (by omega))
theorem madeCells_rel (n : Nat) : (madeCells #[.string ByteArray.empty, .int .i64 0, .bool false] (n * 3)).toList = (List.replicate n zeroRel).flatMap relCells := by
  apply List.ext_getElem?
  intro i
  by_cases hi : i < n * 3
  · have e : i = i / 3 * 3 + i % 3 := by omega
    have h1 : i / 3 < (List.replicate n zeroRel).length := by simp; omega
    have := flat_get relCells 3 relCells_len (List.replicate n zeroRel) (i / 3) (i % 3) h1 (by omega)
    rw [← e] at this
    rw [this]
    simp only [List.getElem_replicate]
    have h3 : i % 3 = 0 ∨ i % 3 = 1 ∨ i % 3 = 2 := by omega
    rcases h3 with h3 | h3 | h3 <;> simp [madeCells, hi, h3, relCells, zeroRel]
  · rw [List.getElem?_eq_none (by simp [madeCells]; omega), List.getElem?_eq_none]
    rw [flat_len relCells 3 relCells_len]; simp; omega
theorem infoRel : (Tryz.prog.info? 70).map (fun i => (i.zero, i.size, i.bytes)) = some (some (.agg #[.string ByteArray.empty, .int .i64 0, .bool false]), 3, 32) := by kernel_rfl
theorem make_rels (w : World) (n : Nat) (hn : n ≤ 1048576) : (Instr.makeSlice 24 (.int .i64 (n : Int)) (.int .i64 (n : Int))).run Tryz.prog w = .ok (.slice (some ⟨w.heap.size, 0, none⟩) n n) (w.alloc (.cells (madeCells #[.string ByteArray.empty, .int .i64 0, .bool false] (n * 3)) 70)) := by
  obtain ⟨i0, hi, hz0, hz1, hz2⟩ := info_parts infoRel
  have hr := run_make (P := Tryz.prog) w 24 70 i0 _ Tryz.underlying24 hi hz0 .i64 .i64 (n : Int) (n : Int) (by omega) (by omega) (by rw [hz2]; omega) (by omega)
  simp only [Int.toNat_natCast, hz1] at hr
  exact hr
theorem OwnRels.made (w : World) (n : Nat) (hn : n ≤ 1048576) (B : Nat) (hB : B ≤ w.heap.size) : OwnRels B (.slice (some ⟨w.heap.size, 0, none⟩) n n) (List.replicate n zeroRel) (w.alloc (.cells (madeCells #[.string ByteArray.empty, .int .i64 0, .bool false] (n * 3)) 70)) := by
  unfold OwnRels
  rw [← madeCells_rel, List.length_replicate]
  exact World.ownsRow_lit w _ n hB (by unfold maxLen; omega) (size_madeCells _ _)
theorem OwnRels.set {B g n cap : Nat} {l : List Rel} {w : World} (h : OwnRels B (.slice (some ⟨g, 0, none⟩) n cap) l w) (hn : l.length = n) (j : Nat) (hj : j < n) (r : Rel) :
    OwnRels B (.slice (some ⟨g, 0, none⟩) n cap) (l.set j r) (((w.setCell ⟨g, j * 3, none⟩ (.string r.name)).setCell ⟨g, j * 3 + 1, none⟩ (.int .i64 r.arity)).setCell ⟨g, j * 3 + 2, none⟩ (.bool r.source)) := by
  subst hn
  have h1 := (World.ownsRow.stored h (j * 3) (.string r.name)).1
  have h2 := (World.ownsRow.stored h1 (j * 3 + 1) (.int .i64 r.arity)).1
  have h3 := (World.ownsRow.stored h2 (j * 3 + 2) (.bool r.source)).1
  unfold OwnRels
  rw [List.length_set, ← flat_set relCells 3 relCells_len l j hj r]
  exact h3
theorem RelsAt.elem {w : World} {B c : Nat} {A : Option Addr} {l : List Rel} (h : RelsAt w B (.slice A l.length c) l) (j : Nat) (hj : j < l.length) :
    ∃ b off, A = some ⟨b, off, none⟩ ∧ b < B ∧ w.cell? ⟨b, off + j * 3, none⟩ = some (.string l[j].name) ∧ w.cell? ⟨b, off + j * 3 + 1, none⟩ = some (.int .i64 l[j].arity) ∧ w.cell? ⟨b, off + j * 3 + 2, none⟩ = some (.bool l[j].source) := by
  have h' := h
  obtain ⟨A', c', hv, h1, h2, h3⟩ := h
  obtain ⟨b, off, hA, hb, hc⟩ := h3.1 (by omega)
  subst hA
  injection hv with h4 _ _
  subst h4
  exact ⟨b, off, rfl, hb, RelsAt.cells h' j hj⟩
/-- the letters of all names -/
def relsLen : List Rel → Nat
  | [] => 0
  | r :: t => r.name.size + relsLen t
theorem relsLen_append (l m : List Rel) : relsLen (l ++ m) = relsLen l + relsLen m := by
  induction l with
  | nil => simp [relsLen]
  | cons a t ih => simp only [List.cons_append, relsLen, ih]; omega
theorem relsLen_take (l : List Rel) (k : Nat) (h : k < l.length) : relsLen (l.take (k + 1)) = relsLen (l.take k) + l[k].name.size := by
  rw [List.take_succ_eq_append_getElem h, relsLen_append]; simp [relsLen]
theorem relsLen_le (l : List Rel) (k : Nat) : relsLen (l.take k) ≤ relsLen l := by
  have := relsLen_append (l.take k) (l.drop k)
  rw [List.take_append_drop] at this; omega
/-- every name of l is as long as a string can be -/
def RelsWf (l : List Rel) : Prop := ∀ (i : Nat) (h : i < l.length), l[i].name.size ≤ maxLen
theorem OwnRels.cells {B g n cap : Nat} {l : List Rel} {w : World} (h : OwnRels B (.slice (some ⟨g, 0, none⟩) n cap) l w) (hn : l.length = n) (j : Nat) (hj : j < l.length) :
    w.cell? ⟨g, j * 3, none⟩ = some (.string l[j].name) ∧ w.cell? ⟨g, j * 3 + 1, none⟩ = some (.int .i64 l[j].arity) ∧ w.cell? ⟨g, j * 3 + 2, none⟩ = some (.bool l[j].source) := by
  subst hn
  have g (i : Nat) (hi : i < 3) := (World.ownsRow.cellAt h (j * 3 + i) (by omega)).trans (flat_get relCells 3 relCells_len l j i hj hi)
  exact ⟨g 0 (by omega), g 1 (by omega), g 2 (by omega)⟩
theorem OwnRels.frozen {B g n cap : Nat} {l : List Rel} {w : World} (h : OwnRels B (.slice (some ⟨g, 0, none⟩) n cap) l w) (hn : l.length = n) (j : Nat) : w.frozen? ⟨g, j, none⟩ = false := by
  subst hn; exact World.ownsRow.frozenAt h j
theorem OwnRels.below {B B' : Nat} {v : Value} {l : List Rel} {w w' : World} (h : OwnRels B v l w) (hb : Below B' w w') (hB : w.heap.size ≤ B') : OwnRels B v l w' :=
  World.ownsRow.kept (row := none) h ⟨hb.os, hb.tape, hb.output, hb.size, fun k hk _ => hb.block k (Nat.lt_of_lt_of_le hk hB)⟩ (by
    cases h' : v.ownBlock with
    | none => exact .inl rfl
    | some g => exact .inr (by simp))

theorem OwnRels.empty (w : World) (B : Nat) (hB : B ≤ w.heap.size) : OwnRels B (.slice (some ⟨w.heap.size, 0, none⟩) 0 0) [] (w.alloc (.cells #[] 70)) :=
  World.ownsRow_lit w #[] 0 hB (by decide) rfl
theorem OwnRels.empty_at (w : World) (o : Obj) (B g : Nat) (hg : g = w.heap.size + 1) (hB : B ≤ w.heap.size) : OwnRels B (.slice (some ⟨g, 0, none⟩) 0 0) [] ((w.alloc o).alloc (.cells #[] 70)) := by
  have e : g = (w.alloc o).heap.size := by simp [hg]
  subst e
  exact OwnRels.empty _ _ (by simp; omega)
theorem OwnRels.nil (w : World) (B : Nat) : OwnRels B (.slice none 0 0) [] w := World.ownsRow_nil w B _ _
theorem OwnRels.room (w : World) (c : Nat) (hc : c ≤ 1048577) (B : Nat) (hB : B ≤ w.heap.size) : OwnRels B (.slice (some ⟨w.heap.size, 0, none⟩) 0 c) [] (w.alloc (.cells (madeCells #[.string ByteArray.empty, .int .i64 0, .bool false] (c * 3)) 70)) :=
  World.ownsRow_made w _ c hB (by unfold maxLen; omega) (size_madeCells _ _)
theorem make_relsRoom (w : World) (c : Nat) (hn : c ≤ 1048577) : (Instr.makeSlice 24 (.int .i64 0) (.int .i64 (c : Int))).run Tryz.prog w = .ok (.slice (some ⟨w.heap.size, 0, none⟩) 0 c) (w.alloc (.cells (madeCells #[.string ByteArray.empty, .int .i64 0, .bool false] (c * 3)) 70)) := by
  obtain ⟨i0, hi, hz0, hz1, hz2⟩ := info_parts infoRel
  have hr := run_make (P := Tryz.prog) w 24 70 i0 _ Tryz.underlying24 hi hz0 .i64 .i64 0 (c : Int) (by omega) (by omega) (by rw [hz2]; omega) (by omega)
  simp only [Int.toNat_natCast, hz1] at hr
  exact hr
/-- append(l, r) -/
theorem rels_app1 {ops : Array Oper} {rest : List Oper} {o : Oper} {a : Act} {Q : Exit → Act → World → Prop} {B : Nat} {v : Value} {l : List Rel} {w : World} (hO : OwnRels B v l w)
    (hgd : o.guard = none) (s x : Operand) (ho : o.op = .call { callee := .builtin .append, args := #[s, x], argTypes := #[24, 24] }) (hs : a.eval s = v) (n : ByteArray) (i : Int) (b : Bool) (c bs : Nat) (hx : a.eval x = .slice (some ⟨bs, 0, none⟩) 1 c) (hbs : bs = w.heap.size)
    (hlen : l.length < 1048577) (hbase : B ≤ w.heap.size) (h : ∀ v' w', OwnRels B v' (l ++ [⟨n, i, b⟩]) w' → Below B w w' → w.grownBy w' v.ownBlock → wpList Tryz.prog ops Q rest (a.put o.dst v') w') :
    wpList Tryz.prog ops Q (o :: rest) a (w.alloc (.cells #[.string n, .int .i64 i, .bool b] 70)) :=
  wp_own_app relCells 3 32 (fun x u hu => by simp [relCells] at hu; rcases hu with rfl | rfl | rfl <;> rfl) relCells_len Tryz.underlying24 infoRel rfl (by decide) hO hgd s x ho hs ⟨n, i, b⟩ c (by rw [hx, hbs]) (by omega) (by omega) hbase h

theorem OwnRels.mono {B B' : Nat} {v : Value} {l : List Rel} {w : World} (h : OwnRels B v l w) (hB : B' ≤ B) : OwnRels B' v l w := by
  refine ⟨h.1, ?_⟩
  rcases h.2 with hn | ⟨g, cap, cur, rfl, hb, rest⟩
  · exact .inl hn
  · exact .inr ⟨g, cap, cur, rfl, Nat.le_trans hB hb, rest⟩
theorem OwnRels.lt {B : Nat} {v : Value} {l : List Rel} {w : World} (h : OwnRels B v l w) : ∀ g, v.ownBlock = some g → B ≤ g ∧ g < w.heap.size := World.ownsRow.lt h
theorem OwnRels.chg {S : Nat → Prop} {B : Nat} {v : Value} {l : List Rel} {w w' : World} (h : OwnRels B v l w) (hc : Chg S w w') (hS : ∀ g, v.ownBlock = some g → ¬ S g) : OwnRels B v l w' := hc.row h hS
def RelationS_at (w : World) (B : Nat) (v : Value) (l : List Rel) : Prop := RelsAt w B v l
def RelationS_own (B C : Nat) (v : Value) (l : List Rel) (w : World) : Prop := OwnRels B v l w ∧ Value.inside C v
theorem RelationS_own.of {B : Nat} {v : Value} {l : List Rel} {w : World} (h : OwnRels B v l w) : RelationS_own B w.heap.size v l w := ⟨h, fun g hg => (h.lt g hg).2⟩
theorem RelationS_own.mono {B B' C C' : Nat} {v : Value} {l : List Rel} {w : World} (h : RelationS_own B C v l w) (hB : B' ≤ B) (hC : C ≤ C') : RelationS_own B' C' v l w := ⟨h.1.mono hB, fun g hg => Nat.lt_of_lt_of_le (h.2 g hg) hC⟩
theorem RelationS_at.below {w w' : World} {B B' : Nat} {v : Value} {l : List Rel} (h : RelationS_at w B v l) (hb : Below B' w w') (hB : B ≤ B') : RelationS_at w' B v l := SliceAt.below h hb hB
theorem RelationS_at.more {w : World} {B B' : Nat} {v : Value} {l : List Rel} (h : RelationS_at w B v l) (hB : B ≤ B') : RelationS_at w B' v l := SliceAt.more h hB
theorem RelationS_own.at_ {B C D : Nat} {v : Value} {l : List Rel} {w : World} (h : RelationS_own B C v l w) (hD : C ≤ D) : RelationS_at w D v l := SliceAt.inside h.1.at_ (fun g hg => Nat.lt_of_lt_of_le (h.2 g hg) hD)
theorem RelationS_own.chg {B C B' C' : Nat} {v : Value} {l : List Rel} {w w' : World} (h : RelationS_own B C v l w) (hc : Chg (Mid B' C') w w') (hd : C ≤ B' ∨ C' ≤ B) : RelationS_own B C v l w' :=
  ⟨h.1.chg hc (fun g hg hm => by have h1 := (h.1.lt g hg).1; have h2 := h.2 g hg; have h3 : B' ≤ g := hm.1; have h4 : g < C' := hm.2; omega), h.2⟩
theorem RelationS_own.below {B C D : Nat} {v : Value} {l : List Rel} {w w' : World} (h : RelationS_own B C v l w) (hb : Below D w w') (hD : C ≤ D) : RelationS_own B C v l w' :=
  ⟨h.1.chg (Chg.of_below' hb) (fun g hg hm => by have h2 := h.2 g hg; have h3 : D ≤ g := hm; omega), h.2⟩
def RelationS_wf (l : List Rel) : Prop := RelsWf l
def RelationS_sz (l : List Rel) : Nat := l.length + relsLen l
def RelationS_cnt (l : List Rel) : Nat := 3 * l.length
theorem RelationS_cnt_le (l : List Rel) : RelationS_cnt l ≤ 4 * RelationS_sz l := by unfold RelationS_cnt RelationS_sz; omega

/-- relation i is valid, and its name stands behind the one ahead of it -/
def okAt (l : List Rel) (i : Nat) : Bool := relOk (l.getD i zeroRel).name (l.getD i zeroRel).arity && (i == 0 || Op.bytesLess (l.getD (i - 1) zeroRel).name.toList (l.getD i zeroRel).name.toList)
def okTo (l : List Rel) (k : Nat) : Bool := (List.range k).all (okAt l)
def validRels (l : List Rel) : Bool := okTo l l.length && decide (l.length ≤ 6)
theorem getD_at {l : List Rel} {i : Nat} (h : i < l.length) : l.getD i zeroRel = l[i] := by simp [List.getD, List.getElem?_eq_getElem h]
theorem okTo_zero (l : List Rel) : okTo l 0 = true := rfl
theorem okTo_succ (l : List Rel) (k : Nat) : okTo l (k + 1) = (okTo l k && okAt l k) := by simp [okTo, List.range_succ, List.all_append]
theorem validRels_no (l : List Rel) (k : Nat) (hk : k < l.length) (h : okAt l k = false) : validRels l = false := by
  have : okTo l l.length = false := by
    unfold okTo
    rw [List.all_eq_false]
    exact ⟨k, List.mem_range.2 hk, by rw [h]; simp⟩
  unfold validRels; rw [this]; rfl
theorem validRels_long (l : List Rel) (h : ¬ l.length ≤ 6) : validRels l = false := by unfold validRels; rw [decide_eq_false h, Bool.and_false]
theorem validRels_yes (l : List Rel) (h : okTo l l.length = true) : validRels l = decide (l.length ≤ 6) := by unfold validRels; rw [h, Bool.true_and]
theorem okAt_bad (l : List Rel) (k : Nat) (h : k < l.length) (h1 : relOk l[k].name l[k].arity = false) : okAt l k = false := by
  unfold okAt; rw [getD_at h, h1]; rfl
theorem okAt_zero (l : List Rel) (h : 0 < l.length) (h1 : relOk l[0].name l[0].arity = true) : okAt l 0 = true := by
  unfold okAt; rw [getD_at h, h1]; rfl
theorem okAt_succ (l : List Rel) (j : Nat) (h : j + 1 < l.length) (h1 : relOk l[j + 1].name l[j + 1].arity = true) : okAt l (j + 1) = Op.bytesLess l[j].name.toList l[j + 1].name.toList := by
  unfold okAt
  rw [getD_at h, Nat.add_sub_cancel, getD_at (show j < l.length by omega), h1]
  simp

theorem validRels_at (l : List Rel) (h : validRels l = true) (k : Nat) (hk : k < l.length) : relOk l[k].name l[k].arity = true := by
  unfold validRels okTo at h
  simp only [Bool.and_eq_true, List.all_eq_true] at h
  have := h.1 k (List.mem_range.2 hk)
  unfold okAt at this
  rw [getD_at hk] at this
  simp only [Bool.and_eq_true] at this
  exact this.1
theorem relOk_bd (s : ByteArray) (a : Int) (h : relOk s a = true) : s.size = 1 ∧ 1 ≤ a ∧ a ≤ 3 := by
  unfold relOk inB at h
  simp only [Bool.and_eq_true, decide_eq_true_eq] at h
  refine ⟨?_, h.2⟩
  by_cases h1 : s.size = 1
  · exact h1
  · rw [nameOk_ne s h1] at h; cases h.1

/-- append(l, r...) -/
theorem rels_apps {ops : Array Oper} {rest : List Oper} {o : Oper} {a : Act} {Q : Exit → Act → World → Prop} {B B' : Nat} {v : Value} {l r : List Rel} {w : World} (hO : OwnRels B v l w)
    (hgd : o.guard = none) (s x : Operand) (ho : o.op = .call { callee := .builtin .append, args := #[s, x], argTypes := #[24, 24] }) (hs : a.eval s = v) (A : Option Addr) (m c : Nat) (hx : a.eval x = .slice A m c) (hm : r.length = m) (hr : RelsAt w B' (.slice A r.length c) r) (hA : A = none → c = 0)
    (hlen : l.length + r.length ≤ 2097153) (hbase : B ≤ w.heap.size) (h : ∀ v' w', OwnRels B v' (l ++ r) w' → Below B w w' → w.grownBy w' v.ownBlock → (v'.ownBlock = v.ownBlock ∨ v'.ownBlock = some w.heap.size) → wpList Tryz.prog ops Q rest (a.put o.dst v') w') :
    wpList Tryz.prog ops Q (o :: rest) a w :=
  wp_own_apps relCells 3 32 (fun x u hu => by simp [relCells] at hu; rcases hu with rfl | rfl | rfl <;> rfl) relCells_len Tryz.underlying24 infoRel rfl (by decide) hO hgd s x ho hs A m c hx hm hr hA (by omega) (by omega) hbase h

theorem take_eq_next {α : Type} (l m : List α) (k : Nat) (h : k < l.length) (h' : k < m.length) (he : l[k] = m[k]) (ht : l.take k = m.take k) : l.take (k + 1) = m.take (k + 1) := by
  rw [List.take_succ_eq_append_getElem h, List.take_succ_eq_append_getElem h', ht, he]
theorem take_eq_not {α : Type} (l m : List α) (k : Nat) (h : k < l.length) (h' : k < m.length) (he : ¬ l[k] = m[k]) : ¬ l = m := by
  rintro rfl; exact he rfl
instance : DecidableEq Rel := fun a b => by
  cases a; cases b; rw [Rel.mk.injEq]; exact inferInstance

/-- the digits of m, none for 0 -/
def dd (m : Nat) : List UInt8 := if m = 0 then [] else Lib.decDigits m
theorem decDigits_rec (u : Nat) : Lib.decDigits u = if u < 10 then [UInt8.ofNat (48 + u)] else Lib.decDigits (u / 10) ++ [UInt8.ofNat (48 + u % 10)] := by
  rw [Lib.decDigits]; split <;> rfl
theorem dd_step (m : Nat) (h : 0 < m) : dd m = dd (m / 10) ++ [byteI (48 + (m : Int) % 10)] := by
  have hb : byteI (48 + (m : Int) % 10) = UInt8.ofNat (48 + m % 10) := by unfold byteI; rw [show (48 + (m : Int) % 10).toNat = 48 + m % 10 by omega]
  rw [hb]
  unfold dd
  rw [if_neg (by omega), decDigits_rec]
  by_cases h1 : m < 10
  · rw [if_pos h1, if_pos (by omega), Nat.mod_eq_of_lt h1]; rfl
  · rw [if_neg h1, if_neg (by omega)]
/-- what a round of the digits' loop keeps -/
def DigInv (n m : Nat) (o : ByteArray) : Prop := (∃ l : List UInt8, o = ⟨l.toArray⟩ ∧ dd m ++ l = Lib.decDigits n) ∧ o.size ≤ 20
theorem dd_len (n : Nat) (h : n ≤ 9223372036854775808) : (Lib.decDigits n).length ≤ 20 := by
  rw [Lib.decDigits_length]; exact Lib.nDigits_le20 n (by omega)
theorem DigInv.zero (n : Nat) (h : 0 < n) : DigInv n n ⟨#[]⟩ := ⟨⟨[], rfl, by unfold dd; rw [if_neg (by omega), List.append_nil]⟩, by decide⟩
theorem DigInv.step {n m : Nat} {o : ByteArray} (h : DigInv n m o) (hm : 0 < m) (hn : n ≤ 9223372036854775808) : DigInv n (m / 10) ((⟨#[byteI (48 + (m : Int) % 10)]⟩ : ByteArray) ++ o) := by
  obtain ⟨⟨l, rfl, h1⟩, h2⟩ := h
  rw [strOne _ _ l rfl]
  rw [dd_step m hm, List.append_assoc, List.singleton_append] at h1
  refine ⟨⟨_, rfl, h1⟩, ?_⟩
  have := congrArg List.length h1
  have := dd_len n hn
  simp only [List.length_append] at *
  show (byteI (48 + (m : Int) % 10) :: l).toArray.size ≤ 20
  rw [List.size_toArray]; omega
theorem DigInv.done {n : Nat} {o : ByteArray} (h : DigInv n 0 o) : o = ⟨(Lib.decDigits n).toArray⟩ := by
  obtain ⟨⟨l, rfl, h1⟩, _⟩ := h
  have : l = Lib.decDigits n := by simpa [dd] using h1
  rw [this]
theorem itoa_pos (n : Nat) : Lib.itoa (n : Int) = Lib.decDigits n := by unfold Lib.itoa; rw [if_neg (by omega)]; simp
theorem itoa_negN (n : Nat) (h : 0 < n) : Lib.itoa (-(n : Int)) = 45 :: Lib.decDigits n := by unfold Lib.itoa; rw [if_pos (by omega)]; simp

theorem make_deps (w : World) (n : Nat) (hn : n ≤ 1048576) : (Instr.makeSlice 28 (.int .i64 (n : Int)) (.int .i64 (n : Int))).run Tryz.prog w = .ok (.slice (some ⟨w.heap.size, 0, none⟩) n n) (w.alloc (.cells (madeCells #[.slice none 0 0, .slice none 0 0, .bool false, .int .i64 0, .int .i64 0] (n * 5)) 42)) := by
  obtain ⟨i0, hi, hz0, hz1, hz2⟩ := info_parts infoDep
  have hr := run_make (P := Tryz.prog) w 28 42 i0 _ Tryz.underlying28 hi hz0 .i64 .i64 (n : Int) (n : Int) (by omega) (by omega) (by rw [hz2]; omega) (by omega)
  simp only [Int.toNat_natCast, hz1] at hr
  exact hr

/-- the null's number of a value -/
def nullNum (v : Int) : Int × Bool := if -40 ≤ v ∧ v < 0 then (-1 - v, true) else (0, false)
def validV (v : Int) : Bool := decide (-40 ≤ v ∧ v ≤ 9)
theorem nullNum_yes (v : Int) (h : -40 ≤ v ∧ v < 0) : nullNum v = (-1 - v, true) := if_pos h
theorem nullNum_no (v : Int) (h : ¬(-40 ≤ v ∧ v < 0)) : nullNum v = (0, false) := if_neg h
theorem nullNum_bd (v : Int) : 0 ≤ (nullNum v).1 ∧ (nullNum v).1 < 40 := by
  unfold nullNum; split <;> simp <;> omega
theorem inB_true {x lo hi : Int} (h : lo ≤ x ∧ x ≤ hi) : inB x lo hi = true := by unfold inB; exact decide_eq_true h
theorem inB_false {x lo hi : Int} (h : ¬(lo ≤ x ∧ x ≤ hi)) : inB x lo hi = false := by unfold inB; exact decide_eq_false h
theorem ret_pair {a b : Int} {c d : Bool} (h : (a, c) = (b, d)) : Ending.returned (.tuple #[.int .i64 a, .bool c]) = .returned (.tuple #[.int .i64 b, .bool d]) := by injection h with h h'; rw [h, h']

set_option maxHeartbeats 400000 in
theorem l1In_any (x lo hi : Int) (w : World) :
    Calls Tryz.prog 74 #[.int .i64 x, .int .i64 lo, .int .i64 hi] w fun e w' => e = .returned (.bool (inB x lo hi)) ∧ w = w' := by
  by_cases h1 : lo ≤ x
  all_goals
    go_enter Tryz.func74, Tryz.ntmps74
    go_wp2
    go_ret
    simp [inB]
    first | omega | skip
theorem l1In_at (x lo hi : Int) (b : Bool) (h : inB x lo hi = b) (w : World) : Calls Tryz.prog 74 #[.int .i64 x, .int .i64 lo, .int .i64 hi] w fun e w' => e = .returned (.bool b) ∧ w = w' := by
  subst h; exact l1In_any x lo hi w

set_option maxHeartbeats 400000 in
theorem specNullNumber_any (v : Int) (w : World) (h0 : -9223372036854775808 ≤ v) (h1 : v ≤ 9223372036854775807) :
    Calls Tryz.prog 77 #[.int .i64 v] w fun e w' => e = .returned (.tuple #[.int .i64 (nullNum v).1, .bool (nullNum v).2]) ∧ w = w' := by
  by_cases hv : 0 ≤ v
  · rw [nullNum_no v (by omega)]
    go_enter Tryz.func77, Tryz.ntmps77
    go_wp2
    go_ret2
    exact ⟨rfl, rfl⟩
  · by_cases h : -40 ≤ v
    · have hi : inB (-1 - v) 0 39 = true := inB_true (by omega)
      rw [nullNum_yes v (by omega)]
      go_enter Tryz.func77, Tryz.ntmps77
      go_wp2_with (go_at_call 74; refine (l1In_any _ _ _ _).mono ?_; rintro e w' ⟨rfl, rfl⟩)
      go_ret2
      exact ⟨rfl, rfl⟩
    · have hi : inB (-1 - v) 0 39 = false := inB_false (by omega)
      rw [nullNum_no v (by omega)]
      go_enter Tryz.func77, Tryz.ntmps77
      go_wp2_with (go_at_call 74; refine (l1In_any _ _ _ _).mono ?_; rintro e w' ⟨rfl, rfl⟩)
      go_ret2
      exact ⟨rfl, rfl⟩

set_option maxHeartbeats 400000 in
theorem specIsValidValue_any (v : Int) (w : World) (h0 : -9223372036854775808 ≤ v) (h1 : v ≤ 9223372036854775807) :
    Calls Tryz.prog 75 #[.int .i64 v] w fun e w' => e = .returned (.bool (validV v)) ∧ w = w' := by
  by_cases h : -40 ≤ v ∧ v < 0
  · have hr : (nullNum v).2 = true := by rw [nullNum_yes v h]
    have HV := Lib.hid (show validV v = true from decide_eq_true (by omega))
    go_enter Tryz.func75, Tryz.ntmps75
    go_wp2_with (first | (go_at_call 77; refine (specNullNumber_any _ _ h0 h1).mono ?_; rintro e w' ⟨rfl, rfl⟩) | (go_at_call 74; refine (l1In_any _ _ _ _).mono ?_; rintro e w' ⟨rfl, rfl⟩))
    go_ret
    exact ⟨ret_bool HV.out.symm, rfl⟩
  · have hr : (nullNum v).2 = false := by rw [nullNum_no v h]
    have HV := Lib.hid (show inB v 0 9 = validV v by unfold inB validV; rw [decide_eq_decide]; omega)
    go_enter Tryz.func75, Tryz.ntmps75
    go_wp2_with (first | (go_at_call 77; refine (specNullNumber_any _ _ h0 h1).mono ?_; rintro e w' ⟨rfl, rfl⟩) | (go_at_call 74; refine (l1In_any _ _ _ _).mono ?_; rintro e w' ⟨rfl, rfl⟩))
    go_ret
    exact ⟨ret_bool HV.out, rfl⟩

theorem specIsValidValue_at (v : Int) (b : Bool) (h : validV v = b) (w : World) (h0 : -9223372036854775808 ≤ v) (h1 : v ≤ 9223372036854775807) :
    Calls Tryz.prog 75 #[.int .i64 v] w fun e w' => e = .returned (.bool b) ∧ w = w' := by
  subst h; exact specIsValidValue_any v w h0 h1

set_option maxHeartbeats 400000 in
theorem implIsNull_any (v : Int) (w : World) :
    Calls Tryz.prog 129 #[.int .i64 v] w fun e w' => e = .returned (.bool (decide (v < 0))) ∧ w = w' := by
  go_enter Tryz.func129, Tryz.ntmps129
  go_wp2
  go_ret
  exact ⟨rfl, rfl⟩

set_option maxHeartbeats 400000 in
theorem implNullValue_any (k : Int) (w : World) (h0 : -9223372036854775808 ≤ k) (h1 : k ≤ 9223372036854775807) :
    Calls Tryz.prog 173 #[.int .i64 k] w fun e w' => e = .returned (.int .i64 (-1 - k)) ∧ w = w' := by
  go_enter Tryz.func173, Tryz.ntmps173
  go_wp2
  go_ret
  exact ⟨rfl, rfl⟩

set_option maxHeartbeats 400000 in
theorem implIsNullNumber_any (k : Int) (w : World) :
    Calls Tryz.prog 174 #[.int .i64 k] w fun e w' => e = .returned (.bool (inB k 0 39)) ∧ w = w' := by
  by_cases h : 0 ≤ k
  · have HV := Lib.hid (show decide (k < 40) = inB k 0 39 by unfold inB; rw [decide_eq_decide]; omega)
    have hd : decide (0 ≤ k) = true := decide_eq_true h
    go_enter Tryz.func174, Tryz.ntmps174
    go_wp2
    go_ret
    exact ⟨ret_bool HV.out, rfl⟩
  · have HV := Lib.hid (show false = inB k 0 39 from (inB_false (by omega)).symm)
    have hd : decide (0 ≤ k) = false := decide_eq_false h
    go_enter Tryz.func174, Tryz.ntmps174
    go_wp2
    go_ret
    exact ⟨ret_bool HV.out, rfl⟩
theorem implIsNullNumber_at (k : Int) (b : Bool) (h : inB k 0 39 = b) (w : World) :
    Calls Tryz.prog 174 #[.int .i64 k] w fun e w' => e = .returned (.bool b) ∧ w = w' := by
  subst h; exact implIsNullNumber_any k w

set_option maxHeartbeats 400000 in
theorem implNullNumber_any (v : Int) (w : World) (h0 : -9223372036854775808 ≤ v) (h1 : v ≤ 9223372036854775807) :
    Calls Tryz.prog 169 #[.int .i64 v] w fun e w' => e = .returned (.tuple #[.int .i64 (nullNum v).1, .bool (nullNum v).2]) ∧ w = w' := by
  by_cases h : -40 ≤ v ∧ v < 0
  · rw [nullNum_yes v h]
    have hc := fun W => implIsNullNumber_at (-1 - v) true (inB_true (by omega)) W
    obtain ⟨ha, hb⟩ := h
    go_enter Tryz.func169, Tryz.ntmps169
    go_wp2_with (first | (go_at_call 173; refine (implNullValue_any _ _ h0 h1).mono ?_; rintro e w' ⟨rfl, rfl⟩) | (go_at_call 174; refine (hc _).mono ?_; rintro e w' ⟨rfl, rfl⟩))
    go_ret2
    exact ⟨rfl, rfl⟩
  · rw [nullNum_no v h]
    have hc := fun W => implIsNullNumber_at (-1 - v) false (inB_false (by omega)) W
    go_enter Tryz.func169, Tryz.ntmps169
    go_wp2_with (first | (go_at_call 173; refine (implNullValue_any _ _ h0 h1).mono ?_; rintro e w' ⟨rfl, rfl⟩) | (go_at_call 174; refine (hc _).mono ?_; rintro e w' ⟨rfl, rfl⟩))
    go_ret2
    exact ⟨rfl, rfl⟩

set_option maxHeartbeats 400000 in
theorem implIsValidValue_any (v : Int) (w : World) (h0 : -9223372036854775808 ≤ v) (h1 : v ≤ 9223372036854775807) :
    Calls Tryz.prog 157 #[.int .i64 v] w fun e w' => e = .returned (.bool (validV v)) ∧ w = w' := by
  by_cases h : v < 0
  · have HV := Lib.hid (show (nullNum v).2 = validV v by
      unfold validV nullNum
      split
      · exact (decide_eq_true (by omega)).symm
      · exact (decide_eq_false (by omega)).symm)
    have hd : decide (v < 0) = true := decide_eq_true h
    go_enter Tryz.func157, Tryz.ntmps157
    go_wp2_with (first | (go_at_call 129; refine (implIsNull_any _ _).mono ?_; rintro e w' ⟨rfl, rfl⟩) | (go_at_call 169; refine (implNullNumber_any _ _ h0 h1).mono ?_; rintro e w' ⟨rfl, rfl⟩))
    go_ret
    exact ⟨ret_bool HV.out, rfl⟩
  · have HV := Lib.hid (show decide (v ≤ 9) = validV v by unfold validV; rw [decide_eq_decide]; omega)
    have hd : decide (v < 0) = false := decide_eq_false h
    go_enter Tryz.func157, Tryz.ntmps157
    go_wp2_with (first | (go_at_call 129; refine (implIsNull_any _ _).mono ?_; rintro e w' ⟨rfl, rfl⟩) | (go_at_call 169; refine (implNullNumber_any _ _ h0 h1).mono ?_; rintro e w' ⟨rfl, rfl⟩))
    go_ret
    exact ⟨ret_bool HV.out, rfl⟩

theorem implIsValidValue_at (v : Int) (b : Bool) (h : validV v = b) (w : World) (h0 : -9223372036854775808 ≤ v) (h1 : v ≤ 9223372036854775807) :
    Calls Tryz.prog 157 #[.int .i64 v] w fun e w' => e = .returned (.bool b) ∧ w = w' := by
  subst h; exact implIsValidValue_any v w h0 h1

end Go.Proofs.YtobdijcnfmgidaaGreat
