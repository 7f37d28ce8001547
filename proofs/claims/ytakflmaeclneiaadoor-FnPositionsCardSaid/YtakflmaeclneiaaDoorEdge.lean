/-
  Walks and plain lemmas for the laws of this seat: what single Go functions return, for every argument.
-/
import Derived.Test.YtakflmaeclneiaaDoorMem
namespace Go.Proofs.YtakflmaeclneiaaDoor
open Go.RowKit

/-- an edge of the position graph, as the proofs speak of it -/
structure Edg where
  src : Int
  dst : Int
  spec : Bool
instance : DecidableEq Edg := fun a b => by
  cases a; cases b; rw [Edg.mk.injEq]; exact inferInstance
def edgCells (r : Edg) : List Value := [.int .i64 r.src, .int .i64 r.dst, .bool r.spec]
theorem edgCells_len (r : Edg) : (edgCells r).length = 3 := rfl
abbrev EdgsAt (w : World) (B : Nat) (v : Value) (l : List Edg) : Prop := SliceAt edgCells w B v l
/-- a slice of edges of the call's own -/
def OwnEdgs (B : Nat) (v : Value) (l : List Edg) (w : World) : Prop := w.ownsRow B 38 3 v l.length (l.flatMap edgCells)
def zeroEdg : Edg := ⟨0, 0, false⟩
instance : Inhabited Edg := ⟨zeroEdg⟩
theorem OwnEdgs.at_ {B : Nat} {v : Value} {l : List Edg} {w : World} (h : OwnEdgs B v l w) : EdgsAt w w.heap.size v l := SliceAt.of_own h
theorem EdgsAt.cells {w : World} {B b off c : Nat} {l : List Edg} (h : EdgsAt w B (.slice (some ⟨b, off, none⟩) l.length c) l) (j : Nat) (hj : j < l.length) :
    w.cell? ⟨b, off + j * 3, none⟩ = some (.int .i64 l[j].src) ∧ w.cell? ⟨b, off + j * 3 + 1, none⟩ = some (.int .i64 l[j].dst) ∧ w.cell? ⟨b, off + j * 3 + 2, none⟩ = some (.bool l[j].spec) := by
  obtain ⟨A, c', hv, h1, h2, h3⟩ := h
  obtain ⟨b', off', hA, hb, hc⟩ := h3.1 (by omega)
  subst hA
  injection hv with h4 _ _
  injection h4 with h4
  injection h4 with h4 h5 _
  subst h4 h5
  have g (i : Nat) (hi : i < 3) := flat_get edgCells 3 edgCells_len l j i hj hi
  refine ⟨hc _ _ (g 0 (by omega)), ?_, ?_⟩
  · rw [Nat.add_assoc]; exact hc _ _ (g 1 (by omega))
  · rw [Nat.add_assoc]; exact hc _ _ (g 2 (by omega))
theorem madeCells_edg (n : Nat) : (madeCells #[.int .i64 0, .int .i64 0, .bool false] (n * 3)).toList = (List.replicate n zeroEdg).flatMap edgCells := by
  apply List.ext_getElem?
  intro i
  by_cases hi : i < n * 3
  · have e : i = i / 3 * 3 + i % 3 := by omega
    have h1 : i / 3 < (List.replicate n zeroEdg).length := by simp; omega
    have := flat_get edgCells 3 edgCells_len (List.replicate n zeroEdg) (i / 3) (i % 3) h1 (by omega)
    rw [← e] at this
    rw [this]
    simp only [List.getElem_replicate]
    have h3 : i % 3 = 0 ∨ i % 3 = 1 ∨ i % 3 = 2 := by omega
    rcases h3 with h3 | h3 | h3 <;> simp [madeCells, hi, h3, edgCells, zeroEdg]
  · rw [List.getElem?_eq_none (by simp [madeCells]; omega), List.getElem?_eq_none]
    rw [flat_len edgCells 3 edgCells_len]; simp; omega
theorem infoEdg : (Tryd.prog.info? 38).map (fun i => (i.zero, i.size, i.bytes)) = some (some (.agg #[.int .i64 0, .int .i64 0, .bool false]), 3, 24) := by kernel_rfl
theorem make_edgs (w : World) (n : Nat) (hn : n ≤ 1048576) : (Instr.makeSlice 28 (.int .i64 (n : Int)) (.int .i64 (n : Int))).run Tryd.prog w = .ok (.slice (some ⟨w.heap.size, 0, none⟩) n n) (w.alloc (.cells (madeCells #[.int .i64 0, .int .i64 0, .bool false] (n * 3)) 38)) := by
  obtain ⟨i0, hi, hz0, hz1, hz2⟩ := info_parts infoEdg
  have hr := run_make (P := Tryd.prog) w 28 38 i0 _ Tryd.underlying28 hi hz0 .i64 .i64 (n : Int) (n : Int) (by omega) (by omega) (by rw [hz2]; omega) (by omega)
  simp only [Int.toNat_natCast, hz1] at hr
  exact hr
theorem OwnEdgs.made (w : World) (n : Nat) (hn : n ≤ 1048576) (B : Nat) (hB : B ≤ w.heap.size) : OwnEdgs B (.slice (some ⟨w.heap.size, 0, none⟩) n n) (List.replicate n zeroEdg) (w.alloc (.cells (madeCells #[.int .i64 0, .int .i64 0, .bool false] (n * 3)) 38)) := by
  unfold OwnEdgs
  rw [← madeCells_edg, List.length_replicate]
  exact World.ownsRow_lit w _ n hB (by unfold maxLen; omega) (size_madeCells _ _)
theorem OwnEdgs.set {B g n cap : Nat} {l : List Edg} {w : World} (h : OwnEdgs B (.slice (some ⟨g, 0, none⟩) n cap) l w) (hn : l.length = n) (j : Nat) (hj : j < n) (r : Edg) :
    OwnEdgs B (.slice (some ⟨g, 0, none⟩) n cap) (l.set j r) (((w.setCell ⟨g, j * 3, none⟩ (.int .i64 r.src)).setCell ⟨g, j * 3 + 1, none⟩ (.int .i64 r.dst)).setCell ⟨g, j * 3 + 2, none⟩ (.bool r.spec)) := by
  subst hn
  have h1 := (World.ownsRow.stored h (j * 3) (.int .i64 r.src)).1
  have h2 := (World.ownsRow.stored h1 (j * 3 + 1) (.int .i64 r.dst)).1
  have h3 := (World.ownsRow.stored h2 (j * 3 + 2) (.bool r.spec)).1
  unfold OwnEdgs
  rw [List.length_set, ← flat_set edgCells 3 edgCells_len l j hj r]
  exact h3
theorem EdgsAt.elem {w : World} {B c : Nat} {A : Option Addr} {l : List Edg} (h : EdgsAt w B (.slice A l.length c) l) (j : Nat) (hj : j < l.length) :
    ∃ b off, A = some ⟨b, off, none⟩ ∧ b < B ∧ w.cell? ⟨b, off + j * 3, none⟩ = some (.int .i64 l[j].src) ∧ w.cell? ⟨b, off + j * 3 + 1, none⟩ = some (.int .i64 l[j].dst) ∧ w.cell? ⟨b, off + j * 3 + 2, none⟩ = some (.bool l[j].spec) := by
  have h' := h
  obtain ⟨A', c', hv, h1, h2, h3⟩ := h
  obtain ⟨b, off, hA, hb, hc⟩ := h3.1 (by omega)
  subst hA
  injection hv with h4 _ _
  subst h4
  exact ⟨b, off, rfl, hb, EdgsAt.cells h' j hj⟩
theorem OwnEdgs.cells {B g n cap : Nat} {l : List Edg} {w : World} (h : OwnEdgs B (.slice (some ⟨g, 0, none⟩) n cap) l w) (hn : l.length = n) (j : Nat) (hj : j < l.length) :
    w.cell? ⟨g, j * 3, none⟩ = some (.int .i64 l[j].src) ∧ w.cell? ⟨g, j * 3 + 1, none⟩ = some (.int .i64 l[j].dst) ∧ w.cell? ⟨g, j * 3 + 2, none⟩ = some (.bool l[j].spec) := by
  subst hn
  have g (i : Nat) (hi : i < 3) := (World.ownsRow.cellAt h (j * 3 + i) (by omega)).trans (flat_get edgCells 3 edgCells_len l j i hj hi)
  exact ⟨g 0 (by omega), g 1 (by omega), g 2 (by omega)⟩
theorem OwnEdgs.frozen {B g n cap : Nat} {l : List Edg} {w : World} (h : OwnEdgs B (.slice (some ⟨g, 0, none⟩) n cap) l w) (hn : l.length = n) (j : Nat) : w.frozen? ⟨g, j, none⟩ = false := by
  subst hn; exact World.ownsRow.frozenAt h j
theorem OwnEdgs.below {B B' : Nat} {v : Value} {l : List Edg} {w w' : World} (h : OwnEdgs B v l w) (hb : Below B' w w') (hB : w.heap.size ≤ B') : OwnEdgs B v l w' := row_below h hb hB
theorem OwnEdgs.empty (w : World) (B : Nat) (hB : B ≤ w.heap.size) : OwnEdgs B (.slice (some ⟨w.heap.size, 0, none⟩) 0 0) [] (w.alloc (.cells #[] 38)) :=
  World.ownsRow_lit w #[] 0 hB (by decide) rfl
theorem OwnEdgs.nil (w : World) (B : Nat) : OwnEdgs B (.slice none 0 0) [] w := World.ownsRow_nil w B _ _
theorem OwnEdgs.mono {B B' : Nat} {v : Value} {l : List Edg} {w : World} (h : OwnEdgs B v l w) (hB : B' ≤ B) : OwnEdgs B' v l w := by
  refine ⟨h.1, ?_⟩
  rcases h.2 with hn | ⟨g, cap, cur, rfl, hb, rest⟩
  · exact .inl hn
  · exact .inr ⟨g, cap, cur, rfl, Nat.le_trans hB hb, rest⟩
theorem OwnEdgs.lt {B : Nat} {v : Value} {l : List Edg} {w : World} (h : OwnEdgs B v l w) : ∀ g, v.ownBlock = some g → B ≤ g ∧ g < w.heap.size := World.ownsRow.lt h
theorem OwnEdgs.chg {S : Nat → Prop} {B : Nat} {v : Value} {l : List Edg} {w w' : World} (h : OwnEdgs B v l w) (hc : Chg S w w') (hS : ∀ g, v.ownBlock = some g → ¬ S g) : OwnEdgs B v l w' := hc.row h hS

/-- append(l, r...) -/
theorem edgs_apps {ops : Array Oper} {rest : List Oper} {o : Oper} {a : Act} {Q : Exit → Act → World → Prop} {B B' : Nat} {v : Value} {l r : List Edg} {w : World} (hO : OwnEdgs B v l w)
    (hgd : o.guard = none) (s x : Operand) (ho : o.op = .call { callee := .builtin .append, args := #[s, x], argTypes := #[28, 28] }) (hs : a.eval s = v) (A : Option Addr) (m c : Nat) (hx : a.eval x = .slice A m c) (hm : r.length = m) (hr : EdgsAt w B' (.slice A r.length c) r) (hA : A = none → c = 0)
    (hlen : l.length + r.length ≤ 2097153) (hbase : B ≤ w.heap.size) (h : ∀ v' w', OwnEdgs B v' (l ++ r) w' → Below B w w' → w.grownBy w' v.ownBlock → (v'.ownBlock = v.ownBlock ∨ v'.ownBlock = some w.heap.size) → wpList Tryd.prog ops Q rest (a.put o.dst v') w') :
    wpList Tryd.prog ops Q (o :: rest) a w :=
  wp_own_apps edgCells 3 24 (fun x u hu => by simp [edgCells] at hu; rcases hu with rfl | rfl | rfl <;> rfl) edgCells_len Tryd.underlying28 infoEdg rfl (by decide) hO hgd s x ho hs A m c hx hm hr hA (by omega) (by omega) hbase h
theorem OwnEdgs.form {B : Nat} {v : Value} {l : List Edg} {w : World} (h : OwnEdgs B v l w) (hl : 0 < l.length) : ∃ g cap, v = .slice (some ⟨g, 0, none⟩) l.length cap ∧ B ≤ g ∧ g < w.heap.size ∧ l.length ≤ cap ∧ cap ≤ maxLen := by
  obtain ⟨g, cap, rfl, h1, h2⟩ := World.ownsRow.form h hl
  obtain ⟨A, c, hv, h3, h4, _⟩ := h.at_
  injection hv with _ _ e
  subst e
  exact ⟨g, cap, rfl, h1, h2, h3, h4⟩
theorem OwnEdgs.one (w : World) (B : Nat) (x : Edg) (hB : B ≤ w.heap.size) : OwnEdgs B (.slice (some ⟨w.heap.size, 0, none⟩) 1 1) [x] (w.alloc (.cells #[.int .i64 x.src, .int .i64 x.dst, .bool x.spec] 38)) :=
  World.ownsRow_lit w #[.int .i64 x.src, .int .i64 x.dst, .bool x.spec] 1 hB (by decide) rfl
theorem grown_chg {w w' : World} {row : Option Nat} (h : w.grownBy w' row) : Chg (fun g => row = some g) w w' := ⟨h.os, h.tape, h.output, h.size, fun k hk hn => h.block k hk (fun e => hn e.symm)⟩
theorem OwnEdgs.setDst {B g n cap : Nat} {x : Edg} {l : List Edg} {w : World} (h : OwnEdgs B (.slice (some ⟨g, 0, none⟩) n cap) (x :: l) w) (hn : (x :: l).length = n) (z : Int) :
    OwnEdgs B (.slice (some ⟨g, 0, none⟩) n cap) (⟨x.src, z, x.spec⟩ :: l) (w.setCell ⟨g, 1, none⟩ (.int .i64 z)) := by
  subst hn
  exact (World.ownsRow.stored h 1 (.int .i64 z)).1

def PositionEdgeS_at (w : World) (B : Nat) (v : Value) (l : List Edg) : Prop := EdgsAt w B v l
def PositionEdgeS_own (B C : Nat) (v : Value) (l : List Edg) (w : World) : Prop := OwnEdgs B v l w ∧ Value.inside C v
theorem PositionEdgeS_own.of {B : Nat} {v : Value} {l : List Edg} {w : World} (h : OwnEdgs B v l w) : PositionEdgeS_own B w.heap.size v l w := ⟨h, fun g hg => (h.lt g hg).2⟩
theorem PositionEdgeS_own.mono {B B' C C' : Nat} {v : Value} {l : List Edg} {w : World} (h : PositionEdgeS_own B C v l w) (hB : B' ≤ B) (hC : C ≤ C') : PositionEdgeS_own B' C' v l w := ⟨h.1.mono hB, fun g hg => Nat.lt_of_lt_of_le (h.2 g hg) hC⟩
theorem PositionEdgeS_at.below {w w' : World} {B B' : Nat} {v : Value} {l : List Edg} (h : PositionEdgeS_at w B v l) (hb : Below B' w w') (hB : B ≤ B') : PositionEdgeS_at w' B v l := SliceAt.below h hb hB
theorem PositionEdgeS_at.more {w : World} {B B' : Nat} {v : Value} {l : List Edg} (h : PositionEdgeS_at w B v l) (hB : B ≤ B') : PositionEdgeS_at w B' v l := SliceAt.more h hB
theorem PositionEdgeS_own.at_ {B C D : Nat} {v : Value} {l : List Edg} {w : World} (h : PositionEdgeS_own B C v l w) (hD : C ≤ D) : PositionEdgeS_at w D v l := SliceAt.inside h.1.at_ (fun g hg => Nat.lt_of_lt_of_le (h.2 g hg) hD)
theorem PositionEdgeS_own.chg {B C B' C' : Nat} {v : Value} {l : List Edg} {w w' : World} (h : PositionEdgeS_own B C v l w) (hc : Chg (Mid B' C') w w') (hd : C ≤ B' ∨ C' ≤ B) : PositionEdgeS_own B C v l w' :=
  ⟨h.1.chg hc (fun g hg hm => by have h1 := (h.1.lt g hg).1; have h2 := h.2 g hg; have h3 : B' ≤ g := hm.1; have h4 : g < C' := hm.2; omega), h.2⟩
theorem PositionEdgeS_own.below {B C D : Nat} {v : Value} {l : List Edg} {w w' : World} (h : PositionEdgeS_own B C v l w) (hb : Below D w w') (hD : C ≤ D) : PositionEdgeS_own B C v l w' :=
  ⟨h.1.chg (Chg.of_below' hb) (fun g hg hm => by have h2 := h.2 g hg; have h3 : D ≤ g := hm; omega), h.2⟩
/-- every edge's ends are 64-bit ints -/
def PositionEdgeS_wf (l : List Edg) : Prop := ∀ (i : Nat) (h : i < l.length), (-9223372036854775808 ≤ l[i].src ∧ l[i].src ≤ 9223372036854775807) ∧ (-9223372036854775808 ≤ l[i].dst ∧ l[i].dst ≤ 9223372036854775807)
def PositionEdgeS_sz (l : List Edg) : Nat := l.length
def PositionEdgeS_cnt (l : List Edg) : Nat := 3 * l.length
theorem PositionEdgeS_cnt_le (l : List Edg) : PositionEdgeS_cnt l ≤ 4 * PositionEdgeS_sz l := by unfold PositionEdgeS_cnt PositionEdgeS_sz; omega

end Go.Proofs.YtakflmaeclneiaaDoor
