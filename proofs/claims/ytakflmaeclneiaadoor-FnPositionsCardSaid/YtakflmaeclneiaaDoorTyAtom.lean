/-
  Walks and plain lemmas for the laws of this seat: what single Go functions return, for every argument.
-/
import Derived.Test.YtakflmaeclneiaaDoorMem
import Derived.Test.YtakflmaeclneiaaDoorInts
import Derived.Test.YtakflmaeclneiaaDoorTyAp
namespace Go.Proofs.YtakflmaeclneiaaDoor
open Go.RowKit

/-- a atom, as the proofs speak of it -/
structure Atm where
  rel : Int
  vals : List Int
def Atom_at (w : World) (B : Nat) (v : Value) (x : Atm) : Prop := ∃ V, v = .agg #[.int .i64 x.rel, V] ∧ IntS_at w B V x.vals
def Atom_own (B C : Nat) (v : Value) (x : Atm) (w : World) : Prop := ∃ V, v = .agg #[.int .i64 x.rel, V] ∧ IntS_own B C V x.vals w
theorem Atom_at.below {w w' : World} {B B' : Nat} {v : Value} {x : Atm} (h : Atom_at w B v x) (hb : Below B' w w') (hB : B ≤ B') : Atom_at w' B v x := by
  obtain ⟨V, rfl, h⟩ := h; exact ⟨V, rfl, h.below hb hB⟩
theorem Atom_at.more {w : World} {B B' : Nat} {v : Value} {x : Atm} (h : Atom_at w B v x) (hB : B ≤ B') : Atom_at w B' v x := by
  obtain ⟨V, rfl, h⟩ := h; exact ⟨V, rfl, h.more hB⟩
theorem Atom_own.at_ {B C D : Nat} {v : Value} {x : Atm} {w : World} (h : Atom_own B C v x w) (hD : C ≤ D) : Atom_at w D v x := by
  obtain ⟨V, rfl, h⟩ := h; exact ⟨V, rfl, h.at_ hD⟩
theorem Atom_own.chg {B C B' C' : Nat} {v : Value} {x : Atm} {w w' : World} (h : Atom_own B C v x w) (hc : Chg (Mid B' C') w w') (hd : C ≤ B' ∨ C' ≤ B) : Atom_own B C v x w' := by
  obtain ⟨V, rfl, h⟩ := h; exact ⟨V, rfl, h.chg hc hd⟩
theorem Atom_own.below {B C D : Nat} {v : Value} {x : Atm} {w w' : World} (h : Atom_own B C v x w) (hb : Below D w w') (hD : C ≤ D) : Atom_own B C v x w' := by
  obtain ⟨V, rfl, h⟩ := h; exact ⟨V, rfl, h.below hb hD⟩
def Atom_wf (x : Atm) : Prop := (-9223372036854775808 ≤ x.rel ∧ x.rel ≤ 9223372036854775807) ∧ IntS_wf x.vals
def Atom_sz (x : Atm) : Nat := x.vals.length
def Atom_mk (k : Nat) (x : Atm) : Atm := ⟨x.rel, IntS_mk k x.vals⟩
def Atom_cnt (x : Atm) : Nat := x.vals.length
theorem Atom_cnt_le (x : Atm) : Atom_cnt x ≤ 4 * Atom_sz x := by unfold Atom_cnt Atom_sz; omega
theorem Atom_form {w : World} {B : Nat} {v : Value} {x : Atm} (h : Atom_at w B v x) : ∃ P c, v = .agg #[.int .i64 x.rel, .slice P x.vals.length c] := by
  obtain ⟨V, rfl, P, c, rfl, _⟩ := h
  exact ⟨P, c, rfl⟩

instance : Inhabited Atm := ⟨⟨0, []⟩⟩
theorem Atm.ext' {a b : Atm} (h : a.rel = b.rel) (h' : a.vals = b.vals) : a = b := by cases a; cases b; simp_all
def apairCells (p : Int × Value) : List Value := [.int .i64 p.1, p.2]
theorem apairCells_len (p : Int × Value) : (apairCells p).length = 2 := rfl
/-- atoms and the slices that hold their values, side by side -/
def apairs (l : List Atm) (Vs : List Value) : List (Int × Value) := List.zipWith (fun x V => (x.rel, V)) l Vs
theorem apairs_len {l : List Atm} {Vs : List Value} (h : Vs.length = l.length) : (apairs l Vs).length = l.length := by unfold apairs; rw [List.length_zipWith]; omega
theorem apairs_at {l : List Atm} {Vs : List Value} (i : Nat) (h : i < (apairs l Vs).length) (h1 : i < l.length) (h2 : i < Vs.length) : (apairs l Vs)[i] = (l[i].rel, Vs[i]) := by simp [apairs]
theorem apairs_set {l : List Atm} {Vs : List Value} (i : Nat) (x : Atm) (h2 : i < Vs.length) : apairs (l.set i x) Vs = (apairs l Vs).set i (x.rel, Vs[i]) := by
  apply List.ext_getElem
  · simp [apairs]
  · intro j h1 h3
    simp only [apairs, List.getElem_zipWith, List.getElem_set]
    split
    · rename_i hij; subst hij; rfl
    · rfl
def AtomS_at (w : World) (B : Nat) (v : Value) (l : List Atm) : Prop := ∃ Vs : List Value, Vs.length = l.length ∧ SliceAt apairCells w B v (apairs l Vs) ∧ ∀ (i : Nat) (h : i < l.length) (h' : i < Vs.length), IntS_at w B Vs[i] l[i].vals
structure AtomSO (e : TypeId) (B C : Nat) (v : Value) (Vs : List Value) (l : List Atm) (w : World) : Prop where
  len : Vs.length = l.length
  row : w.ownsRow B e 2 v (apairs l Vs).length ((apairs l Vs).flatMap apairCells)
  ins : Value.inside C v
  el : ∀ (i : Nat) (h : i < l.length) (h' : i < Vs.length), IntS_own B C Vs[i] l[i].vals w
  dis : Apart Vs
def AtomS_own (B C : Nat) (v : Value) (l : List Atm) (w : World) : Prop := ∃ Vs, AtomSO 86 B C v Vs l w
theorem AtomS_at.below {w w' : World} {B B' : Nat} {v : Value} {l : List Atm} (h : AtomS_at w B v l) (hb : Below B' w w') (hB : B ≤ B') : AtomS_at w' B v l := by
  obtain ⟨Vs, h1, h2, h3⟩ := h
  exact ⟨Vs, h1, h2.below hb hB, fun i h h' => (h3 i h h').below hb hB⟩
theorem AtomS_at.more {w : World} {B B' : Nat} {v : Value} {l : List Atm} (h : AtomS_at w B v l) (hB : B ≤ B') : AtomS_at w B' v l := by
  obtain ⟨Vs, h1, h2, h3⟩ := h
  exact ⟨Vs, h1, h2.more hB, fun i h h' => (h3 i h h').more hB⟩
theorem AtomSO.at_ {e : TypeId} {B C D : Nat} {v : Value} {Vs : List Value} {l : List Atm} {w : World} (h : AtomSO e B C v Vs l w) (hD : C ≤ D) : AtomS_at w D v l :=
  ⟨Vs, h.len, SliceAt.inside (SliceAt.of_own h.row) (fun g hg => Nat.lt_of_lt_of_le (h.ins g hg) hD), fun i h1 h2 => (h.el i h1 h2).at_ hD⟩
theorem AtomS_own.at_ {B C D : Nat} {v : Value} {l : List Atm} {w : World} (h : AtomS_own B C v l w) (hD : C ≤ D) : AtomS_at w D v l := by
  obtain ⟨Vs, h⟩ := h; exact h.at_ hD
theorem AtomSO.chg {e : TypeId} {B C B' C' : Nat} {v : Value} {Vs : List Value} {l : List Atm} {w w' : World} (h : AtomSO e B C v Vs l w) (hc : Chg (Mid B' C') w w') (hd : C ≤ B' ∨ C' ≤ B) : AtomSO e B C v Vs l w' :=
  ⟨h.len, hc.row h.row (fun g hg hm => by have h1 := (World.ownsRow.lt h.row g hg).1; have h2 := h.ins g hg; have h3 : B' ≤ g := hm.1; have h4 : g < C' := hm.2; omega), h.ins, fun i h1 h2 => (h.el i h1 h2).chg hc hd, h.dis⟩
theorem AtomS_own.chg {B C B' C' : Nat} {v : Value} {l : List Atm} {w w' : World} (h : AtomS_own B C v l w) (hc : Chg (Mid B' C') w w') (hd : C ≤ B' ∨ C' ≤ B) : AtomS_own B C v l w' := by
  obtain ⟨Vs, h⟩ := h; exact ⟨Vs, h.chg hc hd⟩
theorem AtomSO.below {e : TypeId} {B C D : Nat} {v : Value} {Vs : List Value} {l : List Atm} {w w' : World} (h : AtomSO e B C v Vs l w) (hb : Below D w w') (hD : C ≤ D) : AtomSO e B C v Vs l w' :=
  ⟨h.len, (Chg.of_below' hb).row h.row (fun g hg hm => by have h2 := h.ins g hg; have h3 : D ≤ g := hm; omega), h.ins, fun i h1 h2 => (h.el i h1 h2).below hb hD, h.dis⟩
theorem AtomS_own.below {B C D : Nat} {v : Value} {l : List Atm} {w w' : World} (h : AtomS_own B C v l w) (hb : Below D w w') (hD : C ≤ D) : AtomS_own B C v l w' := by
  obtain ⟨Vs, h⟩ := h; exact ⟨Vs, h.below hb hD⟩
theorem AtomSO.mono {e : TypeId} {B B' C C' : Nat} {v : Value} {Vs : List Value} {l : List Atm} {w : World} (h : AtomSO e B C v Vs l w) (hB : B' ≤ B) (hC : C ≤ C') : AtomSO e B' C' v Vs l w :=
  ⟨h.len, row_mono h.row hB, fun g hg => Nat.lt_of_lt_of_le (h.ins g hg) hC, fun i h1 h2 => (h.el i h1 h2).mono hB hC, h.dis⟩
theorem AtomS_own.mono {B B' C C' : Nat} {v : Value} {l : List Atm} {w : World} (h : AtomS_own B C v l w) (hB : B' ≤ B) (hC : C ≤ C') : AtomS_own B' C' v l w := by
  obtain ⟨Vs, h⟩ := h; exact ⟨Vs, h.mono hB hC⟩
/-- one atom, read -/
theorem AtomS_at.elem {w : World} {B c : Nat} {A : Option Addr} {l : List Atm} (h : AtomS_at w B (.slice A l.length c) l) (j : Nat) (hj : j < l.length) :
    ∃ b off V, A = some ⟨b, off, none⟩ ∧ b < B ∧ w.cell? ⟨b, off + j * 2, none⟩ = some (.int .i64 l[j].rel) ∧ w.cell? ⟨b, off + j * 2 + 1, none⟩ = some V ∧ IntS_at w B V l[j].vals := by
  obtain ⟨Vs, h1, h2, h3⟩ := h
  have hp := apairs_len h1
  obtain ⟨A', c', hv, -, -, hc⟩ := h2
  rw [hp] at hv
  injection hv with e1 _ e2
  subst e1 e2
  obtain ⟨b, off, rfl, hb, hc⟩ := hc.1 (by omega)
  have hjp : j < (apairs l Vs).length := by omega
  have g (i : Nat) (hi : i < 2) := flat_get apairCells 2 apairCells_len (apairs l Vs) j i hjp hi
  have e := apairs_at j hjp hj (by omega : j < Vs.length)
  rw [e] at g
  refine ⟨b, off, Vs[j], rfl, hb, hc _ _ (g 0 (by omega)), ?_, h3 j hj (by omega)⟩
  rw [Nat.add_assoc]; exact hc _ _ (g 1 (by omega))
theorem AtomS_at.form {w : World} {B : Nat} {v : Value} {l : List Atm} (h : AtomS_at w B v l) : ∃ A c, v = .slice A l.length c ∧ l.length ≤ c ∧ c ≤ maxLen := by
  obtain ⟨Vs, h1, ⟨A, c, hv, h3, h4, _⟩, _⟩ := h
  rw [apairs_len h1] at hv h3
  exact ⟨A, c, hv, h3, h4⟩
def avalsLen : List Atm → Nat
  | [] => 0
  | x :: t => x.vals.length + avalsLen t
theorem avalsLen_append (l m : List Atm) : avalsLen (l ++ m) = avalsLen l + avalsLen m := by
  induction l with
  | nil => simp [avalsLen]
  | cons a t ih => simp only [List.cons_append, avalsLen, ih]; omega
theorem avalsLen_take (l : List Atm) (k : Nat) (h : k < l.length) : avalsLen (l.take (k + 1)) = avalsLen (l.take k) + l[k].vals.length := by
  rw [List.take_succ_eq_append_getElem h, avalsLen_append]; simp [avalsLen]
theorem avalsLen_le (l : List Atm) (k : Nat) : avalsLen (l.take k) ≤ avalsLen l := by
  have := avalsLen_append (l.take k) (l.drop k)
  rw [List.take_append_drop] at this; omega
def AtomS_wf (l : List Atm) : Prop := ∀ (i : Nat) (h : i < l.length), Atom_wf l[i]
def AtomS_sz (l : List Atm) : Nat := l.length + avalsLen l
def AtomS_cnt (l : List Atm) : Nat := l.length + avalsLen l
theorem AtomS_cnt_le (l : List Atm) : AtomS_cnt l ≤ 4 * AtomS_sz l := by unfold AtomS_cnt AtomS_sz; omega
/-- what a mark writes -/
def markAtm (k : Nat) (l : List Atm) (i : Nat) : Atm := ⟨((k + i + avalsLen (l.take i) : Nat) : Int), markInts (k + i + avalsLen (l.take i) + 1) (l.getD i default).vals.length⟩
def AtomS_mk (k : Nat) (l : List Atm) : List Atm := (List.range l.length).map (markAtm k l)
theorem AtomS_mk_len (k : Nat) (l : List Atm) : (AtomS_mk k l).length = l.length := by simp [AtomS_mk]
theorem AtomS_mk_at (k : Nat) (l : List Atm) (i : Nat) (h : i < (AtomS_mk k l).length) : (AtomS_mk k l)[i] = markAtm k l i := by simp [AtomS_mk]

def aFootF (v : Value) (Vs : List Value) : Nat → Prop := fun q => v.ownBlock = some q ∨ ∃ V ∈ Vs, V.ownBlock = some q
theorem AtomSO.foot {e : TypeId} {B C : Nat} {v : Value} {Vs : List Value} {l : List Atm} {w : World} (h : AtomSO e B C v Vs l w) : ∀ q, aFootF v Vs q → Mid B C q := by
  rintro q (hq | ⟨V, hV, hq⟩)
  · exact ⟨(World.ownsRow.lt h.row q hq).1, h.ins q hq⟩
  · obtain ⟨i, hi, rfl⟩ := List.getElem_of_mem hV
    have he := h.el i (by have := h.len; omega) hi
    exact ⟨(he.1.lt q hq).1, he.2 q hq⟩
theorem AtomSO.chgS {S : Nat → Prop} {e : TypeId} {B C : Nat} {v : Value} {Vs : List Value} {l : List Atm} {w w' : World} (h : AtomSO e B C v Vs l w) (hc : Chg S w w') (hd : ∀ g, aFootF v Vs g → ¬ S g) : AtomSO e B C v Vs l w' :=
  ⟨h.len, hc.row h.row (fun g hg hm => hd g (.inl hg) hm), h.ins, fun i h1 h2 => ⟨(h.el i h1 h2).1.chg hc (fun g hg hm => hd g (.inr ⟨_, List.getElem_mem h2, hg⟩) hm), (h.el i h1 h2).2⟩, h.dis⟩

/-- a dependency, as the proofs speak of it -/
structure Dep where
  body : List Atm
  head : List Atm
  egd : Bool
  left : Int
  right : Int
def Dependency_at (w : World) (B : Nat) (v : Value) (x : Dep) : Prop := ∃ V1 V2, v = .agg #[V1, V2, .bool x.egd, .int .i64 x.left, .int .i64 x.right] ∧ AtomS_at w B V1 x.body ∧ AtomS_at w B V2 x.head
def Dependency_own (B C : Nat) (v : Value) (x : Dep) (w : World) : Prop := ∃ V1 V2 Vs1 Vs2, v = .agg #[V1, V2, .bool x.egd, .int .i64 x.left, .int .i64 x.right] ∧ AtomSO 86 B C V1 Vs1 x.body w ∧ AtomSO 86 B C V2 Vs2 x.head w ∧ ∀ g, aFootF V1 Vs1 g → ¬ aFootF V2 Vs2 g
theorem Dependency_at.below {w w' : World} {B B' : Nat} {v : Value} {x : Dep} (h : Dependency_at w B v x) (hb : Below B' w w') (hB : B ≤ B') : Dependency_at w' B v x := by
  obtain ⟨V1, V2, rfl, h1, h2⟩ := h; exact ⟨V1, V2, rfl, h1.below hb hB, h2.below hb hB⟩
theorem Dependency_at.more {w : World} {B B' : Nat} {v : Value} {x : Dep} (h : Dependency_at w B v x) (hB : B ≤ B') : Dependency_at w B' v x := by
  obtain ⟨V1, V2, rfl, h1, h2⟩ := h; exact ⟨V1, V2, rfl, h1.more hB, h2.more hB⟩
theorem Dependency_at.later {w w' : World} {v : Value} {x : Dep} (h : Dependency_at w w.heap.size v x) (hb : Below w.heap.size w w') : Dependency_at w' w'.heap.size v x := (h.below hb (Nat.le_refl _)).more hb.size
theorem Dependency_own.at_ {B C D : Nat} {v : Value} {x : Dep} {w : World} (h : Dependency_own B C v x w) (hD : C ≤ D) : Dependency_at w D v x := by
  obtain ⟨V1, V2, Vs1, Vs2, rfl, h1, h2, _⟩ := h; exact ⟨V1, V2, rfl, h1.at_ hD, h2.at_ hD⟩
theorem Dependency_own.chg {B C B' C' : Nat} {v : Value} {x : Dep} {w w' : World} (h : Dependency_own B C v x w) (hc : Chg (Mid B' C') w w') (hd : C ≤ B' ∨ C' ≤ B) : Dependency_own B C v x w' := by
  obtain ⟨V1, V2, Vs1, Vs2, rfl, h1, h2, h3⟩ := h; exact ⟨V1, V2, Vs1, Vs2, rfl, h1.chg hc hd, h2.chg hc hd, h3⟩
theorem Dependency_own.below {B C D : Nat} {v : Value} {x : Dep} {w w' : World} (h : Dependency_own B C v x w) (hb : Below D w w') (hD : C ≤ D) : Dependency_own B C v x w' := by
  obtain ⟨V1, V2, Vs1, Vs2, rfl, h1, h2, h3⟩ := h; exact ⟨V1, V2, Vs1, Vs2, rfl, h1.below hb hD, h2.below hb hD, h3⟩
theorem Dependency_own.mono {B B' C C' : Nat} {v : Value} {x : Dep} {w : World} (h : Dependency_own B C v x w) (hB : B' ≤ B) (hC : C ≤ C') : Dependency_own B' C' v x w := by
  obtain ⟨V1, V2, Vs1, Vs2, rfl, h1, h2, h3⟩ := h; exact ⟨V1, V2, Vs1, Vs2, rfl, h1.mono hB hC, h2.mono hB hC, h3⟩
theorem Dependency_form {w : World} {B : Nat} {v : Value} {x : Dep} (h : Dependency_at w B v x) : ∃ P c Q d, v = .agg #[.slice P x.body.length c, .slice Q x.head.length d, .bool x.egd, .int .i64 x.left, .int .i64 x.right] := by
  obtain ⟨V1, V2, rfl, h1, h2⟩ := h
  obtain ⟨P, c, rfl, _⟩ := h1.form
  obtain ⟨Q, d, rfl, _⟩ := h2.form
  exact ⟨P, c, Q, d, rfl⟩
def Dependency_wf (x : Dep) : Prop := AtomS_wf x.body ∧ AtomS_wf x.head ∧ (-9223372036854775808 ≤ x.left ∧ x.left ≤ 9223372036854775807) ∧ (-9223372036854775808 ≤ x.right ∧ x.right ≤ 9223372036854775807)
def Dependency_sz (x : Dep) : Nat := AtomS_sz x.body + AtomS_sz x.head
def Dependency_cnt (x : Dep) : Nat := AtomS_cnt x.body + AtomS_cnt x.head
theorem Dependency_cnt_le (x : Dep) : Dependency_cnt x ≤ 4 * Dependency_sz x := by
  have h1 := AtomS_cnt_le x.body
  have h2 := AtomS_cnt_le x.head
  unfold Dependency_cnt Dependency_sz; omega

theorem apairs_set2 {l : List Atm} {Vs : List Value} (i : Nat) (x : Atm) (V : Value) : apairs (l.set i x) (Vs.set i V) = (apairs l Vs).set i (x.rel, V) := by
  apply List.ext_getElem
  · simp [apairs]
  · intro j h1 h3
    simp only [apairs, List.getElem_zipWith, List.getElem_set]
    split
    · rename_i hij; subst hij; rfl
    · rfl
/-- one atom stored whole -/
theorem AtomSO.set {e : TypeId} (he : e ≠ 3) {B C g n cap : Nat} {Vs : List Value} {l : List Atm} {w : World} (h : AtomSO e B C (.slice (some ⟨g, 0, none⟩) n cap) Vs l w) (hn : l.length = n) (j : Nat) (hj : j < n) (x : Atm) (V : Value) (hV : IntS_own B C V x.vals w)
    (hd : ∀ (i : Nat) (hi : i < Vs.length), i ≠ j → ∀ q, Vs[i].ownBlock = some q → V.ownBlock ≠ some q) :
    AtomSO e B C (.slice (some ⟨g, 0, none⟩) n cap) (Vs.set j V) (l.set j x) ((w.setCell ⟨g, j * 2, none⟩ (.int .i64 x.rel)).setCell ⟨g, j * 2 + 1, none⟩ V) := by
  have hp := apairs_len h.len
  have hrow := h.row
  rw [hp, hn] at hrow
  have h1 := (World.ownsRow.stored hrow (j * 2) (.int .i64 x.rel)).1
  have h2 := (World.ownsRow.stored h1 (j * 2 + 1) V).1
  have hC : Chg (fun q => q = g) w ((w.setCell ⟨g, j * 2, none⟩ (.int .i64 x.rel)).setCell ⟨g, j * 2 + 1, none⟩ V) := ((Chg.refl (fun q => q = g) w).setCell (p := ⟨g, j * 2, none⟩) rfl _).setCell (p := ⟨g, j * 2 + 1, none⟩) rfl _
  have keep : ∀ {U : Value} {us : List Int}, IntS_own B C U us w → IntS_own B C U us ((w.setCell ⟨g, j * 2, none⟩ (.int .i64 x.rel)).setCell ⟨g, j * 2 + 1, none⟩ V) := fun hU => ⟨hU.1.chg hC (fun q hq e1 => inner_ne he h.row hU g rfl (by rw [hq, e1])), hU.2⟩
  refine ⟨by rw [List.length_set, List.length_set, h.len], ?_, h.ins, fun i h3 h4 => ?_, h.dis.set j V hd⟩
  · rw [apairs_set2, List.length_set, hp, hn, ← flat_set apairCells 2 apairCells_len (apairs l Vs) j (by omega) (x.rel, V)]
    exact h2
  · rw [List.length_set] at h3 h4
    simp only [List.getElem_set]
    split
    · exact keep hV
    · exact keep (h.el i h3 h4)
/-- a atom's relation stored -/
theorem AtomSO.setRel {e : TypeId} (he : e ≠ 3) {B C g n cap : Nat} {Vs : List Value} {l : List Atm} {w : World} (h : AtomSO e B C (.slice (some ⟨g, 0, none⟩) n cap) Vs l w) (hn : l.length = n) (j : Nat) (hj : j < l.length) (q : Int) :
    AtomSO e B C (.slice (some ⟨g, 0, none⟩) n cap) Vs (l.set j ⟨q, l[j].vals⟩) (w.setCell ⟨g, j * 2, none⟩ (.int .i64 q)) := by
  have hp := apairs_len h.len
  have hrow := h.row
  rw [hp, hn] at hrow
  have h1 := (World.ownsRow.stored hrow (j * 2) (.int .i64 q)).1
  have hC : Chg (fun q => q = g) w (w.setCell ⟨g, j * 2, none⟩ (.int .i64 q)) := (Chg.refl (fun q => q = g) w).setCell (p := ⟨g, j * 2, none⟩) rfl _
  have hjv : j < Vs.length := by rw [h.len]; exact hj
  refine ⟨by rw [List.length_set, h.len], ?_, h.ins, fun i h3 h4 => ?_, h.dis⟩
  · rw [apairs_set j _ hjv, List.length_set, hp, hn, ← flat_set apairCells 2 apairCells_len (apairs l Vs) j (by omega) (q, Vs[j])]
    have e1 : ((apairs l Vs).flatMap apairCells)[j * 2 + 1]? = some Vs[j] := by
      have := flat_get apairCells 2 apairCells_len (apairs l Vs) j 1 (by omega) (by omega)
      rw [this, apairs_at j (by omega) hj hjv]; rfl
    have e2 : setMany ((apairs l Vs).flatMap apairCells) (j * 2) (apairCells (q, Vs[j])) = ((apairs l Vs).flatMap apairCells).set (j * 2) (.int .i64 q) := by
      show (((apairs l Vs).flatMap apairCells).set (j * 2) (.int .i64 q)).set (j * 2 + 1) Vs[j] = _
      exact set_same (by rw [List.getElem?_set_ne (by omega)]; exact e1)
    rw [e2]
    exact h1
  · rw [List.length_set] at h3
    have hk : IntS_own B C Vs[i] l[i].vals (w.setCell ⟨g, j * 2, none⟩ (.int .i64 q)) := ⟨(h.el i h3 h4).1.chg hC (fun q hq e1 => inner_ne he h.row (h.el i h3 h4) g rfl (by rw [hq, e1])), (h.el i h3 h4).2⟩
    simp only [List.getElem_set]
    split
    · rename_i hij; subst hij; exact hk
    · exact hk
/-- a atom's values written in their own slice -/
theorem AtomSO.setVals {e : TypeId} (he : e ≠ 3) {B C : Nat} {v : Value} {Vs : List Value} {l : List Atm} {w w' : World} (h : AtomSO e B C v Vs l w) (j : Nat) (hj : j < l.length) (hjv : j < Vs.length) (us : List Int) (hV : IntS_own B C Vs[j] us w') (hc : Chg (fun q => Vs[j].ownBlock = some q) w w') :
    AtomSO e B C v Vs (l.set j ⟨l[j].rel, us⟩) w' := by
  have hp := apairs_len h.len
  refine ⟨by rw [List.length_set, h.len], ?_, h.ins, fun i h3 h4 => ?_, h.dis⟩
  · have e1 : apairs (l.set j ⟨l[j].rel, us⟩) Vs = apairs l Vs := by
      rw [apairs_set j _ hjv]
      refine List.ext_getElem (by simp) fun i h5 h6 => ?_
      rw [List.getElem_set]
      split
      · rename_i hij; subst hij; rw [apairs_at j (by omega) hj hjv]
      · rfl
    rw [e1]
    exact hc.row h.row (fun g hg => inner_ne he h.row (h.el j hj hjv) g hg)
  · rw [List.length_set] at h3
    simp only [List.getElem_set]
    split
    · rename_i hij; subst hij; exact hV
    · rename_i hij
      exact ⟨(h.el i h3 h4).1.chg hc (fun q hq => h.dis.at_ i j h4 hjv (by omega) q hq), (h.el i h3 h4).2⟩
theorem AtomSO.cells {e : TypeId} {B C g n cap : Nat} {Vs : List Value} {l : List Atm} {w : World} (h : AtomSO e B C (.slice (some ⟨g, 0, none⟩) n cap) Vs l w) (hn : l.length = n) (j : Nat) (hj : j < l.length) (hjv : j < Vs.length) :
    w.cell? ⟨g, j * 2, none⟩ = some (.int .i64 l[j].rel) ∧ w.cell? ⟨g, j * 2 + 1, none⟩ = some Vs[j] := by
  have hp := apairs_len h.len
  have hrow := h.row
  rw [hp, hn] at hrow
  have hjp : j < (apairs l Vs).length := by omega
  have g (i : Nat) (hi : i < 2) := (World.ownsRow.cellAt hrow (j * 2 + i) (by omega)).trans (flat_get apairCells 2 apairCells_len (apairs l Vs) j i hjp hi)
  rw [apairs_at j hjp hj hjv] at g
  exact ⟨g 0 (by omega), g 1 (by omega)⟩
theorem AtomSO.frozen {e : TypeId} {B C g n cap : Nat} {Vs : List Value} {l : List Atm} {w : World} (h : AtomSO e B C (.slice (some ⟨g, 0, none⟩) n cap) Vs l w) (hn : l.length = n) (j : Nat) : w.frozen? ⟨g, j, none⟩ = false := by
  have hrow := h.row
  rw [apairs_len h.len, hn] at hrow
  exact World.ownsRow.frozenAt hrow j
def zeroAtm : Atm := ⟨0, []⟩
theorem amadeCells_pair (n : Nat) : (madeCells #[.int .i64 0, .slice none 0 0] (n * 2)).toList = (apairs (List.replicate n zeroAtm) (List.replicate n (.slice none 0 0))).flatMap apairCells := by
  apply List.ext_getElem?
  intro i
  have hp : (apairs (List.replicate n zeroAtm) (List.replicate n (.slice none 0 0))).length = n := by rw [apairs_len (by simp)]; simp
  by_cases hi : i < n * 2
  · have e : i = i / 2 * 2 + i % 2 := by omega
    have h1 : i / 2 < (apairs (List.replicate n zeroAtm) (List.replicate n (.slice none 0 0))).length := by omega
    have := flat_get apairCells 2 apairCells_len (apairs (List.replicate n zeroAtm) (List.replicate n (.slice none 0 0))) (i / 2) (i % 2) h1 (by omega)
    rw [← e] at this
    rw [this, apairs_at _ h1 (by simp; omega) (by simp; omega)]
    simp only [List.getElem_replicate]
    have h3 : i % 2 = 0 ∨ i % 2 = 1 := by omega
    rcases h3 with h3 | h3 <;> simp [madeCells, hi, h3, apairCells, zeroAtm]
  · rw [List.getElem?_eq_none (by simp [madeCells]; omega), List.getElem?_eq_none]
    rw [flat_len apairCells 2 apairCells_len, hp]; omega
theorem AtomSO.made {e : TypeId} (w : World) (n : Nat) (hn : n ≤ 1048576) : AtomSO e w.heap.size (w.heap.size + 1) (.slice (some ⟨w.heap.size, 0, none⟩) n n) (List.replicate n (.slice none 0 0)) (List.replicate n zeroAtm) (w.alloc (.cells (madeCells #[.int .i64 0, .slice none 0 0] (n * 2)) e)) := by
  have hp : (apairs (List.replicate n zeroAtm) (List.replicate n (.slice none 0 0))).length = n := by rw [apairs_len (by simp)]; simp
  refine ⟨by simp, ?_, fun g hg => by cases hg; exact Nat.lt_succ_self _, fun i h h' => ?_, ?_⟩
  · rw [hp, ← amadeCells_pair]
    exact World.ownsRow_lit w _ n (Nat.le_refl _) (by unfold maxLen; omega) (size_madeCells _ _)
  · simp only [List.getElem_replicate]
    exact ⟨OwnInts.nil _ _, fun g hg => by cases hg⟩
  · exact List.pairwise_iff_getElem.2 fun i j hi hj _ g h1 => by rw [List.getElem_replicate] at h1; cases h1

theorem apairs_snoc {l : List Atm} {Vs : List Value} (h : Vs.length = l.length) (x : Atm) (U : Value) : apairs (l ++ [x]) (Vs ++ [U]) = apairs l Vs ++ [(x.rel, U)] := by
  unfold apairs; rw [List.zipWith_append h.symm]; rfl
/-- a atom appended to a slice of atoms of the call's own -/
theorem AtomSO.snoc {e : TypeId} (he : e ≠ 3) {B C C' : Nat} {v v' U : Value} {Vs : List Value} {l : List Atm} {x : Atm} {w w' : World} (h : AtomSO e B C v Vs l w) (hC : C ≤ C')
    (hrow : w'.ownsRow B e 2 v' (apairs l Vs ++ [(x.rel, U)]).length ((apairs l Vs ++ [(x.rel, U)]).flatMap apairCells)) (hg : w.grownBy w' v.ownBlock) (hin : Value.inside C' v')
    (hU : IntS_own B C' U x.vals w) (hd : ∀ (i : Nat) (hi : i < Vs.length), ∀ g, Vs[i].ownBlock = some g → U.ownBlock ≠ some g) : AtomSO e B C' v' (Vs ++ [U]) (l ++ [x]) w' := by
  have keep : ∀ {V : Value} {us : List Int}, IntS_own B C' V us w → IntS_own B C' V us w' := fun hV => by
    refine ⟨World.ownsRow.kept hV.1 hg ?_, hV.2⟩
    rcases own_ne hV.1 h.row (fun e1 => he e1.symm) with h1 | h1
    · exact .inl h1
    · exact .inr h1
  refine ⟨by rw [List.length_append, List.length_append, h.len]; rfl, by rw [apairs_snoc h.len]; exact hrow, hin, fun i h1 h2 => ?_, h.dis.snoc U hd⟩
  · by_cases hi : i < l.length
    · have hiv : i < Vs.length := by rw [h.len]; exact hi
      rw [List.getElem_append_left hi, List.getElem_append_left hiv]
      exact keep ((h.el i hi hiv).mono (Nat.le_refl _) hC)
    · have hil : i = l.length := by rw [List.length_append, List.length_singleton] at h1; omega
      subst hil
      rw [List.getElem_append_right (show l.length ≤ l.length from Nat.le_refl _)]
      have : Vs.length ≤ l.length := by rw [h.len]; exact Nat.le_refl _
      rw [List.getElem_append_right this]
      simp only [Nat.sub_self, List.getElem_cons_zero, h.len]
      exact keep hU

theorem infoAtm : (Tryd.prog.info? 86).map (fun i => (i.zero, i.size, i.bytes)) = some (some (.agg #[.int .i64 0, .slice none 0 0]), 2, 32) := by kernel_rfl

end Go.Proofs.YtakflmaeclneiaaDoor
