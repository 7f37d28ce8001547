/-
  Walks and plain lemmas for the laws of this seat: what single Go functions return, for every argument.
-/
import Derived.Lib.SliceRun
import Derived.Test.YtakflmaeclneiaaDoorTyAtom
namespace Go.Proofs.YtakflmaeclneiaaDoor
open Go.RowKit

instance : Inhabited Dep := ⟨⟨[], [], false, 0, 0⟩⟩
/-- a dependency's five cells -/
structure DepC where
  b : Value
  h : Value
  e : Bool
  l : Int
  r : Int
instance : Inhabited DepC := ⟨⟨.bool false, .bool false, false, 0, 0⟩⟩
def dCells (c : DepC) : List Value := [c.b, c.h, .bool c.e, .int .i64 c.l, .int .i64 c.r]
theorem dCells_len (c : DepC) : (dCells c).length = 5 := rfl
def depC (x : Dep) (p : Value × Value) : DepC := ⟨p.1, p.2, x.egd, x.left, x.right⟩
/-- dependencies and the slices that hold their atoms, side by side -/
def dZip (l : List Dep) (Ps : List (Value × Value)) : List DepC := List.zipWith depC l Ps
theorem dZip_len {l : List Dep} {Ps : List (Value × Value)} (h : Ps.length = l.length) : (dZip l Ps).length = l.length := by unfold dZip; rw [List.length_zipWith]; omega
theorem dZip_at {l : List Dep} {Ps : List (Value × Value)} (i : Nat) (h : i < (dZip l Ps).length) (h1 : i < l.length) (h2 : i < Ps.length) : (dZip l Ps)[i] = depC l[i] Ps[i] := by simp [dZip]
theorem dZip_set2 {l : List Dep} {Ps : List (Value × Value)} (i : Nat) (x : Dep) (p : Value × Value) : dZip (l.set i x) (Ps.set i p) = (dZip l Ps).set i (depC x p) := by
  apply List.ext_getElem
  · simp [dZip]
  · intro j h1 h3
    simp only [dZip, List.getElem_zipWith, List.getElem_set]
    split <;> rfl
def DependencyS_at (w : World) (B : Nat) (v : Value) (l : List Dep) : Prop := ∃ Ps : List (Value × Value), Ps.length = l.length ∧ SliceAt dCells w B v (dZip l Ps) ∧ ∀ (i : Nat) (h : i < l.length) (h' : i < Ps.length), AtomS_at w B Ps[i].1 l[i].body ∧ AtomS_at w B Ps[i].2 l[i].head
/-- a dependency's memory: each row's slice and the slices of its atoms -/
abbrev DepX := (Value × List Value) × (Value × List Value)
def DepX.vals (X : DepX) : Value × Value := (X.1.1, X.2.1)
def DepOwn (B C : Nat) (X : DepX) (x : Dep) (w : World) : Prop := AtomSO 86 B C X.1.1 X.1.2 x.body w ∧ AtomSO 86 B C X.2.1 X.2.2 x.head w ∧ ∀ g, aFootF X.1.1 X.1.2 g → ¬ aFootF X.2.1 X.2.2 g
def dFoot (X : DepX) (g : Nat) : Prop := aFootF X.1.1 X.1.2 g ∨ aFootF X.2.1 X.2.2 g
def DepApart (Xs : List DepX) : Prop := Xs.Pairwise fun X Y => ∀ g, dFoot X g → ¬ dFoot Y g
structure DependencySO (e : TypeId) (B C : Nat) (v : Value) (Xs : List DepX) (l : List Dep) (w : World) : Prop where
  len : Xs.length = l.length
  row : w.ownsRow B e 5 v (dZip l (Xs.map DepX.vals)).length ((dZip l (Xs.map DepX.vals)).flatMap dCells)
  ins : Value.inside C v
  el : ∀ (i : Nat) (h : i < l.length) (h' : i < Xs.length), DepOwn B C Xs[i] l[i] w
  dis : DepApart Xs
def DependencyS_own (B C : Nat) (v : Value) (l : List Dep) (w : World) : Prop := ∃ Xs, DependencySO 75 B C v Xs l w
theorem DependencyS_at.below {w w' : World} {B B' : Nat} {v : Value} {l : List Dep} (h : DependencyS_at w B v l) (hb : Below B' w w') (hB : B ≤ B') : DependencyS_at w' B v l := by
  obtain ⟨Ps, h1, h2, h3⟩ := h
  exact ⟨Ps, h1, h2.below hb hB, fun i h h' => ⟨(h3 i h h').1.below hb hB, (h3 i h h').2.below hb hB⟩⟩
theorem DependencyS_at.more {w : World} {B B' : Nat} {v : Value} {l : List Dep} (h : DependencyS_at w B v l) (hB : B ≤ B') : DependencyS_at w B' v l := by
  obtain ⟨Ps, h1, h2, h3⟩ := h
  exact ⟨Ps, h1, h2.more hB, fun i h h' => ⟨(h3 i h h').1.more hB, (h3 i h h').2.more hB⟩⟩
theorem DependencyS_at.later {w w' : World} {v : Value} {l : List Dep} (h : DependencyS_at w w.heap.size v l) (hb : Below w.heap.size w w') : DependencyS_at w' w'.heap.size v l := (h.below hb (Nat.le_refl _)).more hb.size
theorem DepOwn.below {B C D : Nat} {X : DepX} {x : Dep} {w w' : World} (h : DepOwn B C X x w) (hb : Below D w w') (hD : C ≤ D) : DepOwn B C X x w' := ⟨h.1.below hb hD, h.2.1.below hb hD, h.2.2⟩
theorem DepOwn.chg {B C B' C' : Nat} {X : DepX} {x : Dep} {w w' : World} (h : DepOwn B C X x w) (hc : Chg (Mid B' C') w w') (hd : C ≤ B' ∨ C' ≤ B) : DepOwn B C X x w' := ⟨h.1.chg hc hd, h.2.1.chg hc hd, h.2.2⟩
theorem DepOwn.chgS {S : Nat → Prop} {B C : Nat} {X : DepX} {x : Dep} {w w' : World} (h : DepOwn B C X x w) (hc : Chg S w w') (hd : ∀ g, dFoot X g → ¬ S g) : DepOwn B C X x w' := ⟨h.1.chgS hc fun g hg => hd g (.inl hg), h.2.1.chgS hc fun g hg => hd g (.inr hg), h.2.2⟩
theorem DepOwn.mono {B B' C C' : Nat} {X : DepX} {x : Dep} {w : World} (h : DepOwn B C X x w) (hB : B' ≤ B) (hC : C ≤ C') : DepOwn B' C' X x w := ⟨h.1.mono hB hC, h.2.1.mono hB hC, h.2.2⟩
theorem DepOwn.foot {B C : Nat} {X : DepX} {x : Dep} {w : World} (h : DepOwn B C X x w) : ∀ g, dFoot X g → Mid B C g := by
  rintro g (hg | hg)
  · exact h.1.foot g hg
  · exact h.2.1.foot g hg
/-- an atoms row's blocks are none of a row of another type -/
theorem aFoot_ne {e : TypeId} (he : e ≠ 3) (he2 : e ≠ 86) {B C B' n k : Nat} {v V : Value} {Vs : List Value} {l : List Atm} {xs : List Value} {w : World} (hr : w.ownsRow B' e k v n xs) (hV : AtomSO 86 B C V Vs l w) : ∀ g, v.ownBlock = some g → ¬ aFootF V Vs g := by
  rintro g hg (h1 | ⟨U, hU, h1⟩)
  · rcases own_ne hV.row hr (fun e1 => he2 e1.symm) with h | h
    · rw [h] at h1; cases h1
    · rw [hg, h1] at h; exact h rfl
  · obtain ⟨i, hi, rfl⟩ := List.getElem_of_mem hU
    exact inner_ne he hr (hV.el i (by have := hV.len; omega) hi) g hg h1
theorem dFoot_ne {e : TypeId} (he : e ≠ 3) (he2 : e ≠ 86) {B C B' n k : Nat} {v : Value} {X : DepX} {x : Dep} {xs : List Value} {w : World} (hr : w.ownsRow B' e k v n xs) (hV : DepOwn B C X x w) : ∀ g, v.ownBlock = some g → ¬ dFoot X g := by
  rintro g hg (h | h)
  · exact aFoot_ne he he2 hr hV.1 g hg h
  · exact aFoot_ne he he2 hr hV.2.1 g hg h
theorem DependencySO.at_ {e : TypeId} {B C D : Nat} {v : Value} {Xs : List DepX} {l : List Dep} {w : World} (h : DependencySO e B C v Xs l w) (hD : C ≤ D) : DependencyS_at w D v l :=
  ⟨Xs.map DepX.vals, by rw [List.length_map, h.len], SliceAt.inside (SliceAt.of_own h.row) (fun g hg => Nat.lt_of_lt_of_le (h.ins g hg) hD), fun i h1 h2 => by
    have h3 : i < Xs.length := by rw [h.len]; exact h1
    rw [List.getElem_map]
    exact ⟨(h.el i h1 h3).1.at_ hD, (h.el i h1 h3).2.1.at_ hD⟩⟩
theorem DependencyS_own.at_ {B C D : Nat} {v : Value} {l : List Dep} {w : World} (h : DependencyS_own B C v l w) (hD : C ≤ D) : DependencyS_at w D v l := by
  obtain ⟨Xs, h⟩ := h; exact h.at_ hD
theorem DependencySO.chg {e : TypeId} {B C B' C' : Nat} {v : Value} {Xs : List DepX} {l : List Dep} {w w' : World} (h : DependencySO e B C v Xs l w) (hc : Chg (Mid B' C') w w') (hd : C ≤ B' ∨ C' ≤ B) : DependencySO e B C v Xs l w' :=
  ⟨h.len, hc.row h.row (fun g hg hm => by have h1 := (World.ownsRow.lt h.row g hg).1; have h2 := h.ins g hg; have h3 : B' ≤ g := hm.1; have h4 : g < C' := hm.2; omega), h.ins, fun i h1 h2 => (h.el i h1 h2).chg hc hd, h.dis⟩
theorem DependencyS_own.chg {B C B' C' : Nat} {v : Value} {l : List Dep} {w w' : World} (h : DependencyS_own B C v l w) (hc : Chg (Mid B' C') w w') (hd : C ≤ B' ∨ C' ≤ B) : DependencyS_own B C v l w' := by
  obtain ⟨Xs, h⟩ := h; exact ⟨Xs, h.chg hc hd⟩
theorem DependencySO.below {e : TypeId} {B C D : Nat} {v : Value} {Xs : List DepX} {l : List Dep} {w w' : World} (h : DependencySO e B C v Xs l w) (hb : Below D w w') (hD : C ≤ D) : DependencySO e B C v Xs l w' :=
  ⟨h.len, (Chg.of_below' hb).row h.row (fun g hg hm => by have h2 := h.ins g hg; have h3 : D ≤ g := hm; omega), h.ins, fun i h1 h2 => (h.el i h1 h2).below hb hD, h.dis⟩
theorem DependencyS_own.below {B C D : Nat} {v : Value} {l : List Dep} {w w' : World} (h : DependencyS_own B C v l w) (hb : Below D w w') (hD : C ≤ D) : DependencyS_own B C v l w' := by
  obtain ⟨Xs, h⟩ := h; exact ⟨Xs, h.below hb hD⟩
theorem DependencySO.mono {e : TypeId} {B B' C C' : Nat} {v : Value} {Xs : List DepX} {l : List Dep} {w : World} (h : DependencySO e B C v Xs l w) (hB : B' ≤ B) (hC : C ≤ C') : DependencySO e B' C' v Xs l w :=
  ⟨h.len, row_mono h.row hB, fun g hg => Nat.lt_of_lt_of_le (h.ins g hg) hC, fun i h1 h2 => (h.el i h1 h2).mono hB hC, h.dis⟩
theorem DependencyS_own.mono {B B' C C' : Nat} {v : Value} {l : List Dep} {w : World} (h : DependencyS_own B C v l w) (hB : B' ≤ B) (hC : C ≤ C') : DependencyS_own B' C' v l w := by
  obtain ⟨Xs, h⟩ := h; exact ⟨Xs, h.mono hB hC⟩
/-- one dependency, read -/
theorem DependencyS_at.elem {w : World} {B c : Nat} {A : Option Addr} {l : List Dep} (h : DependencyS_at w B (.slice A l.length c) l) (j : Nat) (hj : j < l.length) :
    ∃ b off V U, A = some ⟨b, off, none⟩ ∧ b < B ∧ w.cell? ⟨b, off + j * 5, none⟩ = some V ∧ w.cell? ⟨b, off + j * 5 + 1, none⟩ = some U ∧ w.cell? ⟨b, off + j * 5 + 2, none⟩ = some (.bool l[j].egd) ∧ w.cell? ⟨b, off + j * 5 + 3, none⟩ = some (.int .i64 l[j].left) ∧ w.cell? ⟨b, off + j * 5 + 4, none⟩ = some (.int .i64 l[j].right) ∧ AtomS_at w B V l[j].body ∧ AtomS_at w B U l[j].head := by
  obtain ⟨Ps, h1, h2, h3⟩ := h
  have hp := dZip_len h1
  obtain ⟨A', c', hv, -, -, hc⟩ := h2
  rw [hp] at hv
  injection hv with e1 _ e2
  subst e1 e2
  obtain ⟨b, off, rfl, hb, hc⟩ := hc.1 (by omega)
  have hjp : j < (dZip l Ps).length := by omega
  have g (i : Nat) (hi : i < 5) := flat_get dCells 5 dCells_len (dZip l Ps) j i hjp hi
  have e := dZip_at j hjp hj (by omega : j < Ps.length)
  rw [e] at g
  refine ⟨b, off, Ps[j].1, Ps[j].2, rfl, hb, hc _ _ (g 0 (by omega)), ?_, ?_, ?_, ?_, (h3 j hj (by omega)).1, (h3 j hj (by omega)).2⟩
  · rw [Nat.add_assoc]; exact hc _ _ (g 1 (by omega))
  · rw [Nat.add_assoc]; exact hc _ _ (g 2 (by omega))
  · rw [Nat.add_assoc]; exact hc _ _ (g 3 (by omega))
  · rw [Nat.add_assoc]; exact hc _ _ (g 4 (by omega))
theorem DependencyS_at.form {w : World} {B : Nat} {v : Value} {l : List Dep} (h : DependencyS_at w B v l) : ∃ A c, v = .slice A l.length c ∧ l.length ≤ c ∧ c ≤ maxLen := by
  obtain ⟨Ps, h1, ⟨A, c, hv, h3, h4, _⟩, _⟩ := h
  rw [dZip_len h1] at hv h3
  exact ⟨A, c, hv, h3, h4⟩
def depsLen : List Dep → Nat
  | [] => 0
  | x :: t => Dependency_sz x + depsLen t
theorem depsLen_append (l m : List Dep) : depsLen (l ++ m) = depsLen l + depsLen m := by
  induction l with
  | nil => simp [depsLen]
  | cons a t ih => simp only [List.cons_append, depsLen, ih]; omega
theorem depsLen_take (l : List Dep) (k : Nat) (h : k < l.length) : depsLen (l.take (k + 1)) = depsLen (l.take k) + Dependency_sz l[k] := by
  rw [List.take_succ_eq_append_getElem h, depsLen_append]; simp [depsLen]
theorem depsLen_le (l : List Dep) (k : Nat) : depsLen (l.take k) ≤ depsLen l := by
  have := depsLen_append (l.take k) (l.drop k)
  rw [List.take_append_drop] at this; omega
def DependencyS_wf (l : List Dep) : Prop := ∀ (i : Nat) (h : i < l.length), Dependency_wf l[i]
def DependencyS_sz (l : List Dep) : Nat := l.length + depsLen l
/-- one dependency stored whole -/
theorem DependencySO.set {e : TypeId} (he : e ≠ 3) (he2 : e ≠ 86) {B C g n cap : Nat} {Xs : List DepX} {l : List Dep} {w : World} (h : DependencySO e B C (.slice (some ⟨g, 0, none⟩) n cap) Xs l w) (hn : l.length = n) (j : Nat) (hj : j < n) (x : Dep) (X : DepX) (hX : DepOwn B C X x w)
    (hd : ∀ (i : Nat) (hi : i < Xs.length), i ≠ j → ∀ q, dFoot Xs[i] q → ¬ dFoot X q) :
    DependencySO e B C (.slice (some ⟨g, 0, none⟩) n cap) (Xs.set j X) (l.set j x) (((((w.setCell ⟨g, j * 5, none⟩ X.1.1).setCell ⟨g, j * 5 + 1, none⟩ X.2.1).setCell ⟨g, j * 5 + 2, none⟩ (.bool x.egd)).setCell ⟨g, j * 5 + 3, none⟩ (.int .i64 x.left)).setCell ⟨g, j * 5 + 4, none⟩ (.int .i64 x.right)) := by
  have hp := dZip_len (l := l) (Ps := Xs.map DepX.vals) (by rw [List.length_map, h.len])
  have hrow := h.row
  rw [hp, hn] at hrow
  have h1 := (World.ownsRow.stored hrow (j * 5) X.1.1).1
  have h2 := (World.ownsRow.stored h1 (j * 5 + 1) X.2.1).1
  have h3 := (World.ownsRow.stored h2 (j * 5 + 2) (.bool x.egd)).1
  have h4 := (World.ownsRow.stored h3 (j * 5 + 3) (.int .i64 x.left)).1
  have h5 := (World.ownsRow.stored h4 (j * 5 + 4) (.int .i64 x.right)).1
  have hC : Chg (fun q => q = g) w (((((w.setCell ⟨g, j * 5, none⟩ X.1.1).setCell ⟨g, j * 5 + 1, none⟩ X.2.1).setCell ⟨g, j * 5 + 2, none⟩ (.bool x.egd)).setCell ⟨g, j * 5 + 3, none⟩ (.int .i64 x.left)).setCell ⟨g, j * 5 + 4, none⟩ (.int .i64 x.right)) :=
    (((((Chg.refl (fun q => q = g) w).setCell (p := ⟨g, j * 5, none⟩) rfl _).setCell (p := ⟨g, j * 5 + 1, none⟩) rfl _).setCell (p := ⟨g, j * 5 + 2, none⟩) rfl _).setCell (p := ⟨g, j * 5 + 3, none⟩) rfl _).setCell (p := ⟨g, j * 5 + 4, none⟩) rfl _
  have keep : ∀ {U : DepX} {us : Dep}, DepOwn B C U us w → DepOwn B C U us (((((w.setCell ⟨g, j * 5, none⟩ X.1.1).setCell ⟨g, j * 5 + 1, none⟩ X.2.1).setCell ⟨g, j * 5 + 2, none⟩ (.bool x.egd)).setCell ⟨g, j * 5 + 3, none⟩ (.int .i64 x.left)).setCell ⟨g, j * 5 + 4, none⟩ (.int .i64 x.right)) := fun hU => hU.chgS hC (fun q hq e1 => by
    subst e1; exact dFoot_ne he he2 h.row hU q rfl hq)
  refine ⟨by rw [List.length_set, List.length_set, h.len], ?_, h.ins, fun i h3 h4 => ?_, ?_⟩
  · rw [List.map_set, dZip_set2, List.length_set, hp, hn, ← flat_set dCells 5 dCells_len (dZip l (Xs.map DepX.vals)) j (by omega) (depC x X.vals)]
    exact h5
  · rw [List.length_set] at h3 h4
    simp only [List.getElem_set]
    split
    · exact keep hX
    · exact keep (h.el i h3 h4)
  · refine List.pairwise_iff_getElem.2 fun a b ha hb hab q h1 h2 => ?_
    rw [List.length_set] at ha hb
    rw [List.getElem_set] at h1 h2
    have hp := List.pairwise_iff_getElem.1 h.dis
    split at h1
    · rename_i e1; subst e1
      rw [if_neg (by omega)] at h2
      exact hd b hb (by omega) q h2 h1
    · split at h2
      · rename_i e2; subst e2
        exact hd a ha (by omega) q h1 h2
      · exact hp a b ha hb hab q h1 h2
theorem DependencySO.cells {e : TypeId} {B C g n cap : Nat} {Xs : List DepX} {l : List Dep} {w : World} (h : DependencySO e B C (.slice (some ⟨g, 0, none⟩) n cap) Xs l w) (hn : l.length = n) (j : Nat) (hj : j < l.length) (hjv : j < Xs.length) :
    w.cell? ⟨g, j * 5, none⟩ = some Xs[j].1.1 ∧ w.cell? ⟨g, j * 5 + 1, none⟩ = some Xs[j].2.1 ∧ w.cell? ⟨g, j * 5 + 2, none⟩ = some (.bool l[j].egd) ∧ w.cell? ⟨g, j * 5 + 3, none⟩ = some (.int .i64 l[j].left) ∧ w.cell? ⟨g, j * 5 + 4, none⟩ = some (.int .i64 l[j].right) := by
  have hp := dZip_len (l := l) (Ps := Xs.map DepX.vals) (by rw [List.length_map, h.len])
  have hrow := h.row
  rw [hp, hn] at hrow
  have hjp : j < (dZip l (Xs.map DepX.vals)).length := by omega
  have g (i : Nat) (hi : i < 5) := (World.ownsRow.cellAt hrow (j * 5 + i) (by omega)).trans (flat_get dCells 5 dCells_len (dZip l (Xs.map DepX.vals)) j i hjp hi)
  rw [dZip_at j hjp hj (by rw [List.length_map]; exact hjv), List.getElem_map] at g
  exact ⟨g 0 (by omega), g 1 (by omega), g 2 (by omega), g 3 (by omega), g 4 (by omega)⟩
theorem DependencySO.frozen {e : TypeId} {B C g n cap : Nat} {Xs : List DepX} {l : List Dep} {w : World} (h : DependencySO e B C (.slice (some ⟨g, 0, none⟩) n cap) Xs l w) (hn : l.length = n) (j : Nat) : w.frozen? ⟨g, j, none⟩ = false := by
  have hrow := h.row
  rw [dZip_len (by rw [List.length_map, h.len]), hn] at hrow
  exact World.ownsRow.frozenAt hrow j
def zeroDep : Dep := ⟨[], [], false, 0, 0⟩
def zeroDX : DepX := ((.slice none 0 0, []), (.slice none 0 0, []))
theorem dMade (n : Nat) : (madeCells #[.slice none 0 0, .slice none 0 0, .bool false, .int .i64 0, .int .i64 0] (n * 5)).toList = (dZip (List.replicate n zeroDep) ((List.replicate n zeroDX).map DepX.vals)).flatMap dCells := by
  apply List.ext_getElem?
  intro i
  have hp : (dZip (List.replicate n zeroDep) ((List.replicate n zeroDX).map DepX.vals)).length = n := by rw [dZip_len (by simp)]; simp
  by_cases hi : i < n * 5
  · have e : i = i / 5 * 5 + i % 5 := by omega
    have h1 : i / 5 < (dZip (List.replicate n zeroDep) ((List.replicate n zeroDX).map DepX.vals)).length := by omega
    have := flat_get dCells 5 dCells_len (dZip (List.replicate n zeroDep) ((List.replicate n zeroDX).map DepX.vals)) (i / 5) (i % 5) h1 (by omega)
    rw [← e] at this
    rw [this, dZip_at _ h1 (by simp; omega) (by simp; omega)]
    simp only [List.getElem_replicate, List.getElem_map]
    have h3 : i % 5 = 0 ∨ i % 5 = 1 ∨ i % 5 = 2 ∨ i % 5 = 3 ∨ i % 5 = 4 := by omega
    rcases h3 with h3 | h3 | h3 | h3 | h3 <;> simp [madeCells, hi, h3, dCells, depC, zeroDep, zeroDX, DepX.vals]
  · rw [List.getElem?_eq_none (by simp [madeCells]; omega), List.getElem?_eq_none]
    rw [flat_len dCells 5 dCells_len, hp]; omega
theorem AtomSO.nil0 (e : TypeId) (B C : Nat) (w : World) : AtomSO e B C (.slice none 0 0) [] [] w := ⟨rfl, World.ownsRow_nil w B _ _, (fun g hg => by cases hg), (fun i h => absurd h (by simp)), List.Pairwise.nil⟩
theorem no_foot : ∀ g, ¬ aFootF (.slice none 0 0) [] g := by
  rintro g (h | ⟨V, hV, _⟩)
  · cases h
  · cases hV
theorem DependencySO.made {e : TypeId} (w : World) (n : Nat) (hn : n ≤ 1048576) : DependencySO e w.heap.size (w.heap.size + 1) (.slice (some ⟨w.heap.size, 0, none⟩) n n) (List.replicate n zeroDX) (List.replicate n zeroDep) (w.alloc (.cells (madeCells #[.slice none 0 0, .slice none 0 0, .bool false, .int .i64 0, .int .i64 0] (n * 5)) e)) := by
  have hp : (dZip (List.replicate n zeroDep) ((List.replicate n zeroDX).map DepX.vals)).length = n := by rw [dZip_len (by simp)]; simp
  refine ⟨by simp, ?_, fun g hg => by cases hg; exact Nat.lt_succ_self _, fun i h h' => ?_, ?_⟩
  · rw [hp, ← dMade]
    exact World.ownsRow_lit w _ n (Nat.le_refl _) (by unfold maxLen; omega) (size_madeCells _ _)
  · simp only [List.getElem_replicate]
    exact ⟨AtomSO.nil0 _ _ _ _, AtomSO.nil0 _ _ _ _, fun g hg => absurd hg (no_foot g)⟩
  · exact List.pairwise_iff_getElem.2 fun i j hi hj _ g h1 => by
      rw [List.getElem_replicate] at h1
      rcases h1 with h1 | h1 <;> exact absurd h1 (no_foot g)
theorem infoDep : (Tryd.prog.info? 75).map (fun i => (i.zero, i.size, i.bytes)) = some (some (.agg #[.slice none 0 0, .slice none 0 0, .bool false, .int .i64 0, .int .i64 0]), 5, 72) := by kernel_rfl
theorem take_zero_dep (l : List Dep) (k : Nat) (h : k < l.length) : (l.take k ++ List.replicate (l.length - k) zeroDep).set k l[k] = l.take (k + 1) ++ List.replicate (l.length - (k + 1)) zeroDep := by
  rw [List.set_append_right _ _ (by simp; omega), List.length_take_of_le (by omega), Nat.sub_self, List.take_succ_eq_append_getElem h, show l.length - k = (l.length - (k + 1)) + 1 by omega, List.replicate_succ, List.set_cons_zero, List.append_assoc]
  rfl
/-- a mark's places in a dependency of a slice -/
def depCnt (x : Dep) : Nat := AtomS_cnt x.body + AtomS_cnt x.head + 3
def depsCnt : List Dep → Nat
  | [] => 0
  | x :: t => depCnt x + depsCnt t
theorem depsCnt_append (l m : List Dep) : depsCnt (l ++ m) = depsCnt l + depsCnt m := by
  induction l with
  | nil => simp [depsCnt]
  | cons a t ih => simp only [List.cons_append, depsCnt, ih]; omega
theorem depsCnt_take (l : List Dep) (k : Nat) (h : k < l.length) : depsCnt (l.take (k + 1)) = depsCnt (l.take k) + depCnt l[k] := by
  rw [List.take_succ_eq_append_getElem h, depsCnt_append]; simp [depsCnt]
theorem depsCnt_le (l : List Dep) (k : Nat) : depsCnt (l.take k) ≤ depsCnt l := by
  have := depsCnt_append (l.take k) (l.drop k)
  rw [List.take_append_drop] at this; omega
def DependencyS_cnt (l : List Dep) : Nat := depsCnt l
theorem depsCnt_sz (l : List Dep) : depsCnt l = 3 * l.length + depsLen l := by
  induction l with
  | nil => rfl
  | cons a t ih =>
    simp only [depsCnt, depsLen, List.length_cons, ih, depCnt, Dependency_sz, AtomS_cnt, AtomS_sz]; omega
theorem DependencyS_cnt_le (l : List Dep) : DependencyS_cnt l ≤ 4 * DependencyS_sz l := by
  unfold DependencyS_cnt DependencyS_sz; rw [depsCnt_sz]; omega
/-- what a mark writes -/
def markDep (k : Nat) (x : Dep) : Dep := ⟨AtomS_mk k x.body, AtomS_mk (k + AtomS_cnt x.body) x.head, ((((k + AtomS_cnt x.body + AtomS_cnt x.head : Nat) : Int) % 3) == 0), ((k + AtomS_cnt x.body + AtomS_cnt x.head + 1 : Nat) : Int), ((k + AtomS_cnt x.body + AtomS_cnt x.head + 2 : Nat) : Int)⟩
def markDepAt (k : Nat) (l : List Dep) (i : Nat) : Dep := markDep (k + depsCnt (l.take i)) (l.getD i default)
def DependencyS_mk (k : Nat) (l : List Dep) : List Dep := (List.range l.length).map (markDepAt k l)
theorem DependencyS_mk_len (k : Nat) (l : List Dep) : (DependencyS_mk k l).length = l.length := by simp [DependencyS_mk]
theorem DependencyS_mk_at (k : Nat) (l : List Dep) (i : Nat) (h : i < (DependencyS_mk k l).length) : (DependencyS_mk k l)[i] = markDepAt k l i := by simp [DependencyS_mk]

def dFootS (v : Value) (Xs : List DepX) (g : Nat) : Prop := v.ownBlock = some g ∨ ∃ X ∈ Xs, dFoot X g
theorem DependencySO.foot {e : TypeId} {B C : Nat} {v : Value} {Xs : List DepX} {l : List Dep} {w : World} (h : DependencySO e B C v Xs l w) : ∀ q, dFootS v Xs q → Mid B C q := by
  rintro q (hq | ⟨X, hX, hq⟩)
  · exact ⟨(World.ownsRow.lt h.row q hq).1, h.ins q hq⟩
  · obtain ⟨i, hi, rfl⟩ := List.getElem_of_mem hX
    exact (h.el i (by have := h.len; omega) hi).foot q hq
theorem DepApart.at_ {Xs : List DepX} (h : DepApart Xs) (i j : Nat) (hi : i < Xs.length) (hj : j < Xs.length) (hij : i ≠ j) : ∀ g, dFoot Xs[i] g → ¬ dFoot Xs[j] g := by
  intro g h1 h2
  have hp := List.pairwise_iff_getElem.1 h
  rcases Nat.lt_or_gt_of_ne hij with hlt | hlt
  · exact hp i j hi hj hlt g h1 h2
  · exact hp j i hj hi hlt g h2 h1
theorem dZip_same {l : List Dep} {Ps : List (Value × Value)} (j : Nat) (x : Dep) (hj : j < l.length) (h1 : x.egd = l[j].egd) (h2 : x.left = l[j].left) (h3 : x.right = l[j].right) : dZip (l.set j x) Ps = dZip l Ps := by
  apply List.ext_getElem
  · simp [dZip]
  · intro i h4 h5
    simp only [dZip, List.getElem_zipWith, List.getElem_set]
    split
    · rename_i e; subst e; unfold depC; rw [h1, h2, h3]
    · rfl
/-- a dependency's atoms written in their own rows -/
theorem DependencySO.setEl {e : TypeId} (he : e ≠ 3) (he2 : e ≠ 86) {B C : Nat} {v : Value} {Xs : List DepX} {l : List Dep} {w w' : World} (h : DependencySO e B C v Xs l w) (j : Nat) (hj : j < l.length) (hjv : j < Xs.length) (x : Dep) (h1 : x.egd = l[j].egd) (h2 : x.left = l[j].left) (h3 : x.right = l[j].right)
    (hX : DepOwn B C Xs[j] x w') (hc : Chg (dFoot Xs[j]) w w') : DependencySO e B C v Xs (l.set j x) w' := by
  refine ⟨by rw [List.length_set, h.len], ?_, h.ins, fun i h3 h4 => ?_, h.dis⟩
  · rw [dZip_same j x hj h1 h2 h3]
    exact hc.row h.row (fun g hg => dFoot_ne he he2 h.row (h.el j hj hjv) g hg)
  · rw [List.length_set] at h3
    simp only [List.getElem_set]
    split
    · rename_i hij; subst hij; exact hX
    · rename_i hij
      exact (h.el i h3 h4).chgS hc (fun g hg hg2 => h.dis.at_ j i hjv h4 hij g hg2 hg)
/-- a dependency's fields that are no slices stored -/
theorem DependencySO.setFlags {e : TypeId} (he : e ≠ 3) (he2 : e ≠ 86) {B C g n cap : Nat} {Xs : List DepX} {l : List Dep} {w : World} (h : DependencySO e B C (.slice (some ⟨g, 0, none⟩) n cap) Xs l w) (hn : l.length = n) (j : Nat) (hj : j < l.length) (hjv : j < Xs.length) (q : Bool) (a b : Int) :
    DependencySO e B C (.slice (some ⟨g, 0, none⟩) n cap) Xs (l.set j ⟨l[j].body, l[j].head, q, a, b⟩) (((w.setCell ⟨g, j * 5 + 2, none⟩ (.bool q)).setCell ⟨g, j * 5 + 3, none⟩ (.int .i64 a)).setCell ⟨g, j * 5 + 4, none⟩ (.int .i64 b)) := by
  have hp := dZip_len (l := l) (Ps := Xs.map DepX.vals) (by rw [List.length_map, h.len])
  have hrow := h.row
  rw [hp, hn] at hrow
  have h3 := (World.ownsRow.stored hrow (j * 5 + 2) (.bool q)).1
  have h4 := (World.ownsRow.stored h3 (j * 5 + 3) (.int .i64 a)).1
  have h5 := (World.ownsRow.stored h4 (j * 5 + 4) (.int .i64 b)).1
  have hC : Chg (fun q => q = g) w (((w.setCell ⟨g, j * 5 + 2, none⟩ (.bool q)).setCell ⟨g, j * 5 + 3, none⟩ (.int .i64 a)).setCell ⟨g, j * 5 + 4, none⟩ (.int .i64 b)) :=
    (((Chg.refl (fun q => q = g) w).setCell (p := ⟨g, j * 5 + 2, none⟩) rfl _).setCell (p := ⟨g, j * 5 + 3, none⟩) rfl _).setCell (p := ⟨g, j * 5 + 4, none⟩) rfl _
  have hjp : j < (Xs.map DepX.vals).length := by rw [List.length_map]; exact hjv
  have hjz : j < (dZip l (Xs.map DepX.vals)).length := by omega
  have hcell (i : Nat) (hi : i < 5) := flat_get dCells 5 dCells_len (dZip l (Xs.map DepX.vals)) j i hjz hi
  rw [dZip_at j hjz hj hjp, List.getElem_map] at hcell
  refine ⟨by rw [List.length_set, h.len], ?_, h.ins, fun i h6 h7 => ?_, h.dis⟩
  · have e0 : dZip (l.set j ⟨l[j].body, l[j].head, q, a, b⟩) (Xs.map DepX.vals) = (dZip l (Xs.map DepX.vals)).set j (depC ⟨l[j].body, l[j].head, q, a, b⟩ Xs[j].vals) := by
      have e1 : Xs.map DepX.vals = (Xs.map DepX.vals).set j Xs[j].vals := by
        rw [show Xs[j].vals = (Xs.map DepX.vals)[j] by rw [List.getElem_map], List.set_getElem_self]
      calc dZip (l.set j ⟨l[j].body, l[j].head, q, a, b⟩) (Xs.map DepX.vals) = dZip (l.set j ⟨l[j].body, l[j].head, q, a, b⟩) ((Xs.map DepX.vals).set j Xs[j].vals) := by rw [← e1]
        _ = _ := dZip_set2 j _ _
    rw [e0, List.length_set, hp, hn, ← flat_set dCells 5 dCells_len (dZip l (Xs.map DepX.vals)) j (by omega) (depC ⟨l[j].body, l[j].head, q, a, b⟩ Xs[j].vals)]
    have e2 : setMany ((dZip l (Xs.map DepX.vals)).flatMap dCells) (j * 5) (dCells (depC ⟨l[j].body, l[j].head, q, a, b⟩ Xs[j].vals)) = ((((dZip l (Xs.map DepX.vals)).flatMap dCells).set (j * 5 + 2) (.bool q)).set (j * 5 + 3) (.int .i64 a)).set (j * 5 + 4) (.int .i64 b) := by
      show ((((((dZip l (Xs.map DepX.vals)).flatMap dCells).set (j * 5) Xs[j].1.1).set (j * 5 + 1) Xs[j].2.1).set (j * 5 + 1 + 1) (.bool q)).set (j * 5 + 1 + 1 + 1) (.int .i64 a)).set (j * 5 + 1 + 1 + 1 + 1) (.int .i64 b) = _
      rw [set_same (i := j * 5) (u := Xs[j].1.1) (hcell 0 (by omega)), set_same (i := j * 5 + 1) (u := Xs[j].2.1) (hcell 1 (by omega))]
    rw [e2]
    exact h5
  · rw [List.length_set] at h6
    have hk : DepOwn B C Xs[i] l[i] (((w.setCell ⟨g, j * 5 + 2, none⟩ (.bool q)).setCell ⟨g, j * 5 + 3, none⟩ (.int .i64 a)).setCell ⟨g, j * 5 + 4, none⟩ (.int .i64 b)) := (h.el i h6 h7).chgS hC (fun q hq e1 => by subst e1; exact dFoot_ne he he2 h.row (h.el i h6 h7) q rfl hq)
    simp only [List.getElem_set]
    split
    · rename_i hij; subst hij; exact hk
    · exact hk

theorem AtomSO.kept {e : TypeId} {B C : Nat} {v : Value} {Vs : List Value} {l : List Atm} {w w' : World} {row : Option Nat} (h : AtomSO e B C v Vs l w) (hg : w.grownBy w' row) (hne : ∀ q, aFootF v Vs q → row ≠ some q) : AtomSO e B C v Vs l w' := by
  have key : ∀ (V : Value), (∀ q, V.ownBlock = some q → row ≠ some q) → V.ownBlock = none ∨ V.ownBlock ≠ row := fun V hV => by
    cases hv : V.ownBlock with
    | none => exact .inl rfl
    | some k => right; intro e; exact hV k hv e.symm
  exact ⟨h.len, World.ownsRow.kept h.row hg (key v fun q hq => hne q (.inl hq)), h.ins, fun i h1 h2 => ⟨World.ownsRow.kept (h.el i h1 h2).1 hg (key _ fun q hq => hne q (.inr ⟨_, List.getElem_mem h2, hq⟩)), (h.el i h1 h2).2⟩, h.dis⟩
theorem DepOwn.kept {B C : Nat} {X : DepX} {x : Dep} {w w' : World} {row : Option Nat} (h : DepOwn B C X x w) (hg : w.grownBy w' row) (hne : ∀ q, dFoot X q → row ≠ some q) : DepOwn B C X x w' :=
  ⟨h.1.kept hg fun q hq => hne q (.inl hq), h.2.1.kept hg fun q hq => hne q (.inr hq), h.2.2⟩
theorem dZip_snoc {l : List Dep} {Ps : List (Value × Value)} (h : Ps.length = l.length) (x : Dep) (p : Value × Value) : dZip (l ++ [x]) (Ps ++ [p]) = dZip l Ps ++ [depC x p] := by
  unfold dZip; rw [List.zipWith_append h.symm]; rfl
/-- a dependency appended to a slice of dependencies of the call's own -/
theorem DependencySO.snoc {e : TypeId} (he : e ≠ 3) (he2 : e ≠ 86) {B C C' : Nat} {v v' : Value} {Xs : List DepX} {X : DepX} {l : List Dep} {x : Dep} {w w' : World} (h : DependencySO e B C v Xs l w) (hC : C ≤ C')
    (hrow : w'.ownsRow B e 5 v' (dZip l (Xs.map DepX.vals) ++ [depC x X.vals]).length ((dZip l (Xs.map DepX.vals) ++ [depC x X.vals]).flatMap dCells)) (hg : w.grownBy w' v.ownBlock) (hin : Value.inside C' v')
    (hX : DepOwn B C' X x w) (hd : ∀ (i : Nat) (hi : i < Xs.length), ∀ q, dFoot Xs[i] q → ¬ dFoot X q) : DependencySO e B C' v' (Xs ++ [X]) (l ++ [x]) w' := by
  have keep : ∀ {U : DepX} {us : Dep}, DepOwn B C' U us w → DepOwn B C' U us w' := fun hU => hU.kept hg (fun q hq e1 => dFoot_ne he he2 h.row hU q e1 hq)
  have hl : (Xs.map DepX.vals).length = l.length := by rw [List.length_map, h.len]
  refine ⟨by rw [List.length_append, List.length_append, h.len]; rfl, by rw [List.map_append, List.map_singleton, dZip_snoc hl]; exact hrow, hin, fun i h1 h2 => ?_, ?_⟩
  · by_cases hi : i < l.length
    · have hiv : i < Xs.length := by rw [h.len]; exact hi
      rw [List.getElem_append_left hi, List.getElem_append_left hiv]
      exact keep ((h.el i hi hiv).mono (Nat.le_refl _) hC)
    · have hil : i = l.length := by rw [List.length_append, List.length_singleton] at h1; omega
      subst hil
      rw [List.getElem_append_right (show l.length ≤ l.length from Nat.le_refl _)]
      have : Xs.length ≤ l.length := by rw [h.len]; exact Nat.le_refl _
      rw [List.getElem_append_right this]
      simp only [Nat.sub_self, List.getElem_cons_zero, h.len]
      exact keep hX
  · refine List.pairwise_append.2 ⟨h.dis, List.pairwise_singleton _ _, fun a ha b hb => ?_⟩
    rw [List.mem_singleton.1 hb]
    obtain ⟨i, hi, rfl⟩ := List.getElem_of_mem ha
    exact hd i hi
theorem DependencySO.empty (e : TypeId) (w : World) : DependencySO e w.heap.size (w.heap.size + 1) (.slice (some ⟨w.heap.size, 0, none⟩) 0 0) [] [] (w.alloc (.cells #[] e)) :=
  ⟨rfl, World.ownsRow_lit w #[] 0 (Nat.le_refl _) (by decide) rfl, (fun g hg => by cases hg; exact Nat.lt_succ_self _), (fun i h => absurd h (by simp)), List.Pairwise.nil⟩

end Go.Proofs.YtakflmaeclneiaaDoor
