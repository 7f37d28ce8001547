/-
  Walks and plain lemmas for the laws of this seat: what single Go functions return, for every argument.
-/
import Derived.Test.YtakflmaeclneiaaDoorTyAtom
import Derived.Test.YtakflmaeclneiaaDoorTyDepS
import Derived.Test.YtakflmaeclneiaaDoorDrawA9
namespace Go.Proofs.YtakflmaeclneiaaDoor
open Go.RowKit

/-- an atom, a dependency as the draws make them -/
def AtmSmall (a : Atm) : Prop := (-1 ≤ a.rel ∧ a.rel ≤ 6) ∧ (1 ≤ a.vals.length ∧ a.vals.length ≤ 2) ∧ ∀ z ∈ a.vals, -11 ≤ z ∧ z ≤ 5
def DepSmall (n : Nat) (x : Dep) : Prop := (1 ≤ x.body.length ∧ x.body.length ≤ 2 ∧ ∀ a ∈ x.body, AtmSmall a) ∧ (x.head.length ≤ n ∧ ∀ a ∈ x.head, AtmSmall a) ∧ (-11 ≤ x.left ∧ x.left ≤ 5) ∧ -11 ≤ x.right ∧ x.right ≤ 5
def DVal9 (X : DepX) (x : Dep) : Value := .agg #[X.1.1, X.2.1, .bool x.egd, .int .i64 x.left, .int .i64 x.right]
def GivesDep9 (n : Nat) (p : Nat) (cv : Value) (code : List UInt8) (w : World) (e : Ending) (w' : World) : Prop := ∃ X x, e = .returned (DVal9 X x) ∧ DepOwn w.heap.size w'.heap.size X x w' ∧ DepSmall n x ∧ (∃ st', CurS w' p cv code st') ∧ w.grownBy w' (some p)
theorem lit_ints (w : World) (vs : List Int) (h : vs.length ≤ 3) : IntS_own w.heap.size (w.heap.size + 1) (.slice (some ⟨w.heap.size, 0, none⟩) vs.length vs.length) vs (w.alloc (.cells (vs.map (Value.int .i64)).toArray 3)) := by
  refine ⟨?_, fun g hg => by cases hg; exact Nat.lt_succ_self _⟩
  have := World.ownsRow_lit (base := w.heap.size) (e := 3) (size := 1) w (vs.map (Value.int .i64)).toArray vs.length (Nat.le_refl _) (by unfold maxLen; omega) (by simp)
  simpa [OwnInts] using this
theorem lit_atoms1 (B : Nat) (w : World) (r : Int) (V : Value) (vs : List Int) (hV : IntS_own B w.heap.size V vs w) (hB : B ≤ w.heap.size) : AtomSO 86 B (w.heap.size + 1) (.slice (some ⟨w.heap.size, 0, none⟩) 1 1) [V] [⟨r, vs⟩] (w.alloc (.cells #[.int .i64 r, V] 86)) := by
  have hb : Below w.heap.size w (w.alloc (.cells #[.int .i64 r, V] 86)) := (Below.refl _ _).alloc (Nat.le_refl _) _
  refine ⟨rfl, World.ownsRow_lit w #[.int .i64 r, V] 1 hB (by decide) rfl, (fun g hg => by cases hg; exact Nat.lt_succ_self _), (fun i h h' => ?_), List.pairwise_singleton _ _⟩
  have h1 : i < 1 := h
  obtain rfl : i = 0 := by omega
  exact (hV.below hb (Nat.le_refl _)).mono (Nat.le_refl _) (Nat.le_succ _)
theorem lit_atoms2 (B : Nat) (w : World) (r1 r2 : Int) (V1 V2 : Value) (u1 u2 : List Int) (h1 : IntS_own B w.heap.size V1 u1 w) (h2 : IntS_own B w.heap.size V2 u2 w) (hd : ∀ g, V1.ownBlock = some g → V2.ownBlock ≠ some g) (hB : B ≤ w.heap.size) : AtomSO 86 B (w.heap.size + 1) (.slice (some ⟨w.heap.size, 0, none⟩) 2 2) [V1, V2] [⟨r1, u1⟩, ⟨r2, u2⟩] (w.alloc (.cells #[.int .i64 r1, V1, .int .i64 r2, V2] 86)) := by
  have hb : Below w.heap.size w (w.alloc (.cells #[.int .i64 r1, V1, .int .i64 r2, V2] 86)) := (Below.refl _ _).alloc (Nat.le_refl _) _
  refine ⟨rfl, World.ownsRow_lit w #[.int .i64 r1, V1, .int .i64 r2, V2] 2 hB (by decide) rfl, (fun g hg => by cases hg; exact Nat.lt_succ_self _), (fun i h h' => ?_), List.pairwise_pair.2 hd⟩
  have h3 : i < 2 := h
  rcases (show i = 0 ∨ i = 1 by omega) with rfl | rfl
  · exact (h1.below hb (Nat.le_refl _)).mono (Nat.le_refl _) (Nat.le_succ _)
  · exact (h2.below hb (Nat.le_refl _)).mono (Nat.le_refl _) (Nat.le_succ _)
/-- a row of one atom, a row of two, made of literals from a world on -/
def litW1 (w : World) (r : Int) (vs : List Int) : World := (w.alloc (.cells (vs.map (Value.int .i64)).toArray 3)).alloc (.cells #[.int .i64 r, .slice (some ⟨w.heap.size, 0, none⟩) vs.length vs.length] 86)
def litW2 (w : World) (r1 : Int) (u1 : List Int) (r2 : Int) (u2 : List Int) : World := ((w.alloc (.cells (u1.map (Value.int .i64)).toArray 3)).alloc (.cells (u2.map (Value.int .i64)).toArray 3)).alloc (.cells #[.int .i64 r1, .slice (some ⟨w.heap.size, 0, none⟩) u1.length u1.length, .int .i64 r2, .slice (some ⟨w.heap.size + 1, 0, none⟩) u2.length u2.length] 86)
theorem litW1_below (w : World) (r : Int) (vs : List Int) : Below w.heap.size w (litW1 w r vs) := below_more (below_more (Below.refl _ _) _) _
theorem litW2_below (w : World) (r1 : Int) (u1 : List Int) (r2 : Int) (u2 : List Int) : Below w.heap.size w (litW2 w r1 u1 r2 u2) := below_more (below_more (below_more (Below.refl _ _) _) _) _
theorem litW1_size (w : World) (r : Int) (vs : List Int) : (litW1 w r vs).heap.size = w.heap.size + 2 := by simp [litW1]
theorem litW2_size (w : World) (r1 : Int) (u1 : List Int) (r2 : Int) (u2 : List Int) : (litW2 w r1 u1 r2 u2).heap.size = w.heap.size + 3 := by simp [litW2]
theorem litW1_own (w : World) (r : Int) (vs : List Int) (h : vs.length ≤ 3) : AtomSO 86 w.heap.size (w.heap.size + 2) (.slice (some ⟨w.heap.size + 1, 0, none⟩) 1 1) [.slice (some ⟨w.heap.size, 0, none⟩) vs.length vs.length] [⟨r, vs⟩] (litW1 w r vs) := by
  have h1 := lit_ints w vs h
  have e : (w.alloc (.cells (vs.map (Value.int .i64)).toArray 3)).heap.size = w.heap.size + 1 := by simp
  have h2 := lit_atoms1 w.heap.size (w.alloc (.cells (vs.map (Value.int .i64)).toArray 3)) r _ vs (by rw [e]; exact h1) (by omega)
  rw [e] at h2
  exact h2
theorem litW2_own (w : World) (r1 : Int) (u1 : List Int) (r2 : Int) (u2 : List Int) (h : u1.length ≤ 3) (h' : u2.length ≤ 3) : AtomSO 86 w.heap.size (w.heap.size + 3) (.slice (some ⟨w.heap.size + 2, 0, none⟩) 2 2) [.slice (some ⟨w.heap.size, 0, none⟩) u1.length u1.length, .slice (some ⟨w.heap.size + 1, 0, none⟩) u2.length u2.length] [⟨r1, u1⟩, ⟨r2, u2⟩] (litW2 w r1 u1 r2 u2) := by
  have h1 := lit_ints w u1 h
  have e : (w.alloc (.cells (u1.map (Value.int .i64)).toArray 3)).heap.size = w.heap.size + 1 := by simp
  have h2 := lit_ints (w.alloc (.cells (u1.map (Value.int .i64)).toArray 3)) u2 h'
  rw [e] at h2
  have e2 : ((w.alloc (.cells (u1.map (Value.int .i64)).toArray 3)).alloc (.cells (u2.map (Value.int .i64)).toArray 3)).heap.size = w.heap.size + 2 := by simp
  have hb : Below (w.heap.size + 1) (w.alloc (.cells (u1.map (Value.int .i64)).toArray 3)) ((w.alloc (.cells (u1.map (Value.int .i64)).toArray 3)).alloc (.cells (u2.map (Value.int .i64)).toArray 3)) := (Below.refl _ _).alloc (by rw [e]; exact Nat.le_refl _) _
  have h3 := lit_atoms2 w.heap.size ((w.alloc (.cells (u1.map (Value.int .i64)).toArray 3)).alloc (.cells (u2.map (Value.int .i64)).toArray 3)) r1 r2 (.slice (some ⟨w.heap.size, 0, none⟩) u1.length u1.length) (.slice (some ⟨w.heap.size + 1, 0, none⟩) u2.length u2.length) u1 u2 (by rw [e2]; exact (h1.below hb (Nat.le_refl _)).mono (Nat.le_refl _) (by omega)) (by rw [e2]; exact h2.mono (Nat.le_succ _) (Nat.le_refl _)) (fun g hg hg' => by simp [Value.ownBlock] at hg hg'; omega) (by omega)
  rw [e2] at h3
  exact h3
/-- a drawn dependency's two rows, the second made behind the first -/
theorem dep9_own {B C D : Nat} {v u : Value} {Vs Us : List Value} {b h : List Atm} {q : Bool} {l r : Int} {w1 w2 w3 : World} (hb : AtomSO 86 B C v Vs b w1) (h12 : Below C w1 w2) (hh : AtomSO 86 C D u Us h w2) (hBC : B ≤ C) (hz : C ≤ D) (h3 : Chg (fun g => g < B) w2 w3) : DepOwn B D ((v, Vs), (u, Us)) ⟨b, h, q, l, r⟩ w3 := by
  have hb2 := hb.below h12 (Nat.le_refl _)
  refine ⟨(hb2.chgS h3 (fun g hg e => ?_)).mono (Nat.le_refl _) hz, (hh.chgS h3 (fun g hg e => ?_)).mono ?_ (Nat.le_refl _), fun g h1 h2 => ?_⟩
  · have := (hb2.foot g hg).1; omega
  · have := (hh.foot g hg).1; omega
  · omega
  · have := (hb2.foot g h1).2; have := (hh.foot g h2).1; omega

end Go.Proofs.YtakflmaeclneiaaDoor
