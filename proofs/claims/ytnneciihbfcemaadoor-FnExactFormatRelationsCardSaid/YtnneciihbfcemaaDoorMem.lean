/-
  Walks and plain lemmas for the laws of this seat: what single Go functions return, for every argument.
-/
import Derived.Deep.AppendLies
import Derived.Laws.OwnMore
import Derived.Deep.Quiet
import Derived.Test.YtnneciihbfcemaaDoorBase
namespace Go.Proofs.YtnneciihbfcemaaDoor
open Go.RowKit

theorem flat_len {α : Type} (f : α → List Value) (k : Nat) (hf : ∀ x, (f x).length = k) (l : List α) : (l.flatMap f).length = l.length * k := by
  induction l with
  | nil => simp
  | cons a t ih => rw [List.flatMap_cons, List.length_append, ih, hf, List.length_cons, Nat.add_mul]; omega
theorem flat_get {α : Type} (f : α → List Value) (k : Nat) (hf : ∀ x, (f x).length = k) (l : List α) (i j : Nat) (hi : i < l.length) (hj : j < k) : (l.flatMap f)[i * k + j]? = (f l[i])[j]? := by
  induction l generalizing i with
  | nil => simp at hi
  | cons a t ih =>
    rw [List.flatMap_cons]
    cases i with
    | zero => rw [Nat.zero_mul, Nat.zero_add, List.getElem?_append_left (by rw [hf]; exact hj)]; rfl
    | succ i =>
      rw [List.getElem?_append_right (by rw [hf, Nat.add_mul]; omega), hf, show (i + 1) * k + j - k = i * k + j by rw [Nat.add_mul]; omega]
      exact ih i (by simpa using hi)
/-- several cells set, from one place on -/
def setMany (xs : List Value) (p : Nat) : List Value → List Value
  | [] => xs
  | u :: us => setMany (xs.set p u) (p + 1) us
theorem setMany_skip (a xs : List Value) (p : Nat) (us : List Value) : setMany (a ++ xs) (a.length + p) us = a ++ setMany xs p us := by
  induction us generalizing xs p with
  | nil => rfl
  | cons u us ih =>
    show setMany ((a ++ xs).set (a.length + p) u) (a.length + p + 1) us = a ++ setMany (xs.set p u) (p + 1) us
    rw [List.set_append_right _ _ (by omega), Nat.add_sub_cancel_left, Nat.add_assoc, ih]
theorem setMany_head (xs t : List Value) (us : List Value) (h : xs.length = us.length) : setMany (xs ++ t) 0 us = us ++ t := by
  have key : ∀ (us pre xs : List Value), xs.length = us.length → setMany (pre ++ (xs ++ t)) pre.length us = pre ++ (us ++ t) := by
    intro us
    induction us with
    | nil => intro pre xs h; obtain rfl : xs = [] := List.eq_nil_of_length_eq_zero h; rfl
    | cons u us ih =>
      intro pre xs h
      cases xs with
      | nil => simp at h
      | cons x xs =>
        show setMany ((pre ++ (x :: xs ++ t)).set pre.length u) (pre.length + 1) us = pre ++ (u :: us ++ t)
        rw [List.set_append_right _ _ (Nat.le_refl _), Nat.sub_self]
        have := ih (pre ++ [u]) xs (by simpa using h)
        simpa using this
  simpa using key us [] xs h
theorem flat_set {α : Type} (f : α → List Value) (k : Nat) (hf : ∀ x, (f x).length = k) (l : List α) (i : Nat) (hi : i < l.length) (x : α) : setMany (l.flatMap f) (i * k) (f x) = (l.set i x).flatMap f := by
  induction l generalizing i with
  | nil => simp at hi
  | cons a t ih =>
    cases i with
    | zero =>
      rw [List.flatMap_cons, List.set_cons_zero, List.flatMap_cons, Nat.zero_mul]
      exact setMany_head _ _ _ (by rw [hf, hf])
    | succ i =>
      rw [List.flatMap_cons, List.set_cons_succ, List.flatMap_cons, Nat.add_mul, Nat.one_mul, Nat.add_comm, ← hf a, setMany_skip, hf a]
      rw [ih i (by simpa using hi)]
/-- v is a slice whose elements' cells are 'f' of l's; the memory lies below block B -/
def SliceAt {α : Type} (f : α → List Value) (w : World) (B : Nat) (v : Value) (l : List α) : Prop :=
  ∃ A c, v = .slice A l.length c ∧ l.length ≤ c ∧ c ≤ maxLen ∧ (0 < l.length → ∃ b off, A = some ⟨b, off, none⟩ ∧ b < B ∧ ∀ j u, (l.flatMap f)[j]? = some u → w.cell? ⟨b, off + j, none⟩ = some u)
theorem SliceAt.keep {α : Type} {f : α → List Value} {w w' : World} {B : Nat} {v : Value} {l : List α} (h : SliceAt f w B v l) (hk : ∀ b o, b < B → w'.cell? ⟨b, o, none⟩ = w.cell? ⟨b, o, none⟩) : SliceAt f w' B v l := by
  obtain ⟨A, c, hv, h1, h2, h3⟩ := h
  refine ⟨A, c, hv, h1, h2, fun h0 => ?_⟩
  obtain ⟨b, off, hA, hb, hc⟩ := h3 h0
  exact ⟨b, off, hA, hb, fun j u hu => (hk b _ hb).trans (hc j u hu)⟩
theorem SliceAt.below {α : Type} {f : α → List Value} {w w' : World} {B B' : Nat} {v : Value} {l : List α} (h : SliceAt f w B v l) (hb : Below B' w w') (hB : B ≤ B') : SliceAt f w' B v l :=
  h.keep fun b o hlt => hb.cell (p := ⟨b, o, none⟩) (Nat.lt_of_lt_of_le hlt hB)
theorem SliceAt.more {α : Type} {f : α → List Value} {w : World} {B B' : Nat} {v : Value} {l : List α} (h : SliceAt f w B v l) (hB : B ≤ B') : SliceAt f w B' v l := by
  obtain ⟨A, c, hv, h1, h2, h3⟩ := h
  refine ⟨A, c, hv, h1, h2, fun h0 => ?_⟩
  obtain ⟨b, off, hA, hb, hc⟩ := h3 h0
  exact ⟨b, off, hA, Nat.lt_of_lt_of_le hb hB, hc⟩
theorem SliceAt.of_own {α : Type} {f : α → List Value} {w : World} {B k : Nat} {e : TypeId} {v : Value} {l : List α} (h : w.ownsRow B e k v l.length (l.flatMap f)) : SliceAt f w w.heap.size v l := by
  rcases h.2 with ⟨rfl, h0⟩ | ⟨g, cap, cur, rfl, hb, hg, hn, hm, hs, hx⟩
  · exact ⟨none, 0, by rw [h0], by omega, by decide, fun h => absurd h (by omega)⟩
  · refine ⟨some ⟨g, 0, none⟩, cap, rfl, hn, hm, fun h0 => ⟨g, 0, rfl, ?_, fun j u hu => ?_⟩⟩
    · exact (h.lt g rfl).2
    · have := h.cells (g := g) rfl j u hu
      have e : (⟨g, 0, none⟩ : Addr).add j = ⟨g, 0 + j, none⟩ := by unfold Addr.add; split <;> simp_all
      rwa [e] at this
/-- a world behind w in which nothing below block B has turned -/
structure Aft (B : Nat) (w : World) where
  now : World
  is : Below B w now
instance (B : Nat) (w : World) : Nonempty (Aft B w) := ⟨⟨w, Below.refl _ _⟩⟩
theorem Aft.cell {B : Nat} {w : World} {b o : Nat} {x : Option Value} (hb : b < B) (h : w.cell? ⟨b, o, none⟩ = x) : ∀ u : Aft B w, u.now.cell? ⟨b, o, none⟩ = x :=
  fun u => (u.is.cell (p := ⟨b, o, none⟩) hb).trans h
/-- a region that draws its order, whose operations read memory below B and whose callees turn nothing below B: one walk serves every order -/
theorem wp_region_aft {P : Program} {id : Nat} {Q : Exit → Act → World → Prop} {a : Act} {B : Nat} {w0 w : World} {l : List Oper} (hW : Below B w0 w) (hm : P.follows .mixedOrders = true) (hB : Region.lexB .any l.toArray = true)
    (h : wpQuiet P l.toArray (fun w' => ∃ u : Aft B w0, w' = u.now) (fun a' => ∀ w', (∃ u : Aft B w0, w' = u.now) → Q .normal a' w') l a) : (Code.region id l.toArray true).wp P Q a w :=
  wp_region_quiet (C := fun w' => ∃ u : Aft B w0, w' = u.now) hm hB ⟨⟨w.drew, hW.drew⟩, rfl⟩ (by simpa using h)
theorem calls_aft {P : Program} {f : FuncId} {args : Array Value} {B : Nat} {w0 : World} {u : Aft B w0} {v : Value} (hB : B ≤ w0.heap.size)
    (h : Calls P f args u.now fun e w' => e = .returned v ∧ Below u.now.heap.size u.now w') : Calls P f args u.now fun e w'' => e = .returned v ∧ ∃ u' : Aft B w0, w'' = u'.now :=
  h.mono fun _ w' ⟨he, hb⟩ => ⟨he, ⟨w', u.is.trans (hb.mono (Nat.le_trans hB u.is.size))⟩, rfl⟩
theorem calls_aft_same {P : Program} {f : FuncId} {args : Array Value} {B : Nat} {w0 : World} {u : Aft B w0} {v : Value}
    (h : Calls P f args u.now fun e w' => e = .returned v ∧ u.now = w') : Calls P f args u.now fun e w'' => e = .returned v ∧ ∃ u' : Aft B w0, w'' = u'.now :=
  h.mono fun _ _ ⟨he, hw⟩ => ⟨he, u, hw.symm⟩
theorem aft_end {B : Nat} {w0 : World} {R : World → Prop} (h : ∀ w', Below B w0 w' → R w') : ∀ w', (∃ u : Aft B w0, w' = u.now) → R w' := by
  rintro _ ⟨u, rfl⟩; exact h _ u.is
/-- the same, what is known of the world at hand named as S -/
theorem wp_region_at {P : Program} {id : Nat} {Q : Exit → Act → World → Prop} {a : Act} {w : World} {l : List Oper} (S : World → Prop) (hS : S w) (hm : P.follows .mixedOrders = true) (hB : Region.lexB .any l.toArray = true)
    (h : ∀ w0, S w0 → wpQuiet P l.toArray (fun w' => ∃ u : Aft w0.heap.size w0, w' = u.now) (fun a' => ∀ w', (∃ u : Aft w0.heap.size w0, w' = u.now) → Q .normal a' w') l a) : (Code.region id l.toArray true).wp P Q a w :=
  wp_region_aft (Below.refl w.heap.size w) hm hB (h w hS)
theorem box_cell (w : World) (cs : Array Value) (t : TypeId) (j : Nat) : (w.alloc (.cells cs t)).cell? ⟨w.heap.size, j, none⟩ = cs[j]? := World.cell?_alloc_at _ _ _ _ rfl

end Go.Proofs.YtnneciihbfcemaaDoor
