/-
  Walks and plain lemmas for the laws of this seat: what single Go functions return, for every argument.
-/
import Derived.Deep.AppendLies
import Derived.Laws.OwnMore
import Derived.Deep.Quiet
import Derived.Maps.AppendAt
import Derived.Test.YtakflmaeclneiaaDoorBase
namespace Go.Proofs.YtakflmaeclneiaaDoor
open Go.RowKit

theorem flat_len {α : Type} (f : α → List Value) (k : Nat) (hf : ∀ x, (f x).length = k) (l : List α) : (l.flatMap f).length = l.length * k := by
  induction l with
  | nil => simp
  | cons a t ih => rw [List.flatMap_cons, List.length_append, ih, hf, List.length_cons, Nat.add_mul]; omega
theorem flat_get {α : Type} (f : α → List Value) (k : Nat) (hf : ∀ x, (f x).length = k) (l : List α) (i j : Nat) (hi : i < l.length) (hj : j < k) : (l.flatMap f)[i * k + j]? = (f l[i])[j]? := by
  induction l generalizing i with
  | nil => simp at hi
  | cons a t ih =>
    rw [List.flatMap_cons]
    cases i with
    | zero => rw [Nat.zero_mul, Nat.zero_add, List.getElem?_append_left (by rw [hf]; exact hj)]; rfl
    | succ i =>
      rw [List.getElem?_append_right (by rw [hf, Nat.add_mul]; omega), hf, show (i + 1) * k + j - k = i * k + j by rw [Nat.add_mul]; omega]
      exact ih i (by simpa using hi)
/-- several cells set, from one place on -/
def setMany (xs : List Value) (p : Nat) : List Value → List Value
  | [] => xs
  | u :: us => setMany (xs.set p u) (p + 1) us
theorem setMany_skip (a xs : List Value) (p : Nat) (us : List Value) : setMany (a ++ xs) (a.length + p) us = a ++ setMany xs p us := by
  induction us generalizing xs p with
  | nil => rfl
  | cons u us ih =>
    show setMany ((a ++ xs).set (a.length + p) u) (a.length + p + 1) us = a ++ setMany (xs.set p u) (p + 1) us
    rw [List.set_append_right _ _ (by omega), Nat.add_sub_cancel_left, Nat.add_assoc, ih]
theorem setMany_head (xs t : List Value) (us : List Value) (h : xs.length = us.length) : setMany (xs ++ t) 0 us = us ++ t := by
  have key : ∀ (us pre xs : List Value), xs.length = us.length → setMany (pre ++ (xs ++ t)) pre.length us = pre ++ (us ++ t) := by
    intro us
    induction us with
    | nil => intro pre xs h; obtain rfl : xs = [] := List.eq_nil_of_length_eq_zero h; rfl
    | cons u us ih =>
      intro pre xs h
      cases xs with
      | nil => simp at h
      | cons x xs =>
        show setMany ((pre ++ (x :: xs ++ t)).set pre.length u) (pre.length + 1) us = pre ++ (u :: us ++ t)
        rw [List.set_append_right _ _ (Nat.le_refl _), Nat.sub_self]
        have := ih (pre ++ [u]) xs (by simpa using h)
        simpa using this
  simpa using key us [] xs h
theorem flat_set {α : Type} (f : α → List Value) (k : Nat) (hf : ∀ x, (f x).length = k) (l : List α) (i : Nat) (hi : i < l.length) (x : α) : setMany (l.flatMap f) (i * k) (f x) = (l.set i x).flatMap f := by
  induction l generalizing i with
  | nil => simp at hi
  | cons a t ih =>
    cases i with
    | zero =>
      rw [List.flatMap_cons, List.set_cons_zero, List.flatMap_cons, Nat.zero_mul]
      exact setMany_head _ _ _ (by rw [hf, hf])
    | succ i =>
      rw [List.flatMap_cons, List.set_cons_succ, List.flatMap_cons, Nat.add_mul, Nat.one_mul, Nat.add_comm, ← hf a, setMany_skip, hf a]
      rw [ih i (by simpa using hi)]
/-- v is a slice whose elements' cells are 'f' of l's; the memory lies below block B -/
def SliceAt {α : Type} (f : α → List Value) (w : World) (B : Nat) (v : Value) (l : List α) : Prop :=
  ∃ A c, v = .slice A l.length c ∧ l.length ≤ c ∧ c ≤ maxLen ∧ (0 < l.length → ∃ b off, A = some ⟨b, off, none⟩ ∧ b < B ∧ ∀ j u, (l.flatMap f)[j]? = some u → w.cell? ⟨b, off + j, none⟩ = some u) ∧ (A = none → c = 0)
theorem SliceAt.keep {α : Type} {f : α → List Value} {w w' : World} {B : Nat} {v : Value} {l : List α} (h : SliceAt f w B v l) (hk : ∀ b o, b < B → w'.cell? ⟨b, o, none⟩ = w.cell? ⟨b, o, none⟩) : SliceAt f w' B v l := by
  obtain ⟨A, c, hv, h1, h2, h3, h4⟩ := h
  refine ⟨A, c, hv, h1, h2, fun h0 => ?_, h4⟩
  obtain ⟨b, off, hA, hb, hc⟩ := h3 h0
  exact ⟨b, off, hA, hb, fun j u hu => (hk b _ hb).trans (hc j u hu)⟩
theorem SliceAt.below {α : Type} {f : α → List Value} {w w' : World} {B B' : Nat} {v : Value} {l : List α} (h : SliceAt f w B v l) (hb : Below B' w w') (hB : B ≤ B') : SliceAt f w' B v l :=
  h.keep fun b o hlt => hb.cell (p := ⟨b, o, none⟩) (Nat.lt_of_lt_of_le hlt hB)
theorem SliceAt.more {α : Type} {f : α → List Value} {w : World} {B B' : Nat} {v : Value} {l : List α} (h : SliceAt f w B v l) (hB : B ≤ B') : SliceAt f w B' v l := by
  obtain ⟨A, c, hv, h1, h2, h3, h4⟩ := h
  refine ⟨A, c, hv, h1, h2, fun h0 => ?_, h4⟩
  obtain ⟨b, off, hA, hb, hc⟩ := h3 h0
  exact ⟨b, off, hA, Nat.lt_of_lt_of_le hb hB, hc⟩
theorem SliceAt.of_own {α : Type} {f : α → List Value} {w : World} {B k : Nat} {e : TypeId} {v : Value} {l : List α} (h : w.ownsRow B e k v l.length (l.flatMap f)) : SliceAt f w w.heap.size v l := by
  rcases h.2 with ⟨rfl, h0⟩ | ⟨g, cap, cur, rfl, hb, hg, hn, hm, hs, hx⟩
  · exact ⟨none, 0, by rw [h0], by omega, by decide, fun h => absurd h (by omega), fun _ => rfl⟩
  · refine ⟨some ⟨g, 0, none⟩, cap, rfl, hn, hm, fun h0 => ⟨g, 0, rfl, ?_, fun j u hu => ?_⟩, fun e => by cases e⟩
    · exact (h.lt g rfl).2
    · have := h.cells (g := g) rfl j u hu
      have e : (⟨g, 0, none⟩ : Addr).add j = ⟨g, 0 + j, none⟩ := by unfold Addr.add; split <;> simp_all
      rwa [e] at this
/-- a world behind w in which nothing below block B has turned -/
structure Aft (B : Nat) (w : World) where
  now : World
  is : Below B w now
instance (B : Nat) (w : World) : Nonempty (Aft B w) := ⟨⟨w, Below.refl _ _⟩⟩
theorem Aft.cell {B : Nat} {w : World} {b o : Nat} {x : Option Value} (hb : b < B) (h : w.cell? ⟨b, o, none⟩ = x) : ∀ u : Aft B w, u.now.cell? ⟨b, o, none⟩ = x :=
  fun u => (u.is.cell (p := ⟨b, o, none⟩) hb).trans h
/-- a region that draws its order, whose operations read memory below B and whose callees turn nothing below B: one walk serves every order -/
theorem wp_region_aft {P : Program} {id : Nat} {Q : Exit → Act → World → Prop} {a : Act} {B : Nat} {w0 w : World} {l : List Oper} (hW : Below B w0 w) (hm : P.follows .mixedOrders = true) (hB : Region.lexB .any l.toArray = true)
    (h : wpQuiet P l.toArray (fun w' => ∃ u : Aft B w0, w' = u.now) (fun a' => ∀ w', (∃ u : Aft B w0, w' = u.now) → Q .normal a' w') l a) : (Code.region id l.toArray true).wp P Q a w :=
  wp_region_quiet (C := fun w' => ∃ u : Aft B w0, w' = u.now) hm hB ⟨⟨w.drew, hW.drew⟩, rfl⟩ (by simpa using h)
theorem calls_aft {P : Program} {f : FuncId} {args : Array Value} {B : Nat} {w0 : World} {u : Aft B w0} {v : Value} (hB : B ≤ w0.heap.size)
    (h : Calls P f args u.now fun e w' => e = .returned v ∧ Below u.now.heap.size u.now w') : Calls P f args u.now fun e w'' => e = .returned v ∧ ∃ u' : Aft B w0, w'' = u'.now :=
  h.mono fun _ w' ⟨he, hb⟩ => ⟨he, ⟨w', u.is.trans (hb.mono (Nat.le_trans hB u.is.size))⟩, rfl⟩
theorem calls_aft_same {P : Program} {f : FuncId} {args : Array Value} {B : Nat} {w0 : World} {u : Aft B w0} {v : Value}
    (h : Calls P f args u.now fun e w' => e = .returned v ∧ u.now = w') : Calls P f args u.now fun e w'' => e = .returned v ∧ ∃ u' : Aft B w0, w'' = u'.now :=
  h.mono fun _ _ ⟨he, hw⟩ => ⟨he, u, hw.symm⟩
theorem aft_end {B : Nat} {w0 : World} {R : World → Prop} (h : ∀ w', Below B w0 w' → R w') : ∀ w', (∃ u : Aft B w0, w' = u.now) → R w' := by
  rintro _ ⟨u, rfl⟩; exact h _ u.is
/-- the same, what is known of the world at hand named as S -/
theorem wp_region_at {P : Program} {id : Nat} {Q : Exit → Act → World → Prop} {a : Act} {w : World} {l : List Oper} (S : World → Prop) (hS : S w) (hm : P.follows .mixedOrders = true) (hB : Region.lexB .any l.toArray = true)
    (h : ∀ w0, S w0 → wpQuiet P l.toArray (fun w' => ∃ u : Aft w0.heap.size w0, w' = u.now) (fun a' => ∀ w', (∃ u : Aft w0.heap.size w0, w' = u.now) → Q .normal a' w') l a) : (Code.region id l.toArray true).wp P Q a w :=
  wp_region_aft (Below.refl w.heap.size w) hm hB (h w hS)
theorem box_cell (w : World) (cs : Array Value) (t : TypeId) (j : Nat) : (w.alloc (.cells cs t)).cell? ⟨w.heap.size, j, none⟩ = cs[j]? := World.cell?_alloc_at _ _ _ _ rfl

/-- append of one element, laid in the block made last, to a row of the call's own -/
theorem wp_own_app {P : Program} {α : Type} (f : α → List Value) (k bytes : Nat) (hone : ∀ x, ∀ u ∈ f x, u.oneCell' = true) (hf : ∀ x, (f x).length = k) {ops : Array Oper} {rest : List Oper} {o : Oper} {a : Act} {Q : Exit → Act → World → Prop} {B : Nat} {v : Value} {l : List α} {w : World} {e t : TypeId} {z : Value}
    (ht : P.underlying t = some (.slice e)) (hinfo : (P.info? e).map (fun i => (i.zero, i.size, i.bytes)) = some (some z, k, bytes)) (hzs : z.cells.size = k) (hk : 0 < k)
    (hO : w.ownsRow B e k v l.length (l.flatMap f)) (hgd : o.guard = none) (s x : Operand) (ho : o.op = .call { callee := .builtin .append, args := #[s, x], argTypes := #[t, t] }) (hs : a.eval s = v) (r : α) (c : Nat) (hx : a.eval x = .slice (some ⟨w.heap.size, 0, none⟩) 1 c)
    (hlen : (l.length + 1) * bytes ≤ 140737488355328) (hl2 : l.length < 140737488355328) (hbase : B ≤ w.heap.size)
    (h : ∀ v' w', w'.ownsRow B e k v' (l ++ [r]).length ((l ++ [r]).flatMap f) → Below B w w' → w.grownBy w' v.ownBlock → wpList P ops Q rest (a.put o.dst v') w') :
    wpList P ops Q (o :: rest) a (w.alloc (.cells (f r).toArray e)) := by
  obtain ⟨i0, hi, hz0, hz1, hz2⟩ := info_parts hinfo
  refine wpList_append_own _ hgd s x t ho B e i0 z k bytes ht hi hz0 hz1 hz2 hzs hk v l.length (l.flatMap f) hs (World.ownsRow.alloc hO _) ⟨w.heap.size, 0, none⟩ 1 c (f r) hx (by rw [hf]; omega) (fun j u hj => ?c1) (fun u hu => hone r u hu) (by unfold maxLen; omega) (by omega) (by simp; omega) ?c2
  case c1 =>
    have e1 : (⟨w.heap.size, 0, none⟩ : Addr).add j = ⟨w.heap.size, j, none⟩ := by unfold Addr.add; split <;> simp_all
    rw [e1, World.cell?_alloc_at _ _ _ _ rfl]; simpa using hj
  case c2 =>
    intro v' w' h2 h3 _
    refine h v' w' ?_ (((Below.refl B w).alloc hbase (.cells (f r).toArray e)).trans ((Below.refl B _).grown h3 (by simp; omega) (fun g hg => ((World.ownsRow.alloc hO (.cells (f r).toArray e)).lt g hg).1))) ((World.grownBy_alloc w _ _).trans h3)
    rw [List.length_append, List.length_singleton, List.flatMap_append]
    simpa using h2
/-- two rows of the call's own whose elements are of different types lie apart -/
theorem own_ne {w : World} {B B' k k' n n' : Nat} {e e' : TypeId} {v v' : Value} {xs xs' : List Value} (h : w.ownsRow B e k v n xs) (h' : w.ownsRow B' e' k' v' n' xs') (hne : e ≠ e') : v.ownBlock = none ∨ v.ownBlock ≠ v'.ownBlock := by
  rcases h.2 with ⟨rfl, _⟩ | ⟨g, cap, cur, rfl, _, hh, _⟩
  · exact .inl rfl
  · rcases h'.2 with ⟨rfl, _⟩ | ⟨g', cap', cur', rfl, _, hh', _⟩
    · exact .inr (by simp [Value.ownBlock])
    · refine .inr (fun e1 => ?_)
      simp only [Value.ownBlock, Option.some.injEq] at e1
      subst e1
      rw [hh] at hh'
      injection hh' with h1
      injection h1 with _ h2 _
      exact hne h2
theorem row_below {w w' : World} {B B' k n : Nat} {e : TypeId} {v : Value} {xs : List Value} (h : w.ownsRow B e k v n xs) (hb : Below B' w w') (hB : w.heap.size ≤ B') : w'.ownsRow B e k v n xs :=
  World.ownsRow.kept (row := none) h ⟨hb.os, hb.tape, hb.output, hb.size, fun k hk _ => hb.block k (Nat.lt_of_lt_of_le hk hB)⟩ (by
    cases h' : v.ownBlock with
    | none => exact .inl rfl
    | some g => exact .inr (by simp))

/-- outside the blocks S nothing of w has turned; memory may have been made -/
structure Chg (S : Nat → Prop) (w w' : World) : Prop where
  os : w'.os = w.os
  tape : w'.tape = w.tape
  output : w'.output = w.output
  size : w.heap.size ≤ w'.heap.size
  block : ∀ k, k < w.heap.size → ¬ S k → w'.heap[k]? = w.heap[k]?
theorem Chg.refl (S : Nat → Prop) (w : World) : Chg S w w := ⟨rfl, rfl, rfl, Nat.le_refl _, fun _ _ _ => rfl⟩
theorem Chg.trans {S : Nat → Prop} {a b c : World} (h : Chg S a b) (k : Chg S b c) : Chg S a c :=
  ⟨k.os.trans h.os, k.tape.trans h.tape, k.output.trans h.output, Nat.le_trans h.size k.size, fun i hi hs => (k.block i (Nat.lt_of_lt_of_le hi h.size) hs).trans (h.block i hi hs)⟩
theorem Chg.mono {S T : Nat → Prop} {w w' : World} (h : Chg S w w') (hT : ∀ k, S k → T k) : Chg T w w' :=
  ⟨h.os, h.tape, h.output, h.size, fun k hk hs => h.block k hk (fun e => hs (hT k e))⟩
theorem Chg.of_below {S : Nat → Prop} {w w' : World} (h : Below w.heap.size w w') : Chg S w w' := ⟨h.os, h.tape, h.output, h.size, fun k hk _ => h.block k hk⟩
theorem Chg.below {S : Nat → Prop} {B : Nat} {w w' : World} (h : Chg S w w') (hS : ∀ k, S k → B ≤ k) (hB : B ≤ w.heap.size) : Below B w w' :=
  ⟨h.os, h.tape, h.output, h.size, fun k hk => h.block k (Nat.lt_of_lt_of_le hk hB) (fun e => by have := hS k e; omega)⟩
theorem Chg.setCell {S : Nat → Prop} {a w : World} (h : Chg S a w) {p : Addr} (hp : S p.block) (u : Value) : Chg S a (w.setCell p u) :=
  h.trans ⟨rfl, rfl, rfl, by simp [World.setCell], fun k hk hs => Below.heap_setCell _ _ _ _ (fun e => hs (e ▸ hp))⟩
theorem Chg.row {S : Nat → Prop} {w w' : World} {B k n : Nat} {e : TypeId} {v : Value} {xs : List Value} (h : Chg S w w') (hO : w.ownsRow B e k v n xs) (hne : ∀ g, v.ownBlock = some g → ¬ S g) : w'.ownsRow B e k v n xs := by
  refine ⟨hO.1, ?_⟩
  rcases hO.2 with hn | ⟨g, cap, cur, rfl, hb, hgg, rest⟩
  · exact .inl hn
  · refine .inr ⟨g, cap, cur, rfl, hb, ?_, rest⟩
    rw [h.block g (Array.getElem?_eq_some_iff.1 hgg).1 (hne g rfl)]
    exact hgg
/-- a row of the call's own from block B on, before block C -/
def Value.inside (C : Nat) (v : Value) : Prop := ∀ g, v.ownBlock = some g → g < C
theorem row_inside {w : World} {B k n : Nat} {e : TypeId} {v : Value} {xs : List Value} (hO : w.ownsRow B e k v n xs) {C : Nat} (hC : w.heap.size ≤ C) : Value.inside C v := fun g hg => Nat.lt_of_lt_of_le (hO.lt g hg).2 hC
theorem Chg.cell {S : Nat → Prop} {w w' : World} {b o : Nat} (h : Chg S w w') (hb : b < w.heap.size) (hs : ¬ S b) : w'.cell? ⟨b, o, none⟩ = w.cell? ⟨b, o, none⟩ := World.cell?_of_block (w := w) (a := ⟨b, o, none⟩) (h.block b hb hs)
theorem Chg.frozen {S : Nat → Prop} {w w' : World} {b o : Nat} (h : Chg S w w') (hb : b < w.heap.size) (hs : ¬ S b) : w'.frozen? ⟨b, o, none⟩ = w.frozen? ⟨b, o, none⟩ := World.frozen?_of_block (w := w) (a := ⟨b, o, none⟩) (h.block b hb hs)
theorem Chg.then_below {S : Nat → Prop} {a b c : World} (h : Chg S a b) (k : Below a.heap.size b c) : Chg S a c :=
  ⟨k.os.trans h.os, k.tape.trans h.tape, k.output.trans h.output, Nat.le_trans h.size k.size, fun i hi hs => (k.block i hi).trans (h.block i hi hs)⟩

theorem SliceAt.inside {α : Type} {f : α → List Value} {w : World} {B C : Nat} {v : Value} {l : List α} (h : SliceAt f w B v l) (hC : Value.inside C v) : SliceAt f w C v l := by
  obtain ⟨A, c, hv, h1, h2, h3, h4⟩ := h
  refine ⟨A, c, hv, h1, h2, fun h0 => ?_, h4⟩
  obtain ⟨b, off, hA, hb, hc⟩ := h3 h0
  subst hv hA
  exact ⟨b, off, rfl, hC b rfl, hc⟩
theorem Chg.of_below' {D : Nat} {w w' : World} (h : Below D w w') : Chg (fun k => D ≤ k) w w' := ⟨h.os, h.tape, h.output, h.size, fun k _ hs => h.block k (by omega)⟩
/-- blocks B to C -/
def Mid (B C : Nat) : Nat → Prop := fun k => B ≤ k ∧ k < C
theorem Chg.mid_below {B C D : Nat} {w w' : World} (h : Chg (Mid B C) w w') (hD : D ≤ B) (hw : D ≤ w.heap.size) : Below D w w' := h.below (fun _ hk => Nat.le_trans hD hk.1) hw
theorem Chg.mid_cell {B C : Nat} {w w' : World} {b o : Nat} (h : Chg (Mid B C) w w') (hb : b < w.heap.size) (hd : b < B ∨ C ≤ b) : w'.cell? ⟨b, o, none⟩ = w.cell? ⟨b, o, none⟩ :=
  Chg.cell h hb (fun hm => by have h1 : B ≤ b := hm.1; have h2 : b < C := hm.2; omega)

/-- append of many elements, read from a slice -/
theorem wp_own_apps {P : Program} {α : Type} (f : α → List Value) (k bytes : Nat) (hone : ∀ x, ∀ u ∈ f x, u.oneCell' = true) (hf : ∀ x, (f x).length = k) {ops : Array Oper} {rest : List Oper} {o : Oper} {a : Act} {Q : Exit → Act → World → Prop} {B B' : Nat} {v : Value} {l r : List α} {w : World} {e t : TypeId} {z : Value}
    (ht : P.underlying t = some (.slice e)) (hinfo : (P.info? e).map (fun i => (i.zero, i.size, i.bytes)) = some (some z, k, bytes)) (hzs : z.cells.size = k) (hk : 0 < k)
    (hO : w.ownsRow B e k v l.length (l.flatMap f)) (hgd : o.guard = none) (s x : Operand) (ho : o.op = .call { callee := .builtin .append, args := #[s, x], argTypes := #[t, t] }) (hs : a.eval s = v) (A : Option Addr) (m c : Nat) (hx : a.eval x = .slice A m c) (hm : r.length = m) (hr : SliceAt f w B' (.slice A r.length c) r) (hA : A = none → c = 0)
    (hlen : (l.length + r.length) * bytes ≤ 140737488355328) (hl2 : l.length + r.length < 140737488355328) (hbase : B ≤ w.heap.size)
    (h : ∀ v' w', w'.ownsRow B e k v' (l ++ r).length ((l ++ r).flatMap f) → Below B w w' → w.grownBy w' v.ownBlock → (v'.ownBlock = v.ownBlock ∨ v'.ownBlock = some w.heap.size) → wpList P ops Q rest (a.put o.dst v') w') :
    wpList P ops Q (o :: rest) a w := by
  subst hm
  obtain ⟨i0, hi, hz0, hz1, hz2⟩ := info_parts hinfo
  cases A with
  | none =>
    obtain rfl := hA rfl
    obtain ⟨A', c', hv, -, -, h3⟩ := hr
    have hr0 : r = [] := by
      rcases Nat.eq_zero_or_pos r.length with h0 | h0
      · exact List.eq_nil_of_length_eq_zero h0
      · obtain ⟨b, off, hA', _⟩ := h3.1 h0
        subst hA'
        injection hv with h4; cases h4
    subst hr0
    refine wpList_plain hgd fun K hK => ?_
    unfold Oper.wp execOp
    simp only [List.length_nil] at hx
    simp only [ho, resolve, invoke, builtin, Sem.run_bind, Sem.run_pure, Result.andThen_ok, List.map_toArray, List.map_cons, List.map_nil, hs, hx, run_append_owned_none (P := P) w B t o.type e i0 k ht hi v l.length (l.flatMap f) hO]
    exact hK _ _ (h v w (by simpa using hO) (Below.refl _ _) ⟨rfl, rfl, rfl, Nat.le_refl _, fun _ _ _ => rfl⟩ (.inl rfl))
  | some ad =>
    have hcell : ∀ j u, (r.flatMap f)[j]? = some u → w.cell? (ad.add j) = some u := by
      intro j u hu
      obtain ⟨A', c', hv, -, -, h3⟩ := hr
      have h0 : 0 < r.length := by
        rcases Nat.eq_zero_or_pos r.length with h0 | h0
        · have := List.eq_nil_of_length_eq_zero h0
          subst this; simp at hu
        · exact h0
      obtain ⟨b, off, hA', _, hc⟩ := h3.1 h0
      subst hA'
      injection hv with h4
      injection h4 with h4
      subst h4
      have e1 : (⟨b, off, none⟩ : Addr).add j = ⟨b, off + j, none⟩ := by unfold Addr.add; split <;> simp_all
      rw [e1]; exact hc j u hu
    refine wpList_append_own_at _ hgd s x t ho B e i0 z k bytes ht hi hz0 hz1 hz2 hzs hk v l.length (l.flatMap f) hs hO ad r.length c (r.flatMap f) hx (flat_len f k hf r) hcell (fun u hu => by obtain ⟨y, _, hy⟩ := List.mem_flatMap.1 hu; exact hone y u hy) (by unfold maxLen; omega) hlen hbase ?_
    intro v' w' h2 h3 _ h5
    refine h v' w' ?_ ((Below.refl B w).grown h3 hbase (fun g hg => (hO.lt g hg).1)) h3 h5
    rw [List.length_append, List.flatMap_append]
    exact h2

/-- a slice's head and tail -/
theorem SliceAt.take {α : Type} {f : α → List Value} {w : World} {B c : Nat} {A : Option Addr} {l : List α} (h : SliceAt f w B (.slice A l.length c) l) (j : Nat) (hj : j ≤ l.length) : SliceAt f w B (.slice A (l.take j).length c) (l.take j) := by
  obtain ⟨A', c', hv, h1, h2, h3⟩ := h
  injection hv with e1 _ e2
  subst e1 e2
  refine ⟨A, c, rfl, by rw [List.length_take]; omega, h2, fun h0 => ?_, h3.2⟩
  rw [List.length_take] at h0
  obtain ⟨b, off, hA, hb, hc⟩ := h3.1 (by omega)
  refine ⟨b, off, hA, hb, fun i u hu => hc i u ?_⟩
  have e : l.flatMap f = (l.take j).flatMap f ++ (l.drop j).flatMap f := by rw [← List.flatMap_append, List.take_append_drop]
  rw [e, List.getElem?_append_left (List.getElem?_eq_some_iff.1 hu).1]; exact hu
theorem SliceAt.drop {α : Type} {f : α → List Value} {k : Nat} (hf : ∀ x, (f x).length = k) {w : World} {B c b off : Nat} {l : List α} (h : SliceAt f w B (.slice (some ⟨b, off, none⟩) l.length c) l) (j : Nat) (hj : j ≤ l.length) : SliceAt f w B (.slice (some ⟨b, off + j * k, none⟩) (l.drop j).length (c - j)) (l.drop j) := by
  obtain ⟨A', c', hv, h1, h2, h3⟩ := h
  injection hv with e1 _ e2
  subst e1 e2
  refine ⟨_, _, rfl, by rw [List.length_drop]; omega, by omega, fun h0 => ?_, fun e => by cases e⟩
  rw [List.length_drop] at h0
  obtain ⟨b', off', hA, hb, hc⟩ := h3.1 (by omega)
  cases hA
  refine ⟨b, _, rfl, hb, fun i u hu => ?_⟩
  rw [Nat.add_assoc]
  refine hc _ u ?_
  have e : l.flatMap f = (l.take j).flatMap f ++ (l.drop j).flatMap f := by rw [← List.flatMap_append, List.take_append_drop]
  have hl : ((l.take j).flatMap f).length = j * k := by rw [flat_len f k hf, List.length_take, Nat.min_eq_left hj]
  rw [e, List.getElem?_append_right (by omega), hl, Nat.add_sub_cancel_left]; exact hu
/-- nothing of a slice -/
theorem SliceAt.none_of {α : Type} {f : α → List Value} {w : World} {B : Nat} {A : Option Addr} {c : Nat} (hc : c ≤ maxLen) (hA : A = none → c = 0) : SliceAt f w B (.slice A ([] : List α).length c) [] := ⟨A, c, rfl, Nat.zero_le _, hc, fun h => absurd h (by simp), hA⟩

theorem wp_own_app_one {P : Program} {α : Type} (f : α → List Value) (k bytes : Nat) (hf : ∀ x, (f x).length = k) {ops : Array Oper} {rest : List Oper} {o : Oper} {a : Act} {Q : Exit → Act → World → Prop} {B : Nat} {v : Value} {l : List α} {w : World} {e t : TypeId} {z : Value}
    (ht : P.underlying t = some (.slice e)) (hinfo : (P.info? e).map (fun i => (i.zero, i.size, i.bytes)) = some (some z, k, bytes)) (hzs : z.cells.size = k) (hk : 0 < k)
    (hO : w.ownsRow B e k v l.length (l.flatMap f)) (hgd : o.guard = none) (s x : Operand) (ho : o.op = .call { callee := .builtin .append, args := #[s, x], argTypes := #[t, t] }) (hs : a.eval s = v) (r : α) (hone : ∀ u ∈ f r, u.oneCell' = true) (c : Nat) (hx : a.eval x = .slice (some ⟨w.heap.size, 0, none⟩) 1 c)
    (hlen : (l.length + 1) * bytes ≤ 140737488355328) (hl2 : l.length < 140737488355328) (hbase : B ≤ w.heap.size)
    (h : ∀ v' w', w'.ownsRow B e k v' (l ++ [r]).length ((l ++ [r]).flatMap f) → Below B w w' → w.grownBy w' v.ownBlock → wpList P ops Q rest (a.put o.dst v') w') :
    wpList P ops Q (o :: rest) a (w.alloc (.cells (f r).toArray e)) := by
  obtain ⟨i0, hi, hz0, hz1, hz2⟩ := info_parts hinfo
  refine wpList_append_own _ hgd s x t ho B e i0 z k bytes ht hi hz0 hz1 hz2 hzs hk v l.length (l.flatMap f) hs (World.ownsRow.alloc hO _) ⟨w.heap.size, 0, none⟩ 1 c (f r) hx (by rw [hf]; omega) (fun j u hj => ?c1) (hone) (by unfold maxLen; omega) (by omega) (by simp; omega) ?c2
  case c1 =>
    have e1 : (⟨w.heap.size, 0, none⟩ : Addr).add j = ⟨w.heap.size, j, none⟩ := by unfold Addr.add; split <;> simp_all
    rw [e1, World.cell?_alloc_at _ _ _ _ rfl]; simpa using hj
  case c2 =>
    intro v' w' h2 h3 _
    refine h v' w' ?_ (((Below.refl B w).alloc hbase (.cells (f r).toArray e)).trans ((Below.refl B _).grown h3 (by simp; omega) (fun g hg => ((World.ownsRow.alloc hO (.cells (f r).toArray e)).lt g hg).1))) ((World.grownBy_alloc w _ _).trans h3)
    rw [List.length_append, List.length_singleton, List.flatMap_append]
    simpa using h2

end Go.Proofs.YtakflmaeclneiaaDoor
