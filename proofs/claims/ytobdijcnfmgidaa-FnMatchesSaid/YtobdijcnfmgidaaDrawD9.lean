/-
  Walks and plain lemmas for the laws of this seat: what single Go functions return, for every argument.
-/
import Derived.Test.YtobdijcnfmgidaaBase
import Derived.Test.YtobdijcnfmgidaaDraw
import Derived.Test.YtobdijcnfmgidaaDrawR
import Derived.Test.YtobdijcnfmgidaaMInst
import Derived.Test.YtobdijcnfmgidaaTyAtom
import Derived.Test.YtobdijcnfmgidaaTyDepS
import Derived.Test.YtobdijcnfmgidaaDrawA9
namespace Go.Proofs.Ytobdijcnfmgidaa
open Go.RowKit

/-- an atom, a dependency as the draws make them -/
def AtmSmall (a : Atm) : Prop := (-1 ≤ a.rel ∧ a.rel ≤ 6) ∧ (1 ≤ a.vals.length ∧ a.vals.length ≤ 2) ∧ ∀ z ∈ a.vals, -11 ≤ z ∧ z ≤ 5
def DepSmall (n : Nat) (x : Dep) : Prop := (1 ≤ x.body.length ∧ x.body.length ≤ 2 ∧ ∀ a ∈ x.body, AtmSmall a) ∧ (x.head.length ≤ n ∧ ∀ a ∈ x.head, AtmSmall a) ∧ (-11 ≤ x.left ∧ x.left ≤ 5) ∧ -11 ≤ x.right ∧ x.right ≤ 5
def DVal9 (X : DepX) (x : Dep) : Value := .agg #[X.1.1, X.2.1, .bool x.egd, .int .i64 x.left, .int .i64 x.right]
def GivesDep9 (n : Nat) (p : Nat) (cv : Value) (code : List UInt8) (w : World) (e : Ending) (w' : World) : Prop := ∃ X x, e = .returned (DVal9 X x) ∧ DepOwn w.heap.size w'.heap.size X x w' ∧ DepSmall n x ∧ (∃ st', CurS w' p cv code st') ∧ w.grownBy w' (some p)
theorem lit_ints (w : World) (vs : List Int) (h : vs.length ≤ 3) : IntS_own w.heap.size (w.heap.size + 1) (.slice (some ⟨w.heap.size, 0, none⟩) vs.length vs.length) vs (w.alloc (.cells (vs.map (Value.int .i64)).toArray 3)) := by
  refine ⟨?_, fun g hg => by cases hg; exact Nat.lt_succ_self _⟩
  have := World.ownsRow_lit (base := w.heap.size) (e := 3) (size := 1) w (vs.map (Value.int .i64)).toArray vs.length (Nat.le_refl _) (by unfold maxLen; omega) (by simp)
  simpa [OwnInts] using this
theorem lit_atoms1 (B : Nat) (w : World) (r : Int) (V : Value) (vs : List Int) (hV : IntS_own B w.heap.size V vs w) (hB : B ≤ w.heap.size) : AtomSO 48 B (w.heap.size + 1) (.slice (some ⟨w.heap.size, 0, none⟩) 1 1) [V] [⟨r, vs⟩] (w.alloc (.cells #[.int .i64 r, V] 48)) := by
  have hb : Below w.heap.size w (w.alloc (.cells #[.int .i64 r, V] 48)) := (Below.refl _ _).alloc (Nat.le_refl _) _
  refine ⟨rfl, World.ownsRow_lit w #[.int .i64 r, V] 1 hB (by decide) rfl, (fun g hg => by cases hg; exact Nat.lt_succ_self _), (fun i h h' => ?_), List.pairwise_singleton _ _⟩
  have h1 : i < 1 := h
  obtain rfl : i = 0 := by omega
  exact (hV.below hb (Nat.le_refl _)).mono (Nat.le_refl _) (Nat.le_succ _)
theorem lit_atoms2 (B : Nat) (w : World) (r1 r2 : Int) (V1 V2 : Value) (u1 u2 : List Int) (h1 : IntS_own B w.heap.size V1 u1 w) (h2 : IntS_own B w.heap.size V2 u2 w) (hd : ∀ g, V1.ownBlock = some g → V2.ownBlock ≠ some g) (hB : B ≤ w.heap.size) : AtomSO 48 B (w.heap.size + 1) (.slice (some ⟨w.heap.size, 0, none⟩) 2 2) [V1, V2] [⟨r1, u1⟩, ⟨r2, u2⟩] (w.alloc (.cells #[.int .i64 r1, V1, .int .i64 r2, V2] 48)) := by
  have hb : Below w.heap.size w (w.alloc (.cells #[.int .i64 r1, V1, .int .i64 r2, V2] 48)) := (Below.refl _ _).alloc (Nat.le_refl _) _
  refine ⟨rfl, World.ownsRow_lit w #[.int .i64 r1, V1, .int .i64 r2, V2] 2 hB (by decide) rfl, (fun g hg => by cases hg; exact Nat.lt_succ_self _), (fun i h h' => ?_), List.pairwise_pair.2 hd⟩
  have h3 : i < 2 := h
  rcases (show i = 0 ∨ i = 1 by omega) with rfl | rfl
  · exact (h1.below hb (Nat.le_refl _)).mono (Nat.le_refl _) (Nat.le_succ _)
  · exact (h2.below hb (Nat.le_refl _)).mono (Nat.le_refl _) (Nat.le_succ _)
/-- a row of one atom, a row of two, made of literals from a world on -/
def litW1 (w : World) (r : Int) (vs : List Int) : World := (w.alloc (.cells (vs.map (Value.int .i64)).toArray 3)).alloc (.cells #[.int .i64 r, .slice (some ⟨w.heap.size, 0, none⟩) vs.length vs.length] 48)
def litW2 (w : World) (r1 : Int) (u1 : List Int) (r2 : Int) (u2 : List Int) : World := ((w.alloc (.cells (u1.map (Value.int .i64)).toArray 3)).alloc (.cells (u2.map (Value.int .i64)).toArray 3)).alloc (.cells #[.int .i64 r1, .slice (some ⟨w.heap.size, 0, none⟩) u1.length u1.length, .int .i64 r2, .slice (some ⟨w.heap.size + 1, 0, none⟩) u2.length u2.length] 48)
theorem litW1_below (w : World) (r : Int) (vs : List Int) : Below w.heap.size w (litW1 w r vs) := below_more (below_more (Below.refl _ _) _) _
theorem litW2_below (w : World) (r1 : Int) (u1 : List Int) (r2 : Int) (u2 : List Int) : Below w.heap.size w (litW2 w r1 u1 r2 u2) := below_more (below_more (below_more (Below.refl _ _) _) _) _
theorem litW1_size (w : World) (r : Int) (vs : List Int) : (litW1 w r vs).heap.size = w.heap.size + 2 := by simp [litW1]
theorem litW2_size (w : World) (r1 : Int) (u1 : List Int) (r2 : Int) (u2 : List Int) : (litW2 w r1 u1 r2 u2).heap.size = w.heap.size + 3 := by simp [litW2]
theorem litW1_own (w : World) (r : Int) (vs : List Int) (h : vs.length ≤ 3) : AtomSO 48 w.heap.size (w.heap.size + 2) (.slice (some ⟨w.heap.size + 1, 0, none⟩) 1 1) [.slice (some ⟨w.heap.size, 0, none⟩) vs.length vs.length] [⟨r, vs⟩] (litW1 w r vs) := by
  have h1 := lit_ints w vs h
  have e : (w.alloc (.cells (vs.map (Value.int .i64)).toArray 3)).heap.size = w.heap.size + 1 := by simp
  have h2 := lit_atoms1 w.heap.size (w.alloc (.cells (vs.map (Value.int .i64)).toArray 3)) r _ vs (by rw [e]; exact h1) (by omega)
  rw [e] at h2
  exact h2
theorem litW2_own (w : World) (r1 : Int) (u1 : List Int) (r2 : Int) (u2 : List Int) (h : u1.length ≤ 3) (h' : u2.length ≤ 3) : AtomSO 48 w.heap.size (w.heap.size + 3) (.slice (some ⟨w.heap.size + 2, 0, none⟩) 2 2) [.slice (some ⟨w.heap.size, 0, none⟩) u1.length u1.length, .slice (some ⟨w.heap.size + 1, 0, none⟩) u2.length u2.length] [⟨r1, u1⟩, ⟨r2, u2⟩] (litW2 w r1 u1 r2 u2) := by
  have h1 := lit_ints w u1 h
  have e : (w.alloc (.cells (u1.map (Value.int .i64)).toArray 3)).heap.size = w.heap.size + 1 := by simp
  have h2 := lit_ints (w.alloc (.cells (u1.map (Value.int .i64)).toArray 3)) u2 h'
  rw [e] at h2
  have e2 : ((w.alloc (.cells (u1.map (Value.int .i64)).toArray 3)).alloc (.cells (u2.map (Value.int .i64)).toArray 3)).heap.size = w.heap.size + 2 := by simp
  have hb : Below (w.heap.size + 1) (w.alloc (.cells (u1.map (Value.int .i64)).toArray 3)) ((w.alloc (.cells (u1.map (Value.int .i64)).toArray 3)).alloc (.cells (u2.map (Value.int .i64)).toArray 3)) := (Below.refl _ _).alloc (by rw [e]; exact Nat.le_refl _) _
  have h3 := lit_atoms2 w.heap.size ((w.alloc (.cells (u1.map (Value.int .i64)).toArray 3)).alloc (.cells (u2.map (Value.int .i64)).toArray 3)) r1 r2 (.slice (some ⟨w.heap.size, 0, none⟩) u1.length u1.length) (.slice (some ⟨w.heap.size + 1, 0, none⟩) u2.length u2.length) u1 u2 (by rw [e2]; exact (h1.below hb (Nat.le_refl _)).mono (Nat.le_refl _) (by omega)) (by rw [e2]; exact h2.mono (Nat.le_succ _) (Nat.le_refl _)) (fun g hg hg' => by simp [Value.ownBlock] at hg hg'; omega) (by omega)
  rw [e2] at h3
  exact h3
/-- a drawn dependency's two rows, the second made behind the first -/
theorem dep9_own {B C D : Nat} {v u : Value} {Vs Us : List Value} {b h : List Atm} {q : Bool} {l r : Int} {w1 w2 w3 : World} (hb : AtomSO 48 B C v Vs b w1) (h12 : Below C w1 w2) (hh : AtomSO 48 C D u Us h w2) (hBC : B ≤ C) (hz : C ≤ D) (h3 : Chg (fun g => g < B) w2 w3) : DepOwn B D ((v, Vs), (u, Us)) ⟨b, h, q, l, r⟩ w3 := by
  have hb2 := hb.below h12 (Nat.le_refl _)
  refine ⟨(hb2.chgS h3 (fun g hg e => ?_)).mono (Nat.le_refl _) hz, (hh.chgS h3 (fun g hg e => ?_)).mono ?_ (Nat.le_refl _), fun g h1 h2 => ?_⟩
  · have := (hb2.foot g hg).1; omega
  · have := (hh.foot g hg).1; omega
  · omega
  · have := (hb2.foot g h1).2; have := (hh.foot g h2).1; omega

/-- a term put among the variables, if it is one -/
def addVar (out : List Int) (t : Int) : List Int := if 0 ≤ t then putI out t else out
def addTerms (out : List Int) (vs : List Int) : List Int := vs.foldl addVar out
def varsOf (l : List Atm) : List Int := l.foldl (fun o a => addTerms o a.vals) []
theorem addTerms_take (out : List Int) (vs : List Int) (k : Nat) (h : k < vs.length) : addTerms out (vs.take (k + 1)) = addVar (addTerms out (vs.take k)) vs[k] := by
  unfold addTerms; rw [List.take_succ_eq_append_getElem h, List.foldl_append]; rfl
theorem varsOf_take (l : List Atm) (k : Nat) (h : k < l.length) : varsOf (l.take (k + 1)) = addTerms (varsOf (l.take k)) l[k].vals := by
  unfold varsOf; rw [List.take_succ_eq_append_getElem h, List.foldl_append]; rfl
theorem addVar_len (out : List Int) (t : Int) : (addVar out t).length ≤ out.length + 1 := by
  unfold addVar; split
  · exact putI_len out t
  · omega
theorem addTerms_len (out : List Int) (vs : List Int) : (addTerms out vs).length ≤ out.length + vs.length := by
  induction vs generalizing out with
  | nil => simp [addTerms]
  | cons a t ih =>
    have h1 := ih (addVar out a)
    have h2 := addVar_len out a
    simp only [addTerms, List.foldl_cons, List.length_cons] at h1 ⊢
    omega
theorem varsFold_len (o : List Int) (l : List Atm) : (l.foldl (fun o a => addTerms o a.vals) o).length ≤ o.length + avalsLen l := by
  induction l generalizing o with
  | nil => simp [avalsLen]
  | cons a t ih =>
    have h1 := ih (addTerms o a.vals)
    have h2 := addTerms_len o a.vals
    simp only [List.foldl_cons, avalsLen] at h1 ⊢
    omega
theorem varsOf_len (l : List Atm) : (varsOf l).length ≤ avalsLen l := by
  have := varsFold_len [] l
  unfold varsOf
  simpa using this

/-- a term of an atom: a variable or a constant -/
abbrev validT (t : Int) : Bool := inB t (-10) 4
def atomOk (l : List Rel) (r : Int) (vs : List Int) : Bool := validRels l && (decide (0 ≤ r ∧ r < l.length) && (decide ((vs.length : Int) = arityAt l r) && vs.all validT))
theorem atomOk_rels {l : List Rel} {r : Int} {vs : List Int} (h : validRels l = false) : atomOk l r vs = false := by unfold atomOk; rw [h]; rfl
theorem atomOk_idx {l : List Rel} {r : Int} {vs : List Int} (h : ¬(0 ≤ r ∧ r < l.length)) : atomOk l r vs = false := by unfold atomOk; rw [decide_eq_false h]; simp
theorem atomOk_len {l : List Rel} {r : Int} {vs : List Int} (h : ¬((vs.length : Int) = arityAt l r)) : atomOk l r vs = false := by unfold atomOk; rw [decide_eq_false h]; simp
theorem atomOk_val {l : List Rel} {r : Int} {vs : List Int} (k : Nat) (hk : k < vs.length) (h : validT vs[k] = false) : atomOk l r vs = false := by
  have : vs.all validT = false := by rw [List.all_eq_false]; exact ⟨vs[k], List.getElem_mem hk, by rw [h]; simp⟩
  unfold atomOk; rw [this]; simp
/-- the first k terms are valid -/
def TermsTo (vs : List Int) (k : Nat) : Prop := (vs.take k).all validT = true
theorem TermsTo.zero (vs : List Int) : TermsTo vs 0 := rfl
theorem TermsTo.next {vs : List Int} {k : Nat} (h : TermsTo vs k) (hk : k < vs.length) (hv : validT vs[k] = true) : TermsTo vs (k + 1) := by
  unfold TermsTo at *
  rw [List.take_succ_eq_append_getElem hk, List.all_append, h]; simp [hv]
theorem atomOk_yes {l : List Rel} {r : Int} {vs : List Int} (hv : validRels l = true) (h1 : 0 ≤ r ∧ r < l.length) (h2 : (vs.length : Int) = arityAt l r) (h3 : TermsTo vs vs.length) : atomOk l r vs = true := by
  unfold TermsTo at h3
  rw [List.take_of_length_le (Nat.le_refl _)] at h3
  unfold atomOk; rw [hv, decide_eq_true h1, decide_eq_true h2, h3]; rfl
theorem atomOk_parts {l : List Rel} {r : Int} {vs : List Int} (h : atomOk l r vs = true) : validRels l = true ∧ (0 ≤ r ∧ r < l.length) ∧ (vs.length : Int) = arityAt l r ∧ ∀ (k : Nat) (hk : k < vs.length), validT vs[k] = true := by
  unfold atomOk at h
  simp only [Bool.and_eq_true, decide_eq_true_eq, List.all_eq_true] at h
  exact ⟨h.1, h.2.1, h.2.2.1, fun k hk => h.2.2.2 _ (List.getElem_mem hk)⟩

/-- the first k are as p asks -/
def AllTo {α : Type} (p : α → Bool) (l : List α) (k : Nat) : Prop := (l.take k).all p = true
theorem AllTo.zero {α : Type} (p : α → Bool) (l : List α) : AllTo p l 0 := rfl
theorem AllTo.next {α : Type} {p : α → Bool} {l : List α} {k : Nat} (h : AllTo p l k) (hk : k < l.length) (hp : p l[k] = true) : AllTo p l (k + 1) := by
  unfold AllTo at *
  rw [List.take_succ_eq_append_getElem hk, List.all_append, h]; simp [hp]
theorem AllTo.full {α : Type} {p : α → Bool} {l : List α} (h : AllTo p l l.length) : l.all p = true := by
  unfold AllTo at h; rwa [List.take_of_length_le (Nat.le_refl _)] at h
def atomB (l : List Rel) (a : Atm) : Bool := atomOk l a.rel a.vals
def srcAt (l : List Rel) (r : Int) : Bool := (l.getD r.toNat zeroRel).source
def headB (l : List Rel) (a : Atm) : Bool := atomB l a && !(srcAt l a.rel)
/-- a dependency is valid over the schema -/
def depOk (l : List Rel) (x : Dep) : Bool :=
  inB (x.body.length : Nat) 1 2 && (x.body.all (atomB l) && (if x.egd then ((x.head.length : Nat) : Int) == 0 && (decide (x.left ∈ varsOf x.body) && (decide (x.right ∈ varsOf x.body) && decide (x.left < x.right)))
    else x.head.all (headB l) && (inB (x.head.length : Nat) 1 2 && ((x.left == 0) && (x.right == 0)))))

/-- the variables among terms, one after another -/
def posOf (vs : List Int) : List Int := vs.filter fun t => decide (0 ≤ t)
def vposOf (l : List Atm) : List Int := l.flatMap fun a => posOf a.vals
theorem posOf_take (vs : List Int) (k : Nat) (h : k < vs.length) : posOf (vs.take (k + 1)) = posOf (vs.take k) ++ (if 0 ≤ vs[k] then [vs[k]] else []) := by
  unfold posOf
  rw [List.take_succ_eq_append_getElem h, List.filter_append]
  congr 1
  by_cases hp : 0 ≤ vs[k] <;> simp [hp]
theorem posOf_len (vs : List Int) : (posOf vs).length ≤ vs.length := List.length_filter_le _ _
theorem vposOf_take (l : List Atm) (k : Nat) (h : k < l.length) : vposOf (l.take (k + 1)) = vposOf (l.take k) ++ posOf l[k].vals := by
  unfold vposOf; rw [List.take_succ_eq_append_getElem h, List.flatMap_append]; simp
theorem vposOf_len (l : List Atm) : (vposOf l).length ≤ avalsLen l := by
  induction l with
  | nil => simp [vposOf]
  | cons a t ih =>
    have h1 := posOf_len a.vals
    unfold vposOf at ih ⊢
    rw [List.flatMap_cons, List.length_append]
    simp only [avalsLen]; omega
theorem addTerms_mem (vs out : List Int) (x : Int) : x ∈ addTerms out vs ↔ x ∈ out ∨ x ∈ posOf vs := by
  induction vs generalizing out with
  | nil => simp [addTerms, posOf]
  | cons a t ih =>
    have h := ih (addVar out a)
    unfold addTerms at h ⊢
    rw [List.foldl_cons, h]
    unfold addVar posOf
    rw [List.filter_cons]
    by_cases hp : 0 ≤ a
    · rw [if_pos hp, decide_eq_true hp, if_pos rfl, putI_mem, List.mem_cons]
      constructor
      · rintro ((h | h) | h)
        · exact .inr (.inl h)
        · exact .inl h
        · exact .inr (.inr h)
      · rintro (h | h | h)
        · exact .inl (.inr h)
        · exact .inl (.inl h)
        · exact .inr h
    · rw [if_neg hp, decide_eq_false hp]; simp
theorem varsFold_mem (l : List Atm) (out : List Int) (x : Int) : x ∈ l.foldl (fun o a => addTerms o a.vals) out ↔ x ∈ out ∨ x ∈ vposOf l := by
  induction l generalizing out with
  | nil => simp [vposOf]
  | cons a t ih =>
    rw [List.foldl_cons, ih, addTerms_mem]
    unfold vposOf
    rw [List.flatMap_cons, List.mem_append, or_assoc]
theorem varsOf_mem (l : List Atm) (x : Int) : x ∈ varsOf l ↔ x ∈ vposOf l := by
  unfold varsOf; rw [varsFold_mem]; simp
theorem addTerms_asc (vs out : List Int) (h : out.Pairwise (· < ·)) : (addTerms out vs).Pairwise (· < ·) := by
  induction vs generalizing out with
  | nil => exact h
  | cons a t ih =>
    unfold addTerms
    rw [List.foldl_cons]
    refine ih _ ?_
    unfold addVar
    split
    · exact putI_asc out a h
    · exact h
theorem varsOf_asc (l : List Atm) : (varsOf l).Pairwise (· < ·) := by
  have : ∀ (l : List Atm) (out : List Int), out.Pairwise (· < ·) → (l.foldl (fun o a => addTerms o a.vals) out).Pairwise (· < ·) := by
    intro l
    induction l with
    | nil => intro out h; exact h
    | cons a t ih => intro out h; rw [List.foldl_cons]; exact ih _ (addTerms_asc a.vals out h)
  exact this l [] List.Pairwise.nil
/-- sorted, doubles dropped: the variables in ascending order -/
theorem compact_vars (l : List Atm) : Lib.compact ((vposOf l).mergeSort fun x y => decide (x ≤ y)) = varsOf l := by
  have hs : ((vposOf l).mergeSort fun x y => decide (x ≤ y)).Pairwise (· ≤ ·) := by
    have := List.pairwise_mergeSort (le := fun (x y : Int) => decide (x ≤ y)) (by intro a b c; simp; omega) (by intro a b; simp; omega) (vposOf l)
    exact this.imp (fun h => by simpa using h)
  obtain ⟨h1, h2⟩ := compact_upTo _ hs _ (Nat.le_refl _)
  refine asc_eq _ _ h1 (varsOf_asc l) (fun x => ?_)
  unfold Lib.compact
  rw [h2, List.take_of_length_le (Nat.le_refl _), List.mem_mergeSort, varsOf_mem]

/-- a dependency's box: its two rows, nothing else said -/
structure BoxD (D : Nat) (V0 V1 : Value) (w : World) : Prop where
  c0 : w.cell? ⟨D, 0, none⟩ = some V0
  c1 : w.cell? ⟨D, 1, none⟩ = some V1
  c2 : w.cell? ⟨D, 2, none⟩ = some (.bool false)
  c3 : w.cell? ⟨D, 3, none⟩ = some (.int .i64 0)
  c4 : w.cell? ⟨D, 4, none⟩ = some (.int .i64 0)
  fz : ∀ o, w.frozen? ⟨D, o, none⟩ = false
theorem BoxD.same {D : Nat} {V0 V1 : Value} {w w' : World} (h : BoxD D V0 V1 w) (hc : ∀ o, w'.cell? ⟨D, o, none⟩ = w.cell? ⟨D, o, none⟩) (hf : ∀ o, w'.frozen? ⟨D, o, none⟩ = w.frozen? ⟨D, o, none⟩) : BoxD D V0 V1 w' :=
  ⟨(hc 0).trans h.c0, (hc 1).trans h.c1, (hc 2).trans h.c2, (hc 3).trans h.c3, (hc 4).trans h.c4, fun o => (hf o).trans (h.fz o)⟩
theorem BoxD.below {D B : Nat} {V0 V1 : Value} {w w' : World} (h : BoxD D V0 V1 w) (hb : Below B w w') (hD : D < B) : BoxD D V0 V1 w' :=
  h.same (fun o => hb.cell (p := ⟨D, o, none⟩) hD) (fun o => hb.frozen (p := ⟨D, o, none⟩) hD)
theorem BoxD.grown {D p : Nat} {V0 V1 : Value} {w w' : World} (h : BoxD D V0 V1 w) (hg : w.grownBy w' (some p)) (hD : D < w.heap.size) (hp : D ≠ p) : BoxD D V0 V1 w' :=
  ⟨grown_cell hg h.c0 hp, grown_cell hg h.c1 hp, grown_cell hg h.c2 hp, grown_cell hg h.c3 hp, grown_cell hg h.c4 hp, fun o => grown_frozen hg hD hp (h.fz o)⟩
theorem BoxD.set0 {D : Nat} {V0 V1 : Value} {w : World} (h : BoxD D V0 V1 w) (U : Value) : BoxD D U V1 (w.setCell ⟨D, 0, none⟩ U) := by
  obtain ⟨c0, c1, c2, c3, c4, fz⟩ := h
  exact ⟨by simp [go_sem, c0], by simp [go_sem, c1], by simp [go_sem, c2], by simp [go_sem, c3], by simp [go_sem, c4], fun o => by simp [fz]⟩
theorem BoxD.set1 {D : Nat} {V0 V1 : Value} {w : World} (h : BoxD D V0 V1 w) (U : Value) : BoxD D V0 U (w.setCell ⟨D, 1, none⟩ U) := by
  obtain ⟨c0, c1, c2, c3, c4, fz⟩ := h
  exact ⟨by simp [go_sem, c0], by simp [go_sem, c1], by simp [go_sem, c2], by simp [go_sem, c3], by simp [go_sem, c4], fun o => by simp [fz]⟩
theorem AtomSO.grown {e : TypeId} {B C p : Nat} {v : Value} {Vs : List Value} {l : List Atm} {w w' : World} (h : AtomSO e B C v Vs l w) (hg : w.grownBy w' (some p)) (hp : p < B) : AtomSO e B C v Vs l w' :=
  h.kept hg (fun q hq e1 => by injection e1 with e1; have := (h.foot q hq).1; omega)
theorem vars_bd {l : List Atm} (h : ∀ a ∈ l, AtmSmall a) : ∀ t ∈ varsOf l, -11 ≤ t ∧ t ≤ 5 := by
  intro t ht
  have h1 := (varsOf_mem l t).1 ht
  unfold vposOf at h1
  obtain ⟨a, ha, h2⟩ := List.mem_flatMap.1 h1
  unfold posOf at h2
  exact (h a ha).2.2 t (List.mem_filter.1 h2).1
theorem AtmSmall.sz {l : List Atm} (h : ∀ a ∈ l, AtmSmall a) : AtomS_sz l ≤ 3 * l.length := by
  induction l with
  | nil => exact Nat.le_refl _
  | cons a t ih =>
    have h1 := (h a (by simp)).2.1.2
    have h2 := ih (fun b hb => h b (by simp [hb]))
    unfold AtomS_sz at h2 ⊢
    show (a :: t).length + (a.vals.length + avalsLen t) ≤ _
    simp only [List.length_cons]; omega
theorem chg_grown {p D : Nat} {w w5 wr : World} (hg : w.grownBy w5 (some p)) (hc : Chg (fun q => q = p ∨ q = D) w5 wr) (hD : w.heap.size ≤ D) : w.grownBy wr (some p) :=
  ⟨hc.os.trans hg.os, hc.tape.trans hg.tape, hc.output.trans hg.output, Nat.le_trans hg.size hc.size, fun k hk hne => (hc.block k (Nat.lt_of_lt_of_le hk hg.size) (fun e => by
    rcases e with e | e
    · exact hne (by rw [e])
    · omega)).trans (hg.block k hk hne)⟩
/-- what a draw hands back through its result's box -/
theorem rule_fin {n p : Nat} {cv : Value} {code : List UInt8} {st st2 : DrawSt} {w wl : World} {X : DepX} {x : Dep} {V0 V1 : Value} (hC : CurS w p cv code st) (hC2 : CurS wl p cv code st2) (hg : w.grownBy wl (some p)) (hX : DepOwn (w.heap.size + 1) wl.heap.size X x wl) (hs : DepSmall n x) (h0 : X.1.1 = V0) (h1 : X.2.1 = V1) :
    GivesDep9 n p cv code w (.returned (.agg #[V0, V1, .bool x.egd, .int .i64 x.left, .int .i64 x.right])) (((((wl.setCell ⟨w.heap.size, 0, none⟩ V0).setCell ⟨w.heap.size, 1, none⟩ V1).setCell ⟨w.heap.size, 2, none⟩ (.bool x.egd)).setCell ⟨w.heap.size, 3, none⟩ (.int .i64 x.left)).setCell ⟨w.heap.size, 4, none⟩ (.int .i64 x.right)) := by
  subst h0 h1
  have hbW : Below w.heap.size wl (((((wl.setCell ⟨w.heap.size, 0, none⟩ X.1.1).setCell ⟨w.heap.size, 1, none⟩ X.2.1).setCell ⟨w.heap.size, 2, none⟩ (.bool x.egd)).setCell ⟨w.heap.size, 3, none⟩ (.int .i64 x.left)).setCell ⟨w.heap.size, 4, none⟩ (.int .i64 x.right)) := (((((Below.refl w.heap.size wl).setCell (p := ⟨w.heap.size, 0, none⟩) (Nat.le_refl _) _).setCell (p := ⟨w.heap.size, 1, none⟩) (Nat.le_refl _) _).setCell (p := ⟨w.heap.size, 2, none⟩) (Nat.le_refl _) _).setCell (p := ⟨w.heap.size, 3, none⟩) (Nat.le_refl _) _).setCell (p := ⟨w.heap.size, 4, none⟩) (Nat.le_refl _) _
  have hch : Chg (fun g => g < w.heap.size + 1) wl (((((wl.setCell ⟨w.heap.size, 0, none⟩ X.1.1).setCell ⟨w.heap.size, 1, none⟩ X.2.1).setCell ⟨w.heap.size, 2, none⟩ (.bool x.egd)).setCell ⟨w.heap.size, 3, none⟩ (.int .i64 x.left)).setCell ⟨w.heap.size, 4, none⟩ (.int .i64 x.right)) := ((((((Chg.refl (fun g => g < w.heap.size + 1) wl).setCell (p := ⟨w.heap.size, 0, none⟩) (Nat.lt_succ_self w.heap.size) X.1.1).setCell (p := ⟨w.heap.size, 1, none⟩) (Nat.lt_succ_self w.heap.size) X.2.1).setCell (p := ⟨w.heap.size, 2, none⟩) (Nat.lt_succ_self w.heap.size) (.bool x.egd)).setCell (p := ⟨w.heap.size, 3, none⟩) (Nat.lt_succ_self w.heap.size) (.int .i64 x.left)).setCell (p := ⟨w.heap.size, 4, none⟩) (Nat.lt_succ_self w.heap.size) (.int .i64 x.right))
  refine ⟨X, x, rfl, ?_, hs, ⟨_, Cur.below hC hC2 hbW⟩, grown_of_below hg hbW⟩
  exact (hX.chgS hch (fun g hg e => by have := (hX.foot g hg).1; omega)).mono (Nat.le_succ _) (by simp only [World.size_setCell]; exact Nat.le_refl _)

/-- a dependency's box, whatever it holds -/
structure BoxX (D : Nat) (V0 V1 : Value) (q : Bool) (l r : Int) (w : World) : Prop where
  c0 : w.cell? ⟨D, 0, none⟩ = some V0
  c1 : w.cell? ⟨D, 1, none⟩ = some V1
  c2 : w.cell? ⟨D, 2, none⟩ = some (.bool q)
  c3 : w.cell? ⟨D, 3, none⟩ = some (.int .i64 l)
  c4 : w.cell? ⟨D, 4, none⟩ = some (.int .i64 r)
  fz : ∀ o, w.frozen? ⟨D, o, none⟩ = false
theorem BoxX.same {D : Nat} {V0 V1 : Value} {q : Bool} {l r : Int} {w w' : World} (h : BoxX D V0 V1 q l r w) (hc : ∀ o, w'.cell? ⟨D, o, none⟩ = w.cell? ⟨D, o, none⟩) (hf : ∀ o, w'.frozen? ⟨D, o, none⟩ = w.frozen? ⟨D, o, none⟩) : BoxX D V0 V1 q l r w' :=
  ⟨(hc 0).trans h.c0, (hc 1).trans h.c1, (hc 2).trans h.c2, (hc 3).trans h.c3, (hc 4).trans h.c4, fun o => (hf o).trans (h.fz o)⟩
theorem BoxX.below {D B : Nat} {V0 V1 : Value} {q : Bool} {l r : Int} {w w' : World} (h : BoxX D V0 V1 q l r w) (hb : Below B w w') (hD : D < B) : BoxX D V0 V1 q l r w' :=
  h.same (fun o => hb.cell (p := ⟨D, o, none⟩) hD) (fun o => hb.frozen (p := ⟨D, o, none⟩) hD)
theorem BoxX.grown {D : Nat} {row : Option Nat} {V0 V1 : Value} {q : Bool} {l r : Int} {w w' : World} (h : BoxX D V0 V1 q l r w) (hg : w.grownBy w' row) (hD : D < w.heap.size) (hp : some D ≠ row) : BoxX D V0 V1 q l r w' :=
  h.same (fun o => hg.cell_far ⟨D, o, none⟩ hD hp) (fun o => hg.frozen_far ⟨D, o, none⟩ hD hp)
theorem BoxD.grownR {D : Nat} {row : Option Nat} {V0 V1 : Value} {w w' : World} (h : BoxD D V0 V1 w) (hg : w.grownBy w' row) (hD : D < w.heap.size) (hp : some D ≠ row) : BoxD D V0 V1 w' :=
  h.same (fun o => hg.cell_far ⟨D, o, none⟩ hD hp) (fun o => hg.frozen_far ⟨D, o, none⟩ hD hp)
theorem DepOwn.grown {B C p : Nat} {X : DepX} {x : Dep} {w w' : World} (h : DepOwn B C X x w) (hg : w.grownBy w' (some p)) (hp : p < B) : DepOwn B C X x w' :=
  h.kept hg (fun q hq e1 => by injection e1 with e1; have := (h.foot q hq).1; omega)
/-- another block's cells turned, other fields said -/
theorem DepOwn.store {B C D : Nat} {X : DepX} {b hd : List Atm} {q q' : Bool} {l l' r r' : Int} {w w' : World} (h : DepOwn B C X ⟨b, hd, q, l, r⟩ w) (hc : Chg (fun g => g = D) w w') (hD : C ≤ D) : DepOwn B C X ⟨b, hd, q', l', r'⟩ w' := by
  have h2 := h.chgS hc (fun g hg e => by have := (h.foot g hg).2; omega)
  exact ⟨h2.1, h2.2.1, h2.2.2⟩
/-- a row that is not empty lies in a block of its own -/
theorem AtomSO.block {e : TypeId} {B C : Nat} {v : Value} {Vs : List Value} {l : List Atm} {w : World} (h : AtomSO e B C v Vs l w) (hl : 0 < l.length) : ∃ g cap, v = .slice (some ⟨g, 0, none⟩) l.length cap ∧ B ≤ g ∧ g < C := by
  have hp := apairs_len h.len
  have hr := h.row
  rw [hp] at hr
  obtain ⟨g, cap, rfl, h1, h2⟩ := World.ownsRow.form hr hl
  exact ⟨g, cap, rfl, h1, h.ins g rfl⟩

end Go.Proofs.Ytobdijcnfmgidaa
