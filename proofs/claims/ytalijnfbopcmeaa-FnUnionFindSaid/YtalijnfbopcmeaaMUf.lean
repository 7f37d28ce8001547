/-
  Walks and plain lemmas for the laws of this seat: what single Go functions return, for every argument.
-/
import Derived.Test.YtalijnfbopcmeaaNum
import Derived.Test.YtalijnfbopcmeaaInts
import Derived.Test.YtalijnfbopcmeaaTyInst
namespace Go.Proofs.Ytalijnfbopcmeaa
open Go.RowKit

/-- null k's representative, as it must be -/
def ufElem (x : List Int) (k : Nat) : Bool :=
  validV (x.getD k 0) && (!(nullNum (x.getD k 0)).2 || (decide ((nullNum (x.getD k 0)).1 ≤ (k : Int)) && decide (x.getD (nullNum (x.getD k 0)).1.toNat 0 = x.getD k 0)))
def ufOk (x : List Int) : Bool := decide (x.length ≤ 40) && (List.range x.length).all (ufElem x)
def UfTo (x : List Int) (k : Nat) : Prop := ∀ i, i < k → ufElem x i = true
theorem UfTo.zero (x : List Int) : UfTo x 0 := fun _ h => absurd h (by omega)
theorem UfTo.next {x : List Int} {k : Nat} (h : UfTo x k) (he : ufElem x k = true) : UfTo x (k + 1) := fun i hi => by
  by_cases e : i = k
  · subst e; exact he
  · exact h i (by omega)
theorem ufOk_len {x : List Int} (h : ¬ x.length ≤ 40) : ufOk x = false := by unfold ufOk; rw [decide_eq_false h]; rfl
theorem ufOk_no {x : List Int} (i : Nat) (hi : i < x.length) (h : ufElem x i = false) : ufOk x = false := by
  unfold ufOk
  have : (List.range x.length).all (ufElem x) = false := by
    rw [List.all_eq_false]; exact ⟨i, List.mem_range.2 hi, by rw [h]; simp⟩
  rw [this, Bool.and_false]
theorem ufOk_to {x : List Int} (hT : UfTo x x.length) : ufOk x = decide (x.length ≤ 40) := by
  unfold ufOk
  have : (List.range x.length).all (ufElem x) = true := List.all_eq_true.2 fun i hi => hT i (List.mem_range.1 hi)
  rw [this, Bool.and_true]
theorem ufOk_yes {x : List Int} (h : x.length ≤ 40) (hT : UfTo x x.length) : ufOk x = true := by rw [ufOk_to hT]; exact decide_eq_true h
theorem ufElem_bad {x : List Int} {k : Nat} (hk : k < x.length) (h : validV x[k] = false) : ufElem x k = false := by
  unfold ufElem; rw [← List.getElem_eq_getD (h := hk), h]; rfl
theorem ufElem_const {x : List Int} {k : Nat} (hk : k < x.length) (h : validV x[k] = true) (h0 : 0 ≤ x[k]) : ufElem x k = true := by
  unfold ufElem; rw [← List.getElem_eq_getD (h := hk), h, nullNum_no _ (by omega)]; rfl
theorem ufElem_null {x : List Int} {k m : Nat} (hk : k < x.length) (h : -40 ≤ x[k] ∧ x[k] < 0) (hm : -1 - x[k] = (m : Int)) : ufElem x k = (decide (m ≤ k) && decide (x.getD m 0 = x[k])) := by
  unfold ufElem; rw [← List.getElem_eq_getD (h := hk), nullNum_yes _ h, show validV x[k] = true from decide_eq_true (by omega)]
  dsimp only
  rw [hm, Int.toNat_natCast]
  simp
theorem ufElem_far {x : List Int} {k m : Nat} (hk : k < x.length) (h : -40 ≤ x[k] ∧ x[k] < 0) (hm : -1 - x[k] = (m : Int)) (hf : k < m) : ufElem x k = false := by
  rw [ufElem_null hk h hm, decide_eq_false (by omega)]; rfl
theorem ufElem_ne {x : List Int} {k m : Nat} (hk : k < x.length) (h : -40 ≤ x[k] ∧ x[k] < 0) (hm : -1 - x[k] = (m : Int)) (hl : m < x.length) (hf : x[m] ≠ x[k]) : ufElem x k = false := by
  rw [ufElem_null hk h hm, ← List.getElem_eq_getD (h := hl), decide_eq_false hf, Bool.and_false]
theorem ufElem_eq {x : List Int} {k m : Nat} (hk : k < x.length) (h : -40 ≤ x[k] ∧ x[k] < 0) (hm : -1 - x[k] = (m : Int)) (hl : m < x.length) (hf : x[m] = x[k]) (hle : m ≤ k) : ufElem x k = true := by
  rw [ufElem_null hk h hm, ← List.getElem_eq_getD (h := hl), decide_eq_true hf, decide_eq_true hle]; rfl
/-- what a valid union-find says of each null -/
structure UfFacts (x : List Int) : Prop where
  len : x.length ≤ 40
  val : ∀ i (h : i < x.length), -40 ≤ x[i] ∧ x[i] ≤ 9
  root : ∀ i (h : i < x.length) (m : Nat), -1 - x[i] = (m : Int) → ∃ hm : m < x.length, m ≤ i ∧ x[m] = x[i]
theorem ufOk_parts {x : List Int} (h : ufOk x = true) : UfFacts x := by
  unfold ufOk at h
  rw [Bool.and_eq_true, decide_eq_true_eq, List.all_eq_true] at h
  obtain ⟨hl, ha⟩ := h
  have hv : ∀ i (h : i < x.length), -40 ≤ x[i] ∧ x[i] ≤ 9 := fun i h => by
    have h1 := ha i (List.mem_range.2 h)
    unfold ufElem at h1
    rw [← List.getElem_eq_getD (h := h), Bool.and_eq_true] at h1
    exact of_decide_eq_true h1.1
  refine ⟨hl, hv, fun i h m hm => ?_⟩
  have h1 := ha i (List.mem_range.2 h)
  rw [ufElem_null h (by have := (hv i h).1; omega) hm, Bool.and_eq_true, decide_eq_true_eq, decide_eq_true_eq] at h1
  have hml : m < x.length := by omega
  refine ⟨hml, h1.1, ?_⟩
  rw [← h1.2, ← List.getElem_eq_getD (h := hml)]
/-- the value that stands for v -/
def ufFind (x : List Int) (v : Int) : Int := if ufOk x = true ∧ (-40 ≤ v ∧ v < 0) ∧ -1 - v < x.length then x.getD (-1 - v).toNat 0 else v
theorem ufFind_bad {x : List Int} {v : Int} (h : ufOk x = false) : ufFind x v = v := by unfold ufFind; rw [if_neg (by rw [h]; simp)]
theorem ufFind_const {x : List Int} {v : Int} (h : ¬(-40 ≤ v ∧ v < 0)) : ufFind x v = v := by unfold ufFind; rw [if_neg (fun e => h e.2.1)]
theorem ufFind_far {x : List Int} {v : Int} (h : ¬(-1 - v < x.length)) : ufFind x v = v := by unfold ufFind; rw [if_neg (fun e => h e.2.2)]
theorem ufFind_yes {x : List Int} {v : Int} {m : Nat} (h : ufOk x = true) (hv : -40 ≤ v ∧ v < 0) (hm : -1 - v = (m : Int)) (hl : m < x.length) : ufFind x v = x[m] := by
  unfold ufFind; rw [if_pos ⟨h, hv, by omega⟩, hm, Int.toNat_natCast, ← List.getElem_eq_getD (h := hl)]
theorem ufFind_bd {x : List Int} {v : Int} (h0 : -9223372036854775808 ≤ v) (h1 : v ≤ 9223372036854775807) : -9223372036854775808 ≤ ufFind x v ∧ ufFind x v ≤ 9223372036854775807 := by
  unfold ufFind
  split
  · rename_i h
    have hp := ufOk_parts h.1
    have hl : (-1 - v).toNat < x.length := by omega
    have := hp.val _ hl
    rw [← List.getElem_eq_getD (h := hl)]; omega
  · exact ⟨h0, h1⟩
/-- is v one of its nulls? -/
def ufOne (x : List Int) (v : Int) : Bool := decide ((-40 ≤ v ∧ v < 0) ∧ -1 - v < x.length)
/-- a constant, or one of its nulls -/
def canU (x : List Int) (v : Int) : Bool := decide ((0 ≤ v ∧ v ≤ 9) ∨ ((-40 ≤ v ∧ v < 0) ∧ -1 - v < x.length))
theorem canU_null {x : List Int} {v : Int} (h : v < 0) : canU x v = ufOne x v := by unfold canU ufOne; exact decide_eq_decide.2 (by omega)
theorem canU_const {x : List Int} {v : Int} (h : ¬ v < 0) : canU x v = validV v := by unfold canU validV; exact decide_eq_decide.2 (by omega)

/-- n nulls, each for itself -/
def newUf : Nat → List Int
  | 0 => []
  | k + 1 => newUf k ++ [-1 - (k : Int)]
theorem newUf_len (k : Nat) : (newUf k).length = k := by
  induction k with
  | zero => rfl
  | succ k ih => rw [newUf, List.length_append, ih]; rfl
def NewUnionFind_r0 (n : Int) : List Int := if 0 ≤ n ∧ n ≤ 40 then newUf n.toNat else []
theorem newUf_cases (n : Int) : ∃ N : Nat, NewUnionFind_r0 n = newUf N ∧ ((0 ≤ n ∧ n ≤ 40 ∧ (N : Int) = n) ∨ (N = 0 ∧ ¬(0 ≤ n ∧ n ≤ 40))) := by
  by_cases h : 0 ≤ n ∧ n ≤ 40
  · exact ⟨n.toNat, if_pos h, .inl ⟨h.1, h.2, by omega⟩⟩
  · exact ⟨0, if_neg h, .inr ⟨rfl, h⟩⟩
theorem newUf_sz (n : Int) : UnionFind_sz (NewUnionFind_r0 n) ≤ 1048576 := by
  obtain ⟨N, h, h2⟩ := newUf_cases n
  rw [h]; unfold UnionFind_sz IntS_sz; rw [newUf_len]; omega
theorem newUf_set (n k : Nat) (h : k < n) : (newUf k ++ List.replicate (n - k) 0).set k (-1 - (k : Int)) = newUf (k + 1) ++ List.replicate (n - (k + 1)) 0 := by
  rw [List.set_append_right _ _ (by rw [newUf_len]; omega), newUf_len, Nat.sub_self, show n - k = (n - (k + 1)) + 1 by omega, List.replicate_succ, List.set_cons_zero, newUf, List.append_assoc]
  rfl
theorem newUf_fill (n k : Nat) (h : k ≤ n) : (newUf k ++ List.replicate (n - k) (0 : Int)).length = n := by
  rw [List.length_append, newUf_len, List.length_replicate]; omega

/-- every 'gone' turned into 'keep' -/
def swapI (gone keep : Int) (r : Int) : Int := if r = gone then keep else r
theorem swapI_eq {gone keep r : Int} (h : r = gone) : swapI gone keep r = keep := if_pos h
theorem swapI_ne {gone keep r : Int} (h : ¬ r = gone) : swapI gone keep r = r := if_neg h
def uniOk (x : List Int) (a b : Int) : Bool := ufOk x && (canU x a && canU x b)
def Union_r0 (x : List Int) (a b : Int) : List Int :=
  if uniOk x a b = true ∧ ufFind x a ≠ ufFind x b ∧ min (ufFind x a) (ufFind x b) < 0 then x.map (swapI (min (ufFind x a) (ufFind x b)) (max (ufFind x a) (ufFind x b))) else x
def Union_r1 (x : List Int) (a b : Int) : Int :=
  if uniOk x a b = false then 2 else if ufFind x a = ufFind x b then 0 else if min (ufFind x a) (ufFind x b) < 0 then 1 else 2
theorem uni_bad {x : List Int} {a b : Int} (h : uniOk x a b = false) : Union_r0 x a b = x ∧ Union_r1 x a b = 2 := by
  unfold Union_r0 Union_r1; rw [h]; simp
theorem uni_same {x : List Int} {a b : Int} (h : uniOk x a b = true) (h1 : ufFind x a = ufFind x b) : Union_r0 x a b = x ∧ Union_r1 x a b = 0 := by
  unfold Union_r0 Union_r1; rw [h]; simp [h1]
theorem uni_const {x : List Int} {a b : Int} (h : uniOk x a b = true) (h1 : ¬ ufFind x a = ufFind x b) (h2 : ¬ min (ufFind x a) (ufFind x b) < 0) : Union_r0 x a b = x ∧ Union_r1 x a b = 2 := by
  unfold Union_r0 Union_r1; rw [h, if_neg (fun e => h2 e.2.2), if_neg (by simp), if_neg h1, if_neg h2]; exact ⟨rfl, rfl⟩
theorem uni_done {x : List Int} {a b : Int} (h : uniOk x a b = true) (h1 : ¬ ufFind x a = ufFind x b) (h2 : min (ufFind x a) (ufFind x b) < 0) : Union_r0 x a b = x.map (swapI (min (ufFind x a) (ufFind x b)) (max (ufFind x a) (ufFind x b))) ∧ Union_r1 x a b = 1 := by
  unfold Union_r0 Union_r1; rw [h, if_pos ⟨rfl, h1, h2⟩, if_neg (by simp), if_neg h1, if_pos h2]; exact ⟨rfl, rfl⟩
theorem Union_r0_len (x : List Int) (a b : Int) : (Union_r0 x a b).length = x.length := by unfold Union_r0; split <;> simp
theorem uniOk_no1 {x : List Int} {a b : Int} (h : ufOk x = false) : uniOk x a b = false := by unfold uniOk; rw [h]; rfl
theorem uniOk_no2 {x : List Int} {a b : Int} (h : canU x a = false) : uniOk x a b = false := by unfold uniOk; rw [h]; simp
theorem uniOk_no3 {x : List Int} {a b : Int} (h : canU x b = false) : uniOk x a b = false := by unfold uniOk; rw [h]; simp
theorem uniOk_yes {x : List Int} {a b : Int} (h : ufOk x = true) (h1 : canU x a = true) (h2 : canU x b = true) : uniOk x a b = true := by unfold uniOk; rw [h, h1, h2]; rfl
def GivesUni (x : List Int) (a b : Int) (w : World) (e : Ending) (w' : World) : Prop :=
  ∃ r, e = .returned (.tuple #[r, .int .i64 (Union_r1 x a b)]) ∧ UnionFind_own w.heap.size w'.heap.size r (Union_r0 x a b) w' ∧ Below w.heap.size w w'

/-- the nulls below k that something else stands for, and what -/
def subTo (x : List Int) : Nat → Sbst
  | 0 => ⟨[], []⟩
  | k + 1 => if x.getD k 0 = -1 - (k : Int) then subTo x k else ⟨(subTo x k).nulls ++ [(k : Int)], (subTo x k).vals ++ [x.getD k 0]⟩
theorem subTo_eq {x : List Int} {k : Nat} (hk : k < x.length) (h : x[k] = -1 - (k : Int)) : subTo x (k + 1) = subTo x k := by
  rw [subTo, ← List.getElem_eq_getD (h := hk), if_pos h]
theorem subTo_ne {x : List Int} {k : Nat} (hk : k < x.length) (h : ¬ x[k] = -1 - (k : Int)) : (subTo x (k + 1)).nulls = (subTo x k).nulls ++ [(k : Int)] ∧ (subTo x (k + 1)).vals = (subTo x k).vals ++ [x[k]] := by
  rw [subTo, ← List.getElem_eq_getD (h := hk), if_neg h]; exact ⟨rfl, rfl⟩
theorem subTo_len (x : List Int) (k : Nat) : (subTo x k).nulls.length ≤ k ∧ (subTo x k).vals.length ≤ k := by
  induction k with
  | zero => exact ⟨Nat.le_refl _, Nat.le_refl _⟩
  | succ k ih =>
    unfold subTo
    split
    · omega
    · simp; omega
def UnionSubstitution_r0 (x : List Int) : Sbst := if ufOk x = true then subTo x x.length else ⟨[], []⟩
theorem ufSub_cases (x : List Int) : ∃ N : Nat, UnionSubstitution_r0 x = subTo x N ∧ ((ufOk x = true ∧ N = x.length ∧ x.length ≤ 40) ∨ (ufOk x = false ∧ N = 0)) := by
  cases h : ufOk x with
  | true => exact ⟨x.length, if_pos h, .inl ⟨rfl, rfl, (ufOk_parts h).len⟩⟩
  | false => exact ⟨0, if_neg (by rw [h]; simp), .inr ⟨rfl, rfl⟩⟩
theorem ufSub_sz (x : List Int) : Substitution_sz (UnionSubstitution_r0 x) ≤ 1048576 := by
  obtain ⟨N, h, h2⟩ := ufSub_cases x
  rw [h]
  have := subTo_len x N
  unfold Substitution_sz IntS_sz; omega
def GivesUS (x : List Int) (w : World) (e : Ending) (w' : World) : Prop :=
  ∃ r, e = .returned r ∧ Substitution_own w.heap.size w'.heap.size r (UnionSubstitution_r0 x) w' ∧ Below w.heap.size w w'
/-- two rows of the call's own make a substitution -/
theorem two_own {B C D : Nat} {V1 V2 : Value} {s : Sbst} {w w' : World} {S : Nat → Prop} (h : Two D V1 V2 s.nulls s.vals w) (hc : Chg S w w') (hS : ∀ k, S k → k < D) (hB : B ≤ D) (hC : C = w'.heap.size) : Substitution_own B C (.agg #[V1, V2]) s w' := by
  have h' := h.chg hc hS
  subst hC
  exact ⟨V1, V2, rfl, (IntsO.of h'.1).mono hB (Nat.le_refl _), (IntsO.of h'.2.1).mono hB (Nat.le_refl _), h'.2.2⟩

end Go.Proofs.Ytalijnfbopcmeaa
