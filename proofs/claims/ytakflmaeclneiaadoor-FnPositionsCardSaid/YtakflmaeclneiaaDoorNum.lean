/-
  Walks and plain lemmas for the laws of this seat: what single Go functions return, for every argument.
-/
import Derived.Test.YtakflmaeclneiaaDoorBase
import Derived.Test.YtakflmaeclneiaaDoorRels
import Derived.Test.YtakflmaeclneiaaDoorInts
import Derived.Test.YtakflmaeclneiaaDoorTyAtom
namespace Go.Proofs.YtakflmaeclneiaaDoor
open Go.RowKit

/-- the null's number of a value -/
def nullNum (v : Int) : Int × Bool := if -40 ≤ v ∧ v < 0 then (-1 - v, true) else (0, false)
def validV (v : Int) : Bool := decide (-40 ≤ v ∧ v ≤ 9)
theorem nullNum_yes (v : Int) (h : -40 ≤ v ∧ v < 0) : nullNum v = (-1 - v, true) := if_pos h
theorem nullNum_no (v : Int) (h : ¬(-40 ≤ v ∧ v < 0)) : nullNum v = (0, false) := if_neg h
theorem nullNum_bd (v : Int) : 0 ≤ (nullNum v).1 ∧ (nullNum v).1 < 40 := by
  unfold nullNum; split <;> simp <;> omega
theorem inB_true {x lo hi : Int} (h : lo ≤ x ∧ x ≤ hi) : inB x lo hi = true := by unfold inB; exact decide_eq_true h
theorem inB_false {x lo hi : Int} (h : ¬(lo ≤ x ∧ x ≤ hi)) : inB x lo hi = false := by unfold inB; exact decide_eq_false h
theorem ret_pair {a b : Int} {c d : Bool} (h : (a, c) = (b, d)) : Ending.returned (.tuple #[.int .i64 a, .bool c]) = .returned (.tuple #[.int .i64 b, .bool d]) := by injection h with h h'; rw [h, h']

set_option maxHeartbeats 400000 in
theorem l1In_any (x lo hi : Int) (w : World) :
    Calls Tryd.prog 31 #[.int .i64 x, .int .i64 lo, .int .i64 hi] w fun e w' => e = .returned (.bool (inB x lo hi)) ∧ w = w' := by
  by_cases h1 : lo ≤ x
  all_goals
    go_enter Tryd.func31, Tryd.ntmps31
    go_wp2
    go_ret
    simp [inB]
    first | omega | skip
theorem l1In_at (x lo hi : Int) (b : Bool) (h : inB x lo hi = b) (w : World) : Calls Tryd.prog 31 #[.int .i64 x, .int .i64 lo, .int .i64 hi] w fun e w' => e = .returned (.bool b) ∧ w = w' := by
  subst h; exact l1In_any x lo hi w

def factOk (l : List Rel) (r : Int) (vs : List Int) : Bool := validRels l && (decide (0 ≤ r ∧ r < l.length) && (decide ((vs.length : Int) = arityAt l r) && vs.all validV))
theorem factOk_rels {l : List Rel} {r : Int} {vs : List Int} (h : validRels l = false) : factOk l r vs = false := by unfold factOk; rw [h]; rfl
theorem factOk_idx {l : List Rel} {r : Int} {vs : List Int} (h : ¬(0 ≤ r ∧ r < l.length)) : factOk l r vs = false := by unfold factOk; rw [decide_eq_false h]; simp
theorem factOk_len {l : List Rel} {r : Int} {vs : List Int} (h : ¬((vs.length : Int) = arityAt l r)) : factOk l r vs = false := by unfold factOk; rw [decide_eq_false h]; simp
theorem factOk_val {l : List Rel} {r : Int} {vs : List Int} (k : Nat) (hk : k < vs.length) (h : validV vs[k] = false) : factOk l r vs = false := by
  have : vs.all validV = false := by rw [List.all_eq_false]; exact ⟨vs[k], List.getElem_mem hk, by rw [h]; simp⟩
  unfold factOk; rw [this]; simp
/-- the first k values are valid -/
def ValsTo (vs : List Int) (k : Nat) : Prop := (vs.take k).all validV = true
theorem ValsTo.zero (vs : List Int) : ValsTo vs 0 := rfl
theorem ValsTo.next {vs : List Int} {k : Nat} (h : ValsTo vs k) (hk : k < vs.length) (hv : validV vs[k] = true) : ValsTo vs (k + 1) := by
  unfold ValsTo at *
  rw [List.take_succ_eq_append_getElem hk, List.all_append, h]; simp [hv]
theorem factOk_yes {l : List Rel} {r : Int} {vs : List Int} (hv : validRels l = true) (h1 : 0 ≤ r ∧ r < l.length) (h2 : (vs.length : Int) = arityAt l r) (h3 : ValsTo vs vs.length) : factOk l r vs = true := by
  unfold ValsTo at h3
  rw [List.take_of_length_le (Nat.le_refl _)] at h3
  unfold factOk; rw [hv, decide_eq_true h1, decide_eq_true h2, h3]; rfl
theorem factOk_parts {l : List Rel} {r : Int} {vs : List Int} (h : factOk l r vs = true) : validRels l = true ∧ (0 ≤ r ∧ r < l.length) ∧ (vs.length : Int) = arityAt l r ∧ ∀ (k : Nat) (hk : k < vs.length), validV vs[k] = true := by
  unfold factOk at h
  simp only [Bool.and_eq_true, decide_eq_true_eq, List.all_eq_true] at h
  exact ⟨h.1, h.2.1, h.2.2.1, fun k hk => h.2.2.2 _ (List.getElem_mem hk)⟩
def cmpFact (r : Int) (a : List Int) (s : Int) (b : List Int) : Int := if r < s then -1 else if s < r then 1 else cmpInts a b

/-- a number put into its place among ascending ones -/
def putI : List Int → Int → List Int
  | [], x => [x]
  | a :: t, x => if a < x then a :: putI t x else if a = x then a :: t else x :: a :: t
/-- the first k numbers are smaller -/
def PutTo (l : List Int) (x : Int) (k : Nat) : Prop := putI l x = l.take k ++ putI (l.drop k) x
theorem PutTo.zero (l : List Int) (x : Int) : PutTo l x 0 := rfl
theorem PutTo.next {l : List Int} {x : Int} {k : Nat} (h : PutTo l x k) (hk : k < l.length) (hl : l[k] < x) : PutTo l x (k + 1) := by
  unfold PutTo at *
  rw [h, List.drop_eq_getElem_cons hk, putI, if_pos hl, List.take_succ_eq_append_getElem hk, List.append_assoc]
  rfl
theorem PutTo.hit {l : List Int} {x : Int} {k : Nat} (h : PutTo l x k) (hk : k < l.length) (hl : l[k] = x) : putI l x = l := by
  unfold PutTo at h
  rw [h, List.drop_eq_getElem_cons hk, putI, if_neg (by omega), if_pos hl, ← List.drop_eq_getElem_cons hk, List.take_append_drop]
theorem PutTo.stop {l : List Int} {x : Int} {k : Nat} (h : PutTo l x k) (hk : k < l.length) (hl : x < l[k]) : putI l x = l.take k ++ x :: l.drop k := by
  unfold PutTo at h
  rw [h, List.drop_eq_getElem_cons hk, putI, if_neg (by omega), if_neg (by omega)]
theorem PutTo.last {l : List Int} {x : Int} {k : Nat} (h : PutTo l x k) (hk : k = l.length) : putI l x = l.take k ++ x :: l.drop k := by
  subst hk
  unfold PutTo at h
  rw [h, List.drop_length]; rfl
theorem putI_len (l : List Int) (x : Int) : (putI l x).length ≤ l.length + 1 := by
  induction l with
  | nil => simp [putI]
  | cons a t ih =>
    unfold putI
    split
    · simp; exact ih
    · split <;> simp
theorem putI_mem (l : List Int) (x y : Int) : y ∈ putI l x ↔ y = x ∨ y ∈ l := by
  induction l with
  | nil => simp [putI]
  | cons a t ih =>
    unfold putI
    split
    · simp only [List.mem_cons, ih]; constructor
      · rintro (h | h | h)
        · exact .inr (.inl h)
        · exact .inl h
        · exact .inr (.inr h)
      · rintro (h | h | h)
        · exact .inr (.inl h)
        · exact .inl h
        · exact .inr (.inr h)
    · split
      · rename_i h1 h2; subst h2; simp
      · simp
/-- the nulls of a list of values -/
def addNull (out : List Int) (v : Int) : List Int := if (nullNum v).2 then putI out (nullNum v).1 else out
def nullsOf (vs : List Int) : List Int := vs.foldl addNull []
theorem nullsOf_take (vs : List Int) (k : Nat) (h : k < vs.length) : nullsOf (vs.take (k + 1)) = addNull (nullsOf (vs.take k)) vs[k] := by
  unfold nullsOf; rw [List.take_succ_eq_append_getElem h, List.foldl_append]; rfl
/-- ascending, all from 0 to 39 -/
def AscN (l : List Int) : Prop := l.Pairwise (· < ·) ∧ ∀ x ∈ l, 0 ≤ x ∧ x < 40
theorem AscN.nil : AscN [] := ⟨List.Pairwise.nil, by simp⟩
theorem putI_asc (l : List Int) (x : Int) (h : l.Pairwise (· < ·)) : (putI l x).Pairwise (· < ·) := by
  induction l with
  | nil => simp [putI]
  | cons a t ih =>
    rw [List.pairwise_cons] at h
    unfold putI
    split
    · rename_i h1
      rw [List.pairwise_cons]
      refine ⟨fun y hy => ?_, ih h.2⟩
      rcases (putI_mem t x y).1 hy with rfl | hy
      · exact h1
      · exact h.1 y hy
    · split
      · rw [List.pairwise_cons]; exact h
      · rename_i h1 h2
        rw [List.pairwise_cons, List.pairwise_cons]
        refine ⟨fun y hy => ?_, h⟩
        rcases List.mem_cons.1 hy with rfl | hy
        · omega
        · have := h.1 y hy; omega
theorem AscN.add {l : List Int} (h : AscN l) (v : Int) : AscN (addNull l v) := by
  unfold addNull
  split
  · refine ⟨putI_asc l _ h.1, fun x hx => ?_⟩
    rcases (putI_mem l _ x).1 hx with rfl | hx
    · exact nullNum_bd v
    · exact h.2 x hx
  · exact h
theorem AscN.nullsOf (vs : List Int) (k : Nat) : AscN (nullsOf (vs.take k)) := by
  induction k with
  | zero => exact AscN.nil
  | succ k ih =>
    by_cases h : k < vs.length
    · rw [nullsOf_take vs k h]; exact ih.add _
    · rwa [List.take_of_length_le (by omega), ← List.take_of_length_le (show vs.length ≤ k by omega)]
theorem asc_len (n : Nat) (l : List Int) (a : Int) (h : l.Pairwise (· < ·)) (hb : ∀ x ∈ l, a ≤ x ∧ x < a + n) : l.length ≤ n := by
  induction l generalizing a n with
  | nil => simp
  | cons x t ih =>
    have h0 := hb x (by simp)
    rw [List.pairwise_cons] at h
    obtain ⟨m, rfl⟩ : ∃ m, n = m + 1 := ⟨n - 1, by omega⟩
    have := ih m (a + 1) h.2 (fun y hy => by
      have h1 := h.1 y hy
      have h2 := hb y (by simp [hy])
      omega)
    simp; omega
theorem AscN.len {l : List Int} (h : AscN l) : l.length ≤ 40 := asc_len 40 l 0 h.1 (fun x hx => by have := h.2 x hx; omega)

theorem all_no {α : Type} {p : α → Bool} {l : List α} {k : Nat} (hk : k < l.length) (hp : p l[k] = false) : l.all p = false := by
  rw [List.all_eq_false]; exact ⟨l[k], List.getElem_mem hk, by rw [hp]; simp⟩

/-- a term put among the variables, if it is one -/
def addVar (out : List Int) (t : Int) : List Int := if 0 ≤ t then putI out t else out
def addTerms (out : List Int) (vs : List Int) : List Int := vs.foldl addVar out
def varsOf (l : List Atm) : List Int := l.foldl (fun o a => addTerms o a.vals) []
theorem addTerms_take (out : List Int) (vs : List Int) (k : Nat) (h : k < vs.length) : addTerms out (vs.take (k + 1)) = addVar (addTerms out (vs.take k)) vs[k] := by
  unfold addTerms; rw [List.take_succ_eq_append_getElem h, List.foldl_append]; rfl
theorem varsOf_take (l : List Atm) (k : Nat) (h : k < l.length) : varsOf (l.take (k + 1)) = addTerms (varsOf (l.take k)) l[k].vals := by
  unfold varsOf; rw [List.take_succ_eq_append_getElem h, List.foldl_append]; rfl
theorem addVar_len (out : List Int) (t : Int) : (addVar out t).length ≤ out.length + 1 := by
  unfold addVar; split
  · exact putI_len out t
  · omega
theorem addTerms_len (out : List Int) (vs : List Int) : (addTerms out vs).length ≤ out.length + vs.length := by
  induction vs generalizing out with
  | nil => simp [addTerms]
  | cons a t ih =>
    have h1 := ih (addVar out a)
    have h2 := addVar_len out a
    simp only [addTerms, List.foldl_cons, List.length_cons] at h1 ⊢
    omega
theorem varsFold_len (o : List Int) (l : List Atm) : (l.foldl (fun o a => addTerms o a.vals) o).length ≤ o.length + avalsLen l := by
  induction l generalizing o with
  | nil => simp [avalsLen]
  | cons a t ih =>
    have h1 := ih (addTerms o a.vals)
    have h2 := addTerms_len o a.vals
    simp only [List.foldl_cons, avalsLen] at h1 ⊢
    omega
theorem varsOf_len (l : List Atm) : (varsOf l).length ≤ avalsLen l := by
  have := varsFold_len [] l
  unfold varsOf
  simpa using this

/-- a term of an atom: a variable or a constant -/
abbrev validT (t : Int) : Bool := inB t (-10) 4
def atomOk (l : List Rel) (r : Int) (vs : List Int) : Bool := validRels l && (decide (0 ≤ r ∧ r < l.length) && (decide ((vs.length : Int) = arityAt l r) && vs.all validT))
theorem atomOk_rels {l : List Rel} {r : Int} {vs : List Int} (h : validRels l = false) : atomOk l r vs = false := by unfold atomOk; rw [h]; rfl
theorem atomOk_idx {l : List Rel} {r : Int} {vs : List Int} (h : ¬(0 ≤ r ∧ r < l.length)) : atomOk l r vs = false := by unfold atomOk; rw [decide_eq_false h]; simp
theorem atomOk_len {l : List Rel} {r : Int} {vs : List Int} (h : ¬((vs.length : Int) = arityAt l r)) : atomOk l r vs = false := by unfold atomOk; rw [decide_eq_false h]; simp
theorem atomOk_val {l : List Rel} {r : Int} {vs : List Int} (k : Nat) (hk : k < vs.length) (h : validT vs[k] = false) : atomOk l r vs = false := by
  have : vs.all validT = false := by rw [List.all_eq_false]; exact ⟨vs[k], List.getElem_mem hk, by rw [h]; simp⟩
  unfold atomOk; rw [this]; simp
/-- the first k terms are valid -/
def TermsTo (vs : List Int) (k : Nat) : Prop := (vs.take k).all validT = true
theorem TermsTo.zero (vs : List Int) : TermsTo vs 0 := rfl
theorem TermsTo.next {vs : List Int} {k : Nat} (h : TermsTo vs k) (hk : k < vs.length) (hv : validT vs[k] = true) : TermsTo vs (k + 1) := by
  unfold TermsTo at *
  rw [List.take_succ_eq_append_getElem hk, List.all_append, h]; simp [hv]
theorem atomOk_yes {l : List Rel} {r : Int} {vs : List Int} (hv : validRels l = true) (h1 : 0 ≤ r ∧ r < l.length) (h2 : (vs.length : Int) = arityAt l r) (h3 : TermsTo vs vs.length) : atomOk l r vs = true := by
  unfold TermsTo at h3
  rw [List.take_of_length_le (Nat.le_refl _)] at h3
  unfold atomOk; rw [hv, decide_eq_true h1, decide_eq_true h2, h3]; rfl
theorem atomOk_parts {l : List Rel} {r : Int} {vs : List Int} (h : atomOk l r vs = true) : validRels l = true ∧ (0 ≤ r ∧ r < l.length) ∧ (vs.length : Int) = arityAt l r ∧ ∀ (k : Nat) (hk : k < vs.length), validT vs[k] = true := by
  unfold atomOk at h
  simp only [Bool.and_eq_true, decide_eq_true_eq, List.all_eq_true] at h
  exact ⟨h.1, h.2.1, h.2.2.1, fun k hk => h.2.2.2 _ (List.getElem_mem hk)⟩

/-- the first k are as p asks -/
def AllTo {α : Type} (p : α → Bool) (l : List α) (k : Nat) : Prop := (l.take k).all p = true
theorem AllTo.zero {α : Type} (p : α → Bool) (l : List α) : AllTo p l 0 := rfl
theorem AllTo.next {α : Type} {p : α → Bool} {l : List α} {k : Nat} (h : AllTo p l k) (hk : k < l.length) (hp : p l[k] = true) : AllTo p l (k + 1) := by
  unfold AllTo at *
  rw [List.take_succ_eq_append_getElem hk, List.all_append, h]; simp [hp]
theorem AllTo.full {α : Type} {p : α → Bool} {l : List α} (h : AllTo p l l.length) : l.all p = true := by
  unfold AllTo at h; rwa [List.take_of_length_le (Nat.le_refl _)] at h
def atomB (l : List Rel) (a : Atm) : Bool := atomOk l a.rel a.vals
def srcAt (l : List Rel) (r : Int) : Bool := (l.getD r.toNat zeroRel).source
def headB (l : List Rel) (a : Atm) : Bool := atomB l a && !(srcAt l a.rel)
/-- a dependency is valid over the schema -/
def depOk (l : List Rel) (x : Dep) : Bool :=
  inB (x.body.length : Nat) 1 2 && (x.body.all (atomB l) && (if x.egd then ((x.head.length : Nat) : Int) == 0 && (decide (x.left ∈ varsOf x.body) && (decide (x.right ∈ varsOf x.body) && decide (x.left < x.right)))
    else x.head.all (headB l) && (inB (x.head.length : Nat) 1 2 && ((x.left == 0) && (x.right == 0)))))

theorem atomB_len {l : List Rel} {a : Atm} (h : atomB l a = true) : a.vals.length ≤ 3 := by
  obtain ⟨h1, h2, h3, _⟩ := atomOk_parts h
  have hk : a.rel.toNat < l.length := by omega
  have ha := relOk_bd _ _ (validRels_at l h1 a.rel.toNat hk)
  rw [arityAt_in hk] at h3
  omega
theorem avals_small {l : List Rel} {ts : List Atm} (h : ts.all (atomB l) = true) : avalsLen ts ≤ 3 * ts.length := by
  induction ts with
  | nil => simp [avalsLen]
  | cons a t ih =>
    rw [List.all_cons, Bool.and_eq_true] at h
    have h1 := atomB_len h.1
    have h2 := ih h.2
    simp only [avalsLen, List.length_cons]; omega
theorem side_sz {l : List Rel} {ts : List Atm} (h : ts.all (atomB l) = true) (hn : ts.length ≤ 2) : AtomS_sz ts ≤ 8 := by
  have := avals_small h
  unfold AtomS_sz; omega

end Go.Proofs.YtakflmaeclneiaaDoor
