/-
  Walks and plain lemmas for the laws of this seat: what single Go functions return, for every argument.
-/
import Derived.Test.YtoapphgahmofhaaGreatBase
import Derived.Test.YtoapphgahmofhaaGreatMem
import Derived.Test.YtoapphgahmofhaaGreatPlan
import Derived.Test.YtoapphgahmofhaaGreatInts
import Derived.Test.YtoapphgahmofhaaGreatRel
namespace Go.Proofs.YtoapphgahmofhaaGreat
open Go.RowKit

theorem take_eq_next {α : Type} (l m : List α) (k : Nat) (h : k < l.length) (h' : k < m.length) (he : l[k] = m[k]) (ht : l.take k = m.take k) : l.take (k + 1) = m.take (k + 1) := by
  rw [List.take_succ_eq_append_getElem h, List.take_succ_eq_append_getElem h', ht, he]
theorem take_eq_not {α : Type} (l m : List α) (k : Nat) (h : k < l.length) (h' : k < m.length) (he : ¬ l[k] = m[k]) : ¬ l = m := by
  rintro rfl; exact he rfl
instance : DecidableEq Rel := fun a b => by
  cases a; cases b; rw [Rel.mk.injEq]; exact inferInstance

/-- the null's number of a value -/
def nullNum (v : Int) : Int × Bool := if -40 ≤ v ∧ v < 0 then (-1 - v, true) else (0, false)
def validV (v : Int) : Bool := decide (-40 ≤ v ∧ v ≤ 9)
theorem nullNum_yes (v : Int) (h : -40 ≤ v ∧ v < 0) : nullNum v = (-1 - v, true) := if_pos h
theorem nullNum_no (v : Int) (h : ¬(-40 ≤ v ∧ v < 0)) : nullNum v = (0, false) := if_neg h
theorem nullNum_bd (v : Int) : 0 ≤ (nullNum v).1 ∧ (nullNum v).1 < 40 := by
  unfold nullNum; split <;> simp <;> omega
theorem inB_true {x lo hi : Int} (h : lo ≤ x ∧ x ≤ hi) : inB x lo hi = true := by unfold inB; exact decide_eq_true h
theorem inB_false {x lo hi : Int} (h : ¬(lo ≤ x ∧ x ≤ hi)) : inB x lo hi = false := by unfold inB; exact decide_eq_false h
theorem ret_pair {a b : Int} {c d : Bool} (h : (a, c) = (b, d)) : Ending.returned (.tuple #[.int .i64 a, .bool c]) = .returned (.tuple #[.int .i64 b, .bool d]) := by injection h with h h'; rw [h, h']

set_option maxHeartbeats 400000 in
theorem l1In_any (x lo hi : Int) (w : World) :
    Calls Tryz.prog 84 #[.int .i64 x, .int .i64 lo, .int .i64 hi] w fun e w' => e = .returned (.bool (inB x lo hi)) ∧ w = w' := by
  by_cases h1 : lo ≤ x
  all_goals
    go_enter Tryz.func84, Tryz.ntmps84
    go_wp2
    go_ret
    simp [inB]
    first | omega | skip
theorem l1In_at (x lo hi : Int) (b : Bool) (h : inB x lo hi = b) (w : World) : Calls Tryz.prog 84 #[.int .i64 x, .int .i64 lo, .int .i64 hi] w fun e w' => e = .returned (.bool b) ∧ w = w' := by
  subst h; exact l1In_any x lo hi w

set_option maxHeartbeats 400000 in
theorem specNullNumber_any (v : Int) (w : World) (h0 : -9223372036854775808 ≤ v) (h1 : v ≤ 9223372036854775807) :
    Calls Tryz.prog 118 #[.int .i64 v] w fun e w' => e = .returned (.tuple #[.int .i64 (nullNum v).1, .bool (nullNum v).2]) ∧ w = w' := by
  by_cases hv : 0 ≤ v
  · rw [nullNum_no v (by omega)]
    go_enter Tryz.func118, Tryz.ntmps118
    go_wp2
    go_ret2
    exact ⟨rfl, rfl⟩
  · by_cases h : -40 ≤ v
    · have hi : inB (-1 - v) 0 39 = true := inB_true (by omega)
      rw [nullNum_yes v (by omega)]
      go_enter Tryz.func118, Tryz.ntmps118
      go_wp2_with (go_at_call 84; refine (l1In_any _ _ _ _).mono ?_; rintro e w' ⟨rfl, rfl⟩)
      go_ret2
      exact ⟨rfl, rfl⟩
    · have hi : inB (-1 - v) 0 39 = false := inB_false (by omega)
      rw [nullNum_no v (by omega)]
      go_enter Tryz.func118, Tryz.ntmps118
      go_wp2_with (go_at_call 84; refine (l1In_any _ _ _ _).mono ?_; rintro e w' ⟨rfl, rfl⟩)
      go_ret2
      exact ⟨rfl, rfl⟩

set_option maxHeartbeats 400000 in
theorem specIsValidValue_any (v : Int) (w : World) (h0 : -9223372036854775808 ≤ v) (h1 : v ≤ 9223372036854775807) :
    Calls Tryz.prog 87 #[.int .i64 v] w fun e w' => e = .returned (.bool (validV v)) ∧ w = w' := by
  by_cases h : -40 ≤ v ∧ v < 0
  · have hr : (nullNum v).2 = true := by rw [nullNum_yes v h]
    have HV := Lib.hid (show validV v = true from decide_eq_true (by omega))
    go_enter Tryz.func87, Tryz.ntmps87
    go_wp2_with (first | (go_at_call 118; refine (specNullNumber_any _ _ h0 h1).mono ?_; rintro e w' ⟨rfl, rfl⟩) | (go_at_call 84; refine (l1In_any _ _ _ _).mono ?_; rintro e w' ⟨rfl, rfl⟩))
    go_ret
    exact ⟨ret_bool HV.out.symm, rfl⟩
  · have hr : (nullNum v).2 = false := by rw [nullNum_no v h]
    have HV := Lib.hid (show inB v 0 9 = validV v by unfold inB validV; rw [decide_eq_decide]; omega)
    go_enter Tryz.func87, Tryz.ntmps87
    go_wp2_with (first | (go_at_call 118; refine (specNullNumber_any _ _ h0 h1).mono ?_; rintro e w' ⟨rfl, rfl⟩) | (go_at_call 84; refine (l1In_any _ _ _ _).mono ?_; rintro e w' ⟨rfl, rfl⟩))
    go_ret
    exact ⟨ret_bool HV.out, rfl⟩

theorem specIsValidValue_at (v : Int) (b : Bool) (h : validV v = b) (w : World) (h0 : -9223372036854775808 ≤ v) (h1 : v ≤ 9223372036854775807) :
    Calls Tryz.prog 87 #[.int .i64 v] w fun e w' => e = .returned (.bool b) ∧ w = w' := by
  subst h; exact specIsValidValue_any v w h0 h1

set_option maxHeartbeats 400000 in
theorem implIsNull_any (v : Int) (w : World) :
    Calls Tryz.prog 151 #[.int .i64 v] w fun e w' => e = .returned (.bool (decide (v < 0))) ∧ w = w' := by
  go_enter Tryz.func151, Tryz.ntmps151
  go_wp2
  go_ret
  exact ⟨rfl, rfl⟩

set_option maxHeartbeats 400000 in
theorem implNullValue_any (k : Int) (w : World) (h0 : -9223372036854775808 ≤ k) (h1 : k ≤ 9223372036854775807) :
    Calls Tryz.prog 173 #[.int .i64 k] w fun e w' => e = .returned (.int .i64 (-1 - k)) ∧ w = w' := by
  go_enter Tryz.func173, Tryz.ntmps173
  go_wp2
  go_ret
  exact ⟨rfl, rfl⟩

set_option maxHeartbeats 400000 in
theorem implIsNullNumber_any (k : Int) (w : World) :
    Calls Tryz.prog 174 #[.int .i64 k] w fun e w' => e = .returned (.bool (inB k 0 39)) ∧ w = w' := by
  by_cases h : 0 ≤ k
  · have HV := Lib.hid (show decide (k < 40) = inB k 0 39 by unfold inB; rw [decide_eq_decide]; omega)
    have hd : decide (0 ≤ k) = true := decide_eq_true h
    go_enter Tryz.func174, Tryz.ntmps174
    go_wp2
    go_ret
    exact ⟨ret_bool HV.out, rfl⟩
  · have HV := Lib.hid (show false = inB k 0 39 from (inB_false (by omega)).symm)
    have hd : decide (0 ≤ k) = false := decide_eq_false h
    go_enter Tryz.func174, Tryz.ntmps174
    go_wp2
    go_ret
    exact ⟨ret_bool HV.out, rfl⟩
theorem implIsNullNumber_at (k : Int) (b : Bool) (h : inB k 0 39 = b) (w : World) :
    Calls Tryz.prog 174 #[.int .i64 k] w fun e w' => e = .returned (.bool b) ∧ w = w' := by
  subst h; exact implIsNullNumber_any k w

set_option maxHeartbeats 400000 in
theorem implNullNumber_any (v : Int) (w : World) (h0 : -9223372036854775808 ≤ v) (h1 : v ≤ 9223372036854775807) :
    Calls Tryz.prog 171 #[.int .i64 v] w fun e w' => e = .returned (.tuple #[.int .i64 (nullNum v).1, .bool (nullNum v).2]) ∧ w = w' := by
  by_cases h : -40 ≤ v ∧ v < 0
  · rw [nullNum_yes v h]
    have hc := fun W => implIsNullNumber_at (-1 - v) true (inB_true (by omega)) W
    obtain ⟨ha, hb⟩ := h
    go_enter Tryz.func171, Tryz.ntmps171
    go_wp2_with (first | (go_at_call 173; refine (implNullValue_any _ _ h0 h1).mono ?_; rintro e w' ⟨rfl, rfl⟩) | (go_at_call 174; refine (hc _).mono ?_; rintro e w' ⟨rfl, rfl⟩))
    go_ret2
    exact ⟨rfl, rfl⟩
  · rw [nullNum_no v h]
    have hc := fun W => implIsNullNumber_at (-1 - v) false (inB_false (by omega)) W
    go_enter Tryz.func171, Tryz.ntmps171
    go_wp2_with (first | (go_at_call 173; refine (implNullValue_any _ _ h0 h1).mono ?_; rintro e w' ⟨rfl, rfl⟩) | (go_at_call 174; refine (hc _).mono ?_; rintro e w' ⟨rfl, rfl⟩))
    go_ret2
    exact ⟨rfl, rfl⟩

set_option maxHeartbeats 400000 in
theorem implIsValidValue_any (v : Int) (w : World) (h0 : -9223372036854775808 ≤ v) (h1 : v ≤ 9223372036854775807) :
    Calls Tryz.prog 167 #[.int .i64 v] w fun e w' => e = .returned (.bool (validV v)) ∧ w = w' := by
  by_cases h : v < 0
  · have HV := Lib.hid (show (nullNum v).2 = validV v by
      unfold validV nullNum
      split
      · exact (decide_eq_true (by omega)).symm
      · exact (decide_eq_false (by omega)).symm)
    have hd : decide (v < 0) = true := decide_eq_true h
    go_enter Tryz.func167, Tryz.ntmps167
    go_wp2_with (first | (go_at_call 151; refine (implIsNull_any _ _).mono ?_; rintro e w' ⟨rfl, rfl⟩) | (go_at_call 171; refine (implNullNumber_any _ _ h0 h1).mono ?_; rintro e w' ⟨rfl, rfl⟩))
    go_ret
    exact ⟨ret_bool HV.out, rfl⟩
  · have HV := Lib.hid (show decide (v ≤ 9) = validV v by unfold validV; rw [decide_eq_decide]; omega)
    have hd : decide (v < 0) = false := decide_eq_false h
    go_enter Tryz.func167, Tryz.ntmps167
    go_wp2_with (first | (go_at_call 151; refine (implIsNull_any _ _).mono ?_; rintro e w' ⟨rfl, rfl⟩) | (go_at_call 171; refine (implNullNumber_any _ _ h0 h1).mono ?_; rintro e w' ⟨rfl, rfl⟩))
    go_ret
    exact ⟨ret_bool HV.out, rfl⟩

theorem implIsValidValue_at (v : Int) (b : Bool) (h : validV v = b) (w : World) (h0 : -9223372036854775808 ≤ v) (h1 : v ≤ 9223372036854775807) :
    Calls Tryz.prog 167 #[.int .i64 v] w fun e w' => e = .returned (.bool b) ∧ w = w' := by
  subst h; exact implIsValidValue_any v w h0 h1

/-- the arity that relation r of the schema has -/
def arityAt (l : List Rel) (r : Int) : Int := (l.getD r.toNat zeroRel).arity
def factOk (l : List Rel) (r : Int) (vs : List Int) : Bool := validRels l && (decide (0 ≤ r ∧ r < l.length) && (decide ((vs.length : Int) = arityAt l r) && vs.all validV))
theorem factOk_rels {l : List Rel} {r : Int} {vs : List Int} (h : validRels l = false) : factOk l r vs = false := by unfold factOk; rw [h]; rfl
theorem factOk_idx {l : List Rel} {r : Int} {vs : List Int} (h : ¬(0 ≤ r ∧ r < l.length)) : factOk l r vs = false := by unfold factOk; rw [decide_eq_false h]; simp
theorem factOk_len {l : List Rel} {r : Int} {vs : List Int} (h : ¬((vs.length : Int) = arityAt l r)) : factOk l r vs = false := by unfold factOk; rw [decide_eq_false h]; simp
theorem factOk_val {l : List Rel} {r : Int} {vs : List Int} (k : Nat) (hk : k < vs.length) (h : validV vs[k] = false) : factOk l r vs = false := by
  have : vs.all validV = false := by rw [List.all_eq_false]; exact ⟨vs[k], List.getElem_mem hk, by rw [h]; simp⟩
  unfold factOk; rw [this]; simp
/-- the first k values are valid -/
def ValsTo (vs : List Int) (k : Nat) : Prop := (vs.take k).all validV = true
theorem ValsTo.zero (vs : List Int) : ValsTo vs 0 := rfl
theorem ValsTo.next {vs : List Int} {k : Nat} (h : ValsTo vs k) (hk : k < vs.length) (hv : validV vs[k] = true) : ValsTo vs (k + 1) := by
  unfold ValsTo at *
  rw [List.take_succ_eq_append_getElem hk, List.all_append, h]; simp [hv]
theorem factOk_yes {l : List Rel} {r : Int} {vs : List Int} (hv : validRels l = true) (h1 : 0 ≤ r ∧ r < l.length) (h2 : (vs.length : Int) = arityAt l r) (h3 : ValsTo vs vs.length) : factOk l r vs = true := by
  unfold ValsTo at h3
  rw [List.take_of_length_le (Nat.le_refl _)] at h3
  unfold factOk; rw [hv, decide_eq_true h1, decide_eq_true h2, h3]; rfl
theorem factOk_parts {l : List Rel} {r : Int} {vs : List Int} (h : factOk l r vs = true) : validRels l = true ∧ (0 ≤ r ∧ r < l.length) ∧ (vs.length : Int) = arityAt l r ∧ ∀ (k : Nat) (hk : k < vs.length), validV vs[k] = true := by
  unfold factOk at h
  simp only [Bool.and_eq_true, decide_eq_true_eq, List.all_eq_true] at h
  exact ⟨h.1, h.2.1, h.2.2.1, fun k hk => h.2.2.2 _ (List.getElem_mem hk)⟩
theorem arityAt_in {l : List Rel} {r : Int} (h : r.toNat < l.length) : arityAt l r = l[r.toNat].arity := by unfold arityAt; rw [getD_at h]
def cmpFact (r : Int) (a : List Int) (s : Int) (b : List Int) : Int := if r < s then -1 else if s < r then 1 else cmpInts a b

/-- a number put into its place among ascending ones -/
def putI : List Int → Int → List Int
  | [], x => [x]
  | a :: t, x => if a < x then a :: putI t x else if a = x then a :: t else x :: a :: t
/-- the first k numbers are smaller -/
def PutTo (l : List Int) (x : Int) (k : Nat) : Prop := putI l x = l.take k ++ putI (l.drop k) x
theorem PutTo.zero (l : List Int) (x : Int) : PutTo l x 0 := rfl
theorem PutTo.next {l : List Int} {x : Int} {k : Nat} (h : PutTo l x k) (hk : k < l.length) (hl : l[k] < x) : PutTo l x (k + 1) := by
  unfold PutTo at *
  rw [h, List.drop_eq_getElem_cons hk, putI, if_pos hl, List.take_succ_eq_append_getElem hk, List.append_assoc]
  rfl
theorem PutTo.hit {l : List Int} {x : Int} {k : Nat} (h : PutTo l x k) (hk : k < l.length) (hl : l[k] = x) : putI l x = l := by
  unfold PutTo at h
  rw [h, List.drop_eq_getElem_cons hk, putI, if_neg (by omega), if_pos hl, ← List.drop_eq_getElem_cons hk, List.take_append_drop]
theorem PutTo.stop {l : List Int} {x : Int} {k : Nat} (h : PutTo l x k) (hk : k < l.length) (hl : x < l[k]) : putI l x = l.take k ++ x :: l.drop k := by
  unfold PutTo at h
  rw [h, List.drop_eq_getElem_cons hk, putI, if_neg (by omega), if_neg (by omega)]
theorem PutTo.last {l : List Int} {x : Int} {k : Nat} (h : PutTo l x k) (hk : k = l.length) : putI l x = l.take k ++ x :: l.drop k := by
  subst hk
  unfold PutTo at h
  rw [h, List.drop_length]; rfl
theorem putI_len (l : List Int) (x : Int) : (putI l x).length ≤ l.length + 1 := by
  induction l with
  | nil => simp [putI]
  | cons a t ih =>
    unfold putI
    split
    · simp; exact ih
    · split <;> simp
theorem putI_mem (l : List Int) (x y : Int) : y ∈ putI l x ↔ y = x ∨ y ∈ l := by
  induction l with
  | nil => simp [putI]
  | cons a t ih =>
    unfold putI
    split
    · simp only [List.mem_cons, ih]; constructor
      · rintro (h | h | h)
        · exact .inr (.inl h)
        · exact .inl h
        · exact .inr (.inr h)
      · rintro (h | h | h)
        · exact .inr (.inl h)
        · exact .inl h
        · exact .inr (.inr h)
    · split
      · rename_i h1 h2; subst h2; simp
      · simp
/-- the nulls of a list of values -/
def addNull (out : List Int) (v : Int) : List Int := if (nullNum v).2 then putI out (nullNum v).1 else out
def nullsOf (vs : List Int) : List Int := vs.foldl addNull []
theorem nullsOf_take (vs : List Int) (k : Nat) (h : k < vs.length) : nullsOf (vs.take (k + 1)) = addNull (nullsOf (vs.take k)) vs[k] := by
  unfold nullsOf; rw [List.take_succ_eq_append_getElem h, List.foldl_append]; rfl
/-- ascending, all from 0 to 39 -/
def AscN (l : List Int) : Prop := l.Pairwise (· < ·) ∧ ∀ x ∈ l, 0 ≤ x ∧ x < 40
theorem AscN.nil : AscN [] := ⟨List.Pairwise.nil, by simp⟩
theorem putI_asc (l : List Int) (x : Int) (h : l.Pairwise (· < ·)) : (putI l x).Pairwise (· < ·) := by
  induction l with
  | nil => simp [putI]
  | cons a t ih =>
    rw [List.pairwise_cons] at h
    unfold putI
    split
    · rename_i h1
      rw [List.pairwise_cons]
      refine ⟨fun y hy => ?_, ih h.2⟩
      rcases (putI_mem t x y).1 hy with rfl | hy
      · exact h1
      · exact h.1 y hy
    · split
      · rw [List.pairwise_cons]; exact h
      · rename_i h1 h2
        rw [List.pairwise_cons, List.pairwise_cons]
        refine ⟨fun y hy => ?_, h⟩
        rcases List.mem_cons.1 hy with rfl | hy
        · omega
        · have := h.1 y hy; omega
theorem AscN.add {l : List Int} (h : AscN l) (v : Int) : AscN (addNull l v) := by
  unfold addNull
  split
  · refine ⟨putI_asc l _ h.1, fun x hx => ?_⟩
    rcases (putI_mem l _ x).1 hx with rfl | hx
    · exact nullNum_bd v
    · exact h.2 x hx
  · exact h
theorem AscN.nullsOf (vs : List Int) (k : Nat) : AscN (nullsOf (vs.take k)) := by
  induction k with
  | zero => exact AscN.nil
  | succ k ih =>
    by_cases h : k < vs.length
    · rw [nullsOf_take vs k h]; exact ih.add _
    · rwa [List.take_of_length_le (by omega), ← List.take_of_length_le (show vs.length ≤ k by omega)]
theorem asc_len (n : Nat) (l : List Int) (a : Int) (h : l.Pairwise (· < ·)) (hb : ∀ x ∈ l, a ≤ x ∧ x < a + n) : l.length ≤ n := by
  induction l generalizing a n with
  | nil => simp
  | cons x t ih =>
    have h0 := hb x (by simp)
    rw [List.pairwise_cons] at h
    obtain ⟨m, rfl⟩ : ∃ m, n = m + 1 := ⟨n - 1, by omega⟩
    have := ih m (a + 1) h.2 (fun y hy => by
      have h1 := h.1 y hy
      have h2 := hb y (by simp [hy])
      omega)
    simp; omega
theorem AscN.len {l : List Int} (h : AscN l) : l.length ≤ 40 := asc_len 40 l 0 h.1 (fun x hx => by have := h.2 x hx; omega)

theorem all_no {α : Type} {p : α → Bool} {l : List α} {k : Nat} (hk : k < l.length) (hp : p l[k] = false) : l.all p = false := by
  rw [List.all_eq_false]; exact ⟨l[k], List.getElem_mem hk, by rw [hp]; simp⟩

/-- the relations are valid and r is one of them, of arity n -/
def relOf (l : List Rel) (r n : Int) : Bool := validRels l && (decide (0 ≤ r ∧ r < l.length) && decide (n = arityAt l r))
theorem relOf_rels {l : List Rel} {r n : Int} (h : validRels l = false) : relOf l r n = false := by unfold relOf; rw [h]; rfl
theorem relOf_idx {l : List Rel} {r n : Int} (h : ¬(0 ≤ r ∧ r < l.length)) : relOf l r n = false := by unfold relOf; rw [decide_eq_false h]; simp
theorem relOf_in {l : List Rel} {r n : Int} (hv : validRels l = true) (h1 : 0 ≤ r ∧ r < l.length) : relOf l r n = decide (n = arityAt l r) := by unfold relOf; rw [hv, decide_eq_true h1]; rfl
theorem relOf_len {l : List Rel} {r n : Int} (h : ¬ n = arityAt l r) : relOf l r n = false := by unfold relOf; rw [decide_eq_false h]; simp
theorem relOf_parts {l : List Rel} {r n : Int} (h : relOf l r n = true) : validRels l = true ∧ (0 ≤ r ∧ r < l.length) ∧ n = arityAt l r := by
  unfold relOf at h
  simp only [Bool.and_eq_true, decide_eq_true_eq] at h
  exact ⟨h.1, h.2.1, h.2.2⟩
theorem factOk_relOf (l : List Rel) (r : Int) (vs : List Int) : factOk l r vs = (relOf l r (vs.length : Nat) && vs.all validV) := by unfold factOk relOf; simp only [Bool.and_assoc]

theorem SliceAt.aft {α : Type} {f : α → List Value} {w0 W : World} {v : Value} {l : List α} (h : SliceAt f w0 w0.heap.size v l) (hb : Below w0.heap.size w0 W) (u : Aft W.heap.size W) : SliceAt f u.now u.now.heap.size v l :=
  (h.below (hb.trans (u.is.mono hb.size)) (Nat.le_refl _)).more (hb.trans (u.is.mono hb.size)).size

/-- append of many elements, read from a slice; of these alone it is asked that each cell be one cell -/
theorem wp_own_appsM {P : Program} {α : Type} (f : α → List Value) (k bytes : Nat) (hf : ∀ x, (f x).length = k) {ops : Array Oper} {rest : List Oper} {o : Oper} {a : Act} {Q : Exit → Act → World → Prop} {B : Nat} {v : Value} {l r : List α} {w : World} {e t : TypeId} {z : Value}
    (hone : ∀ x ∈ r, ∀ u ∈ f x, u.oneCell' = true) (ht : P.underlying t = some (.slice e)) (hinfo : (P.info? e).map (fun i => (i.zero, i.size, i.bytes)) = some (some z, k, bytes)) (hzs : z.cells.size = k) (hk : 0 < k)
    (hO : w.ownsRow B e k v l.length (l.flatMap f)) (hgd : o.guard = none) (s x : Operand) (ho : o.op = .call { callee := .builtin .append, args := #[s, x], argTypes := #[t, t] }) (hs : a.eval s = v) (b off m c : Nat) (hx : a.eval x = .slice (some ⟨b, off, none⟩) m c) (hm : r.length = m) (hr : ∀ j u, (r.flatMap f)[j]? = some u → w.cell? ⟨b, off + j, none⟩ = some u)
    (hlen : (l.length + r.length) * bytes ≤ 140737488355328) (hl2 : l.length + r.length < 140737488355328) (hbase : B ≤ w.heap.size)
    (h : ∀ v' w', w'.ownsRow B e k v' (l ++ r).length ((l ++ r).flatMap f) → Below B w w' → w.grownBy w' v.ownBlock → (v'.ownBlock = v.ownBlock ∨ v'.ownBlock = some w.heap.size) → wpList P ops Q rest (a.put o.dst v') w') :
    wpList P ops Q (o :: rest) a w := by
  subst hm
  obtain ⟨i0, hi, hz0, hz1, hz2⟩ := info_parts hinfo
  have hcell : ∀ j u, (r.flatMap f)[j]? = some u → w.cell? ((⟨b, off, none⟩ : Addr).add j) = some u := by
    intro j u hu
    have e1 : (⟨b, off, none⟩ : Addr).add j = ⟨b, off + j, none⟩ := by unfold Addr.add; split <;> simp_all
    rw [e1]; exact hr j u hu
  refine wpList_append_own_at _ hgd s x t ho B e i0 z k bytes ht hi hz0 hz1 hz2 hzs hk v l.length (l.flatMap f) hs hO ⟨b, off, none⟩ r.length c (r.flatMap f) hx (flat_len f k hf r) hcell (fun u hu => by obtain ⟨y, hy1, hy⟩ := List.mem_flatMap.1 hu; exact hone y hy1 u hy) (by unfold maxLen; omega) hlen hbase ?_
  intro v' w' h2 h3 _ h5
  refine h v' w' ?_ ((Below.refl B w).grown h3 hbase (fun g hg => (hO.lt g hg).1)) h3 h5
  rw [List.length_append, List.flatMap_append]
  exact h2

end Go.Proofs.YtoapphgahmofhaaGreat
