/-
  Walks and plain lemmas for the laws of this seat: what single Go functions return, for every argument.
-/
import Derived.Lib.SplitLaws
import Derived.Lib.Join
import Derived.Test.YtmecdjincmkofaaDoorBase
namespace Go.Proofs.YtmecdjincmkofaaDoor
open Go.RowKit

/-- a text cut at every byte c -/
def withHead (p : List UInt8) : List (List UInt8) → List (List UInt8)
  | [] => [p]
  | h :: t => (p ++ h) :: t
def cutA (c : UInt8) : List UInt8 → List (List UInt8)
  | [] => [[]]
  | b :: r => if b = c then [] :: cutA c r else withHead [b] (cutA c r)
/-- .. at the first k of them -/
def cutN (c : UInt8) : Nat → List UInt8 → List (List UInt8)
  | _, [] => [[]]
  | 0, b :: r => [b :: r]
  | k + 1, b :: r => if b = c then [] :: cutN c k r else withHead [b] (cutN c (k + 1) r)
theorem cutA_cons (c : UInt8) (b : UInt8) (r : List UInt8) : cutA c (b :: r) = if b = c then [] :: cutA c r else withHead [b] (cutA c r) := rfl
theorem cutN_succ (c : UInt8) (k : Nat) (b : UInt8) (r : List UInt8) : cutN c (k + 1) (b :: r) = if b = c then [] :: cutN c k r else withHead [b] (cutN c (k + 1) r) := rfl
theorem splitK_succ (c : UInt8) (k : Nat) (s : List UInt8) : Lib.splitK [c] 0 (k + 1) s = if Lib.index s [c] == -1 then [s] else s.take ((Lib.index s [c]).toNat + 0) :: Lib.splitK [c] 0 k (s.drop ((Lib.index s [c]).toNat + 1)) := rfl
theorem withHead_ne (p : List UInt8) (l : List (List UInt8)) : withHead p l ≠ [] := by cases l <;> simp [withHead]
theorem withHead_len (p : List UInt8) (l : List (List UInt8)) (h : l ≠ []) : (withHead p l).length = l.length := by
  cases l with
  | nil => exact absurd rfl h
  | cons => rfl
theorem withHead_nil (l : List (List UInt8)) (h : l ≠ []) : withHead [] l = l := by
  cases l with
  | nil => exact absurd rfl h
  | cons => rfl
theorem withHead_withHead (p q : List UInt8) (l : List (List UInt8)) : withHead p (withHead q l) = withHead (p ++ q) l := by cases l <;> simp [withHead]
theorem cutA_ne (c : UInt8) (s : List UInt8) : cutA c s ≠ [] := by
  cases s with
  | nil => simp [cutA]
  | cons b r =>
    rw [cutA_cons]
    split
    · simp
    · exact withHead_ne _ _
theorem cutN_ne (c : UInt8) (k : Nat) (s : List UInt8) : cutN c k s ≠ [] := by
  cases s with
  | nil => simp [cutN]
  | cons b r =>
    cases k with
    | zero => simp [cutN]
    | succ k =>
      rw [cutN_succ]
      split
      · simp
      · exact withHead_ne _ _
theorem cutA_len (c : UInt8) (s : List UInt8) : (cutA c s).length ≤ s.length + 1 := by
  induction s with
  | nil => simp [cutA]
  | cons b r ih =>
    unfold cutA
    split
    · simp; exact ih
    · rw [withHead_len _ _ (cutA_ne c r)]; simp; omega
theorem cutN_len (c : UInt8) (k : Nat) (s : List UInt8) : (cutN c k s).length = min (k + 1) (cutA c s).length := by
  induction s generalizing k with
  | nil => simp [cutN, cutA]
  | cons b r ih =>
    cases k with
    | zero =>
      have : 0 < (cutA c (b :: r)).length := List.length_pos_iff.2 (cutA_ne c _)
      simp only [cutN, List.length_singleton]; omega
    | succ k =>
      rw [cutN_succ, cutA_cons]
      split
      · simp [ih]
      · rw [withHead_len _ _ (cutN_ne c _ r), withHead_len _ _ (cutA_ne c r), ih]
theorem cutN_all (c : UInt8) (k : Nat) (s : List UInt8) (h : (cutA c s).length ≤ k + 1) : cutN c k s = cutA c s := by
  induction s generalizing k with
  | nil => simp [cutN, cutA]
  | cons b r ih =>
    cases k with
    | zero =>
      have h' := h
      rw [cutA_cons] at h'
      split at h'
      · have : 0 < (cutA c r).length := List.length_pos_iff.2 (cutA_ne c _)
        simp only [List.length_cons] at h'
        omega
      · rename_i hb
        rw [withHead_len _ _ (cutA_ne c r)] at h'
        have e := ih 0 h'
        have e2 : cutN c 0 r = [r] := by cases r <;> rfl
        rw [e2] at e
        show [b :: r] = cutA c (b :: r)
        rw [cutA_cons, if_neg hb, ← e]; rfl
    | succ k =>
      have h' := h
      rw [cutA_cons] at h'
      rw [cutN_succ, cutA_cons]
      split
      · rename_i hb
        rw [if_pos hb] at h'
        rw [ih k (by simpa using h')]
      · rename_i hb
        rw [if_neg hb, withHead_len _ _ (cutA_ne c r)] at h'
        rw [ih (k + 1) h']
theorem join_cutA (c : UInt8) (s : List UInt8) : Lib.join (cutA c s) [c] = s := by
  induction s with
  | nil => rfl
  | cons b r ih =>
    have hne := cutA_ne c r
    rw [cutA_cons]
    cases hc : cutA c r with
    | nil => exact absurd hc hne
    | cons h t =>
      rw [hc, Lib.join_cons] at ih
      split
      · rename_i hb
        rw [Lib.join_cons]
        simp [Lib.joinTail, hb] at ih ⊢
        exact ih
      · show Lib.join (([b] ++ h) :: t) [c] = b :: r
        rw [Lib.join_cons]
        simp [ih]
theorem cutA_plain (c : UInt8) (p : List UInt8) (h : c ∉ p) : cutA c p = [p] := by
  induction p with
  | nil => rfl
  | cons b r ih =>
    rw [cutA_cons, if_neg (fun e => h (by simp [e])), ih (fun e => h (by simp [e]))]
    rfl
theorem cutA_app (c : UInt8) (p r : List UInt8) (h : c ∉ p) : cutA c (p ++ c :: r) = p :: cutA c r := by
  induction p with
  | nil => simp [cutA]
  | cons b q ih =>
    rw [List.cons_append]
    rw [cutA_cons, if_neg (fun e => h (by simp [e])), ih (fun e => h (by simp [e]))]
    rfl
theorem cutA_join (c : UInt8) (x : List UInt8) (r : List (List UInt8)) (h : ∀ p ∈ x :: r, c ∉ p) : cutA c (Lib.join (x :: r) [c]) = x :: r := by
  induction r generalizing x with
  | nil => rw [Lib.join_one]; exact cutA_plain c x (h x (by simp))
  | cons y t ih =>
    have e : Lib.join (x :: y :: t) [c] = x ++ c :: Lib.join (y :: t) [c] := by
      rw [Lib.join_cons, Lib.join_cons]; simp [Lib.joinTail]
    rw [e, cutA_app c x _ (h x (by simp)), ih y (fun p hp => h p (by simp at hp ⊢; exact .inr hp))]
theorem index_cons_eq (c : UInt8) (r : List UInt8) : Lib.index (c :: r) [c] = 0 := by rw [Lib.index]; simp [List.isPrefixOf]
theorem index_cons_ne (c : UInt8) (b : UInt8) (r : List UInt8) (h : ¬ b = c) : Lib.index (b :: r) [c] = if Lib.index r [c] == -1 then -1 else Lib.index r [c] + 1 := by
  rw [Lib.index, if_neg]
  simp [List.isPrefixOf]
  exact fun e => h e.symm
theorem splitK_cutN (c : UInt8) (k : Nat) (s : List UInt8) : Lib.splitK [c] 0 k s = cutN c k s := by
  induction s generalizing k with
  | nil => cases k <;> rfl
  | cons b r ih =>
    cases k with
    | zero => rfl
    | succ k =>
      rw [splitK_succ, cutN_succ]
      by_cases hb : b = c
      · subst hb
        rw [index_cons_eq, if_pos rfl, if_neg (by decide)]
        simp [ih]
      · rw [if_neg hb, index_cons_ne c b r hb, ← ih (k + 1), splitK_succ]
        have hge := Lib.index_ge r [c]
        by_cases hm : Lib.index r [c] = -1
        · rw [hm]; rfl
        · obtain ⟨j, hj⟩ : ∃ j : Nat, Lib.index r [c] = j := ⟨(Lib.index r [c]).toNat, by omega⟩
          have n1 : ((j : Int) == -1) = false := beq_eq_false_iff_ne.2 (by omega)
          have n2 : ((j : Int) + 1 == -1) = false := beq_eq_false_iff_ne.2 (by omega)
          have n3 : ((j : Int) + 1).toNat = j + 1 := by omega
          rw [hj]
          simp only [n1, n2, n3, Bool.false_eq_true, if_false, Int.toNat_natCast, Nat.add_zero]
          rfl
/-- what the loop of the model's cut keeps -/
def CutInv (c : UInt8) (s : List UInt8) (done : List (List UInt8)) (frm i : Nat) : Prop := frm ≤ i ∧ i ≤ s.length ∧ cutA c s = done ++ withHead ((s.take i).drop frm) (cutA c (s.drop i))
theorem CutInv.zero (c : UInt8) (s : List UInt8) : CutInv c s [] 0 0 := ⟨Nat.le_refl _, Nat.zero_le _, by simp [withHead_nil _ (cutA_ne c s)]⟩
theorem CutInv.hit {c : UInt8} {s : List UInt8} {done : List (List UInt8)} {frm i : Nat} (h : CutInv c s done frm i) (hi : i < s.length) (hb : s[i] = c) : CutInv c s (done ++ [(s.take i).drop frm]) (i + 1) (i + 1) := by
  refine ⟨Nat.le_refl _, hi, ?_⟩
  rw [h.2.2, List.drop_eq_getElem_cons hi]
  conv => lhs; rw [cutA]
  rw [if_pos hb, List.drop_eq_nil_of_le (List.length_take_le _ _), withHead_nil _ (cutA_ne c _)]
  simp [withHead]
theorem CutInv.miss {c : UInt8} {s : List UInt8} {done : List (List UInt8)} {frm i : Nat} (h : CutInv c s done frm i) (hi : i < s.length) (hb : ¬ s[i] = c) : CutInv c s done frm (i + 1) := by
  refine ⟨Nat.le_succ_of_le h.1, hi, ?_⟩
  rw [h.2.2, List.drop_eq_getElem_cons hi]
  conv => lhs; rw [cutA]
  rw [if_neg hb, withHead_withHead, List.take_succ_eq_append_getElem hi, List.drop_append_of_le_length (by rw [List.length_take]; have := h.1; omega)]
theorem CutInv.done {c : UInt8} {s : List UInt8} {done : List (List UInt8)} {frm i : Nat} (h : CutInv c s done frm i) (hi : i = s.length) : cutA c s = done ++ [s.drop frm] := by
  subst hi
  rw [h.2.2]; simp [cutA, withHead]
theorem cutN_piece (c : UInt8) (k : Nat) (s p : List UInt8) (h : p ∈ cutN c k s) : p.length ≤ s.length := by
  induction s generalizing k p with
  | nil => cases k <;> simp [cutN] at h <;> subst h <;> simp
  | cons b r ih =>
    cases k with
    | zero => simp [cutN] at h; subst h; simp
    | succ k =>
      rw [cutN_succ] at h
      split at h
      · simp only [List.mem_cons] at h
        rcases h with rfl | h
        · simp
        · have := ih k p h; simp; omega
      · cases hc : cutN c (k + 1) r with
        | nil => exact absurd hc (cutN_ne c _ _)
        | cons x t =>
          rw [hc] at h
          simp only [withHead, List.mem_cons] at h
          rcases h with rfl | h
          · have := ih (k + 1) x (by rw [hc]; simp)
            simp; omega
          · have := ih (k + 1) p (by rw [hc]; simp [h])
            simp; omega

end Go.Proofs.YtmecdjincmkofaaDoor
