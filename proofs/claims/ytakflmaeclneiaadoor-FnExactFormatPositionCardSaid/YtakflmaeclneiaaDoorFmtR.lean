/-
  Walks and plain lemmas for the laws of this seat: what single Go functions return, for every argument.
-/
import Derived.Lib.Join
import Derived.Test.YtakflmaeclneiaaDoorBase
import Derived.Test.YtakflmaeclneiaaDoorRels
import Derived.Test.YtakflmaeclneiaaDoorFmtV
namespace Go.Proofs.YtakflmaeclneiaaDoor
open Go.RowKit

def fmtRel (r : Rel) : List UInt8 := (if r.source then [43] else []) ++ (r.name.data.toList ++ Lib.itoa r.arity)
def joinRels (l : List Rel) : List UInt8 := Lib.join (l.map fmtRel) [32]
def fmtRels (l : List Rel) : List UInt8 := if validRels l then joinRels l else []
theorem fmtRels_no (l : List Rel) (h : validRels l = false) : fmtRels l = [] := by unfold fmtRels; rw [h]; rfl
theorem fmtRels_yes (l : List Rel) (h : validRels l = true) : fmtRels l = joinRels l := by unfold fmtRels; rw [h]; rfl
theorem joinRels_zero (l : List Rel) : joinRels (l.take 0) = [] := rfl
theorem joinRels_one (l : List Rel) (h : 0 < l.length) : joinRels (l.take 1) = fmtRel l[0] := by
  unfold joinRels
  cases l with
  | nil => simp at h
  | cons r t => simp [Lib.join_one]
theorem joinRels_succ (l : List Rel) (k : Nat) (h0 : 0 < k) (h : k < l.length) : joinRels (l.take (k + 1)) = joinRels (l.take k) ++ ([32] ++ fmtRel l[k]) := by
  unfold joinRels
  cases l with
  | nil => simp at h
  | cons r t =>
    obtain ⟨j, rfl⟩ : ∃ j, k = j + 1 := ⟨k - 1, by omega⟩
    rw [List.take_succ_cons, List.take_succ_cons, List.map_cons, List.map_cons, Lib.join_cons, Lib.join_cons, List.map_take, List.map_take]
    have hj : j < t.length := by simpa using h
    rw [Lib.joinTail_take_succ [32] (t.map fmtRel) j (fmtRel t[j]) (by simp [hj])]
    simp
/-- what a valid schema says of its relations -/
theorem validRels_len (l : List Rel) (h : validRels l = true) : l.length ≤ 6 := by
  unfold validRels at h; simp only [Bool.and_eq_true, decide_eq_true_eq] at h; exact h.2
theorem itoa_le2 (a : Int) (h0 : 0 ≤ a) (h : a < 100) : (Lib.itoa a).length ≤ 2 := by
  obtain ⟨u, rfl⟩ := Int.eq_ofNat_of_zero_le h0
  exact itoa_short u (by omega)
theorem fmtRel_len (r : Rel) (h : relOk r.name r.arity = true) : (fmtRel r).length ≤ 4 := by
  obtain ⟨h1, h2, h3⟩ := relOk_bd _ _ h
  have h4 := itoa_le2 r.arity (by omega) (by omega)
  have h5 : r.name.data.toList.length = 1 := by simpa using h1
  unfold fmtRel
  rw [List.length_append, List.length_append, h5]
  split <;> simp <;> omega
theorem joinRels_len (l : List Rel) (h : validRels l = true) (k : Nat) (hk : k ≤ l.length) : (joinRels (l.take k)).length ≤ 5 * k := by
  induction k with
  | zero => exact Nat.le_of_eq (congrArg List.length (joinRels_zero l))
  | succ k ih =>
    have h1 := fmtRel_len l[k] (validRels_at l h k (by omega))
    rcases Nat.eq_zero_or_pos k with h0 | h0
    · subst h0; rw [joinRels_one l (by omega)]; omega
    · rw [joinRels_succ l k h0 (by omega)]
      have := ih (by omega)
      simp only [List.length_append, List.length_cons, List.length_nil]; omega
theorem mk_self (s : ByteArray) : s = ⟨s.data.toList.toArray⟩ := by simp
/-- the text of the first k + 1 relations, as the loop builds it -/
theorem joinStep (l : List Rel) (k : Nat) (h : k < l.length) (p : ByteArray) (hp : p.data.toList = (if k = 0 then [] else [32]) ++ (if l[k].source then [43] else [])) :
    (((⟨(joinRels (l.take k)).toArray⟩ : ByteArray) ++ p) ++ l[k].name) ++ ⟨(Lib.itoa l[k].arity).toArray⟩ = ⟨(joinRels (l.take (k + 1))).toArray⟩ := by
  apply bytes_ext
  rcases Nat.eq_zero_or_pos k with h0 | h0
  · subst h0
    rw [joinRels_one l h]
    simp [hp, fmtRel, ByteArray.data_append]
    rfl
  · rw [joinRels_succ l k h0 h]
    simp [hp, fmtRel, ByteArray.data_append, show k ≠ 0 by omega]
theorem fmtRels_len (l : List Rel) : (fmtRels l).length ≤ 30 := by
  cases h : validRels l with
  | false => rw [fmtRels_no l h]; simp
  | true =>
    rw [fmtRels_yes l h]
    have h1 := joinRels_len l h l.length (Nat.le_refl _)
    rw [List.take_length] at h1
    have := validRels_len l h
    omega

end Go.Proofs.YtakflmaeclneiaaDoor
