/-
  Walks and plain lemmas for the laws of this seat: what single Go functions return, for every argument.
-/
import Derived.Lib.Join
import Derived.Test.YtigheecckekbfaaDoorBase
import Derived.Test.YtigheecckekbfaaDoorMSub
import Derived.Test.YtigheecckekbfaaDoorStrs
import Derived.Test.YtigheecckekbfaaDoorFmtV
namespace Go.Proofs.YtigheecckekbfaaDoor
open Go.RowKit

theorem join_take_one (L : List (List UInt8)) (s : List UInt8) (h : 0 < L.length) : Lib.join (L.take 1) s = L[0] := by
  cases L with
  | nil => simp at h
  | cons r t => simp [Lib.join_one]
theorem join_take_succ (L : List (List UInt8)) (s : List UInt8) (k : Nat) (h0 : 0 < k) (h : k < L.length) : Lib.join (L.take (k + 1)) s = Lib.join (L.take k) s ++ (s ++ L[k]) := by
  cases L with
  | nil => simp at h
  | cons r t =>
    obtain ⟨j, rfl⟩ : ∃ j, k = j + 1 := ⟨k - 1, by omega⟩
    rw [List.take_succ_cons, List.take_succ_cons, Lib.join_cons, Lib.join_cons]
    have hj : j < t.length := by simpa using h
    rw [Lib.joinTail_take_succ s t j t[j] (by simp [hj])]
    simp
/-- one replacement's text -/
def pieceS (n u : Int) : List UInt8 := (fmtV (-1 - n) ++ [61]) ++ fmtV u
def piecesS (x : Sbst) : List (List UInt8) := List.zipWith pieceS x.nulls x.vals
theorem piecesS_len {x : Sbst} (h : x.nulls.length = x.vals.length) : (piecesS x).length = x.nulls.length := by unfold piecesS; simp; omega
theorem piecesS_at {x : Sbst} (i : Nat) (h : i < (piecesS x).length) (h1 : i < x.nulls.length) (h2 : i < x.vals.length) : (piecesS x)[i] = pieceS x.nulls[i] x.vals[i] := List.getElem_zipWith
theorem pieceS_len (n u : Int) : (pieceS n u).length ≤ 7 := by
  have h1 := fmtV_len (-1 - n)
  have h2 := fmtV_len u
  unfold pieceS; simp; omega
def joinS (x : Sbst) (k : Nat) : List UInt8 := Lib.join ((piecesS x).take k) [32]
def fmtS (x : Sbst) : List UInt8 := if subOk x then Lib.join (piecesS x) [32] else []
theorem fmtS_no {x : Sbst} (h : subOk x = false) : fmtS x = [] := by unfold fmtS; rw [h]; rfl
theorem fmtS_yes {x : Sbst} (h : subOk x = true) : fmtS x = Lib.join (piecesS x) [32] := by unfold fmtS; rw [h]; rfl
theorem joinS_zero (x : Sbst) : joinS x 0 = [] := rfl
theorem joinS_succ {x : Sbst} (k : Nat) (h1 : k < x.nulls.length) (h2 : x.nulls.length = x.vals.length) : joinS x (k + 1) = joinS x k ++ ((if k = 0 then [] else [32]) ++ pieceS x.nulls[k] (x.vals[k]'(by omega))) := by
  have hl := piecesS_len h2
  unfold joinS
  rcases Nat.eq_zero_or_pos k with h0 | h0
  · subst h0
    rw [join_take_one _ _ (by omega), piecesS_at 0 (by omega) h1 (by omega)]; simp [Lib.join]
  · rw [join_take_succ _ _ k h0 (by omega), if_neg (by omega), piecesS_at k (by omega) h1 (by omega)]
theorem joinS_len {x : Sbst} (h2 : x.nulls.length = x.vals.length) (k : Nat) (hk : k ≤ x.nulls.length) : (joinS x k).length ≤ 8 * k := by
  induction k with
  | zero => simp [joinS_zero]
  | succ k ih =>
    have h := ih (by omega)
    have hp := pieceS_len x.nulls[k] (x.vals[k]'(by omega))
    rw [joinS_succ k (by omega) h2, List.length_append, List.length_append]
    split <;> simp <;> omega
theorem joinS_all {x : Sbst} (h2 : x.nulls.length = x.vals.length) : joinS x x.nulls.length = Lib.join (piecesS x) [32] := by
  unfold joinS; rw [List.take_of_length_le (by rw [piecesS_len h2]; exact Nat.le_refl _)]
def pieceB (p : List UInt8) : ByteArray := ⟨p.toArray⟩
theorem take_empty_setS (L : List (List UInt8)) (n k : Nat) (hn : L.length = n) (h : k < L.length) : ((L.take k).map pieceB ++ List.replicate (n - k) ByteArray.empty).set k (pieceB L[k]) = (L.take (k + 1)).map pieceB ++ List.replicate (n - (k + 1)) ByteArray.empty := by
  have e : ((L.take k).map pieceB).length = k := by simp; omega
  rw [List.set_append_right _ _ (by omega), e, Nat.sub_self, List.take_succ_eq_append_getElem h, show n - k = (n - (k + 1)) + 1 by omega, List.replicate_succ, List.set_cons_zero, List.map_append, List.append_assoc]
  rfl
theorem join_pieceB (L : List (List UInt8)) : Lib.join ((L.map pieceB).map (·.data.toList)) [32] = Lib.join L [32] := by
  rw [List.map_map]
  congr 1
  exact List.map_id L

end Go.Proofs.YtigheecckekbfaaDoor
