/-
  Walks and plain lemmas for the laws of this seat: what single Go functions return, for every argument.
-/
import Derived.Test.YtakflmaeclneiaaDoorBase
namespace Go.Proofs.YtakflmaeclneiaaDoor
open Go.RowKit

/-- a relation, as the proofs speak of it -/
structure Rel where
  name : ByteArray
  arity : Int
  source : Bool
def relV (r : Rel) : Value := .agg #[.string r.name, .int .i64 r.arity, .bool r.source]
/-- one lower-case letter -/
def nameOk (s : ByteArray) : Bool := match s.data.toList with
  | [c] => decide ((97 : Int) ≤ ((c.toNat : Nat) : Int)) && decide (((c.toNat : Nat) : Int) ≤ 122)
  | _ => false
def relOk (s : ByteArray) (a : Int) : Bool := nameOk s && inB a 1 3
theorem nameOk_one (s : ByteArray) (h : s.size = 1) : nameOk s = (decide ((97 : Int) ≤ ((s[0].toNat : Nat) : Int)) && decide (((s[0].toNat : Nat) : Int) ≤ 122)) := by
  obtain ⟨⟨l⟩⟩ := s
  match l, h with
  | [c], _ => rfl
theorem nameOk_ne (s : ByteArray) (h : s.size ≠ 1) : nameOk s = false := by
  obtain ⟨⟨l⟩⟩ := s
  match l, h with
  | [], _ => rfl
  | _ :: _ :: _, _ => rfl
/-- what is left of a size's allowance -/
def szLeft (left n : Int) : Int := if n ≤ left then left - n else -1
theorem szLeft_yes {left n : Int} (h : n ≤ left) : szLeft left n = left - n := if_pos h
theorem szLeft_no {left n : Int} (h : ¬ n ≤ left) : szLeft left n = -1 := if_neg h

end Go.Proofs.YtakflmaeclneiaaDoor
