/-
  Walks and plain lemmas for the laws of this seat: what single Go functions return, for every argument.
-/
import Derived.Test.YtnneciihbfcemaaDoorShelf
import Derived.Lib.SplitLaws
import Derived.Test.YtnneciihbfcemaaDoorMaxL
import Derived.Test.YtnneciihbfcemaaDoorCut
import Derived.Test.YtnneciihbfcemaaDoorStrs
namespace Go.Proofs.YtnneciihbfcemaaDoor
open Go.RowKit

/-- the pieces that strings.SplitN gives, at most seven -/
def GivesParts (s : ByteArray) (w : World) (e : Ending) (w' : World) : Prop := ∃ v L, e = .returned v ∧ dataOf L = cutN (min 7 (s.size + 1) - 1) s.data.toList ∧ StrsAt w' w'.heap.size v L ∧ Below w.heap.size w w'
theorem splitN_any (s : ByteArray) (w : World) (hs : s.size ≤ 1048576) (hm : MaxL w) :
    Calls Tryd.prog 23 #[.string s, .string ⟨#[32]⟩, .int .i64 7] w (GivesParts s w) := by
  obtain ⟨m, hm⟩ := hm
  have h1 : ByteArray.size ⟨#[32]⟩ = 1 := rfl
  refine (Tryd.strings_SplitN s ⟨#[32]⟩ 7 m w (by omega) hm (by omega) (by omega) (by omega)).mono ?_
  rintro e w' ⟨rfl, rfl⟩
  have hlen := Lib.splitB_length_le ⟨#[32]⟩ 0 (min 7 (s.size + 1) - 1) s
  refine ⟨_, Lib.splitB ⟨#[32]⟩ 0 (min 7 (s.size + 1) - 1) s, rfl, ?_, ?_, (Below.refl _ _).alloc (Nat.le_refl _) _⟩
  · rw [← splitK_cutN]
    exact Lib.splitB_data ⟨#[32]⟩ 0 _ s
  · generalize Lib.splitB ⟨#[32]⟩ 0 (min 7 (s.size + 1) - 1) s = L at *
    refine ⟨_, _, rfl, by omega, by unfold maxLen; omega, fun _ => ⟨w.heap.size, 0, rfl, by simp, fun j u hu => ?_⟩⟩
    rw [Nat.zero_add, box_cell]
    rw [flat_str] at hu
    have hj := (List.getElem?_eq_some_iff.1 hu).1
    unfold Lib.cellsOf
    rw [List.getElem?_toArray, List.getElem?_append_left hj]
    exact hu

end Go.Proofs.YtnneciihbfcemaaDoor
