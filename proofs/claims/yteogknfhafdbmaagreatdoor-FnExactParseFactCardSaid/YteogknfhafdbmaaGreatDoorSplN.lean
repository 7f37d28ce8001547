/-
  Walks and plain lemmas for the laws of this seat: what single Go functions return, for every argument.
-/
import Derived.Test.YteogknfhafdbmaaGreatDoorShelf
import Derived.Lib.SplitLaws
import Derived.Test.YteogknfhafdbmaaGreatDoorBase
import Derived.Test.YteogknfhafdbmaaGreatDoorCut
import Derived.Test.YteogknfhafdbmaaGreatDoorFmtF
import Derived.Test.YteogknfhafdbmaaGreatDoorStrs
import Derived.Test.YteogknfhafdbmaaGreatDoorMaxL
namespace Go.Proofs.YteogknfhafdbmaaGreatDoor
open Go.RowKit

/-- the pieces between commas, at most four, in a block of the call's own -/
def GivesCommas (s : ByteArray) (w : World) (e : Ending) (w' : World) : Prop := ∃ L cap, e = .returned (.slice (some ⟨w.heap.size, 0, none⟩) L.length cap) ∧ dataOf L = implPieces s.data.toList ∧ L.length ≤ cap ∧ cap ≤ 4 ∧ (∀ j (h : j < L.length), w'.cell? ⟨w.heap.size, j, none⟩ = some (.string L[j])) ∧ w.heap.size < w'.heap.size ∧ Below w.heap.size w w'
theorem splitC_any (s : ByteArray) (w : World) (hs : s.size ≤ 1048576) (hm : MaxL w) :
    Calls Tryz.prog 28 #[.string s, .string ⟨#[44]⟩, .int .i64 4] w (GivesCommas s w) := by
  obtain ⟨m, hm⟩ := hm
  have h1 : ByteArray.size ⟨#[44]⟩ = 1 := rfl
  refine (Tryz.strings_SplitN s ⟨#[44]⟩ 4 m w (by omega) hm (by omega) (by omega) (by omega)).mono ?_
  rintro e w' ⟨rfl, rfl⟩
  have hlen := Lib.splitB_length_le ⟨#[44]⟩ 0 (min 4 (s.size + 1) - 1) s
  refine ⟨Lib.splitB ⟨#[44]⟩ 0 (min 4 (s.size + 1) - 1) s, _, rfl, ?_, by omega, by omega, fun j hj => ?_, by simp, (Below.refl _ _).alloc (Nat.le_refl _) _⟩
  · unfold implPieces
    rw [← splitK_cutN]
    have e := Lib.splitB_data ⟨#[44]⟩ 0 (min 4 (s.size + 1) - 1) s
    simpa [dataOf] using e
  · rw [box_cell]
    unfold Lib.cellsOf
    rw [List.getElem?_toArray, List.getElem?_append_left (by simpa using hj)]
    simp [hj]
theorem cutC_any (s : ByteArray) (w : World) (hs : s.size ≤ 1048576) (hm : MaxL w) :
    Calls Tryz.prog 25 #[.string s, .string ⟨#[40]⟩] w fun e w' => e = .returned (.tuple #[.string ⟨(Lib.cut s.data.toList [40]).1.toArray⟩, .string ⟨(Lib.cut s.data.toList [40]).2.1.toArray⟩, .bool (Lib.cut s.data.toList [40]).2.2]) ∧ Below w.heap.size w w' := by
  obtain ⟨m, hm⟩ := hm
  refine (Tryz.strings_Cut s ⟨#[40]⟩ m w (by omega) hm).mono ?_
  rintro e w' ⟨rfl, n, rfl⟩
  exact ⟨rfl, rfl, rfl, rfl, Nat.le_refl _, fun _ _ => rfl⟩

/-- the pieces that strings.SplitN gives, at most seven -/
def GivesParts (s : ByteArray) (w : World) (e : Ending) (w' : World) : Prop := ∃ v L, e = .returned v ∧ dataOf L = cutN 32 (min 7 (s.size + 1) - 1) s.data.toList ∧ StrsAt w' w'.heap.size v L ∧ Below w.heap.size w w'
theorem splitN_any (s : ByteArray) (w : World) (hs : s.size ≤ 1048576) (hm : MaxL w) :
    Calls Tryz.prog 28 #[.string s, .string ⟨#[32]⟩, .int .i64 7] w (GivesParts s w) := by
  obtain ⟨m, hm⟩ := hm
  have h1 : ByteArray.size ⟨#[32]⟩ = 1 := rfl
  refine (Tryz.strings_SplitN s ⟨#[32]⟩ 7 m w (by omega) hm (by omega) (by omega) (by omega)).mono ?_
  rintro e w' ⟨rfl, rfl⟩
  have hlen := Lib.splitB_length_le ⟨#[32]⟩ 0 (min 7 (s.size + 1) - 1) s
  refine ⟨_, Lib.splitB ⟨#[32]⟩ 0 (min 7 (s.size + 1) - 1) s, rfl, ?_, ?_, (Below.refl _ _).alloc (Nat.le_refl _) _⟩
  · rw [← splitK_cutN]
    exact Lib.splitB_data ⟨#[32]⟩ 0 _ s
  · generalize Lib.splitB ⟨#[32]⟩ 0 (min 7 (s.size + 1) - 1) s = L at *
    refine ⟨_, _, rfl, by omega, by unfold maxLen; omega, fun _ => ⟨w.heap.size, 0, rfl, by simp, fun j u hu => ?_⟩, fun h => by cases h⟩
    rw [Nat.zero_add, box_cell]
    rw [flat_str] at hu
    have hj := (List.getElem?_eq_some_iff.1 hu).1
    unfold Lib.cellsOf
    rw [List.getElem?_toArray, List.getElem?_append_left hj]
    exact hu

end Go.Proofs.YteogknfhafdbmaaGreatDoor
