/-
  Walks and plain lemmas for the laws of this seat: what single Go functions return, for every argument.
-/
import Derived.ShapedOpen
import Derived.Test.YteogknfhafdbmaaGreatDoorShelf
import Derived.Lib.SplitLaws
import Derived.Test.YteogknfhafdbmaaGreatDoorBase
import Derived.Test.YteogknfhafdbmaaGreatDoorMem
import Derived.Test.YteogknfhafdbmaaGreatDoorPlan
import Derived.Test.YteogknfhafdbmaaGreatDoorCut
import Derived.Test.YteogknfhafdbmaaGreatDoorFmtF
import Derived.Test.YteogknfhafdbmaaGreatDoorStrs
namespace Go.Proofs.YteogknfhafdbmaaGreatDoor
open Go.RowKit

theorem SliceAt.aft {α : Type} {f : α → List Value} {w0 W : World} {v : Value} {l : List α} (h : SliceAt f w0 w0.heap.size v l) (hb : Below w0.heap.size w0 W) (u : Aft W.heap.size W) : SliceAt f u.now u.now.heap.size v l :=
  (h.below (hb.trans (u.is.mono hb.size)) (Nat.le_refl _)).more (hb.trans (u.is.mono hb.size)).size

/-- internal/bytealg.MaxLen holds some int -/
def MaxL (w : World) : Prop := ∃ m : Int, w.cell? ⟨0, 0, none⟩ = some (.int .i64 m)
theorem MaxL.below {w w' : World} (h : MaxL w) (hb : Below w.heap.size w w') : MaxL w' := by
  obtain ⟨m, hm⟩ := h
  exact ⟨m, (hb.cell (p := ⟨0, 0, none⟩) (World.block_lt_of_cell? _ _ hm)).trans hm⟩
/-- a variable of type int holds some int, in every world of the program's shape -/
theorem int_of_shape {P : Program} {w : World} {g : Nat} {t : TypeId} {zero : Array Value} (h : w.ShapedOpen P) (hg : g < P.globals.size)
    (h0 : ((begin P (fun _ _ => 0) default).world.heap[g]?).bind Obj.row? = some (zero, t)) (hz : zero.size = 1) (hb : P.buildable t = true) (hc : P.cellTypes P.depth t = some [t]) (hu : P.underlying t = some (.int .i64)) :
    ∃ m, w.cell? ⟨g, 0, none⟩ = some (.int .i64 m) := by
  obtain ⟨cs, hh, hs, hr⟩ := h.1 g zero t hg h0
  obtain ⟨ts, hts, _, hall⟩ := hr hb
  have ht1 : ts = [t] := Option.some.inj (hts.symm.trans hc)
  have hpos : 0 < cs.size := by omega
  have hcell : w.cell? ⟨g, 0, none⟩ = some cs[0] := by simp [World.cell?, hh, hpos]
  obtain ⟨u, hu1, hok⟩ := hall 0 cs[0] (by simp [hpos])
  have hut : u = t := by rw [ht1] at hu1; simpa using hu1.symm
  rw [hcell]
  rw [hut] at hok
  simp only [Cell.ok, hu] at hok
  cases hv : cs[0] <;> rw [hv] at hok <;> simp at hok
  obtain ⟨rfl, _⟩ := hok
  exact ⟨_, rfl⟩
theorem maxL_of_shape {w : World} (h : w.ShapedOpen Tryz.prog) : MaxL w :=
  int_of_shape (zero := #[.int .i64 0]) (t := 3) h (of_decide_eq_true (by kernel_rfl)) (by kernel_rfl) rfl (by kernel_rfl) (by kernel_rfl) Tryz.underlying3

/-- the pieces between commas, at most four, in a block of the call's own -/
def GivesCommas (s : ByteArray) (w : World) (e : Ending) (w' : World) : Prop := ∃ L cap, e = .returned (.slice (some ⟨w.heap.size, 0, none⟩) L.length cap) ∧ dataOf L = implPieces s.data.toList ∧ L.length ≤ cap ∧ cap ≤ 4 ∧ (∀ j (h : j < L.length), w'.cell? ⟨w.heap.size, j, none⟩ = some (.string L[j])) ∧ w.heap.size < w'.heap.size ∧ Below w.heap.size w w'
theorem splitC_any (s : ByteArray) (w : World) (hs : s.size ≤ 1048576) (hm : MaxL w) :
    Calls Tryz.prog 28 #[.string s, .string ⟨#[44]⟩, .int .i64 4] w (GivesCommas s w) := by
  obtain ⟨m, hm⟩ := hm
  have h1 : ByteArray.size ⟨#[44]⟩ = 1 := rfl
  refine (Tryz.strings_SplitN s ⟨#[44]⟩ 4 m w (by omega) hm (by omega) (by omega) (by omega)).mono ?_
  rintro e w' ⟨rfl, rfl⟩
  have hlen := Lib.splitB_length_le ⟨#[44]⟩ 0 (min 4 (s.size + 1) - 1) s
  refine ⟨Lib.splitB ⟨#[44]⟩ 0 (min 4 (s.size + 1) - 1) s, _, rfl, ?_, by omega, by omega, fun j hj => ?_, by simp, (Below.refl _ _).alloc (Nat.le_refl _) _⟩
  · unfold implPieces
    rw [← splitK_cutN]
    have e := Lib.splitB_data ⟨#[44]⟩ 0 (min 4 (s.size + 1) - 1) s
    simpa [dataOf] using e
  · rw [box_cell]
    unfold Lib.cellsOf
    rw [List.getElem?_toArray, List.getElem?_append_left (by simpa using hj)]
    simp [hj]
theorem cutC_any (s : ByteArray) (w : World) (hs : s.size ≤ 1048576) (hm : MaxL w) :
    Calls Tryz.prog 25 #[.string s, .string ⟨#[40]⟩] w fun e w' => e = .returned (.tuple #[.string ⟨(Lib.cut s.data.toList [40]).1.toArray⟩, .string ⟨(Lib.cut s.data.toList [40]).2.1.toArray⟩, .bool (Lib.cut s.data.toList [40]).2.2]) ∧ Below w.heap.size w w' := by
  obtain ⟨m, hm⟩ := hm
  refine (Tryz.strings_Cut s ⟨#[40]⟩ m w (by omega) hm).mono ?_
  rintro e w' ⟨rfl, n, rfl⟩
  exact ⟨rfl, rfl, rfl, rfl, Nat.le_refl _, fun _ _ => rfl⟩

/-- the pieces that strings.SplitN gives, at most seven -/
def GivesParts (s : ByteArray) (w : World) (e : Ending) (w' : World) : Prop := ∃ v L, e = .returned v ∧ dataOf L = cutN 32 (min 7 (s.size + 1) - 1) s.data.toList ∧ StrsAt w' w'.heap.size v L ∧ Below w.heap.size w w'
theorem splitN_any (s : ByteArray) (w : World) (hs : s.size ≤ 1048576) (hm : MaxL w) :
    Calls Tryz.prog 28 #[.string s, .string ⟨#[32]⟩, .int .i64 7] w (GivesParts s w) := by
  obtain ⟨m, hm⟩ := hm
  have h1 : ByteArray.size ⟨#[32]⟩ = 1 := rfl
  refine (Tryz.strings_SplitN s ⟨#[32]⟩ 7 m w (by omega) hm (by omega) (by omega) (by omega)).mono ?_
  rintro e w' ⟨rfl, rfl⟩
  have hlen := Lib.splitB_length_le ⟨#[32]⟩ 0 (min 7 (s.size + 1) - 1) s
  refine ⟨_, Lib.splitB ⟨#[32]⟩ 0 (min 7 (s.size + 1) - 1) s, rfl, ?_, ?_, (Below.refl _ _).alloc (Nat.le_refl _) _⟩
  · rw [← splitK_cutN]
    exact Lib.splitB_data ⟨#[32]⟩ 0 _ s
  · generalize Lib.splitB ⟨#[32]⟩ 0 (min 7 (s.size + 1) - 1) s = L at *
    refine ⟨_, _, rfl, by omega, by unfold maxLen; omega, fun _ => ⟨w.heap.size, 0, rfl, by simp, fun j u hu => ?_⟩, fun h => by cases h⟩
    rw [Nat.zero_add, box_cell]
    rw [flat_str] at hu
    have hj := (List.getElem?_eq_some_iff.1 hu).1
    unfold Lib.cellsOf
    rw [List.getElem?_toArray, List.getElem?_append_left hj]
    exact hu

end Go.Proofs.YteogknfhafdbmaaGreatDoor
