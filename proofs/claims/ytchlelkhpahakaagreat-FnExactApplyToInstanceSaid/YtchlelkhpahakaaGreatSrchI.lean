/-
  Walks and plain lemmas for the laws of this seat: what single Go functions return, for every argument.
-/
import Derived.Test.YtchlelkhpahakaaGreatShelf
import Derived.Test.YtchlelkhpahakaaGreatMem
import Derived.Test.YtchlelkhpahakaaGreatInts
namespace Go.Proofs.YtchlelkhpahakaaGreat
open Go.RowKit

theorem implSearchInts_any (v : Value) (l : List Int) (k : Int) (w : World) (hl : IntsAt w w.heap.size v l) (ha : l.Pairwise (· ≤ ·)) (hn : l.length ≤ 1048576) :
    Calls Tryz.prog 81 #[v, .int .i64 k] w fun e w' => e = .returned (.tuple #[.int .i64 (l.countP (· < k) : Nat), .bool (l.contains k)]) ∧ Below w.heap.size w w' := by
  obtain ⟨A, c, rfl, hlc, hcm, hc, -⟩ := hl
  rcases Nat.eq_zero_or_pos l.length with h0 | h0
  · have e : l = [] := List.eq_nil_of_length_eq_zero h0
    subst e
    refine (Tryz.slices_BinarySearch_int_empty A c k w).mono ?_
    rintro e w' ⟨rfl, hw⟩
    exact ⟨rfl, by rw [hw]; exact Below.refl _ _⟩
  · obtain ⟨b, off, rfl, hb, hc⟩ := hc h0
    have hcc : ∀ j, j < l.length → w.cell? ⟨b, off + j, none⟩ = some (.int .i64 (l.getD j 0)) := fun j hj => by
      refine hc j _ ?_
      rw [flat_int]; simp [hj]
    have h := Tryz.slices_BinarySearch_int b off l.length c l k w (Nat.le_refl _) (by omega) hcc (by rw [List.take_of_length_le (Nat.le_refl _)]; exact ha)
    rw [List.take_of_length_le (Nat.le_refl _)] at h
    refine h.mono ?_
    rintro e w' ⟨rfl, q, rfl⟩
    exact ⟨rfl, below_drewN w q⟩

end Go.Proofs.YtchlelkhpahakaaGreat
