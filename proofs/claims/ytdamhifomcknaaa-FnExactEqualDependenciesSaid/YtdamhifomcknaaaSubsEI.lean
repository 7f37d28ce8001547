/-
  Walks and plain lemmas for the laws of this seat: what single Go functions return, for every argument.
-/
import Derived.Test.YtdamhifomcknaaaShelf
import Derived.Test.YtdamhifomcknaaaMem
import Derived.Test.YtdamhifomcknaaaInts
namespace Go.Proofs.Ytdamhifomcknaaa
open Go.RowKit

theorem implEqInts_any (l m : List Int) (v u : Value) (w : World) (hl : IntsAt w w.heap.size v l) (hm : IntsAt w w.heap.size u m) :
    Calls Try.prog 77 #[v, u] w fun e w' => e = .returned (.bool (decide (l = m))) ∧ Below w.heap.size w w' := by
  obtain ⟨A, c, rfl, hlc, hcm, hc, -⟩ := hl
  obtain ⟨A', c', rfl, hlc', hcm', hc', -⟩ := hm
  unfold maxLen at hcm hcm'
  by_cases hlen : l.length = m.length
  · rcases Nat.eq_zero_or_pos l.length with h0 | h0
    · have e : l = [] := List.eq_nil_of_length_eq_zero h0
      have e' : m = [] := List.eq_nil_of_length_eq_zero (by omega)
      subst e e'
      refine (Try.slices_Equal_int_empty A A' c 0 c' w (by omega)).mono ?_
      rintro e w' ⟨rfl, hw⟩
      exact ⟨rfl, by rw [hw]; exact Below.refl _ _⟩
    · obtain ⟨b, off, rfl, hb, hc⟩ := hc h0
      obtain ⟨b', off', rfl, hb', hc'⟩ := hc' (by omega)
      have k1 : ∀ j, j < l.length → w.cell? ⟨b, off + j, none⟩ = some (.int .i64 (l.getD j 0)) := fun j hj => hc j _ (by rw [flat_int]; simp [hj])
      have k2 : ∀ j, j < m.length → w.cell? ⟨b', off' + j, none⟩ = some (.int .i64 (m.getD j 0)) := fun j hj => hc' j _ (by rw [flat_int]; simp [hj])
      have h := Try.slices_Equal_int b off l.length c b' off' m.length c' l m w (Nat.le_refl _) (Nat.le_refl _) (by omega) (by omega) k1 k2
      rw [List.take_of_length_le (Nat.le_refl _), List.take_of_length_le (Nat.le_refl _)] at h
      refine h.mono ?_
      rintro e w' ⟨rfl, q, rfl⟩
      refine ⟨?_, below_drewN w q⟩
      by_cases e : l = m
      · subst e; simp
      · rw [decide_eq_false e, beq_eq_false_iff_ne.2 e]
  · refine (Try.slices_Equal_int_lens A A' l.length c m.length c' w hlen).mono ?_
    rintro e w' ⟨rfl, hw⟩
    exact ⟨by rw [decide_eq_false (fun e => hlen (by rw [e]))], by rw [hw]; exact Below.refl _ _⟩

end Go.Proofs.Ytdamhifomcknaaa
