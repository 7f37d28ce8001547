/-
  Walks and plain lemmas for the laws of this seat: what single Go functions return, for every argument.
-/
import Derived.Test.YtakflmaeclneiaaGreatShelf
import Derived.Lib.OwnBridge
import Derived.Test.YtakflmaeclneiaaGreatBase
import Derived.Test.YtakflmaeclneiaaGreatInts
import Derived.Test.YtakflmaeclneiaaGreatMInst
namespace Go.Proofs.YtakflmaeclneiaaGreat
open Go.RowKit Go.Sort

theorem below_grow_os (w : World) (os : Array Obj) : Below w.heap.size w (grow w os) :=
  ⟨rfl, rfl, rfl, by simp [grow], fun k hk => by simp [grow, Array.getElem?_append, hk]⟩
theorem sortInts_any (B : Nat) (v : Value) (l : List Int) (w : World) (hO : OwnInts B v l w) (hB : B ≤ w.heap.size) (hn : l.length ≤ 1048576) :
    Calls Tryz.prog 80 #[v] w fun e w' => e = .returned (.tuple #[]) ∧ OwnInts B v (l.mergeSort fun x y => decide (x ≤ y)) w' ∧ Below B w w' := by
  have hO' := hO
  unfold OwnInts at hO
  by_cases hv : v = .slice none 0 0
  · subst hv
    obtain ⟨A', c', h1, -⟩ := hO'.at_
    injection h1 with _ h2 _
    have hl : l = [] := List.eq_nil_of_length_eq_zero h2.symm
    subst hl
    refine (Tryz.slices_Sort_int_none none 0 w).mono ?_
    rintro e w' ⟨rfl, rfl⟩
    exact ⟨rfl, by simpa using hO', Below.refl _ _⟩
  · obtain ⟨g, cap, rfl, hg1, hg2, hnc, hcm, -, hH⟩ := Lib.holds_of_ownsRow hO hv
    refine (Tryz.slices_Sort_int g 0 cap l w hH hg2 (by omega)).mono ?_
    rintro e w' ⟨rfl, n, os, rfl⟩
    have hlen : (l.mergeSort fun x y => decide (x ≤ y)).length = l.length := List.length_mergeSort _
    have h1 := Lib.ownsRow_putRow (q := n) (k := l.length) hO hlen (Nat.le_refl _)
    have hs : (putRow (Value.int .i64) (Sort.ahead w n) g 0 (l.mergeSort fun x y => decide (x ≤ y)).toArray).heap.size = w.heap.size := by simp [putRow, mapBlock, Sort.ahead]
    have hb := Lib.below_putRow (enc := Value.int .i64) (q := n) (d := (l.mergeSort fun x y => decide (x ≤ y)).toArray) (Below.refl B w) hg1
    have hb2 := below_grow_os (putRow (Value.int .i64) (Sort.ahead w n) g 0 (l.mergeSort fun x y => decide (x ≤ y)).toArray) os
    refine ⟨rfl, ?_, hb.trans (hb2.mono (by rw [hs]; exact hB))⟩
    refine OwnInts.below ?_ hb2 (Nat.le_refl _)
    unfold OwnInts
    rw [List.take_of_length_le (by omega)] at h1
    rw [hlen]
    exact h1
theorem compactInts_any (B : Nat) (v : Value) (l : List Int) (w : World) (hO : OwnInts B v l w) (hn : l.length ≤ 1048576) :
    Calls Tryz.prog 81 #[v] w fun e w' => ∃ u, e = .returned u ∧ OwnInts B u (Lib.compact l) w' ∧ Below B w w' := by
  have hO' := hO
  unfold OwnInts at hO
  by_cases hv : v = .slice none 0 0
  · subst hv
    obtain ⟨A', c', h1, -⟩ := hO'.at_
    injection h1 with _ h2 _
    have hl : l = [] := List.eq_nil_of_length_eq_zero h2.symm
    subst hl
    refine (Tryz.slices_Compact_int_empty none 0 w).mono ?_
    rintro e w' ⟨rfl, rfl⟩
    exact ⟨_, rfl, OwnInts.nil _ _, Below.refl _ _⟩
  · obtain ⟨g, cap, rfl, hg1, hg2, hnc, hcm, -, hH⟩ := Lib.holds_of_ownsRow hO hv
    refine (Tryz.slices_Compact_int g 0 cap l w hH (by omega) hnc).mono ?_
    rintro e w' ⟨rfl, q, rfl⟩
    have hle : (Lib.compact l).length ≤ l.length := by
      unfold Lib.compact Lib.compactUpTo
      rw [List.length_map]
      have := List.length_filter_le (Lib.keeps l.toArray) (List.range l.length)
      rwa [List.length_range] at this
    have h1 := Lib.ownsRow_putRow (q := q) (ys := Lib.compact l ++ List.replicate (l.length - (Lib.compact l).length) 0) (k := (Lib.compact l).length) hO (by simp; omega) hle
    refine ⟨_, rfl, ?_, Lib.below_putRow (Below.refl B w) hg1⟩
    unfold OwnInts
    rw [List.take_left' rfl] at h1
    exact h1

end Go.Proofs.YtakflmaeclneiaaGreat
