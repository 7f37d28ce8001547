/-
  Walks and plain lemmas for the laws of this seat: what single Go functions return, for every argument.
-/
import Derived.Test.YtbdgdphehbkjgaaShelf
import Derived.Lib.OwnBridge
import Derived.Test.YtbdgdphehbkjgaaBase
import Derived.Test.YtbdgdphehbkjgaaNum
import Derived.Test.YtbdgdphehbkjgaaInts
import Derived.Test.YtbdgdphehbkjgaaTyFact
import Derived.Test.YtbdgdphehbkjgaaSortN
import Derived.Test.YtbdgdphehbkjgaaFactN
namespace Go.Proofs.Ytbdgdphehbkjgaa
open Go.RowKit Go.Sort

theorem below_grow_os (w : World) (os : Array Obj) : Below w.heap.size w (grow w os) :=
  ⟨rfl, rfl, rfl, by simp [grow], fun k hk => by simp [grow, Array.getElem?_append, hk]⟩
theorem sortInts_any (B : Nat) (v : Value) (l : List Int) (w : World) (hO : OwnInts B v l w) (hB : B ≤ w.heap.size) (hn : l.length ≤ 1048576) :
    Calls Try.prog 86 #[v] w fun e w' => e = .returned (.tuple #[]) ∧ OwnInts B v (l.mergeSort fun x y => decide (x ≤ y)) w' ∧ Below B w w' := by
  have hO' := hO
  unfold OwnInts at hO
  by_cases hv : v = .slice none 0 0
  · subst hv
    obtain ⟨A', c', h1, -⟩ := hO'.at_
    injection h1 with _ h2 _
    have hl : l = [] := List.eq_nil_of_length_eq_zero h2.symm
    subst hl
    refine (Try.slices_Sort_int_none none 0 w).mono ?_
    rintro e w' ⟨rfl, rfl⟩
    exact ⟨rfl, by simpa using hO', Below.refl _ _⟩
  · obtain ⟨g, cap, rfl, hg1, hg2, hnc, hcm, -, hH⟩ := Lib.holds_of_ownsRow hO hv
    refine (Try.slices_Sort_int g 0 cap l w hH hg2 (by omega)).mono ?_
    rintro e w' ⟨rfl, n, os, rfl⟩
    have hlen : (l.mergeSort fun x y => decide (x ≤ y)).length = l.length := List.length_mergeSort _
    have h1 := Lib.ownsRow_putRow (q := n) (k := l.length) hO hlen (Nat.le_refl _)
    have hs : (putRow (Value.int .i64) (Sort.ahead w n) g 0 (l.mergeSort fun x y => decide (x ≤ y)).toArray).heap.size = w.heap.size := by simp [putRow, mapBlock, Sort.ahead]
    have hb := Lib.below_putRow (enc := Value.int .i64) (q := n) (d := (l.mergeSort fun x y => decide (x ≤ y)).toArray) (Below.refl B w) hg1
    have hb2 := below_grow_os (putRow (Value.int .i64) (Sort.ahead w n) g 0 (l.mergeSort fun x y => decide (x ≤ y)).toArray) os
    refine ⟨rfl, ?_, hb.trans (hb2.mono (by rw [hs]; exact hB))⟩
    refine OwnInts.below ?_ hb2 (Nat.le_refl _)
    unfold OwnInts
    rw [List.take_of_length_le (by omega)] at h1
    rw [hlen]
    exact h1
theorem compactInts_any (B : Nat) (v : Value) (l : List Int) (w : World) (hO : OwnInts B v l w) (hn : l.length ≤ 1048576) :
    Calls Try.prog 87 #[v] w fun e w' => ∃ u, e = .returned u ∧ OwnInts B u (Lib.compact l) w' ∧ Below B w w' := by
  have hO' := hO
  unfold OwnInts at hO
  by_cases hv : v = .slice none 0 0
  · subst hv
    obtain ⟨A', c', h1, -⟩ := hO'.at_
    injection h1 with _ h2 _
    have hl : l = [] := List.eq_nil_of_length_eq_zero h2.symm
    subst hl
    refine (Try.slices_Compact_int_empty none 0 w).mono ?_
    rintro e w' ⟨rfl, rfl⟩
    exact ⟨_, rfl, OwnInts.nil _ _, Below.refl _ _⟩
  · obtain ⟨g, cap, rfl, hg1, hg2, hnc, hcm, -, hH⟩ := Lib.holds_of_ownsRow hO hv
    refine (Try.slices_Compact_int g 0 cap l w hH (by omega) hnc).mono ?_
    rintro e w' ⟨rfl, q, rfl⟩
    have hle : (Lib.compact l).length ≤ l.length := by
      unfold Lib.compact Lib.compactUpTo
      rw [List.length_map]
      have := List.length_filter_le (Lib.keeps l.toArray) (List.range l.length)
      rwa [List.length_range] at this
    have h1 := Lib.ownsRow_putRow (q := q) (ys := Lib.compact l ++ List.replicate (l.length - (Lib.compact l).length) 0) (k := (Lib.compact l).length) hO (by simp; omega) hle
    refine ⟨_, rfl, ?_, Lib.below_putRow (Below.refl B w) hg1⟩
    unfold OwnInts
    rw [List.take_left' rfl] at h1
    exact h1
set_option maxHeartbeats 3200000 in
set_option maxRecDepth 100000 in
theorem implNullsOfFact_any (r : Int) (V : Value) (vs : List Int) (w : World) (hV : IntsAt w w.heap.size V vs) (hw : IntsWf vs) (hn : vs.length ≤ 1048576) :
    Calls Try.prog 85 #[.agg #[.int .i64 r, V]] w fun e w' => ∃ u, e = .returned u ∧ OwnInts w.heap.size u (nullsOf vs) w' ∧ Below w.heap.size w w' := by
  have HV := Lib.hid hV
  obtain ⟨A', c', rfl, hlc', hcm', -⟩ := hV
  unfold maxLen at hcm'
  have hE : Below w.heap.size w (w.alloc (.cells #[.int .i64 r, .slice A' vs.length c'] 30)) := (Below.refl _ _).alloc (Nat.le_refl _) _
  have hcs := compact_sort vs
  have HCS := Lib.hid hcs
  clear hcs
  go_enter Try.func85, Try.ntmps85
  go_wp2
  go_loopw [3, 11] (fun o i wr => ∃ k : Nat, k ≤ vs.length ∧ i = .int .i64 k ∧ OwnInts (w.heap.size + 1) o (numsOf (vs.take k)) wr ∧ Below (w.heap.size + 1) (w.alloc (.cells #[.int .i64 r, .slice A' vs.length c'] 30)) wr) (fun _ i _ => vs.length - (intOf i).toNat)
  case atStart => exact ⟨0, by omega, rfl, by simpa [numsOf] using OwnInts.nil (w.alloc (.cells #[.int .i64 r, .slice A' vs.length c'] 30)) (w.heap.size + 1), Below.refl _ _⟩
  case round =>
    obtain ⟨k, hk, rfl, hO, hW⟩ := hrel
    have hz := hW.size
    simp at hz
    have hWw : Below w.heap.size w wr := hE.trans (hW.mono (by omega))
    have hl := numsOf_len vs k
    by_cases hlt : k < vs.length
    · obtain ⟨b', off', rfl, hb', d0⟩ := IntsAt.elem HV.out k hlt
      replace d0 := (hWw.cell (p := ⟨b', off' + k, none⟩) hb').trans d0
      have HN := Lib.hid (numsOf_take vs k hlt)
      have hnn := implNullNumber_any vs[k] wr (hw k hlt).1 (hw k hlt).2
      cases hb : (nullNum vs[k]).2 with
      | true =>
        have HA := Lib.hid (HN.out.trans (if_pos hb))
        rw [hb] at hnn
        clear hb
        go_wp2_with (first | (go_at_call 116; refine hnn.mono ?_; rintro e w2 ⟨rfl, rfl⟩) | (at_builtin; refine ints_app1 hO rfl _ _ rfl rfl _ _ _ rfl rfl (by omega) (by omega) ?_; intro v5 w5 hO5 hB5 hG5))
        go_roundw
        case rel => exact ⟨k + 1, by omega, by go_num, by rw [HA.out]; exact hO5, hW.trans hB5⟩
        case measure => simp [intOf]; omega
      | false =>
        have HA := Lib.hid (HN.out.trans (if_neg (by rw [hb]; simp)))
        rw [hb] at hnn
        clear hb
        go_wp2_with (first | (go_at_call 116; refine hnn.mono ?_; rintro e w2 ⟨rfl, rfl⟩))
        go_roundw
        case rel => exact ⟨k + 1, by omega, by go_num, by rw [HA.out]; exact hO, hW⟩
        case measure => simp [intOf]; omega
    · obtain rfl : k = vs.length := by omega
      rw [List.take_of_length_le (Nat.le_refl _)] at hO hl
      have hs := sortInts_any _ _ _ wr hO hz (by omega)
      clear hO
      go_wp2_with fail
      refine hs.mono ?_
      rintro e w2 ⟨rfl, hO2, hb2⟩
      have hc := compactInts_any _ _ _ w2 hO2 (by rw [List.length_mergeSort]; omega)
      rw [HCS.out] at hc
      clear hO2 hs
      go_wp2_with fail
      refine hc.mono ?_
      rintro e w3 ⟨u, rfl, hO3, hb3⟩
      go_wp2
      go_ret
      exact ⟨_, rfl, hO3.mono (by omega), hE.trans (((hW.trans hb2).trans hb3).mono (by omega))⟩
theorem implNullsOfFact_c (v : Value) (x : Fct) (w : World) (h : Fact_at w w.heap.size v x) (hw : Fact_wf x) (hn : Fact_sz x ≤ 1048576) :
    Calls Try.prog 85 #[v] w fun e w' => ∃ u, e = .returned u ∧ IntS_own w.heap.size w'.heap.size u (NullsOfFact_r0 x) w' ∧ IntS_sz (NullsOfFact_r0 x) ≤ 1048576 ∧ Below w.heap.size w w' := by
  obtain ⟨V, rfl, h⟩ := h
  have hl := nullsOf_len x.vals
  refine (implNullsOfFact_any x.rel V x.vals w h hw.2 hn).mono fun _ w' ⟨u, he, ho, hb⟩ => ⟨u, he, IntsO.of ho, by unfold IntS_sz NullsOfFact_r0; omega, hb⟩

end Go.Proofs.Ytbdgdphehbkjgaa
