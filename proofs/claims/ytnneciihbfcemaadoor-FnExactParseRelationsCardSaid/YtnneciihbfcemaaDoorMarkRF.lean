/-
  Walks and plain lemmas for the laws of this seat: what single Go functions return, for every argument.
-/
import Derived.Test.YtnneciihbfcemaaDoorMarkR
namespace Go.Proofs.YtnneciihbfcemaaDoor
open Go.RowKit

set_option maxHeartbeats 1600000 in
set_option maxRecDepth 100000 in
theorem markRelationS_any (B : Nat) (v : Value) (l : List Rel) (k : Nat) (w : World) (hO : OwnRels B v l w) (hB : B ≤ w.heap.size) (hn : l.length ≤ 1048576) (hk : 1 ≤ k) (hk2 : k ≤ 1000000) :
    Calls Tryd.prog 12 #[v, .int .i64 (k : Int)] w fun e w' => e = .returned (.int .i64 ((k : Int) + 3 * (l.length : Nat))) ∧ OwnRels B v (markRels k l.length) w' ∧ Below B w w' := by
  obtain ⟨A, c, rfl, hc1, hc2, -⟩ := hO.at_
  unfold maxLen at hc2
  go_enter Tryd.func12, Tryd.ntmps12
  go_wp2
  go_loopw [1, 5] (fun x j wr => ∃ i : Nat, i ≤ l.length ∧ j = .int .i64 (i : Int) ∧ x = .int .i64 ((k : Int) + 3 * (i : Int)) ∧ OwnRels B (.slice A l.length c) (markRels k i ++ l.drop i) wr ∧ w.heap.size ≤ wr.heap.size ∧ Below B w wr) (fun _ j _ => l.length - (intOf j).toNat)
  case atStart => exact ⟨0, by omega, rfl, by go_num, hO, Nat.le_refl _, Below.refl _ _⟩
  case round =>
    obtain ⟨i, hi, rfl, rfl, hO1, hz, hW⟩ := hrel
    by_cases hlt : i < l.length
    · have hlen : (markRels k i ++ l.drop i).length = l.length := by rw [List.length_append, markRels_len, List.length_drop]; omega
      obtain ⟨g, cap, hv, hg0, hg1⟩ := World.ownsRow.form hO1 (by omega)
      simp only [Value.slice.injEq] at hv
      obtain ⟨rfl, hv1, rfl⟩ := hv
      clear hv1
      have hcon := markText_any (k + 3 * i) wr (by omega) (by omega)
      have HM := Lib.hid (mark_set l k i hlt)
      have HLen := Lib.hid hlen
      have hkl : i < (markRels k i ++ l.drop i).length := by omega
      have hx : ((k + 3 * i : Nat) : Int) = (k : Int) + 3 * (i : Int) := by omega
      rw [hx] at hcon
      have h2 : ((((k : Int) + 3 * (i : Int) + 1 + 1) % 3) == 0) = decide ((k + 3 * i + 2) % 3 = 0) := by
        rw [Bool.eq_iff_iff, beq_iff_eq, decide_eq_true_eq]; omega
      clear hlen hx
      go_wp2_with fail
      refine hcon.mono ?_
      rintro e w1 ⟨rfl, hb1⟩
      have hO2 := hO1.below hb1 (Nat.le_refl _)
      obtain ⟨d0, d1, d2⟩ := hO2.cells HLen.out i hkl
      have hfz := hO2.frozen HLen.out
      go_wp2
      have hS := hO2.set HLen.out i hlt (markRel (k + 3 * i))
      rw [show (markRel (k + 3 * i)).arity = (k : Int) + 3 * (i : Int) + 1 from by show ((k + 3 * i + 1 : Nat) : Int) = _; omega, HM.out] at hS
      have hBS := (((Below.refl B w1).setCell (p := ⟨g, i * 3, none⟩) hg0 (.string (mText (k + 3 * i)))).setCell (p := ⟨g, i * 3 + 1, none⟩) hg0 (.int .i64 ((k : Int) + 3 * (i : Int) + 1))).setCell (p := ⟨g, i * 3 + 2, none⟩) hg0 (.bool (decide ((k + 3 * i + 2) % 3 = 0)))
      go_roundw
      case rel => exact ⟨i + 1, by omega, by go_num, by go_num, hS, by have := hb1.size; have := hBS.size; omega, (hW.trans (hb1.mono (by omega))).trans hBS⟩
      case measure => simp [intOf]; omega
    · obtain rfl : i = l.length := by omega
      have hO' : OwnRels B (.slice A l.length c) (markRels k l.length) wr := by simpa using hO1
      clear hO1
      go_wp2
      go_ret
      exact ⟨rfl, hO', hW⟩

end Go.Proofs.YtnneciihbfcemaaDoor
