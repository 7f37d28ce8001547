/-
  Walks and plain lemmas for the laws of this seat: what single Go functions return, for every argument.
-/
import Derived.Test.YtbdgdphehbkjgaaRels
import Derived.Test.YtbdgdphehbkjgaaMarkR
namespace Go.Proofs.Ytbdgdphehbkjgaa
open Go.RowKit

set_option maxHeartbeats 1600000 in
set_option maxRecDepth 100000 in
theorem markRelationS_chg (B : Nat) (v : Value) (l : List Rel) (k : Nat) (w : World) (hO : OwnRels B v l w) (hn : l.length ≤ 1048576) (hk : 1 ≤ k) (hk2 : k ≤ 1000000000) :
    Calls Try.prog 78 #[v, .int .i64 (k : Int)] w fun e w' => e = .returned (.int .i64 ((k : Int) + 3 * (l.length : Nat))) ∧ OwnRels B v (markRels k l.length) w' ∧ Chg (fun g => v.ownBlock = some g) w w' := by
  obtain ⟨A, c, rfl, hc1, hc2, -⟩ := hO.at_
  unfold maxLen at hc2
  go_enter Try.func78, Try.ntmps78
  go_wp2
  go_loopw [1, 5] (fun x j wr => ∃ i : Nat, i ≤ l.length ∧ j = .int .i64 (i : Int) ∧ x = .int .i64 ((k : Int) + 3 * (i : Int)) ∧ OwnRels B (.slice A l.length c) (markRels k i ++ l.drop i) wr ∧ Chg (fun g => (Value.slice A l.length c).ownBlock = some g) w wr) (fun _ j _ => l.length - (intOf j).toNat)
  case atStart => exact ⟨0, by omega, rfl, by go_num, hO, Chg.refl _ _⟩
  case round =>
    obtain ⟨i, hi, rfl, rfl, hO1, hW⟩ := hrel
    by_cases hlt : i < l.length
    · have hlen : (markRels k i ++ l.drop i).length = l.length := by rw [List.length_append, markRels_len, List.length_drop]; omega
      obtain ⟨g, cap, hv, hg0, hg1⟩ := World.ownsRow.form hO1 (by omega)
      simp only [Value.slice.injEq] at hv
      obtain ⟨rfl, hv1, rfl⟩ := hv
      clear hv1
      have hcon := markText_any (k + 3 * i) wr (by omega) (by omega)
      have HM := Lib.hid (mark_set l k i hlt)
      have HLen := Lib.hid hlen
      have hkl : i < (markRels k i ++ l.drop i).length := by omega
      have hx : ((k + 3 * i : Nat) : Int) = (k : Int) + 3 * (i : Int) := by omega
      rw [hx] at hcon
      have h2 : ((((k : Int) + 3 * (i : Int) + 1 + 1) % 3) == 0) = decide ((k + 3 * i + 2) % 3 = 0) := by
        rw [Bool.eq_iff_iff, beq_iff_eq, decide_eq_true_eq]; omega
      clear hlen hx
      go_wp2_with fail
      refine hcon.mono ?_
      rintro e w1 ⟨rfl, hb1⟩
      have hO2 := hO1.below hb1 (Nat.le_refl _)
      obtain ⟨d0, d1, d2⟩ := hO2.cells HLen.out i hkl
      have hfz := hO2.frozen HLen.out
      go_wp2
      have hS := hO2.set HLen.out i hlt (markRel (k + 3 * i))
      rw [show (markRel (k + 3 * i)).arity = (k : Int) + 3 * (i : Int) + 1 from by show ((k + 3 * i + 1 : Nat) : Int) = _; omega, HM.out] at hS
      have hBS := (((hW.trans (Chg.of_below hb1)).setCell (p := ⟨g, i * 3, none⟩) rfl (.string (mText (k + 3 * i)))).setCell (p := ⟨g, i * 3 + 1, none⟩) rfl (.int .i64 ((k : Int) + 3 * (i : Int) + 1))).setCell (p := ⟨g, i * 3 + 2, none⟩) rfl (.bool (decide ((k + 3 * i + 2) % 3 = 0)))
      go_roundw
      case rel => exact ⟨i + 1, by omega, by go_num, by go_num, hS, hBS⟩
      case measure => simp [intOf]; omega
    · obtain rfl : i = l.length := by omega
      have hO' : OwnRels B (.slice A l.length c) (markRels k l.length) wr := by simpa using hO1
      clear hO1
      go_wp2
      go_ret
      exact ⟨rfl, hO', hW⟩
theorem markRelationS_any (B : Nat) (v : Value) (l : List Rel) (k : Nat) (w : World) (hO : OwnRels B v l w) (hB : B ≤ w.heap.size) (hn : l.length ≤ 1048576) (hk : 1 ≤ k) (hk2 : k ≤ 1000000000) :
    Calls Try.prog 78 #[v, .int .i64 (k : Int)] w fun e w' => e = .returned (.int .i64 ((k : Int) + 3 * (l.length : Nat))) ∧ OwnRels B v (markRels k l.length) w' ∧ Below B w w' :=
  (markRelationS_chg B v l k w hO hn hk hk2).mono fun _ _ ⟨he, ho, hc⟩ => ⟨he, ho, hc.below (fun g hg => (hO.lt g hg).1) hB⟩

end Go.Proofs.Ytbdgdphehbkjgaa
