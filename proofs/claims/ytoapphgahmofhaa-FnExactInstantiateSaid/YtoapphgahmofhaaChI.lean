/-
  Walks and plain lemmas for the laws of this seat: what single Go functions return, for every argument.
-/
import Derived.Test.YtoapphgahmofhaaAft
import Derived.Test.YtoapphgahmofhaaAtomM
import Derived.Test.YtoapphgahmofhaaMatB
import Derived.Test.YtoapphgahmofhaaMatN
namespace Go.Proofs.Ytoapphgahmofhaa
open Go.RowKit

set_option maxRecDepth 100000 in
theorem implTermValue_any (t : Int) (b : List Int) (v : Value) (w : World) (hb : IntsAt w w.heap.size v b) (h0 : -9223372036854775808 ≤ t) (ht : t < b.length) :
    Calls Try.prog 52 #[.int .i64 t, v] w fun e w' => e = .returned (.int .i64 (fillT b t)) ∧ w = w' := by
  have hvar := implIsVariable_any t w
  by_cases hneg : t < 0
  · have d1 : decide (0 ≤ t) = false := decide_eq_false (by omega)
    have HF := Lib.hid (show fillT b t = -1 - t by unfold fillT; rw [if_pos hneg])
    have hz : 0 ≤ -1 - t := by omega
    rw [d1] at hvar
    go_enter Try.func52, Try.ntmps52
    go_wp2_with (go_at_call 83; refine hvar.mono ?_; rintro e w3 ⟨rfl, rfl⟩)
    go_ret
    exact ⟨by rw [HF.out] <;> go_num, rfl⟩
  · have d1 : decide (0 ≤ t) = true := decide_eq_true (by omega)
    rw [d1] at hvar
    obtain ⟨j, rfl⟩ : ∃ j : Nat, t = (j : Int) := ⟨t.toNat, by omega⟩
    have hj : j < b.length := by omega
    have HF := Lib.hid (show fillT b (j : Int) = b[j] by unfold fillT; rw [if_neg hneg]; simp [List.getD, hj])
    have HB := Lib.hid hb
    obtain ⟨P, c, rfl, hc1, hc2, -⟩ := hb
    unfold maxLen at hc2
    obtain ⟨b0, off0, rfl, hb0, e0⟩ := IntsAt.elem HB.out j hj
    clear hneg
    go_enter Try.func52, Try.ntmps52
    go_wp2_with (go_at_call 83; refine hvar.mono ?_; rintro e w3 ⟨rfl, rfl⟩)
    go_ret
    exact ⟨by rw [HF.out]; rfl, rfl⟩

set_option maxHeartbeats 1600000 in
set_option maxRecDepth 100000 in
theorem implNothingBound_any (w : World) :
    Calls Try.prog 45 #[] w fun e w' => e = .returned (bAgg blank5) ∧ Below w.heap.size w w' := by
  obtain ⟨E, hEq⟩ : ∃ E, E = ((w.alloc (.cells #[.int .i64 0, .int .i64 0, .int .i64 0, .int .i64 0, .int .i64 0] 86)).alloc (.cells #[.int .i64 0, .int .i64 0, .int .i64 0, .int .i64 0, .int .i64 0] 86)) := ⟨_, rfl⟩
  have hE : Below w.heap.size w E := by rw [hEq]; exact below_more (below_more (Below.refl _ _) _) _
  have HEz := Lib.hid (show E.heap.size = w.heap.size + 2 by rw [hEq]; simp)
  have R0 := Lib.hid (show ∀ j, j < 5 → E.cell? ⟨w.heap.size, j, none⟩ = some (.int .i64 0) by
    intro j hj
    rcases (show j = 0 ∨ j = 1 ∨ j = 2 ∨ j = 3 ∨ j = 4 by omega) with h | h | h | h | h <;> subst h <;> (rw [hEq]; simp [go_sem]))
  have RZ := Lib.hid (show ∀ o, E.frozen? ⟨w.heap.size, o, none⟩ = false by intro o; rw [hEq]; simp [go_sem])
  have A0 := Lib.hid (show Arr (w.heap.size + 1) [0, 0, 0, 0, 0] E by
    refine ⟨fun j hj => ?_, fun o => by rw [hEq]; simp [go_sem]⟩
    rcases (show j = 0 ∨ j = 1 ∨ j = 2 ∨ j = 3 ∨ j = 4 by omega) with h | h | h | h | h <;> subst h <;> (rw [hEq]; simp [go_sem, at5]))
  go_enter Try.func45, Try.ntmps45
  go_wp2
  rw [← hEq]
  clear hEq
  go_loopw [3] (fun i wr => ∃ (k : Nat) (bk : List Int), k ≤ 5 ∧ i = .int .i64 k ∧ Hid (bk.length = 5) ∧ Hid (∀ j, j < k → at5 bk j = 10) ∧ Hid (Arr (w.heap.size + 1) bk wr) ∧ Hid (Chg (fun q => q = w.heap.size + 1) E wr)) (fun i _ => 5 - (intOf i).toNat)
  case atStart => exact ⟨0, [0, 0, 0, 0, 0], by omega, rfl, Lib.hid rfl, Lib.hid (fun j hj => by omega), A0, Lib.hid (Chg.refl _ _)⟩
  case round =>
    obtain ⟨k, bk, hk, rfl, HL, HT, HA, HC⟩ := hrel
    by_cases hlt : k < 5
    · have e0 := HA.out.1 k hlt
      have ez := HA.out.2 k
      have HA2 := Lib.hid (HA.out.set HL.out k hlt 10)
      have HC2 := Lib.hid (HC.out.setCell (p := ⟨w.heap.size + 1, k, none⟩) rfl (.int .i64 10))
      go_wp2
      go_roundw
      case rel =>
        refine ⟨k + 1, bk.set k 10, by omega, by go_num, Lib.hid (by rw [List.length_set]; exact HL.out), Lib.hid (fun j hj => ?_), HA2, HC2⟩
        unfold at5
        rw [List.getD_eq_getElem?_getD, List.getElem?_set]
        split
        · rename_i e; subst e; rw [if_pos (by rw [HL.out]; omega)]; rfl
        · rw [← List.getD_eq_getElem?_getD]; exact HT.out j (by omega)
      case measure => simp [intOf]; omega
    · obtain rfl : k = 5 := by omega
      have a0 := (HA.out.1 0 (by omega)).trans (by rw [HT.out 0 (by omega)])
      have a1 := (HA.out.1 1 (by omega)).trans (by rw [HT.out 1 (by omega)])
      have a2 := (HA.out.1 2 (by omega)).trans (by rw [HT.out 2 (by omega)])
      have a3 := (HA.out.1 3 (by omega)).trans (by rw [HT.out 3 (by omega)])
      have a4 := (HA.out.1 4 (by omega)).trans (by rw [HT.out 4 (by omega)])
      have hz : w.heap.size < E.heap.size := by rw [HEz.out]; omega
      have r0 := (HC.out.cell (b := w.heap.size) (o := 0) hz (by omega)).trans (R0.out 0 (by omega))
      have r1 := (HC.out.cell (b := w.heap.size) (o := 1) hz (by omega)).trans (R0.out 1 (by omega))
      have r2 := (HC.out.cell (b := w.heap.size) (o := 2) hz (by omega)).trans (R0.out 2 (by omega))
      have r3 := (HC.out.cell (b := w.heap.size) (o := 3) hz (by omega)).trans (R0.out 3 (by omega))
      have r4 := (HC.out.cell (b := w.heap.size) (o := 4) hz (by omega)).trans (R0.out 4 (by omega))
      have rz := fun o => (HC.out.frozen (b := w.heap.size) (o := o) hz (by omega)).trans (RZ.out o)
      have HB := Lib.hid (show Below w.heap.size w wr from hE.trans (HC.out.below (B := w.heap.size) (fun q hq => by omega) (by omega)))
      go_wp2
      refine bodyPost_ret (v := bAgg blank5) (by simp [results, Try.results45, go_sem, r0, r1, r2, r3, r4, blank5, at5]) rfl ⟨rfl, ?_⟩
      exact below_set5 HB.out (Nat.le_refl _) _ _ _ _ _

end Go.Proofs.Ytoapphgahmofhaa
