/-
  Walks and plain lemmas for the laws of this seat: what single Go functions return, for every argument.
-/
import Derived.Test.YtnneciihbfcemaaDoorBase
import Derived.Test.YtnneciihbfcemaaDoorMarkR
namespace Go.Proofs.YtnneciihbfcemaaDoor
open Go.RowKit

set_option maxHeartbeats 1600000 in
set_option maxRecDepth 100000 in
theorem heldRelationS_any (v : Value) (n : Nat) (k : Nat) (w : World) (hl : RelsAt w w.heap.size v (markRels k n)) (hn : n ≤ 1048576) (hk : 1 ≤ k) (hk2 : k ≤ 1000000) :
    Calls Tryd.prog 13 #[v, .int .i64 (k : Int)] w fun e w' => e = .returned (.int .i64 ((k : Int) + 3 * (n : Nat))) ∧ Below w.heap.size w w' := by
  have HL := Lib.hid hl
  obtain ⟨A, c, rfl, hc1, hc2, -⟩ := hl
  have HN := Lib.hid (markRels_len k n)
  rw [markRels_len] at hc1
  unfold maxLen at hc2
  rw [markRels_len]
  go_enter Tryd.func13, Tryd.ntmps13
  go_wp2
  go_loopw [1, 5] (fun x j wr => ∃ i : Nat, i ≤ n ∧ j = .int .i64 (i : Int) ∧ x = .int .i64 ((k : Int) + 3 * (i : Int)) ∧ Below w.heap.size w wr) (fun _ j _ => n - (intOf j).toNat)
  case atStart => exact ⟨0, by omega, rfl, by go_num, Below.refl _ _⟩
  case round =>
    obtain ⟨i, hi, rfl, rfl, hW⟩ := hrel
    have hz := hW.size
    by_cases hlt : i < n
    · have hlt' : i < (markRels k n).length := by rw [HN.out]; exact hlt
      have HL' : Hid (RelsAt w w.heap.size (.slice A (markRels k n).length c) (markRels k n)) := Lib.hid (by have := HL.out; rwa [HN.out] at this ⊢)
      obtain ⟨b, off, rfl, hb, c0, c1, c2⟩ := RelsAt.elem HL'.out i hlt'
      rw [markRels_at] at c0 c1 c2
      have C0 := Aft.cell hb c0
      replace c1 := (hW.cell (p := ⟨b, off + i * 3 + 1, none⟩) hb).trans c1
      replace c2 := (hW.cell (p := ⟨b, off + i * 3 + 2, none⟩) hb).trans c2
      clear c0
      have hx : ((k + 3 * i : Nat) : Int) = (k : Int) + 3 * (i : Int) := by omega
      have hcon := fun w => markText_any (k + 3 * i) w (by omega) (by omega)
      rw [hx] at hcon
      have ha : (markRel (k + 3 * i)).arity = (k : Int) + 3 * (i : Int) + 1 := by show ((k + 3 * i + 1 : Nat) : Int) = _; omega
      have hn' : (markRel (k + 3 * i)).name = mText (k + 3 * i) := rfl
      have hs' : (markRel (k + 3 * i)).source = decide ((k + 3 * i + 2) % 3 = 0) := rfl
      rw [ha] at c1
      rw [hs'] at c2
      simp only [hn'] at C0
      have h2 : ((((k : Int) + 3 * (i : Int) + 1 + 1) % 3) == 0) = decide ((k + 3 * i + 2) % 3 = 0) := by
        rw [Bool.eq_iff_iff, beq_iff_eq, decide_eq_true_eq]; omega
      generalize decide ((k + 3 * i + 2) % 3 = 0) = q at *
      generalize mText (k + 3 * i) = T at *
      have hT := str_eq T
      clear hx ha hn' hs'
      go_wp2
      refine wp_region_aft hW (by kernel_rfl) (by kernel_rfl) ?_
      repeat (go_big_quiet_step (((go_at_call 25; exact calls_aft (Nat.le_refl _) (hcon _)))))
      refine wpQuiet_nil ?_
      refine aft_end ?_
      intro w1 hh
      have d1 := (hh.cell (p := ⟨b, off + i * 3 + 1, none⟩) hb).trans ((hW.cell (p := ⟨b, off + i * 3 + 1, none⟩) hb).symm.trans c1)
      have d2 := (hh.cell (p := ⟨b, off + i * 3 + 2, none⟩) hb).trans ((hW.cell (p := ⟨b, off + i * 3 + 2, none⟩) hb).symm.trans c2)
      clear c1 c2 C0
      cases q
      all_goals
        go_wp2
        go_roundw
        case rel => exact ⟨i + 1, by omega, by go_num, by go_num, hh⟩
        case measure => simp [intOf]; omega
    · obtain rfl : i = n := by omega
      go_wp2
      go_ret
      exact ⟨rfl, hW⟩

end Go.Proofs.YtnneciihbfcemaaDoor
