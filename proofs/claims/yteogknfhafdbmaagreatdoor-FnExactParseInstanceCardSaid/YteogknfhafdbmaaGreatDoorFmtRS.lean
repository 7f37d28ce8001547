/-
  Walks and plain lemmas for the laws of this seat: what single Go functions return, for every argument.
-/
import Derived.Test.YteogknfhafdbmaaGreatDoorFmtS
import Derived.Test.YteogknfhafdbmaaGreatDoorFmtR
import Derived.Test.YteogknfhafdbmaaGreatDoorFactV
namespace Go.Proofs.YteogknfhafdbmaaGreatDoor
open Go.RowKit

theorem specAreValid_at (l : List Rel) (b : Bool) (h : validRels l = b) (v : Value) (w : World) (hl : RelsAt w w.heap.size v l) :
    Calls Tryz.prog 67 #[v] w fun e w' => e = .returned (.bool b) ∧ Below w.heap.size w w' := by
  subst h; exact specAreValidRelations_any v l w hl
set_option maxHeartbeats 3200000 in
theorem specFormatRelations_any (v : Value) (l : List Rel) (w : World) (hl : RelsAt w w.heap.size v l) :
    Calls Tryz.prog 58 #[v] w fun e w' => e = .returned (.string ⟨(fmtRels l).toArray⟩) ∧ Below w.heap.size w w' := by
  have HL := Lib.hid hl
  cases hv : validRels l with
  | false =>
    have hcon := specAreValid_at l false hv v w hl
    have HV := Lib.hid (fmtRels_no l hv)
    clear hv hl HL
    go_enter Tryz.func58, Tryz.ntmps58
    go_wp2_with (go_at_call 67; refine hcon.mono ?_; rintro e w1 ⟨rfl, hb1⟩)
    go_ret
    exact ⟨ret_str (by rw [HV.out]), hb1⟩
  | true =>
    have hcon := specAreValid_at l true hv v w hl
    have HV := Lib.hid (fmtRels_yes l hv)
    have HVL := Lib.hid hv
    have h6 := validRels_len l hv
    obtain ⟨A, c, rfl, hlc, hcm, -⟩ := hl
    unfold maxLen at hcm
    clear hv
    go_enter Tryz.func58, Tryz.ntmps58
    go_wp2_with (go_at_call 67; refine hcon.mono ?_; rintro e w1 ⟨rfl, hb1⟩)
    clear hcon
    go_loopw [3, 4] (fun s i wr => ∃ k : Nat, k ≤ l.length ∧ i = .int .i64 k ∧ s = .string ⟨(joinRels (l.take k)).toArray⟩ ∧ Below w.heap.size w wr) (fun _ i _ => l.length - (intOf i).toNat)
    case atStart => exact ⟨0, by omega, rfl, rfl, hb1⟩
    case round =>
      obtain ⟨k, hk, rfl, rfl, hW⟩ := hrel
      have hz := hW.size
      by_cases hlt : k < l.length
      · obtain ⟨b, off, rfl, hb, c0, c1, c2⟩ := RelsAt.elem HL.out k hlt
        have C0 := Aft.cell hb c0
        have C1 := Aft.cell hb c1
        replace c0 := (hW.cell (p := ⟨b, off + k * 3, none⟩) hb).trans c0
        replace c1 := (hW.cell (p := ⟨b, off + k * 3 + 1, none⟩) hb).trans c1
        replace c2 := (hW.cell (p := ⟨b, off + k * 3 + 2, none⟩) hb).trans c2
        have HS := Lib.hid (joinStep l k hlt)
        have hok := relOk_bd _ _ (validRels_at l HVL.out k hlt)
        have hsn : l[k].name.size ≤ 1 := by omega
        have ha0 : 1 ≤ l[k].arity := hok.2.1
        have ha1 : l[k].arity ≤ 3 := hok.2.2
        have hJ : ByteArray.size ⟨(joinRels (l.take k)).toArray⟩ ≤ 30 := by
          rw [size_mk]; have := joinRels_len l HVL.out k hk; omega
        have hI : ByteArray.size ⟨(Lib.itoa l[k].arity).toArray⟩ ≤ 2 := by rw [size_mk]; exact itoa_le2 _ (by omega) (by omega)
        have h1 : ByteArray.size ⟨#[32]⟩ = 1 := rfl
        have h2 : ByteArray.size ⟨#[43]⟩ = 1 := rfl
        have hcon := specFormatInt_any l[k].arity (h0 := by omega) (h1 := by omega)
        clear hok
        generalize (⟨(Lib.itoa l[k].arity).toArray⟩ : ByteArray) = I at *
        generalize (⟨(joinRels (l.take k)).toArray⟩ : ByteArray) = J at *
        cases hsrc : l[k].source with
        | true =>
          rw [hsrc] at c2 HS
          rcases Nat.eq_zero_or_pos k with h0 | h0
          · have hg1 : decide ((0 : Int) < (k : Int)) = false := decide_eq_false (by omega)
            have hg2 : decide (0 < k) = false := decide_eq_false (by omega)
            have HS' := Lib.hid (HS.out ⟨#[43]⟩ (by rw [if_pos h0] <;> rfl))
            clear hsrc h0
            go_wp2
            refine wp_region_aft hW (by kernel_rfl) (by kernel_rfl) ?_
            repeat (go_big_quiet_step (((go_at_call 65; exact calls_aft (Nat.le_refl _) (hcon _)))))
            refine wpQuiet_nil ?_
            refine aft_end ?_
            intro w2 hh
            go_wp2
            go_roundw
            case rel => exact ⟨k + 1, by omega, by go_num, by rw [← HS'.out] <;> first | rfl | (simp only [ByteArray.append_assoc]; rfl), hh⟩
            case measure => simp [intOf]; omega
          · have hg1 : decide ((0 : Int) < (k : Int)) = true := decide_eq_true (by omega)
            have hg2 : decide (0 < k) = true := decide_eq_true (by omega)
            have HS' := Lib.hid (HS.out ⟨#[32, 43]⟩ (by rw [if_neg (show ¬ k = 0 by omega)] <;> rfl))
            clear hsrc h0
            go_wp2
            refine wp_region_aft hW (by kernel_rfl) (by kernel_rfl) ?_
            repeat (go_big_quiet_step (((go_at_call 65; exact calls_aft (Nat.le_refl _) (hcon _)))))
            refine wpQuiet_nil ?_
            refine aft_end ?_
            intro w2 hh
            go_wp2
            go_roundw
            case rel => exact ⟨k + 1, by omega, by go_num, by rw [← HS'.out] <;> first | rfl | (simp only [ByteArray.append_assoc]; rfl), hh⟩
            case measure => simp [intOf]; omega
        | false =>
          rw [hsrc] at c2 HS
          rcases Nat.eq_zero_or_pos k with h0 | h0
          · have hg1 : decide ((0 : Int) < (k : Int)) = false := decide_eq_false (by omega)
            have hg2 : decide (0 < k) = false := decide_eq_false (by omega)
            have HS' := Lib.hid (HS.out ⟨#[]⟩ (by rw [if_pos h0] <;> rfl))
            clear hsrc h0
            go_wp2
            refine wp_region_aft hW (by kernel_rfl) (by kernel_rfl) ?_
            repeat (go_big_quiet_step (((go_at_call 65; exact calls_aft (Nat.le_refl _) (hcon _)))))
            refine wpQuiet_nil ?_
            refine aft_end ?_
            intro w2 hh
            go_wp2
            go_roundw
            case rel => exact ⟨k + 1, by omega, by go_num, by rw [← HS'.out] <;> first | rfl | (simp only [ByteArray.append_assoc]; rfl), hh⟩
            case measure => simp [intOf]; omega
          · have hg1 : decide ((0 : Int) < (k : Int)) = true := decide_eq_true (by omega)
            have hg2 : decide (0 < k) = true := decide_eq_true (by omega)
            have HS' := Lib.hid (HS.out ⟨#[32]⟩ (by rw [if_neg (show ¬ k = 0 by omega)] <;> rfl))
            clear hsrc h0
            go_wp2
            refine wp_region_aft hW (by kernel_rfl) (by kernel_rfl) ?_
            repeat (go_big_quiet_step (((go_at_call 65; exact calls_aft (Nat.le_refl _) (hcon _)))))
            refine wpQuiet_nil ?_
            refine aft_end ?_
            intro w2 hh
            go_wp2
            go_roundw
            case rel => exact ⟨k + 1, by omega, by go_num, by rw [← HS'.out] <;> first | rfl | (simp only [ByteArray.append_assoc]; rfl), hh⟩
            case measure => simp [intOf]; omega
      · obtain rfl : k = l.length := by omega
        have HE := Lib.hid (HV.out.trans (congrArg joinRels (List.take_length (l := l)).symm))
        go_wp2
        go_ret
        exact ⟨ret_str (by rw [HE.out]), hW⟩

end Go.Proofs.YteogknfhafdbmaaGreatDoor
