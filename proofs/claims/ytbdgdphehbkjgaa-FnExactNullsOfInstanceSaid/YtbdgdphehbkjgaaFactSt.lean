/-
  Walks and plain lemmas for the laws of this seat: what single Go functions return, for every argument.
-/
import Derived.Test.YtbdgdphehbkjgaaTyFactS
import Derived.Test.YtbdgdphehbkjgaaFactC
namespace Go.Proofs.Ytbdgdphehbkjgaa
open Go.RowKit

theorem make_facts (w : World) (n : Nat) (hn : n ≤ 1048576) : (Instr.makeSlice 25 (.int .i64 (n : Int)) (.int .i64 (n : Int))).run Try.prog w = .ok (.slice (some ⟨w.heap.size, 0, none⟩) n n) (w.alloc (.cells (madeCells #[.int .i64 0, .slice none 0 0] (n * 2)) 30)) := by
  obtain ⟨i0, hi, hz0, hz1, hz2⟩ := info_parts infoFct
  have hr := run_make (P := Try.prog) w 25 30 i0 _ Try.underlying25 hi hz0 .i64 .i64 (n : Int) (n : Int) (by omega) (by omega) (by rw [hz2]; omega) (by omega)
  simp only [Int.toNat_natCast, hz1] at hr
  exact hr
theorem take_zero_fct (l : List Fct) (k : Nat) (h : k < l.length) : (l.take k ++ List.replicate (l.length - k) zeroFct).set k l[k] = l.take (k + 1) ++ List.replicate (l.length - (k + 1)) zeroFct := by
  rw [List.set_append_right _ _ (by simp; omega), List.length_take_of_le (by omega), Nat.sub_self, List.take_succ_eq_append_getElem h, show l.length - k = (l.length - (k + 1)) + 1 by omega, List.replicate_succ, List.set_cons_zero, List.append_assoc]
  rfl
set_option maxHeartbeats 1600000 in
theorem toFactS_c (v : Value) (l : List Fct) (w : World) (hl : FactS_at w w.heap.size v l) (hn : FactS_sz l ≤ 1048576) :
    Calls Try.prog 73 #[v] w fun e w' => ∃ u, e = .returned u ∧ FactS_own w.heap.size w'.heap.size u l w' ∧ Below w.heap.size w w' := by
  have HL := Lib.hid hl
  obtain ⟨A, c, rfl, hlc, hcm⟩ := hl.form
  clear hl
  unfold maxLen at hcm
  have hn1 : l.length ≤ 1048576 := by unfold FactS_sz at hn; omega
  have hel : ∀ k (h : k < l.length), Fact_sz l[k] ≤ 1048576 := fun k h => by
    have h1 := valsLen_take l k h
    have h2 := valsLen_le l (k + 1)
    unfold FactS_sz at hn; unfold Fact_sz; omega
  have hmk := fun w => make_facts w l.length hn1
  go_enter Try.func73, Try.ntmps73
  go_wp2
  clear hmk
  go_loopw [4] (fun i wr => ∃ k : Nat, ∃ Vs, k ≤ l.length ∧ i = .int .i64 k ∧ FactSO 30 w.heap.size wr.heap.size (.slice (some ⟨w.heap.size, 0, none⟩) l.length l.length) Vs (l.take k ++ List.replicate (l.length - k) zeroFct) wr ∧ Below w.heap.size w wr) (fun i _ => l.length - (intOf i).toNat)
  case atStart => exact ⟨0, _, by omega, rfl, (FactSO.made w l.length hn1).mono (Nat.le_refl _) (by simp), (Below.refl _ _).alloc (Nat.le_refl _) _⟩
  case round =>
    obtain ⟨k, Vs, hk, rfl, hO, hW⟩ := hrel
    have hz := hW.size
    by_cases hlt : k < l.length
    · obtain ⟨b, off, V, rfl, hb, c0, c1, hV⟩ := FactS_at.elem (HL.out.below hW (Nat.le_refl _)) k hlt
      have hcon := toFact_c _ l[k] wr ⟨V, rfl, hV.more hz⟩ (hel k hlt)
      have hlen : (l.take k ++ List.replicate (l.length - k) zeroFct).length = l.length := by simp; omega
      have hkl : k < (l.take k ++ List.replicate (l.length - k) zeroFct).length := by omega
      have hkv : k < Vs.length := by rw [hO.len]; exact hkl
      have HLen := Lib.hid hlen
      have HO := Lib.hid hO
      clear hlen hO
      go_wp2_with fail
      refine hcon.mono ?_
      rintro e w1 ⟨u, rfl, hu, hb1⟩
      have hz1 := hb1.size
      obtain ⟨U, rfl, hU⟩ := hu
      obtain ⟨P, cu, rfl, -, -, -⟩ := hU.1.at_
      have hO1 := HO.out.below hb1 (Nat.le_refl _)
      obtain ⟨d0, d1⟩ := hO1.cells HLen.out k hkl hkv
      have hfz := hO1.frozen HLen.out
      have HS := Lib.hid (FactSO.set (e := 30) (by decide) (hO1.mono (Nat.le_refl _) hz1) HLen.out k hlt l[k] _ (hU.mono hz (Nat.le_refl _)) (fun i hi _ q hq1 hq2 => by
        have h1 := (hU.1.lt q hq2).1
        have h2 := (HO.out.el i (by have := HO.out.len; omega) hi).2 q hq1
        omega))
      clear hO1
      go_wp2
      go_roundw
      case rel => exact ⟨k + 1, _, by omega, by go_num, by rw [← take_zero_fct l k hlt]; exact HS.out.mono (Nat.le_refl _) (by simp [World.setCell]), ((hW.trans (hb1.mono hz)).setCell (p := ⟨w.heap.size, k * 2, none⟩) (Nat.le_refl _) _).setCell (p := ⟨w.heap.size, k * 2 + 1, none⟩) (Nat.le_refl _) _⟩
      case measure => simp [intOf]; omega
    · obtain rfl : k = l.length := by omega
      have hO' : FactSO 30 w.heap.size wr.heap.size (.slice (some ⟨w.heap.size, 0, none⟩) l.length l.length) Vs l wr := by simpa using hO
      clear hO
      go_wp2
      go_ret
      exact ⟨_, rfl, ⟨Vs, hO'⟩, hW⟩

end Go.Proofs.Ytbdgdphehbkjgaa
