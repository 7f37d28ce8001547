/-
  Walks and plain lemmas for the laws of this seat: what single Go functions return, for every argument.
-/
import Derived.Test.YtakflmaeclneiaaDoorFmtS
import Derived.Test.YtakflmaeclneiaaDoorDraw
import Derived.Test.YtakflmaeclneiaaDoorAft
import Derived.Test.YtakflmaeclneiaaDoorPosI
import Derived.Test.YtakflmaeclneiaaDoorFmtR
namespace Go.Proofs.YtakflmaeclneiaaDoor
open Go.RowKit

set_option maxHeartbeats 3200000 in
set_option maxRecDepth 100000 in
theorem implFormatPosition_any (v : Value) (l : List Rel) (p : Int) (w : World) (hl : RelsAt w w.heap.size v l) (hp0 : -9223372036854775808 ≤ p ∧ p ≤ 9223372036854775807) (ht : Tab w) :
    Calls Tryd.prog 14 #[v, .int .i64 p] w fun e w' => e = .returned (.string (fmtPosS l p)) ∧ Below w.heap.size w w' := by
  have HL := Lib.hid hl
  have HT := Lib.hid ht
  clear ht
  have hcnt := implPositionCount_any v l w hl
  obtain ⟨A, c, rfl, hlc, hcm, -⟩ := hl
  unfold maxLen at hcm
  by_cases hin : 0 ≤ p ∧ p < posCnt l
  · have hix := fun w => implIsIndex_at p (posCnt l) true (decide_eq_true hin) w
    have hv : validRels l = true := by
      cases h : validRels l with
      | true => rfl
      | false => rw [posCnt_no h] at hin; omega
    have HV := Lib.hid hv
    have hlen := vrels_len hv
    have HP0 := Lib.hid hin.1
    have hps : p ≤ 18 := by have := posCnt_bd l; omega
    have HPE := Lib.hid (show ¬ arSum l ≤ p by rw [← posCnt_yes hv]; omega)
    clear hv hin
    generalize posCnt l = n at *
    go_enter Tryd.func14, Tryd.ntmps14
    go_wp2_with fail
    refine hcnt.mono ?_
    rintro e w1 ⟨rfl, hb1⟩
    go_wp2_with fail
    refine (hix w1).mono ?_
    rintro e w2 ⟨rfl, rfl⟩
    have HB1 := Lib.hid hb1
    clear hcnt hix hb1
    go_wp2
    go_loopw [1, 14] (fun pv i wr => ∃ k : Nat, k ≤ l.length ∧ i = .int .i64 (k : Int) ∧ pv = .int .i64 (p - arSum (l.take k)) ∧ Hid (arSum (l.take k) ≤ p) ∧ Hid (Below w.heap.size w wr)) (fun _ i _ => l.length - (intOf i).toNat)
    case atStart => exact ⟨0, by omega, rfl, by simp [arSum], Lib.hid (by simpa [arSum] using HP0.out), HB1⟩
    case round =>
      obtain ⟨k, hk, rfl, rfl, HS, HW⟩ := hrel
      clear HB1
      have hz := HW.out.size
      by_cases hlt : k < l.length
      · obtain ⟨b, off, rfl, hb, c0, c1, c2⟩ := RelsAt.elem (HL.out.below HW.out (Nat.le_refl _)) k hlt
        have hbd := arSum_small HV.out k
        have hbe := validRels_ar HV.out l[k] (List.getElem_mem hlt)
        have hps0 := HS.out
        have HTK := Lib.hid (arSum_take l k hlt)
        have hN1 := (relOk_bd _ _ (validRels_at l HV.out k hlt)).1
        have HHIT := Lib.hid (fun h => fmtPosS_some (posOf_hit HV.out k hlt HS.out HP0.out h))
        obtain ⟨W1, hEq⟩ : ∃ W1, W1 = wr.alloc (.cells #[.string l[k].name, .int .i64 l[k].arity, .bool l[k].source] 35) := ⟨_, rfl⟩
        have HB1 := Lib.hid (show Below w.heap.size w W1 by rw [hEq]; exact HW.out.alloc hz _)
        have HZ1 := Lib.hid (show W1.heap.size = wr.heap.size + 1 by rw [hEq]; simp)
        have X0 := Lib.hid (show W1.cell? ⟨wr.heap.size, 0, none⟩ = some (.string l[k].name) by rw [hEq]; simp [go_sem])
        have X1 := Lib.hid (show W1.cell? ⟨wr.heap.size, 1, none⟩ = some (.int .i64 l[k].arity) by rw [hEq]; simp [go_sem])
        generalize arSum (l.take k) = S at *
        generalize l[k].arity = a at *
        generalize l[k].name = N at *
        generalize l[k].source = sr at *
        go_upto_region 6 with fail
        rw [← hEq]
        clear hEq c0 c1 c2
        have x1 := X1.out
        have hz1 := HZ1.out
        by_cases hlt2 : p - S < a
        · have hd : decide (p - S < a) = true := decide_eq_true hlt2
          have HVAL := Lib.hid (HHIT.out (by omega))
          have hB : ByteArray.size ⟨(Lib.itoa (p - S)).toArray⟩ ≤ 2 := by rw [size_mk]; exact itoa_le2 _ (by omega) (by omega)
          have hfi := fun (u : Aft W1.heap.size W1) => implFormatInt_any (p - S) u.now (by omega) (by omega) (HT.out.below (HB1.out.trans (u.is.mono (by omega))))
          have X0a := Aft.cell (B := W1.heap.size) (w := W1) (by omega) X0.out
          clear hlt2
          generalize (⟨(Lib.itoa (p - S)).toArray⟩ : ByteArray) = B at *
          go_upto_region 7 with fail
          clear x1
          refine wp_region_aft (Below.refl W1.heap.size W1) (by kernel_rfl) (by kernel_rfl) ?_
          repeat (go_big_quiet_step (((go_at_call 32; exact calls_aft (Nat.le_refl _) (hfi _)))))
          refine wpQuiet_nil ?_
          refine aft_end ?_
          intro w2 hh
          have HF := Lib.hid (HB1.out.trans (hh.mono (by omega)))
          clear hh X0a
          go_wp2
          go_ret
          exact ⟨ret_str HVAL.out.symm, HF.out⟩
        · have hd : decide (p - S < a) = false := decide_eq_false hlt2
          have HSX := Lib.hid (show arSum (l.take (k + 1)) ≤ p by rw [HTK.out]; omega)
          have HSQ := Lib.hid (show p - S - a = p - arSum (l.take (k + 1)) by rw [HTK.out]; omega)
          clear hlt2
          go_wp2
          go_roundw
          case rel => exact ⟨k + 1, by omega, by go_num, by rw [HSQ.out], HSX, HB1⟩
          case measure => simp [intOf]; omega
      · exfalso
        obtain rfl : k = l.length := by omega
        have := HS.out
        rw [List.take_length] at this
        have h9 := HPE.out
        omega
  · have hix := fun w => implIsIndex_at p (posCnt l) false (decide_eq_false hin) w
    have HV := Lib.hid (fmtPosS_none (posOf_far hin))
    have hbd := posCnt_bd l
    clear hin
    generalize posCnt l = n at *
    go_enter Tryd.func14, Tryd.ntmps14
    go_wp2_with fail
    refine hcnt.mono ?_
    rintro e w1 ⟨rfl, hb1⟩
    go_wp2_with fail
    refine (hix w1).mono ?_
    rintro e w2 ⟨rfl, rfl⟩
    go_wp2
    go_ret
    exact ⟨ret_str HV.out.symm, hb1⟩
theorem implFormatPosition_c (v : Value) (l : List Rel) (p : Int) (w : World) (hl : RelationS_at w w.heap.size v l) (_ : RelationS_wf l) (_ : RelationS_sz l ≤ 1048576) (hp0 : -9223372036854775808 ≤ p ∧ p ≤ 9223372036854775807) (ht : Tab w) :
    Calls Tryd.prog 14 #[v, .int .i64 p] w fun e w' => e = .returned (.string (fmtPosS l p)) ∧ Below w.heap.size w w' := implFormatPosition_any v l p w hl hp0 ht

theorem big_any (q : Option Addr) (n c : Nat) (w : World) :
    Calls Tryd.prog 5 #[.slice q n c] w fun e w' => e = .returned (.bool (decide (1048576 < (n : Int)))) ∧ w = w' := by
  go_enter Tryd.func5, Tryd.ntmps5
  go_wp2
  go_ret
  exact ⟨rfl, rfl⟩

end Go.Proofs.YtakflmaeclneiaaDoor
