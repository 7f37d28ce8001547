/-
  Walks and plain lemmas for the laws of this seat: what single Go functions return, for every argument.
-/
import Derived.Test.YtakflmaeclneiaaDoorRels
import Derived.Test.YtakflmaeclneiaaDoorNum
import Derived.Test.YtakflmaeclneiaaDoorAft
import Derived.Test.YtakflmaeclneiaaDoorFactV
namespace Go.Proofs.YtakflmaeclneiaaDoor
open Go.RowKit

set_option maxHeartbeats 1600000 in
set_option maxRecDepth 100000 in
theorem specPositionIndex_any (v : Value) (l : List Rel) (r i : Int) (w : World) (hl : RelsAt w w.heap.size v l) (hr0 : -9223372036854775808 ≤ r ∧ r ≤ 9223372036854775807) (hi0 : -9223372036854775808 ≤ i ∧ i ≤ 9223372036854775807) :
    Calls Tryd.prog 10 #[v, .int .i64 r, .int .i64 i] w fun e w' => e = .returned (.int .i64 (posIx l r i)) ∧ Below w.heap.size w w' := by
  have HL := Lib.hid hl
  obtain ⟨A, c, rfl, hlc, hcm, -⟩ := hl
  unfold maxLen at hcm
  cases hv : validRels l with
  | false =>
    have HF := Lib.hid (posIx_rels (r := r) (i := i) hv)
    have hcon := specAreValid_at2 l false hv (.slice A l.length c) w HL.out
    clear hv
    go_enter Tryd.func10, Tryd.ntmps10
    go_wp2_with (go_at_call 30; refine hcon.mono ?_; rintro e w1 ⟨rfl, hb1⟩)
    go_ret
    exact ⟨ret_int HF.out.symm, hb1⟩
  | true =>
    have HR := Lib.hid hv
    have hcon := specAreValid_at2 l true hv (.slice A l.length c) w HL.out
    have hlen := vrels_len hv
    clear hv
    by_cases hr : 0 ≤ r ∧ r < l.length
    · obtain ⟨k, rfl⟩ : ∃ k : Nat, r = (k : Int) := ⟨r.toNat, by omega⟩
      have hk : k < l.length := by omega
      have hin1 := fun w => l1In_at (k : Int) 0 ((l.length : Int) - 1) true (by unfold inB; exact decide_eq_true (by omega)) w
      obtain ⟨b, off, rfl, hb, -, c1, -⟩ := RelsAt.elem HL.out k hk
      have ha : l[k].arity = arityAt l (k : Int) := by rw [arityAt_in (by simpa using hk)]; rfl
      have hab := arityAt_bd HR.out hr
      rw [ha] at c1
      have C1 := Lib.hid c1
      clear c1 ha
      by_cases hi : 0 ≤ i ∧ i < arityAt l (k : Int)
      · have hin2 := fun w => l1In_at i 0 (arityAt l (k : Int) - 1) true (by unfold inB; exact decide_eq_true (by omega)) w
        have HF := Lib.hid (posIx_yes (l := l) (r := k) (i := i) ⟨HR.out, hr, hi⟩)
        generalize arityAt l (k : Int) = q at *
        go_enter Tryd.func10, Tryd.ntmps10
        go_wp2_with fail
        refine hcon.mono ?_
        rintro e w1 ⟨rfl, hb1⟩
        have f2 := (hb1.cell (p := ⟨b, off + k * 3 + 1, none⟩) hb).trans C1.out
        go_wp2_with fail
        refine (hin1 w1).mono ?_
        rintro e w2 ⟨rfl, rfl⟩
        go_wp2_with fail
        refine (hin2 w1).mono ?_
        rintro e w3 ⟨rfl, rfl⟩
        clear f2 hin1 hin2 hcon
        go_wp2
        go_loop [7, 8] (fun n j => ∃ m : Nat, m ≤ k ∧ j = .int .i64 (m : Int) ∧ n = .int .i64 (arSum (l.take m))) (fun _ j => k - (intOf j).toNat)
        case atStart => exact ⟨0, by omega, rfl, by simp [arSum]⟩
        case round =>
          obtain ⟨m, hm, rfl, rfl⟩ := hrel
          by_cases hlt : m < k
          · obtain ⟨b', off', hA', hb', -, c1', -⟩ := RelsAt.elem HL.out m (by omega)
            obtain ⟨rfl, rfl⟩ : b = b' ∧ off = off' := by simpa using hA'
            have f3 := (hb1.cell (p := ⟨b, off + m * 3 + 1, none⟩) hb).trans c1'
            have HT := Lib.hid (arSum_take l m (by omega))
            have hbd := arSum_small HR.out m
            have hbe := validRels_ar HR.out l[m] (List.getElem_mem (by omega))
            clear c1' hA'
            generalize arSum (l.take m) = S at *
            generalize l[m].arity = a at *
            go_wp2
            go_round
            case rel => exact ⟨m + 1, by omega, by go_num, by rw [HT.out]⟩
            case measure => simp [intOf]; omega
          · obtain rfl : m = k := by omega
            have hbd := arSum_small HR.out m
            have HF2 := Lib.hid (show posIx l (m : Int) i = arSum (l.take m) + i by rw [HF.out]; simp)
            generalize arSum (l.take m) = S at *
            go_wp2
            go_ret
            exact ⟨ret_int HF2.out.symm, hb1⟩
      · have hin2 := fun w => l1In_at i 0 (arityAt l (k : Int) - 1) false (by unfold inB; exact decide_eq_false (by omega)) w
        have HF := Lib.hid (posIx_col (l := l) (r := k) (i := i) hi)
        generalize arityAt l (k : Int) = q at *
        clear hi
        go_enter Tryd.func10, Tryd.ntmps10
        go_wp2_with fail
        refine hcon.mono ?_
        rintro e w1 ⟨rfl, hb1⟩
        have f2 := (hb1.cell (p := ⟨b, off + k * 3 + 1, none⟩) hb).trans C1.out
        go_wp2_with fail
        refine (hin1 w1).mono ?_
        rintro e w2 ⟨rfl, rfl⟩
        go_wp2_with fail
        refine (hin2 w1).mono ?_
        rintro e w3 ⟨rfl, rfl⟩
        go_wp2
        go_ret
        exact ⟨ret_int HF.out.symm, hb1⟩
    · have HF := Lib.hid (posIx_rel (l := l) (r := r) (i := i) hr)
      have hin1 := fun w => l1In_at r 0 ((l.length : Int) - 1) false (by unfold inB; exact decide_eq_false (by omega)) w
      clear hr
      go_enter Tryd.func10, Tryd.ntmps10
      go_wp2_with fail
      refine hcon.mono ?_
      rintro e w1 ⟨rfl, hb1⟩
      go_wp2_with fail
      refine (hin1 w1).mono ?_
      rintro e w2 ⟨rfl, rfl⟩
      go_wp2
      go_ret
      exact ⟨ret_int HF.out.symm, hb1⟩
theorem specPositionIndex_at (l : List Rel) (r i q : Int) (hq : posIx l r i = q) (v : Value) (w : World) (hl : RelsAt w w.heap.size v l) (hr0 : -9223372036854775808 ≤ r ∧ r ≤ 9223372036854775807) (hi0 : -9223372036854775808 ≤ i ∧ i ≤ 9223372036854775807) :
    Calls Tryd.prog 10 #[v, .int .i64 r, .int .i64 i] w fun e w' => e = .returned (.int .i64 q) ∧ Below w.heap.size w w' := by
  subst hq; exact specPositionIndex_any v l r i w hl hr0 hi0
theorem specPositionIndex_c (v : Value) (l : List Rel) (r i : Int) (w : World) (hl : RelationS_at w w.heap.size v l) (_ : RelationS_wf l) (_ : RelationS_sz l ≤ 1048576) (hr0 : -9223372036854775808 ≤ r ∧ r ≤ 9223372036854775807) (hi0 : -9223372036854775808 ≤ i ∧ i ≤ 9223372036854775807) :
    Calls Tryd.prog 10 #[v, .int .i64 r, .int .i64 i] w fun e w' => e = .returned (.int .i64 (posIx l r i)) ∧ Below w.heap.size w w' := specPositionIndex_any v l r i w hl hr0 hi0

set_option maxHeartbeats 1600000 in
set_option maxRecDepth 100000 in
theorem specPositionCount_any (v : Value) (l : List Rel) (w : World) (hl : RelsAt w w.heap.size v l) :
    Calls Tryd.prog 12 #[v] w fun e w' => e = .returned (.int .i64 (posCnt l)) ∧ Below w.heap.size w w' := by
  have HL := Lib.hid hl
  obtain ⟨A, c, rfl, hlc, hcm, -⟩ := hl
  unfold maxLen at hcm
  cases hv : validRels l with
  | false =>
    have HF := Lib.hid (posCnt_no hv)
    have hcon := specAreValid_at2 l false hv (.slice A l.length c) w HL.out
    clear hv
    by_cases h0 : 0 < l.length
    · go_enter Tryd.func12, Tryd.ntmps12
      go_wp2
      go_loop [3, 4] (fun n j => n = .int .i64 0 ∧ j = .int .i64 0) (fun _ _ => 0)
      case atStart => exact ⟨rfl, rfl⟩
      case round =>
        obtain ⟨rfl, rfl⟩ := hrel
        go_wp2_with (go_at_call 30; refine hcon.mono ?_; rintro e w1 ⟨rfl, hb1⟩)
        go_ret
        exact ⟨ret_int HF.out.symm, hb1⟩
    · go_enter Tryd.func12, Tryd.ntmps12
      go_wp2
      go_loop [3, 4] (fun n j => n = .int .i64 0 ∧ j = .int .i64 0) (fun _ _ => 0)
      case atStart => exact ⟨rfl, rfl⟩
      case round =>
        obtain ⟨rfl, rfl⟩ := hrel
        go_wp2
        go_ret
        exact ⟨ret_int HF.out.symm, Below.refl _ _⟩
  | true =>
    have HR := Lib.hid hv
    have hcon := fun (w' : World) (hb : Below w.heap.size w w') => specAreValid_at2 l true HR.out (.slice A l.length c) w' ((HL.out.below hb (Nat.le_refl _)).more hb.size)
    have hlen := vrels_len hv
    clear hv
    go_enter Tryd.func12, Tryd.ntmps12
    go_wp2
    go_loopw [3, 4] (fun n j wr => ∃ m : Nat, m ≤ l.length ∧ j = .int .i64 (m : Int) ∧ n = .int .i64 (arSum (l.take m)) ∧ Below w.heap.size w wr) (fun _ j _ => l.length - (intOf j).toNat)
    case atStart => exact ⟨0, by omega, rfl, by simp [arSum], Below.refl _ _⟩
    case round =>
      obtain ⟨m, hm, rfl, rfl, hW⟩ := hrel
      have hz := hW.size
      by_cases hlt : m < l.length
      · obtain ⟨b, off, rfl, hb, -, c1, -⟩ := RelsAt.elem HL.out m hlt
        have HT := Lib.hid (arSum_take l m (by omega))
        have hbd := arSum_small HR.out m
        have hbe := validRels_ar HR.out l[m] (List.getElem_mem (by omega))
        have C1 := Lib.hid ((hW.cell (p := ⟨b, off + m * 3 + 1, none⟩) hb).trans c1)
        clear c1
        generalize arSum (l.take m) = S at *
        generalize l[m].arity = a at *
        replace hcon := hcon wr hW
        go_wp2_with fail
        refine hcon.mono ?_
        rintro e w1 ⟨rfl, hb1⟩
        have f3 := (hb1.cell (p := ⟨b, off + m * 3 + 1, none⟩) (by show b < _; omega)).trans C1.out
        go_wp2
        go_roundw
        case rel => exact ⟨m + 1, by omega, by go_num, by rw [HT.out], hW.trans (hb1.mono hz)⟩
        case measure => simp [intOf]; omega
      · obtain rfl : m = l.length := by omega
        have HF := Lib.hid (show arSum (l.take l.length) = posCnt l by rw [posCnt_yes HR.out, List.take_length])
        have hbd := arSum_small HR.out l.length
        generalize arSum (l.take l.length) = S at *
        go_wp2
        go_ret
        exact ⟨ret_int HF.out, hW⟩
theorem specPositionCount_c (v : Value) (l : List Rel) (w : World) (hl : RelationS_at w w.heap.size v l) (_ : RelationS_wf l) (_ : RelationS_sz l ≤ 1048576) :
    Calls Tryd.prog 12 #[v] w fun e w' => e = .returned (.int .i64 (posCnt l)) ∧ Below w.heap.size w w' := specPositionCount_any v l w hl

end Go.Proofs.YtakflmaeclneiaaDoor
