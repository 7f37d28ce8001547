/-
  Walks and plain lemmas for the laws of this seat: what single Go functions return, for every argument.
-/
import Derived.Test.YtakflmaeclneiaaDoorBase
import Derived.Test.YtakflmaeclneiaaDoorRels
import Derived.Test.YtakflmaeclneiaaDoorPos
import Derived.Test.YtakflmaeclneiaaDoorFactVI
namespace Go.Proofs.YtakflmaeclneiaaDoor
open Go.RowKit

set_option maxHeartbeats 1600000 in
set_option maxRecDepth 100000 in
theorem implPositionCount_any (v : Value) (l : List Rel) (w : World) (hl : RelsAt w w.heap.size v l) :
    Calls Tryd.prog 11 #[v] w fun e w' => e = .returned (.int .i64 (posCnt l)) ∧ Below w.heap.size w w' := by
  have HL := Lib.hid hl
  obtain ⟨A, c, rfl, hlc, hcm, -⟩ := hl
  unfold maxLen at hcm
  cases hv : validRels l with
  | false =>
    have HF := Lib.hid (posCnt_no hv)
    have hcon := implAreValid_at2 l false hv (.slice A l.length c) w HL.out
    clear hv
    go_enter Tryd.func11, Tryd.ntmps11
    go_wp2_with (go_at_call 23; refine hcon.mono ?_; rintro e w1 ⟨rfl, hb1⟩)
    go_ret
    exact ⟨ret_int HF.out.symm, hb1⟩
  | true =>
    have HR := Lib.hid hv
    have hcon := implAreValid_at2 l true hv (.slice A l.length c) w HL.out
    have hlen := vrels_len hv
    clear hv
    go_enter Tryd.func11, Tryd.ntmps11
    go_wp2_with fail
    refine hcon.mono ?_
    rintro e w1 ⟨rfl, hb1⟩
    have hz1 := hb1.size
    clear hcon
    go_wp2
    go_loopw [3, 11] (fun n j wr => ∃ m : Nat, m ≤ l.length ∧ j = .int .i64 (m : Int) ∧ n = .int .i64 (arSum (l.take m)) ∧ Below w.heap.size w wr) (fun _ j _ => l.length - (intOf j).toNat)
    case atStart => exact ⟨0, by omega, rfl, by simp [arSum], hb1⟩
    case round =>
      obtain ⟨m, hm, rfl, rfl, hW⟩ := hrel
      have hz := hW.size
      by_cases hlt : m < l.length
      · obtain ⟨b, off, rfl, hb, c0, c1, c2⟩ := RelsAt.elem (HL.out.below hW (Nat.le_refl _)) m hlt
        have HT := Lib.hid (arSum_take l m (by omega))
        have hbd := arSum_small HR.out m
        have hbe := validRels_ar HR.out l[m] (List.getElem_mem (by omega))
        generalize arSum (l.take m) = S at *
        generalize l[m].arity = a at *
        generalize l[m].name = nm at *
        generalize l[m].source = sr at *
        go_wp2
        go_roundw
        case rel => exact ⟨m + 1, by omega, by go_num, by rw [HT.out], hW.alloc hz _⟩
        case measure => simp [intOf]; omega
      · obtain rfl : m = l.length := by omega
        have HF := Lib.hid (show arSum (l.take l.length) = posCnt l by rw [posCnt_yes HR.out, List.take_length])
        have hbd := arSum_small HR.out l.length
        generalize arSum (l.take l.length) = S at *
        go_wp2
        go_ret
        exact ⟨ret_int HF.out, hW⟩
theorem implPositionCount_at (l : List Rel) (q : Int) (hq : posCnt l = q) (v : Value) (w : World) (hl : RelsAt w w.heap.size v l) :
    Calls Tryd.prog 11 #[v] w fun e w' => e = .returned (.int .i64 q) ∧ Below w.heap.size w w' := by
  subst hq; exact implPositionCount_any v l w hl
theorem implPositionCount_c (v : Value) (l : List Rel) (w : World) (hl : RelationS_at w w.heap.size v l) (_ : RelationS_wf l) (_ : RelationS_sz l ≤ 1048576) :
    Calls Tryd.prog 11 #[v] w fun e w' => e = .returned (.int .i64 (posCnt l)) ∧ Below w.heap.size w w' := implPositionCount_any v l w hl

theorem implIsIndex_at (i n : Int) (q : Bool) (hq : decide (0 ≤ i ∧ i < n) = q) (w : World) :
    Calls Tryd.prog 24 #[.int .i64 i, .int .i64 n] w fun e w' => e = .returned (.bool q) ∧ w = w' := by
  by_cases h1 : 0 ≤ i
  · have hd1 : decide (0 ≤ i) = true := decide_eq_true h1
    have hd2 : decide (i < n) = q := by rw [← hq]; exact decide_eq_decide.2 ⟨fun h => ⟨h1, h⟩, fun h => h.2⟩
    clear hq h1
    go_enter Tryd.func24, Tryd.ntmps24
    go_wp2
    go_ret
    exact ⟨rfl, rfl⟩
  · have hd1 : decide (0 ≤ i) = false := decide_eq_false h1
    have HQ := Lib.hid (show false = q by rw [← hq]; exact (decide_eq_false fun h => h1 h.1).symm)
    clear hq h1
    go_enter Tryd.func24, Tryd.ntmps24
    go_wp2
    go_ret
    exact ⟨ret_bool HQ.out, rfl⟩

end Go.Proofs.YtakflmaeclneiaaDoor
