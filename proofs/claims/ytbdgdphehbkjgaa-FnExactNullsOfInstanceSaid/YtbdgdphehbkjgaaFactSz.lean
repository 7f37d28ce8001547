/-
  Walks and plain lemmas for the laws of this seat: what single Go functions return, for every argument.
-/
import Derived.Test.YtbdgdphehbkjgaaTyFactS
import Derived.Test.YtbdgdphehbkjgaaFactC
namespace Go.Proofs.Ytbdgdphehbkjgaa
open Go.RowKit

set_option maxHeartbeats 800000 in
theorem szFactS_c (v : Value) (l : List Fct) (left : Int) (w : World) (hl : FactS_at w w.heap.size v l) (hw : FactS_wf l) (h0 : 0 ≤ left) (h1 : left ≤ 1048576) :
    Calls Try.prog 68 #[v, .int .i64 left] w fun e w' => e = .returned (.int .i64 (szLeft left (FactS_sz l : Nat))) ∧ Below w.heap.size w w' := by
  have HL := Lib.hid hl
  obtain ⟨A, c, rfl, hlc, hcm⟩ := hl.form
  clear hl
  unfold maxLen at hcm
  have hsz : ((FactS_sz l : Nat) : Int) = (l.length : Int) + (valsLen l : Nat) := by unfold FactS_sz; omega
  rw [hsz]
  clear hsz
  by_cases hn : (l.length : Int) ≤ left
  · go_enter Try.func68, Try.ntmps68
    go_wp2
    go_loopw [1, 5] (fun lf i wr => ∃ k : Nat, k ≤ l.length ∧ i = .int .i64 k ∧ lf = .int .i64 (left - l.length - (valsLen (l.take k) : Nat)) ∧ (l.length : Int) + (valsLen (l.take k) : Nat) ≤ left ∧ Below w.heap.size w wr) (fun _ i _ => l.length - (intOf i).toNat)
    case atStart => exact ⟨0, by omega, rfl, by simp [valsLen], by simp [valsLen]; omega, Below.refl _ _⟩
    case round =>
      obtain ⟨k, hk, rfl, rfl, hle, hW⟩ := hrel
      have hz := hW.size
      by_cases hlt : k < l.length
      · obtain ⟨b, off, V, rfl, hb, c0, c1, hV⟩ := FactS_at.elem (HL.out.below hW (Nat.le_refl _)) k hlt
        have HT := Lib.hid (valsLen_take l k hlt)
        have HLE := Lib.hid (valsLen_le l (k + 1))
        generalize valsLen (l.take k) = q at *
        have hq : 0 ≤ left - l.length - (q : Int) := by omega
        have hat : Fact_at wr wr.heap.size (.agg #[.int .i64 l[k].rel, V]) l[k] := ⟨V, rfl, hV.more hz⟩
        have hsz := szFact_c _ l[k] (left - l.length - (q : Int)) wr hat (hw k hlt) hq (by omega)
        unfold Fact_sz at hsz
        clear hat
        by_cases hfit : (l[k].vals.length : Int) ≤ left - l.length - (q : Int)
        · rw [szLeft_yes hfit] at hsz
          have e1 : left - l.length - (q : Int) - (l[k].vals.length : Nat) = left - l.length - ((q + l[k].vals.length : Nat) : Int) := by omega
          rw [e1] at hsz
          clear e1
          go_wp2_with (go_at_call 29; refine hsz.mono ?_; rintro e w1 ⟨rfl, hb1⟩)
          go_roundw
          case rel => exact ⟨k + 1, by omega, by go_num, by rw [HT.out]; go_num, by rw [HT.out]; omega, hW.trans (hb1.mono hz)⟩
          case measure => simp [intOf]; omega
        · rw [szLeft_no hfit] at hsz
          have e2 := Lib.hid (szLeft_no (left := left) (n := (l.length : Int) + (valsLen l : Nat)) (by have := HT.out; have := HLE.out; omega))
          go_wp2_with (go_at_call 29; refine hsz.mono ?_; rintro e w1 ⟨rfl, hb1⟩)
          go_ret
          exact ⟨ret_int e2.out.symm, hW.trans (hb1.mono hz)⟩
      · obtain rfl : k = l.length := by omega
        have HT := Lib.hid (congrArg valsLen (List.take_length (l := l)))
        generalize valsLen (l.take l.length) = q at *
        have e2 := Lib.hid (szLeft_yes (left := left) (n := (l.length : Int) + (valsLen l : Nat)) (by have := HT.out; omega))
        go_wp2
        go_ret
        exact ⟨ret_int (by rw [e2.out]; have := HT.out; omega), hW⟩
  · have e2 := Lib.hid (szLeft_no (left := left) (n := (l.length : Int) + (valsLen l : Nat)) (by omega))
    go_enter Try.func68, Try.ntmps68
    go_wp2
    go_ret
    exact ⟨ret_int e2.out.symm, Below.refl _ _⟩

end Go.Proofs.Ytbdgdphehbkjgaa
