/-
  Walks and plain lemmas for the laws of this seat: what single Go functions return, for every argument.
-/
import Derived.Test.YteogknfhafdbmaaGreatDoorCut
import Derived.Test.YteogknfhafdbmaaGreatDoorStrs
namespace Go.Proofs.YteogknfhafdbmaaGreatDoor
open Go.RowKit

/-- the pieces between the spaces, in memory of the call's own -/
def GivesCut (c : UInt8) (s : ByteArray) (w : World) (e : Ending) (w' : World) : Prop := ∃ v l, e = .returned v ∧ dataOf l = cutA c s.data.toList ∧ OwnStrs w.heap.size v l w' ∧ Below w.heap.size w w'
theorem extract_mid (s : ByteArray) (f k : Nat) : (s.extract f k).data.toList = (s.data.toList.take k).drop f := by
  rw [Lib.extract_data, List.drop_take]
set_option maxHeartbeats 1600000 in
theorem specCutAt_any (c : UInt8) (s : ByteArray) (w : World) (hs : s.size ≤ 1048576) :
    Calls Tryz.prog 21 #[.string s, .int .u8 ((c.toNat : Nat) : Int)] w (GivesCut c s w) := by
  go_enter Tryz.func21, Tryz.ntmps21
  go_wp2
  go_loopw [5, 6, 7] (fun v f i wr => ∃ k j : Nat, ∃ l : List ByteArray, k ≤ s.size ∧ j ≤ k ∧ l.length ≤ k ∧ i = .int .i64 k ∧ f = .int .i64 j ∧ OwnStrs w.heap.size v l wr ∧ Hid (CutInv c s.data.toList (dataOf l) j k) ∧ Below w.heap.size w wr) (fun _ _ i _ => s.size - (intOf i).toNat)
  case atStart => exact ⟨0, 0, [], by omega, by omega, by simp, rfl, rfl, OwnStrs.empty w _ (Nat.le_refl _), Lib.hid (CutInv.zero _ _), (Below.refl _ _).alloc (Nat.le_refl _) _⟩
  case round =>
    obtain ⟨k, j, l, hk, hj, hl, rfl, rfl, hO, HC, hW⟩ := hrel
    have hz := hW.size
    by_cases hlt : k < s.size
    · have hlt' : k < s.data.toList.length := by simpa using hlt
      by_cases he : s[k] = c
      · have hb : (((s[k].toNat : Nat) : Int) == ((c.toNat : Nat) : Int)) = true := by rw [he]; exact beq_self_eq_true _
        have HI := Lib.hid (HC.out.hit hlt' he)
        clear he
        go_wp2_with (at_builtin; refine strs_app1 hO rfl _ _ rfl rfl _ _ _ rfl rfl (by omega) hz ?_; intro v' w1 hO1 hW1 _)
        go_roundw
        case rel => exact ⟨k + 1, k + 1, _, by omega, by omega, by simp; omega, by go_num, by go_num, hO1, by rw [dataOf_snoc, extract_mid]; exact HI, hW.trans hW1⟩
        case measure => simp [intOf]; omega
      · have hb : (((s[k].toNat : Nat) : Int) == ((c.toNat : Nat) : Int)) = false := by
          rw [beq_eq_false_iff_ne]
          intro e
          exact he (UInt8.toNat_inj.1 (by omega))
        have HI := Lib.hid (HC.out.miss hlt' he)
        clear he
        go_wp2
        go_roundw
        case rel => exact ⟨k + 1, j, l, by omega, by omega, by omega, by go_num, rfl, hO, HI, hW⟩
        case measure => simp [intOf]; omega
    · obtain rfl : k = s.size := by omega
      have HD := Lib.hid (HC.out.done (by simp))
      go_wp2_with (at_builtin; refine strs_app1 hO rfl _ _ rfl rfl _ _ _ rfl rfl (by omega) hz ?_; intro v' w1 hO1 hW1 _)
      go_ret
      exact ⟨_, _, rfl, by rw [HD.out, dataOf_snoc, extract_mid, List.take_of_length_le (by simp)], hO1, hW.trans hW1⟩
theorem specCut_any (s : ByteArray) (w : World) (hs : s.size ≤ 1048576) :
    Calls Tryz.prog 21 #[.string s, .int .u8 32] w (GivesCut 32 s w) := specCutAt_any 32 s w hs

end Go.Proofs.YteogknfhafdbmaaGreatDoor
