/-
  Walks and plain lemmas for the laws of this seat: what single Go functions return, for every argument.
-/
import Derived.Test.YtmecdjincmkofaaDoorBase
import Derived.Test.YtmecdjincmkofaaDoorInts
import Derived.Test.YtmecdjincmkofaaDoorMInst
namespace Go.Proofs.YtmecdjincmkofaaDoor
open Go.RowKit

set_option maxHeartbeats 1600000 in
theorem implIndexX_any (v : Value) (l : List Int) (x : Int) (w : World) (hl : IntsAt w w.heap.size v l) :
    Calls Tryd.prog 65 #[v, .int .i64 x] w fun e w' => e = .returned (.int .i64 (ixOf (fun y => x == y) l)) ∧ w = w' := by
  have HL := Lib.hid hl
  obtain ⟨A, c, rfl, hlc, hcm, -⟩ := hl
  unfold maxLen at hcm
  go_enter Tryd.func65, Tryd.ntmps65
  go_wp2
  go_loop [8] (fun i => ∃ n : Nat, n ≤ l.length ∧ i = .int .i64 n ∧ Hid (IxTo (fun y => x == y) l n)) (fun i => l.length - (intOf i).toNat)
  case atStart => exact ⟨0, by omega, rfl, Lib.hid (IxTo.zero _ _)⟩
  case round =>
    obtain ⟨n, hn, rfl, HT⟩ := hrel
    by_cases hlt : n < l.length
    · obtain ⟨b, off, rfl, hb, c0⟩ := IntsAt.elem HL.out n hlt
      cases he : (x == l[n]) with
      | true =>
        have HV := Lib.hid (HT.out.hit hlt he)
        obtain ⟨z, hz⟩ : ∃ z, z = l[n] := ⟨_, rfl⟩
        rw [← hz] at c0 he
        clear hz
        go_wp2
        go_ret
        exact ⟨ret_int HV.out.symm, rfl⟩
      | false =>
        have HN := Lib.hid (HT.out.next hlt he)
        obtain ⟨z, hz⟩ : ∃ z, z = l[n] := ⟨_, rfl⟩
        rw [← hz] at c0 he
        clear hz
        go_wp2
        go_round
        case rel => exact ⟨n + 1, by omega, by go_num, HN⟩
        case measure => simp [intOf]; omega
    · obtain rfl : n = l.length := by omega
      have HV := Lib.hid HT.out.miss
      go_wp2
      go_ret
      exact ⟨ret_int HV.out.symm, rfl⟩
theorem any_beq (l : List Int) (x : Int) : l.any (fun y => x == y) = decide (x ∈ l) := by
  by_cases h : x ∈ l
  · rw [decide_eq_true h]; exact List.any_eq_true.2 ⟨x, h, beq_self_eq_true x⟩
  · rw [decide_eq_false h]; exact List.any_eq_false.2 fun y hy e => h (by have := eq_of_beq e; rwa [this])
theorem implContains_at (l : List Int) (x : Int) (q : Bool) (hq : decide (x ∈ l) = q) (v : Value) (w : World) (hl : IntsAt w w.heap.size v l) :
    Calls Tryd.prog 55 #[v, .int .i64 x] w fun e w' => e = .returned (.bool q) ∧ w = w' := by
  subst hq
  have hi := implIndexX_any v l x w hl
  have HV := Lib.hid ((ixOf_any (fun y => x == y) l).trans (any_beq l x))
  generalize ixOf (fun y => x == y) l = q at *
  obtain ⟨A, c, rfl, hlc, hcm, -⟩ := hl
  go_enter Tryd.func55, Tryd.ntmps55
  go_wp2_with (go_at_call 65; refine hi.mono ?_; rintro e w1 ⟨rfl, rfl⟩)
  go_ret
  exact ⟨ret_bool HV.out, rfl⟩

end Go.Proofs.YtmecdjincmkofaaDoor
