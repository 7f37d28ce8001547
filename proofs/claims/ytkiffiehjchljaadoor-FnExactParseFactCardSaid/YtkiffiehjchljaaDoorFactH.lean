/-
  Walks and plain lemmas for the laws of this seat: what single Go functions return, for every argument.
-/
import Derived.Test.YtkiffiehjchljaaDoorFactF
namespace Go.Proofs.YtkiffiehjchljaaDoor
open Go.RowKit

set_option maxHeartbeats 400000 in
theorem heldFact_any (r : Int) (v : Value) (n : Nat) (k : Nat) (w : World) (hl : IntsAt w w.heap.size v (markInts k n)) (hn : n ≤ 1048576) (hk2 : k ≤ 1000000000000) :
    Calls Tryd.prog 17 #[.agg #[.int .i64 r, v], .int .i64 (k : Int)] w fun e w' => e = .returned (.int .i64 ((k : Int) + (n : Nat))) ∧ Below w.heap.size w w' := by
  have hb : Below w.heap.size w (w.alloc (.cells #[.int .i64 r, v] 31)) := (Below.refl _ _).alloc (Nat.le_refl _) _
  have hcon := heldIntS_any v n k w.heap.size _ (hl.below hb (Nat.le_refl _)) hn hk2
  clear hl
  go_enter Tryd.func17, Tryd.ntmps17
  go_wp2_with fail
  refine hcon.mono ?_
  rintro e w' ⟨rfl, rfl⟩
  go_wp2
  go_ret
  exact ⟨rfl, hb⟩

set_option maxHeartbeats 400000 in
theorem markFact_any (B : Nat) (r : Int) (v : Value) (l : List Int) (k : Nat) (w : World) (hO : OwnInts B v l w) (hn : l.length ≤ 1048576) (hk2 : k ≤ 1000000000000) :
    Calls Tryd.prog 16 #[.agg #[.int .i64 r, v], .int .i64 (k : Int)] w fun e w' => e = .returned (.int .i64 ((k : Int) + (l.length : Nat))) ∧ OwnInts B v (markInts k l.length) w' ∧ Chg (fun g => v.ownBlock = some g) w w' := by
  have hb : Below w.heap.size w (w.alloc (.cells #[.int .i64 r, v] 31)) := (Below.refl _ _).alloc (Nat.le_refl _) _
  have hcon := markIntS_any B v l k _ (hO.below hb (Nat.le_refl _)) hn hk2
  clear hO
  go_enter Tryd.func16, Tryd.ntmps16
  go_wp2_with fail
  refine hcon.mono ?_
  rintro e w' ⟨rfl, hO', hc⟩
  go_wp2
  go_ret
  exact ⟨rfl, hO', (Chg.of_below hb).trans hc⟩

end Go.Proofs.YtkiffiehjchljaaDoor
