/-
  Walks and plain lemmas for the laws of this seat: what single Go functions return, for every argument.
-/
import Derived.Test.YtkiffiehjchljaaFactF
namespace Go.Proofs.Ytkiffiehjchljaa
open Go.RowKit

set_option maxHeartbeats 400000 in
theorem markFact_any (B : Nat) (r : Int) (v : Value) (l : List Int) (k : Nat) (w : World) (hO : OwnInts B v l w) (hn : l.length ≤ 1048576) (hk2 : k ≤ 1000000000000) :
    Calls Try.prog 19 #[.agg #[.int .i64 r, v], .int .i64 (k : Int)] w fun e w' => e = .returned (.int .i64 ((k : Int) + (l.length : Nat))) ∧ OwnInts B v (markInts k l.length) w' ∧ Chg (fun g => v.ownBlock = some g) w w' := by
  have hb : Below w.heap.size w (w.alloc (.cells #[.int .i64 r, v] 31)) := (Below.refl _ _).alloc (Nat.le_refl _) _
  have hcon := markIntS_any B v l k _ (hO.below hb (Nat.le_refl _)) hn hk2
  clear hO
  go_enter Try.func19, Try.ntmps19
  go_wp2_with fail
  refine hcon.mono ?_
  rintro e w' ⟨rfl, hO', hc⟩
  go_wp2
  go_ret
  exact ⟨rfl, hO', (Chg.of_below hb).trans hc⟩

end Go.Proofs.Ytkiffiehjchljaa
