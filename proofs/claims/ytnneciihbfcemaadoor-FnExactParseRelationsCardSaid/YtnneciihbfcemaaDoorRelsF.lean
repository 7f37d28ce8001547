/-
  Walks and plain lemmas for the laws of this seat: what single Go functions return, for every argument.
-/
import Derived.Test.YtnneciihbfcemaaDoorBase
import Derived.Test.YtnneciihbfcemaaDoorRels
namespace Go.Proofs.YtnneciihbfcemaaDoor
open Go.RowKit

instance : DecidableEq Rel := fun a b => by
  cases a; cases b; rw [Rel.mk.injEq]; exact inferInstance
set_option maxHeartbeats 800000 in
theorem eqRelation_any (s t : ByteArray) (a c : Int) (b d : Bool) (w : World) :
    Calls Tryd.prog 21 #[.agg #[.string s, .int .i64 a, .bool b], .agg #[.string t, .int .i64 c, .bool d]] w fun e w' => e = .returned (.bool (decide (Rel.mk s a b = Rel.mk t c d))) ∧ Below w.heap.size w w' := by
  by_cases h0 : s = t
  · by_cases h1 : a = c
    · have h2 : decide (Rel.mk s a b = Rel.mk t c d) = (b == d) := by subst h0 h1; cases b <;> cases d <;> simp
      rw [h2]
      subst h0 h1
      cases b <;> cases d
      all_goals
        go_enter Tryd.func21, Tryd.ntmps21
        go_wp2
        go_ret
        exact ⟨rfl, below_more (below_more (Below.refl _ _) _) _⟩
    · have h2 : decide (Rel.mk s a b = Rel.mk t c d) = false := by simp [h1]
      rw [h2]
      subst h0
      have h3 : (a != c) = true := bne_iff_ne.2 h1
      clear h2
      go_enter Tryd.func21, Tryd.ntmps21
      go_wp2
      go_ret
      exact ⟨rfl, below_more (below_more (Below.refl _ _) _) _⟩
  · have h2 : decide (Rel.mk s a b = Rel.mk t c d) = false := by simp [h0]
    rw [h2]
    have h3 := str_ne h0
    clear h2
    go_enter Tryd.func21, Tryd.ntmps21
    go_wp2
    go_ret
    exact ⟨rfl, below_more (below_more (Below.refl _ _) _) _⟩
theorem eqRelation_at (r r' : Rel) (b : Bool) (h : decide (r = r') = b) (w : World) :
    Calls Tryd.prog 21 #[.agg #[.string r.name, .int .i64 r.arity, .bool r.source], .agg #[.string r'.name, .int .i64 r'.arity, .bool r'.source]] w fun e w' => e = .returned (.bool b) ∧ Below w.heap.size w w' := by
  subst h; exact eqRelation_any _ _ _ _ _ _ w

end Go.Proofs.YtnneciihbfcemaaDoor
