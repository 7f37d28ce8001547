/-
  Walks and plain lemmas for the laws of this seat: what single Go functions return, for every argument.
-/
import Derived.Test.YtakflmaeclneiaaGreatFact
namespace Go.Proofs.YtakflmaeclneiaaGreat
open Go.RowKit

theorem implIsValidTerm_at (t : Int) (q : Bool) (hq : validT t = q) (w : World) :
    Calls Tryz.prog 78 #[.int .i64 t] w fun e w' => e = .returned (.bool q) ∧ w = w' := by
  subst hq
  by_cases h1 : -10 ≤ t
  · have hd1 : decide (-10 ≤ t) = true := decide_eq_true h1
    have HV := Lib.hid (show decide (t < 5) = validT t by unfold validT inB; rw [decide_eq_decide]; omega)
    clear h1
    go_enter Tryz.func78, Tryz.ntmps78
    go_wp2
    go_ret
    exact ⟨ret_bool HV.out, rfl⟩
  · have hd1 : decide (-10 ≤ t) = false := decide_eq_false h1
    have HV := Lib.hid (show validT t = false by unfold validT inB; exact decide_eq_false (by omega))
    clear h1
    go_enter Tryz.func78, Tryz.ntmps78
    go_wp2
    go_ret
    exact ⟨ret_bool HV.out.symm, rfl⟩
theorem implIsVariable_any (t : Int) (w : World) :
    Calls Tryz.prog 79 #[.int .i64 t] w fun e w' => e = .returned (.bool (decide (0 ≤ t))) ∧ w = w' := by
  go_enter Tryz.func79, Tryz.ntmps79
  go_wp2
  go_ret
  exact ⟨rfl, rfl⟩

end Go.Proofs.YtakflmaeclneiaaGreat
