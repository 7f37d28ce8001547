/-
  Walks and plain lemmas for the laws of this seat: what single Go functions return, for every argument.
-/
import Derived.Laws.StructEq
import Derived.Deep.RegionHeld3
import Derived.Test.YtchlelkhpahakaaRels
import Derived.Test.YtchlelkhpahakaaTakeE
namespace Go.Proofs.Ytchlelkhpahakaa
open Go.RowKit

theorem guardRel : Try.prog.eqGuardType Try.prog.depth 68 = false := by kernel_rfl
theorem stoodRel : Try.prog.stoodInHeld 68 = false := by kernel_rfl
theorem run_neq_rel (r r' : Rel) (w : World) : (binOp .neq 68 (.agg #[.string r.name, .int .i64 r.arity, .bool r.source]) (.agg #[.string r'.name, .int .i64 r'.arity, .bool r'.source])).run Try.prog w = .ok (.bool (!(decide (r = r')))) w := by
  rw [run_neq_struct]
  rw [run_equalIn_struct w 9999 68 _ _ (by kernel_rfl) stoodRel]
  simp [go_sem, Try.underlying68, Try.underlying9, Try.underlying3, Try.underlying4]
  have key : (r = r') ↔ (r.name.toList = r'.name.toList ∧ r.arity = r'.arity ∧ r.source = r'.source) := by
    constructor
    · rintro rfl; exact ⟨rfl, rfl, rfl⟩
    · rintro ⟨h1, h2, h3⟩
      have h4 : r.name = r'.name := by
        have := h1
        rw [ByteArray.toList_eq, ByteArray.toList_eq] at this
        exact ByteArray.ext (Array.ext' this)
      cases r; cases r'; simp_all
  by_cases h1 : r.name.toList = r'.name.toList <;> by_cases h2 : r.arity = r'.arity <;> by_cases h3 : r.source = r'.source <;> simp [key, h1, h2, h3]
theorem run_guard_rel (r r' : Rel) (w : World) (x y : Operand) : (eqGuard .neq 68 x y (.agg #[.string r.name, .int .i64 r.arity, .bool r.source]) (.agg #[.string r'.name, .int .i64 r'.arity, .bool r'.source])).run Try.prog w = .ok () w := run_eqGuard_agg w _ _ x y _ _ guardRel
/-- as a step of a region that draws its order -/
theorem quiet_neq_rel {C : World → Prop} {K : Act → Prop} {a : Act} {o : Oper} (r r' : Rel) (x y : Operand) (t : TypeId) (ho : o.op = .binOp .neq 68 x y t) (hx : a.eval x = .agg #[.string r.name, .int .i64 r.arity, .bool r.source]) (hy : a.eval y = .agg #[.string r'.name, .int .i64 r'.arity, .bool r'.source]) (q : Bool) (hq : decide (r = r') = q)
    (h : K (a.put o.dst (.bool (!q)))) : o.quiet Try.prog a C K := by
  subst hq
  refine ⟨_, fun w _ => ?_, h⟩
  unfold Oper.quietAt execOp
  simp only [ho, hx, hy, Sem.run_bind, run_guard_rel, run_neq_rel, Result.andThen_ok, Sem.run_pure]
  exact ⟨rfl, rfl⟩

end Go.Proofs.Ytchlelkhpahakaa
