/-
  Walks and plain lemmas for the laws of this seat: what single Go functions return, for every argument.
-/
import Derived.Laws.StructEq
import Derived.Deep.RegionHeld3
import Derived.Test.YteogknfhafdbmaaGreatBase
import Derived.Test.YteogknfhafdbmaaGreatMem
import Derived.Test.YteogknfhafdbmaaGreatPlan
import Derived.Test.YteogknfhafdbmaaGreatInts
import Derived.Test.YteogknfhafdbmaaGreatRels
import Derived.Test.YteogknfhafdbmaaGreatTakeE
namespace Go.Proofs.YteogknfhafdbmaaGreat
open Go.RowKit

theorem SliceAt.aft {α : Type} {f : α → List Value} {w0 W : World} {v : Value} {l : List α} (h : SliceAt f w0 w0.heap.size v l) (hb : Below w0.heap.size w0 W) (u : Aft W.heap.size W) : SliceAt f u.now u.now.heap.size v l :=
  (h.below (hb.trans (u.is.mono hb.size)) (Nat.le_refl _)).more (hb.trans (u.is.mono hb.size)).size

theorem guardRel : Tryz.prog.eqGuardType Tryz.prog.depth 68 = false := by kernel_rfl
theorem stoodRel : Tryz.prog.stoodInHeld 68 = false := by kernel_rfl
theorem run_neq_rel (r r' : Rel) (w : World) : (binOp .neq 68 (.agg #[.string r.name, .int .i64 r.arity, .bool r.source]) (.agg #[.string r'.name, .int .i64 r'.arity, .bool r'.source])).run Tryz.prog w = .ok (.bool (!(decide (r = r')))) w := by
  rw [run_neq_struct]
  rw [run_equalIn_struct w 9999 68 _ _ (by kernel_rfl) stoodRel]
  simp [go_sem, Tryz.underlying68, Tryz.underlying9, Tryz.underlying3, Tryz.underlying4]
  have key : (r = r') ↔ (r.name.toList = r'.name.toList ∧ r.arity = r'.arity ∧ r.source = r'.source) := by
    constructor
    · rintro rfl; exact ⟨rfl, rfl, rfl⟩
    · rintro ⟨h1, h2, h3⟩
      have h4 : r.name = r'.name := by
        have := h1
        rw [ByteArray.toList_eq, ByteArray.toList_eq] at this
        exact ByteArray.ext (Array.ext' this)
      cases r; cases r'; simp_all
  by_cases h1 : r.name.toList = r'.name.toList <;> by_cases h2 : r.arity = r'.arity <;> by_cases h3 : r.source = r'.source <;> simp [key, h1, h2, h3]
theorem run_guard_rel (r r' : Rel) (w : World) (x y : Operand) : (eqGuard .neq 68 x y (.agg #[.string r.name, .int .i64 r.arity, .bool r.source]) (.agg #[.string r'.name, .int .i64 r'.arity, .bool r'.source])).run Tryz.prog w = .ok () w := run_eqGuard_agg w _ _ x y _ _ guardRel
/-- as a step of a region that draws its order -/
theorem quiet_neq_rel {C : World → Prop} {K : Act → Prop} {a : Act} {o : Oper} (r r' : Rel) (x y : Operand) (t : TypeId) (ho : o.op = .binOp .neq 68 x y t) (hx : a.eval x = .agg #[.string r.name, .int .i64 r.arity, .bool r.source]) (hy : a.eval y = .agg #[.string r'.name, .int .i64 r'.arity, .bool r'.source]) (q : Bool) (hq : decide (r = r') = q)
    (h : K (a.put o.dst (.bool (!q)))) : o.quiet Tryz.prog a C K := by
  subst hq
  refine ⟨_, fun w _ => ?_, h⟩
  unfold Oper.quietAt execOp
  simp only [ho, hx, hy, Sem.run_bind, run_guard_rel, run_neq_rel, Result.andThen_ok, Sem.run_pure]
  exact ⟨rfl, rfl⟩

set_option maxHeartbeats 1600000 in
set_option maxRecDepth 100000 in
theorem specL5Sigs_any (v u : Value) (l m : List Rel) (w : World) (hl : RelsAt w w.heap.size v l) (hm : RelsAt w w.heap.size u m) :
    Calls Tryz.prog 17 #[v, u] w fun e w' => e = .returned (.bool (decide (l = m))) ∧ Below w.heap.size w w' := by
  have HL := Lib.hid hl
  have HM := Lib.hid hm
  obtain ⟨A, c, rfl, hlc, hcm, -⟩ := hl
  obtain ⟨A', c', rfl, hlc', hcm', -⟩ := hm
  unfold maxLen at hcm hcm'
  by_cases hn : l.length = m.length
  · have hnb : ((l.length : Int) != (m.length : Int)) = false := by rw [hn]; simp
    have HN := Lib.hid hn
    clear hn
    go_enter Tryz.func17, Tryz.ntmps17
    go_wp2
    go_loopw [5] (fun i wr => ∃ k : Nat, k ≤ l.length ∧ i = .int .i64 k ∧ Hid (l.take k = m.take k) ∧ Below w.heap.size w wr) (fun i _ => l.length - (intOf i).toNat)
    case atStart => exact ⟨0, by omega, rfl, Lib.hid (by simp), Below.refl _ _⟩
    case round =>
      obtain ⟨k, hk, rfl, HT, hW⟩ := hrel
      have hz := hW.size
      by_cases hlt : k < l.length
      · have hlt' : k < m.length := by have := HN.out; omega
        obtain ⟨b, off, rfl, hb, c0, c1, c2⟩ := RelsAt.elem HL.out k hlt
        obtain ⟨b', off', rfl, hb', d0, d1, d2⟩ := RelsAt.elem HM.out k hlt'
        have HE := Lib.hid (take_eq_next l m k hlt hlt')
        have HF := Lib.hid (fun h => take_eq_not l m k hlt hlt' h)
        generalize l[k] = r at *
        generalize m[k] = r' at *
        have C0 := Aft.cell hb c0
        have C1 := Aft.cell hb c1
        have C2 := Aft.cell hb c2
        have D0 := Aft.cell hb' d0
        have D1 := Aft.cell hb' d1
        have D2 := Aft.cell hb' d2
        clear c0 c1 c2 d0 d1 d2
        cases hd : decide (r = r') with
        | true =>
          have HE' := Lib.hid (HE.out (of_decide_eq_true hd) HT.out)
          go_wp2
          refine wp_region_aft hW (by kernel_rfl) (by kernel_rfl) ?_
          repeat (go_big_quiet_step (fail))
          go_big_quiet_want
          refine quiet_neq_rel r r' _ _ _ rfl rfl rfl true hd ?_
          go_big_quiet_on
          refine wpQuiet_nil ?_
          refine aft_end ?_
          intro w1 hh
          go_wp2
          go_roundw
          case rel => exact ⟨k + 1, by omega, by go_num, HE', hh⟩
          case measure => simp [intOf]; omega
        | false =>
          have HE' := Lib.hid (decide_eq_false (HF.out (of_decide_eq_false hd)))
          go_wp2
          refine wp_region_aft hW (by kernel_rfl) (by kernel_rfl) ?_
          repeat (go_big_quiet_step (fail))
          go_big_quiet_want
          refine quiet_neq_rel r r' _ _ _ rfl rfl rfl false hd ?_
          go_big_quiet_on
          refine wpQuiet_nil ?_
          refine aft_end ?_
          intro w1 hh
          go_wp2
          go_ret
          exact ⟨by rw [HE'.out]; rfl, hh⟩
      · obtain rfl : k = l.length := by omega
        have HE' := Lib.hid (decide_eq_true (show l = m by have := HT.out; rwa [List.take_of_length_le (Nat.le_refl _), List.take_of_length_le (by rw [HN.out]; exact Nat.le_refl _)] at this))
        go_wp2
        go_ret
        exact ⟨by rw [HE'.out]; rfl, hW⟩
  · have hnb : ((l.length : Int) != (m.length : Int)) = true := by rw [bne_iff_ne]; omega
    have HE' := Lib.hid (decide_eq_false (show ¬ l = m by rintro rfl; exact hn rfl))
    clear hn
    go_enter Tryz.func17, Tryz.ntmps17
    go_wp2
    go_ret
    exact ⟨by rw [HE'.out]; rfl, Below.refl _ _⟩

theorem IntS_at.later {w w' : World} {v : Value} {l : List Int} (h : IntS_at w w.heap.size v l) (hb : Below w.heap.size w w') : IntS_at w' w'.heap.size v l := (h.below hb (Nat.le_refl _)).more hb.size

end Go.Proofs.YteogknfhafdbmaaGreat
