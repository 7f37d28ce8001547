/-
  Walks and plain lemmas for the laws of this seat: what single Go functions return, for every argument.
-/
import Derived.Laws.StructEq
import Derived.Deep.RegionHeld3
import Derived.Test.YtobdijcnfmgidaaGreatBase
import Derived.Test.YtobdijcnfmgidaaGreatRel
import Derived.Test.YtobdijcnfmgidaaGreatMInst
import Derived.Test.YtobdijcnfmgidaaGreatTrigM
import Derived.Test.YtobdijcnfmgidaaGreatInstP
namespace Go.Proofs.YtobdijcnfmgidaaGreat
open Go.RowKit

theorem guardRel : Tryz.prog.eqGuardType Tryz.prog.depth 70 = false := by kernel_rfl
theorem stoodRel : Tryz.prog.stoodInHeld 70 = false := by kernel_rfl
theorem run_neq_rel (r r' : Rel) (w : World) : (binOp .neq 70 (.agg #[.string r.name, .int .i64 r.arity, .bool r.source]) (.agg #[.string r'.name, .int .i64 r'.arity, .bool r'.source])).run Tryz.prog w = .ok (.bool (!(decide (r = r')))) w := by
  rw [run_neq_struct]
  rw [run_equalIn_struct w 9999 70 _ _ (by kernel_rfl) stoodRel]
  simp [go_sem, Tryz.underlying70, Tryz.underlying9, Tryz.underlying3, Tryz.underlying4]
  have key : (r = r') ↔ (r.name.toList = r'.name.toList ∧ r.arity = r'.arity ∧ r.source = r'.source) := by
    constructor
    · rintro rfl; exact ⟨rfl, rfl, rfl⟩
    · rintro ⟨h1, h2, h3⟩
      have h4 : r.name = r'.name := by
        have := h1
        rw [ByteArray.toList_eq, ByteArray.toList_eq] at this
        exact ByteArray.ext (Array.ext' this)
      cases r; cases r'; simp_all
  by_cases h1 : r.name.toList = r'.name.toList <;> by_cases h2 : r.arity = r'.arity <;> by_cases h3 : r.source = r'.source <;> simp [key, h1, h2, h3]
theorem run_guard_rel (r r' : Rel) (w : World) (x y : Operand) : (eqGuard .neq 70 x y (.agg #[.string r.name, .int .i64 r.arity, .bool r.source]) (.agg #[.string r'.name, .int .i64 r'.arity, .bool r'.source])).run Tryz.prog w = .ok () w := run_eqGuard_agg w _ _ x y _ _ guardRel
/-- as a step of a region that draws its order -/
theorem quiet_neq_rel {C : World → Prop} {K : Act → Prop} {a : Act} {o : Oper} (r r' : Rel) (x y : Operand) (t : TypeId) (ho : o.op = .binOp .neq 70 x y t) (hx : a.eval x = .agg #[.string r.name, .int .i64 r.arity, .bool r.source]) (hy : a.eval y = .agg #[.string r'.name, .int .i64 r'.arity, .bool r'.source]) (q : Bool) (hq : decide (r = r') = q)
    (h : K (a.put o.dst (.bool (!q)))) : o.quiet Tryz.prog a C K := by
  subst hq
  refine ⟨_, fun w _ => ?_, h⟩
  unfold Oper.quietAt execOp
  simp only [ho, hx, hy, Sem.run_bind, run_guard_rel, run_neq_rel, Result.andThen_ok, Sem.run_pure]
  exact ⟨rfl, rfl⟩

set_option maxHeartbeats 1600000 in
set_option maxRecDepth 100000 in
theorem specL5Sigs_any (v u : Value) (l m : List Rel) (w : World) (hl : RelsAt w w.heap.size v l) (hm : RelsAt w w.heap.size u m) :
    Calls Tryz.prog 103 #[v, u] w fun e w' => e = .returned (.bool (decide (l = m))) ∧ Below w.heap.size w w' := by
  have HL := Lib.hid hl
  have HM := Lib.hid hm
  obtain ⟨A, c, rfl, hlc, hcm, -⟩ := hl
  obtain ⟨A', c', rfl, hlc', hcm', -⟩ := hm
  unfold maxLen at hcm hcm'
  by_cases hn : l.length = m.length
  · have hnb : ((l.length : Int) != (m.length : Int)) = false := by rw [hn]; simp
    have HN := Lib.hid hn
    clear hn
    go_enter Tryz.func103, Tryz.ntmps103
    go_wp2
    go_loopw [5] (fun i wr => ∃ k : Nat, k ≤ l.length ∧ i = .int .i64 k ∧ Hid (l.take k = m.take k) ∧ Below w.heap.size w wr) (fun i _ => l.length - (intOf i).toNat)
    case atStart => exact ⟨0, by omega, rfl, Lib.hid (by simp), Below.refl _ _⟩
    case round =>
      obtain ⟨k, hk, rfl, HT, hW⟩ := hrel
      have hz := hW.size
      by_cases hlt : k < l.length
      · have hlt' : k < m.length := by have := HN.out; omega
        obtain ⟨b, off, rfl, hb, c0, c1, c2⟩ := RelsAt.elem HL.out k hlt
        obtain ⟨b', off', rfl, hb', d0, d1, d2⟩ := RelsAt.elem HM.out k hlt'
        have HE := Lib.hid (take_eq_next l m k hlt hlt')
        have HF := Lib.hid (fun h => take_eq_not l m k hlt hlt' h)
        generalize l[k] = r at *
        generalize m[k] = r' at *
        have C0 := Aft.cell hb c0
        have C1 := Aft.cell hb c1
        have C2 := Aft.cell hb c2
        have D0 := Aft.cell hb' d0
        have D1 := Aft.cell hb' d1
        have D2 := Aft.cell hb' d2
        clear c0 c1 c2 d0 d1 d2
        cases hd : decide (r = r') with
        | true =>
          have HE' := Lib.hid (HE.out (of_decide_eq_true hd) HT.out)
          go_wp2
          refine wp_region_aft hW (by kernel_rfl) (by kernel_rfl) ?_
          repeat (go_big_quiet_step (fail))
          go_big_quiet_want
          refine quiet_neq_rel r r' _ _ _ rfl rfl rfl true hd ?_
          go_big_quiet_on
          refine wpQuiet_nil ?_
          refine aft_end ?_
          intro w1 hh
          go_wp2
          go_roundw
          case rel => exact ⟨k + 1, by omega, by go_num, HE', hh⟩
          case measure => simp [intOf]; omega
        | false =>
          have HE' := Lib.hid (decide_eq_false (HF.out (of_decide_eq_false hd)))
          go_wp2
          refine wp_region_aft hW (by kernel_rfl) (by kernel_rfl) ?_
          repeat (go_big_quiet_step (fail))
          go_big_quiet_want
          refine quiet_neq_rel r r' _ _ _ rfl rfl rfl false hd ?_
          go_big_quiet_on
          refine wpQuiet_nil ?_
          refine aft_end ?_
          intro w1 hh
          go_wp2
          go_ret
          exact ⟨by rw [HE'.out]; rfl, hh⟩
      · obtain rfl : k = l.length := by omega
        have HE' := Lib.hid (decide_eq_true (show l = m by have := HT.out; rwa [List.take_of_length_le (Nat.le_refl _), List.take_of_length_le (by rw [HN.out]; exact Nat.le_refl _)] at this))
        go_wp2
        go_ret
        exact ⟨by rw [HE'.out]; rfl, hW⟩
  · have hnb : ((l.length : Int) != (m.length : Int)) = true := by rw [bne_iff_ne]; omega
    have HE' := Lib.hid (decide_eq_false (show ¬ l = m by rintro rfl; exact hn rfl))
    clear hn
    go_enter Tryz.func103, Tryz.ntmps103
    go_wp2
    go_ret
    exact ⟨by rw [HE'.out]; rfl, Below.refl _ _⟩

def eqInst (x y : Inst) : Bool := decide (x.rels = y.rels) && decide (x.facts = y.facts)
theorem specL5Sigs_at (l m : List Rel) (q : Bool) (hq : decide (l = m) = q) (v u : Value) (w : World) (hl : RelsAt w w.heap.size v l) (hm : RelsAt w w.heap.size u m) :
    Calls Tryz.prog 103 #[v, u] w fun e w' => e = .returned (.bool q) ∧ Below w.heap.size w w' := by
  subst hq; exact specL5Sigs_any v u l m w hl hm
set_option maxHeartbeats 3200000 in
set_option maxRecDepth 100000 in
theorem specEqualInstances_any (v u : Value) (x y : Inst) (w : World) (h : Instance_at w w.heap.size v x) (h' : Instance_at w w.heap.size u y) :
    Calls Tryz.prog 50 #[v, u] w fun e w' => e = .returned (.bool (eqInst x y)) ∧ Below w.heap.size w w' := by
  obtain ⟨P, c, Q, d, rfl⟩ := Instance_form h
  obtain ⟨P', c', Q', d', rfl⟩ := Instance_form h'
  obtain ⟨V1, V2, hv, hR, hF⟩ := h
  obtain ⟨U1, U2, hu, hR', hF'⟩ := h'
  simp only [Value.agg.injEq, Array.mk.injEq, List.cons.injEq, and_true] at hv hu
  obtain ⟨rfl, rfl⟩ := hv
  obtain ⟨rfl, rfl⟩ := hu
  obtain ⟨_, _, hv2, hd1, hd2⟩ := hF.form
  injection hv2 with e1 _ e2
  subst e1 e2
  obtain ⟨_, _, hv2, hd1', hd2'⟩ := hF'.form
  injection hv2 with e1 _ e2
  subst e1 e2
  unfold maxLen at hd2 hd2'
  have HF := Lib.hid hF
  have HF' := Lib.hid hF'
  have hE : Below w.heap.size w ((w.alloc (.cells #[.slice P x.rels.length c, .slice Q x.facts.length d] 27)).alloc (.cells #[.slice P' y.rels.length c', .slice Q' y.facts.length d'] 27)) := below_more (below_more (Below.refl _ _) _) _
  have HE := Lib.hid (show w.heap.size + 2 = ((w.alloc (.cells #[.slice P x.rels.length c, .slice Q x.facts.length d] 27)).alloc (.cells #[.slice P' y.rels.length c', .slice Q' y.facts.length d'] 27)).heap.size by simp)
  have K1 := Lib.hid (show ((w.alloc (.cells #[.slice P x.rels.length c, .slice Q x.facts.length d] 27)).alloc (.cells #[.slice P' y.rels.length c', .slice Q' y.facts.length d'] 27)).cell? ⟨w.heap.size, 1, none⟩ = some (.slice Q x.facts.length d) by simp [go_sem])
  have L1 := Lib.hid (show ((w.alloc (.cells #[.slice P x.rels.length c, .slice Q x.facts.length d] 27)).alloc (.cells #[.slice P' y.rels.length c', .slice Q' y.facts.length d'] 27)).cell? ⟨w.heap.size + 1, 1, none⟩ = some (.slice Q' y.facts.length d') by simp [go_sem])
  have c0 := fun q hq => specL5Sigs_at x.rels y.rels q hq _ _ ((w.alloc (.cells #[.slice P x.rels.length c, .slice Q x.facts.length d] 27)).alloc (.cells #[.slice P' y.rels.length c', .slice Q' y.facts.length d'] 27)) ((hR.below hE (Nat.le_refl _)).more hE.size) ((hR'.below hE (Nat.le_refl _)).more hE.size)
  clear hR hF hR' hF'
  cases hr : decide (x.rels = y.rels) with
  | false =>
    have HV := Lib.hid (show eqInst x y = false by unfold eqInst; rw [hr]; rfl)
    replace c0 := c0 false hr
    clear hr
    go_enter Tryz.func50, Tryz.ntmps50
    go_wp2_with fail
    refine c0.mono ?_
    rintro e w1 ⟨rfl, hb1⟩
    go_wp2
    go_ret
    exact ⟨ret_bool HV.out.symm, hE.trans (hb1.mono hE.size)⟩
  | true =>
    have HR := Lib.hid (show eqInst x y = decide (x.facts = y.facts) by unfold eqInst; rw [hr]; rfl)
    replace c0 := c0 true hr
    clear hr
    by_cases hn : x.facts.length = y.facts.length
    · have hnb : ((x.facts.length : Int) != (y.facts.length : Int)) = false := by rw [hn]; simp
      have HN := Lib.hid hn
      clear hn
      go_enter Tryz.func50, Tryz.ntmps50
      go_wp2_with fail
      refine c0.mono ?_
      rintro e w1 ⟨rfl, hb1⟩
      have f1 := (hb1.cell (p := ⟨w.heap.size, 1, none⟩) (by show w.heap.size < _; have := HE.out; omega)).trans K1.out
      have f2 := (hb1.cell (p := ⟨w.heap.size + 1, 1, none⟩) (by show w.heap.size + 1 < _; have := HE.out; omega)).trans L1.out
      clear c0
      go_wp2
      clear f1 f2
      go_loopw [5] (fun i wr => ∃ k : Nat, k ≤ x.facts.length ∧ i = .int .i64 k ∧ Hid (x.facts.take k = y.facts.take k) ∧ Below ((w.alloc (.cells #[.slice P x.rels.length c, .slice Q x.facts.length d] 27)).alloc (.cells #[.slice P' y.rels.length c', .slice Q' y.facts.length d'] 27)).heap.size ((w.alloc (.cells #[.slice P x.rels.length c, .slice Q x.facts.length d] 27)).alloc (.cells #[.slice P' y.rels.length c', .slice Q' y.facts.length d'] 27)) wr) (fun i _ => x.facts.length - (intOf i).toNat)
      case atStart => exact ⟨0, by omega, rfl, Lib.hid (by simp), hb1⟩
      case round =>
        obtain ⟨k, hk, rfl, HT, hW⟩ := hrel
        have hWw := hE.trans (hW.mono hE.size)
        have f1 := (hW.cell (p := ⟨w.heap.size, 1, none⟩) (by show w.heap.size < _; have := HE.out; omega)).trans K1.out
        have f2 := (hW.cell (p := ⟨w.heap.size + 1, 1, none⟩) (by show w.heap.size + 1 < _; have := HE.out; omega)).trans L1.out
        by_cases hlt : k < x.facts.length
        · have hlt' : k < y.facts.length := by have := HN.out; omega
          obtain ⟨b, off, V, rfl, hb, c0, c1, hV⟩ := FactS_at.elem HF.out k hlt
          obtain ⟨b', off', V', rfl, hb', d0, d1, hV'⟩ := FactS_at.elem HF'.out k hlt'
          have G1 := Aft.cell (B := ((w.alloc (.cells #[.slice P x.rels.length c, .slice (some ⟨b, off, none⟩) x.facts.length d] 27)).alloc (.cells #[.slice P' y.rels.length c', .slice (some ⟨b', off', none⟩) y.facts.length d'] 27)).heap.size) (by show w.heap.size < _; have := HE.out; omega) K1.out
          have G2 := Aft.cell (B := ((w.alloc (.cells #[.slice P x.rels.length c, .slice (some ⟨b, off, none⟩) x.facts.length d] 27)).alloc (.cells #[.slice P' y.rels.length c', .slice (some ⟨b', off', none⟩) y.facts.length d'] 27)).heap.size) (by show w.heap.size + 1 < _; have := HE.out; omega) L1.out
          have C0 := Aft.cell (B := ((w.alloc (.cells #[.slice P x.rels.length c, .slice (some ⟨b, off, none⟩) x.facts.length d] 27)).alloc (.cells #[.slice P' y.rels.length c', .slice (some ⟨b', off', none⟩) y.facts.length d'] 27)).heap.size) (w := ((w.alloc (.cells #[.slice P x.rels.length c, .slice (some ⟨b, off, none⟩) x.facts.length d] 27)).alloc (.cells #[.slice P' y.rels.length c', .slice (some ⟨b', off', none⟩) y.facts.length d'] 27))) (by have := HE.out; omega) ((hE.cell (p := ⟨b, off + k * 2, none⟩) hb).trans c0)
          have C1 := Aft.cell (B := ((w.alloc (.cells #[.slice P x.rels.length c, .slice (some ⟨b, off, none⟩) x.facts.length d] 27)).alloc (.cells #[.slice P' y.rels.length c', .slice (some ⟨b', off', none⟩) y.facts.length d'] 27)).heap.size) (w := ((w.alloc (.cells #[.slice P x.rels.length c, .slice (some ⟨b, off, none⟩) x.facts.length d] 27)).alloc (.cells #[.slice P' y.rels.length c', .slice (some ⟨b', off', none⟩) y.facts.length d'] 27))) (by have := HE.out; omega) ((hE.cell (p := ⟨b, off + k * 2 + 1, none⟩) hb).trans c1)
          have D0 := Aft.cell (B := ((w.alloc (.cells #[.slice P x.rels.length c, .slice (some ⟨b, off, none⟩) x.facts.length d] 27)).alloc (.cells #[.slice P' y.rels.length c', .slice (some ⟨b', off', none⟩) y.facts.length d'] 27)).heap.size) (w := ((w.alloc (.cells #[.slice P x.rels.length c, .slice (some ⟨b, off, none⟩) x.facts.length d] 27)).alloc (.cells #[.slice P' y.rels.length c', .slice (some ⟨b', off', none⟩) y.facts.length d'] 27))) (by have := HE.out; omega) ((hE.cell (p := ⟨b', off' + k * 2, none⟩) hb').trans d0)
          have D1 := Aft.cell (B := ((w.alloc (.cells #[.slice P x.rels.length c, .slice (some ⟨b, off, none⟩) x.facts.length d] 27)).alloc (.cells #[.slice P' y.rels.length c', .slice (some ⟨b', off', none⟩) y.facts.length d'] 27)).heap.size) (w := ((w.alloc (.cells #[.slice P x.rels.length c, .slice (some ⟨b, off, none⟩) x.facts.length d] 27)).alloc (.cells #[.slice P' y.rels.length c', .slice (some ⟨b', off', none⟩) y.facts.length d'] 27))) (by have := HE.out; omega) ((hE.cell (p := ⟨b', off' + k * 2 + 1, none⟩) hb').trans d1)
          have hcon := fun (q : Int) (hq : cmpF x.facts[k] y.facts[k] = q) (u : Aft ((w.alloc (.cells #[.slice P x.rels.length c, .slice (some ⟨b, off, none⟩) x.facts.length d] 27)).alloc (.cells #[.slice P' y.rels.length c', .slice (some ⟨b', off', none⟩) y.facts.length d'] 27)).heap.size ((w.alloc (.cells #[.slice P x.rels.length c, .slice (some ⟨b, off, none⟩) x.facts.length d] 27)).alloc (.cells #[.slice P' y.rels.length c', .slice (some ⟨b', off', none⟩) y.facts.length d'] 27))) => specCompareFacts_at x.facts[k] y.facts[k] q hq (.agg #[.int .i64 x.facts[k].rel, V]) (.agg #[.int .i64 y.facts[k].rel, V']) u.now ⟨V, rfl, (hV.below (hE.trans (u.is.mono hE.size)) (Nat.le_refl _)).more (hE.trans (u.is.mono hE.size)).size⟩ ⟨V', rfl, (hV'.below (hE.trans (u.is.mono hE.size)) (Nat.le_refl _)).more (hE.trans (u.is.mono hE.size)).size⟩
          clear c0 c1 d0 d1
          by_cases he : x.facts[k] = y.facts[k]
          · have hq := (cmpF_zero x.facts[k] y.facts[k]).2 he
            have HX := Lib.hid (take_eq_next x.facts y.facts k hlt hlt' he HT.out)
            have hcon' := hcon 0 hq
            clear hcon hq he
            go_wp2
            refine wp_region_aft hW (by kernel_rfl) (by kernel_rfl) ?_
            repeat (go_big_quiet_step (((go_at_call 36; exact calls_aft (Nat.le_refl _) (hcon' _)))))
            refine wpQuiet_nil ?_
            refine aft_end ?_
            intro w2 hh
            go_wp2
            go_roundw
            case rel => exact ⟨k + 1, by omega, by go_num, HX, hh⟩
            case measure => simp [intOf]; omega
          · obtain ⟨q, hq⟩ : ∃ q, cmpF x.facts[k] y.facts[k] = q := ⟨_, rfl⟩
            have hq0 : (q != 0) = true := bne_iff_ne.2 (fun e => he ((cmpF_zero _ _).1 (hq.trans e)))
            have HX := Lib.hid (HR.out.trans (decide_eq_false (take_eq_not x.facts y.facts k hlt hlt' he)))
            have hcon' := hcon q hq
            clear hcon hq he
            go_wp2
            refine wp_region_aft hW (by kernel_rfl) (by kernel_rfl) ?_
            repeat (go_big_quiet_step (((go_at_call 36; exact calls_aft (Nat.le_refl _) (hcon' _)))))
            refine wpQuiet_nil ?_
            refine aft_end ?_
            intro w2 hh
            go_wp2
            go_ret
            exact ⟨ret_bool HX.out.symm, hE.trans (hh.mono hE.size)⟩
        · obtain rfl : k = x.facts.length := by omega
          have HX := Lib.hid (HR.out.trans (decide_eq_true (show x.facts = y.facts by have := HT.out; rwa [List.take_of_length_le (Nat.le_refl _), List.take_of_length_le (by rw [HN.out]; exact Nat.le_refl _)] at this)))
          go_wp2
          go_ret
          exact ⟨ret_bool HX.out.symm, hWw⟩
    · have hnb : ((x.facts.length : Int) != (y.facts.length : Int)) = true := by rw [bne_iff_ne]; omega
      have HX := Lib.hid (HR.out.trans (decide_eq_false (show ¬ x.facts = y.facts from fun e => hn (by rw [e]))))
      clear hn
      go_enter Tryz.func50, Tryz.ntmps50
      go_wp2_with fail
      refine c0.mono ?_
      rintro e w1 ⟨rfl, hb1⟩
      have f1 := (hb1.cell (p := ⟨w.heap.size, 1, none⟩) (by show w.heap.size < _; have := HE.out; omega)).trans K1.out
      have f2 := (hb1.cell (p := ⟨w.heap.size + 1, 1, none⟩) (by show w.heap.size + 1 < _; have := HE.out; omega)).trans L1.out
      go_wp2
      go_ret
      exact ⟨ret_bool HX.out.symm, hE.trans (hb1.mono hE.size)⟩
theorem specEqualInstances_c (v : Value) (x : Inst) (u : Value) (y : Inst) (w : World) (h : Instance_at w w.heap.size v x) (_ : Instance_wf x) (_ : Instance_sz x ≤ 1048576) (h' : Instance_at w w.heap.size u y) (_ : Instance_wf y) (_ : Instance_sz y ≤ 1048576) :
    Calls Tryz.prog 50 #[v, u] w fun e w' => e = .returned (.bool (eqInst x y)) ∧ Below w.heap.size w w' := specEqualInstances_any v u x y w h h'

/-- a solution for a source -/
def solM (s x : Inst) (l : List Dep) : Bool := satM x l && (instOk s && eqInst (restrictI x true) (restrictI s true))
theorem eqInst_comm (x y : Inst) : eqInst x y = eqInst y x := by
  unfold eqInst
  rw [decide_eq_decide.2 (eq_comm (a := x.rels)), decide_eq_decide.2 (eq_comm (a := x.facts))]

end Go.Proofs.YtobdijcnfmgidaaGreat
