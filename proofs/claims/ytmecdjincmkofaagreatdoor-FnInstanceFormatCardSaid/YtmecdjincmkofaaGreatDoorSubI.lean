/-
  Walks and plain lemmas for the laws of this seat: what single Go functions return, for every argument.
-/
import Derived.Shelf.Abstract
import Derived.Test.YtmecdjincmkofaaGreatDoorBase
import Derived.Test.YtmecdjincmkofaaGreatDoorRels
import Derived.Test.YtmecdjincmkofaaGreatDoorTyInst
import Derived.Test.YtmecdjincmkofaaGreatDoorMInst
import Derived.Test.YtmecdjincmkofaaGreatDoorFactVI
import Derived.Test.YtmecdjincmkofaaGreatDoorFmtRI
import Derived.Test.YtmecdjincmkofaaGreatDoorInstEqS
namespace Go.Proofs.YtmecdjincmkofaaGreatDoor
open Go.RowKit

set_option maxHeartbeats 800000 in
theorem implSameFacts_at (a b : Fct) (q : Bool) (hq : sameP b a = q) (v u : Value) (w : World) (h : Fact_at w w.heap.size v a) (h' : Fact_at w w.heap.size u b) :
    Calls Tryz.prog 96 #[v, u] w fun e w' => e = .returned (.bool q) ∧ Below w.heap.size w w' := by
  obtain ⟨P, c, rfl⟩ := Fact_form h
  obtain ⟨Q, d, rfl⟩ := Fact_form h'
  have hE : Below w.heap.size w ((w.alloc (.cells #[.int .i64 a.rel, .slice P a.vals.length c] 57)).alloc (.cells #[.int .i64 b.rel, .slice Q b.vals.length d] 57)) := below_more (below_more (Below.refl _ _) _) _
  obtain ⟨z, hz⟩ : ∃ z, cmpF a b = z := ⟨_, rfl⟩
  have hc := implCompareFacts_at a b z hz _ _ ((w.alloc (.cells #[.int .i64 a.rel, .slice P a.vals.length c] 57)).alloc (.cells #[.int .i64 b.rel, .slice Q b.vals.length d] 57)) ((h.below hE (Nat.le_refl _)).more hE.size) ((h'.below hE (Nat.le_refl _)).more hE.size)
  have HQ := Lib.hid (show (z == 0) = q by rw [← hq, ← cmpF_same, hz]; rfl)
  clear hq hz h h'
  go_enter Tryz.func96, Tryz.ntmps96
  go_wp2_with (go_at_call 41; refine hc.mono ?_; rintro e w1 ⟨rfl, hb1⟩)
  go_ret
  exact ⟨ret_bool HQ.out, hE.trans (hb1.mono hE.size)⟩
/-- a function value that tells of a fact among l whether p holds, wherever G holds; it only makes memory -/
def TellsF (g : Nat) (lb : Array Value) (G : World → Prop) (p : Fct → Bool) (l : List Fct) : Prop :=
  ∀ (W : World) (x : Fct) (V : Value), G W → x ∈ l → IntS_at W W.heap.size V x.vals → Calls Tryz.prog g (#[.agg #[.int .i64 x.rel, V]] ++ lb) W fun e w' => e = .returned (.bool (p x)) ∧ Below W.heap.size W w'
/-- a fact in a box, which a function value has captured; all of it below block D -/
def BoxF (b D : Nat) (f : Fct) (V : Value) (W : World) : Prop := b < D ∧ D ≤ W.heap.size ∧ W.cell? ⟨b, 0, none⟩ = some (.int .i64 f.rel) ∧ W.cell? ⟨b, 1, none⟩ = some V ∧ IntS_at W D V f.vals
theorem BoxF.below {b D D' : Nat} {f : Fct} {V : Value} {W W' : World} (h : BoxF b D f V W) (hb : Below D' W W') (hD : D ≤ D') : BoxF b D f V W' := by
  obtain ⟨h1, h2, h3, h4, h5⟩ := h
  refine ⟨h1, Nat.le_trans h2 hb.size, (hb.cell (p := ⟨b, 0, none⟩) (Nat.lt_of_lt_of_le h1 hD)).trans h3, (hb.cell (p := ⟨b, 1, none⟩) (Nat.lt_of_lt_of_le h1 hD)).trans h4, h5.below hb hD⟩
theorem BoxF.later {b D : Nat} {f : Fct} {V : Value} {W W' : World} (h : BoxF b D f V W) (hb : Below W.heap.size W W') : BoxF b D f V W' := h.below hb h.2.1
theorem BoxF.more {b D D' : Nat} {f : Fct} {V : Value} {W : World} (h : BoxF b D f V W) (hD : D ≤ D') (hs : D' ≤ W.heap.size) : BoxF b D' f V W := ⟨Nat.lt_of_lt_of_le h.1 hD, hs, h.2.2.1, h.2.2.2.1, h.2.2.2.2.more hD⟩
theorem BoxF.chg {b D : Nat} {f : Fct} {V : Value} {S : Nat → Prop} {W W' : World} (h : BoxF b D f V W) (hc : Chg S W W') (hS : ∀ k, S k → D ≤ k) : BoxF b D f V W' := by
  obtain ⟨h1, h2, h3, h4, h5⟩ := h
  exact (show BoxF b D f V W from ⟨h1, h2, h3, h4, h5⟩).below (hc.below hS h2) (Nat.le_refl _)
theorem BoxF.store {b D q : Nat} {f : Fct} {V : Value} {W : World} (h : BoxF b D f V W) (hq : D ≤ q) (o : Nat) (u : Value) : BoxF b D f V (W.setCell ⟨q, o, none⟩ u) :=
  h.below ((Below.refl D W).setCell (p := ⟨q, o, none⟩) hq u) (Nat.le_refl _)

set_option maxHeartbeats 1600000 in
set_option maxRecDepth 100000 in
theorem implEqualRels_at (l m : List Rel) (q : Bool) (hq : decide (l = m) = q) (v u : Value) (w : World) (hl : RelsAt w w.heap.size v l) (hm : RelsAt w w.heap.size u m) :
    Calls Tryz.prog 94 #[v, u] w fun e w' => e = .returned (.bool q) ∧ Below w.heap.size w w' := by
  subst hq
  have HL := Lib.hid hl
  have HM := Lib.hid hm
  obtain ⟨A, c, rfl, hlc, hcm, -⟩ := hl
  obtain ⟨A', c', rfl, hlc', hcm', -⟩ := hm
  unfold maxLen at hcm hcm'
  by_cases hn : l.length = m.length
  · have hnb : ((l.length : Int) != (m.length : Int)) = false := by rw [hn]; simp
    have HN := Lib.hid hn
    clear hn
    go_enter Tryz.func94, Tryz.ntmps94
    go_wp2
    go_loopw [13] (fun i wr => ∃ k : Nat, k ≤ l.length ∧ i = .int .i64 k ∧ Hid (l.take k = m.take k) ∧ Below w.heap.size w wr) (fun i _ => l.length - (intOf i).toNat)
    case atStart => exact ⟨0, by omega, rfl, Lib.hid (by simp), Below.refl _ _⟩
    case round =>
      obtain ⟨k, hk, rfl, HT, hW⟩ := hrel
      have hz := hW.size
      by_cases hlt : k < l.length
      · have hlt' : k < m.length := by have := HN.out; omega
        obtain ⟨b, off, rfl, hb, c0, c1, c2⟩ := RelsAt.elem HL.out k hlt
        obtain ⟨b', off', rfl, hb', d0, d1, d2⟩ := RelsAt.elem HM.out k hlt'
        have HE := Lib.hid (take_eq_next l m k hlt hlt')
        have HF := Lib.hid (fun h => take_eq_not l m k hlt hlt' h)
        generalize l[k] = r at *
        generalize m[k] = r' at *
        have C0 := Aft.cell hb c0
        have C1 := Aft.cell hb c1
        have C2 := Aft.cell hb c2
        have D0 := Aft.cell hb' d0
        have D1 := Aft.cell hb' d1
        have D2 := Aft.cell hb' d2
        clear c0 c1 c2 d0 d1 d2
        cases hd : decide (r = r') with
        | true =>
          have HE' := Lib.hid (HE.out (of_decide_eq_true hd) HT.out)
          go_wp2
          refine wp_region_aft hW (by kernel_rfl) (by kernel_rfl) ?_
          repeat (go_big_quiet_step (fail))
          go_big_quiet_want
          refine quiet_neq_rel r r' _ _ _ rfl rfl rfl true hd ?_
          go_big_quiet_on
          refine wpQuiet_nil ?_
          refine aft_end ?_
          intro w1 hh
          go_wp2
          go_roundw
          case rel => exact ⟨k + 1, by omega, by go_num, HE', hh⟩
          case measure => simp [intOf]; omega
        | false =>
          have HE' := Lib.hid (decide_eq_false (HF.out (of_decide_eq_false hd)))
          go_wp2
          refine wp_region_aft hW (by kernel_rfl) (by kernel_rfl) ?_
          repeat (go_big_quiet_step (fail))
          go_big_quiet_want
          refine quiet_neq_rel r r' _ _ _ rfl rfl rfl false hd ?_
          go_big_quiet_on
          refine wpQuiet_nil ?_
          refine aft_end ?_
          intro w1 hh
          go_wp2
          go_ret
          exact ⟨by rw [HE'.out]; rfl, hh⟩
      · obtain rfl : k = l.length := by omega
        have HE' := Lib.hid (decide_eq_true (show l = m by have := HT.out; rwa [List.take_of_length_le (Nat.le_refl _), List.take_of_length_le (by rw [HN.out]; exact Nat.le_refl _)] at this))
        go_wp2
        go_ret
        exact ⟨by rw [HE'.out]; rfl, hW⟩
  · have hnb : ((l.length : Int) != (m.length : Int)) = true := by rw [bne_iff_ne]; omega
    have HE' := Lib.hid (decide_eq_false (show ¬ l = m by rintro rfl; exact hn rfl))
    clear hn
    go_enter Tryz.func94, Tryz.ntmps94
    go_wp2
    go_ret
    exact ⟨by rw [HE'.out]; rfl, Below.refl _ _⟩

set_option maxHeartbeats 1600000 in
set_option maxRecDepth 100000 in
theorem implEqualFacts_at (l m : List Fct) (q : Bool) (hq : decide (l = m) = q) (v u : Value) (w : World) (hl : FactS_at w w.heap.size v l) (hm : FactS_at w w.heap.size u m) :
    Calls Tryz.prog 95 #[v, u, .func (.func 96) #[] #[]] w fun e w' => e = .returned (.bool q) ∧ Below w.heap.size w w' := by
  subst hq
  have HL := Lib.hid hl
  have HM := Lib.hid hm
  obtain ⟨A, c, rfl, hlc, hcm⟩ := hl.form
  obtain ⟨A', c', rfl, hlc', hcm'⟩ := hm.form
  unfold maxLen at hcm hcm'
  clear hl hm
  have eg : ∀ args w, (callFunc 96 args).run Tryz.prog w = .ok (.enter 96 args) w := enters_of Tryz.func96 (by kernel_rfl) rfl
  by_cases hn : l.length = m.length
  · have hnb : ((l.length : Int) != (m.length : Int)) = false := by rw [hn]; simp
    have HN := Lib.hid hn
    clear hn
    go_enter Tryz.func95, Tryz.ntmps95
    go_wp2
    go_loopw [17] (fun i wr => ∃ k : Nat, k ≤ l.length ∧ i = .int .i64 k ∧ Hid (l.take k = m.take k) ∧ Below w.heap.size w wr) (fun i _ => l.length - (intOf i).toNat)
    case atStart => exact ⟨0, by omega, rfl, Lib.hid (by simp), Below.refl _ _⟩
    case round =>
      obtain ⟨k, hk, rfl, HT, hW⟩ := hrel
      have hz := hW.size
      by_cases hlt : k < l.length
      · have hlt' : k < m.length := by have := HN.out; omega
        obtain ⟨b, off, V, rfl, hb, c0, c1, hV⟩ := FactS_at.elem HL.out k hlt
        obtain ⟨b', off', U, rfl, hb', d0, d1, hU⟩ := FactS_at.elem HM.out k hlt'
        obtain ⟨PV, cV, rfl, -⟩ := id hV
        obtain ⟨PU, cU, rfl, -⟩ := id hU
        replace c0 := (hW.cell (p := ⟨b, off + k * 2, none⟩) hb).trans c0
        replace c1 := (hW.cell (p := ⟨b, off + k * 2 + 1, none⟩) hb).trans c1
        replace d0 := ((hW.trans ((below_more (Below.refl wr.heap.size wr) (.cells #[.int .i64 l[k].rel, .slice PV l[k].vals.length cV] 57)).mono hz)).cell (p := ⟨b', off' + k * 2, none⟩) hb').trans d0
        replace d1 := ((hW.trans ((below_more (Below.refl wr.heap.size wr) (.cells #[.int .i64 l[k].rel, .slice PV l[k].vals.length cV] 57)).mono hz)).cell (p := ⟨b', off' + k * 2 + 1, none⟩) hb').trans d1
        have HE := Lib.hid (take_eq_next l m k hlt hlt')
        have HF := Lib.hid (fun h => take_eq_not l m k hlt hlt' h)
        have hcon := fun (q : Bool) (hq : sameP m[k] l[k] = q) (W : World) (hb : Below wr.heap.size wr W) => implSameFacts_at l[k] m[k] q hq (.agg #[.int .i64 l[k].rel, .slice PV l[k].vals.length cV]) (.agg #[.int .i64 m[k].rel, .slice PU m[k].vals.length cU]) W ⟨_, rfl, ((hV.later hW).later hb)⟩ ⟨_, rfl, ((hU.later hW).later hb)⟩
        cases hd : sameP m[k] l[k] with
        | true =>
          have HE' := Lib.hid (HE.out (of_decide_eq_true hd) HT.out)
          replace hcon := hcon true hd
          clear hd hV hU
          go_wp2_with fail
          refine (hcon _ (below_more (below_more (Below.refl _ _) _) _)).mono ?_
          rintro e w2 ⟨rfl, hb2⟩
          have hb3 : Below wr.heap.size wr w2 := (below_more (below_more (Below.refl _ _) _) _).trans (hb2.mono (by simp; omega))
          go_wp2
          go_roundw
          case rel => exact ⟨k + 1, by omega, by go_num, HE', hW.trans (hb3.mono hz)⟩
          case measure => simp [intOf]; omega
        | false =>
          have HE' := Lib.hid (decide_eq_false (HF.out (of_decide_eq_false hd)))
          replace hcon := hcon false hd
          clear hd hV hU
          go_wp2_with fail
          refine (hcon _ (below_more (below_more (Below.refl _ _) _) _)).mono ?_
          rintro e w2 ⟨rfl, hb2⟩
          have hb3 : Below wr.heap.size wr w2 := (below_more (below_more (Below.refl _ _) _) _).trans (hb2.mono (by simp; omega))
          go_wp2
          go_ret
          exact ⟨ret_bool HE'.out.symm, hW.trans (hb3.mono hz)⟩
      · obtain rfl : k = l.length := by omega
        have HE' := Lib.hid (decide_eq_true (show l = m by have := HT.out; rwa [List.take_of_length_le (Nat.le_refl _), List.take_of_length_le (by rw [HN.out]; exact Nat.le_refl _)] at this))
        go_wp2
        go_ret
        exact ⟨ret_bool HE'.out.symm, hW⟩
  · have hnb : ((l.length : Int) != (m.length : Int)) = true := by rw [bne_iff_ne]; omega
    have HE' := Lib.hid (decide_eq_false (show ¬ l = m by rintro rfl; exact hn rfl))
    clear hn
    go_enter Tryz.func95, Tryz.ntmps95
    go_wp2
    go_ret
    exact ⟨ret_bool HE'.out.symm, Below.refl _ _⟩
set_option maxHeartbeats 1600000 in
set_option maxRecDepth 100000 in
theorem implEqualInstances_any (v u : Value) (x y : Inst) (w : World) (h : Instance_at w w.heap.size v x) (h' : Instance_at w w.heap.size u y) :
    Calls Tryz.prog 28 #[v, u] w fun e w' => e = .returned (.bool (eqInst x y)) ∧ Below w.heap.size w w' := by
  obtain ⟨P, c, Q, d, rfl⟩ := Instance_form h
  obtain ⟨P', c', Q', d', rfl⟩ := Instance_form h'
  obtain ⟨V1, V2, hv, hR, hF⟩ := h
  obtain ⟨U1, U2, hu, hR', hF'⟩ := h'
  simp only [Value.agg.injEq, Array.mk.injEq, List.cons.injEq, and_true] at hv hu
  obtain ⟨rfl, rfl⟩ := hv
  obtain ⟨rfl, rfl⟩ := hu
  have HF := Lib.hid hF
  have HF' := Lib.hid hF'
  have HR := Lib.hid hR
  have HR' := Lib.hid hR'
  clear hR hF hR' hF'
  obtain ⟨E, hEq⟩ : ∃ E, E = ((w.alloc (.cells #[.slice P x.rels.length c, .slice Q x.facts.length d] 40)).alloc (.cells #[.slice P' y.rels.length c', .slice Q' y.facts.length d'] 40)) := ⟨_, rfl⟩
  have hE : Below w.heap.size w E := by rw [hEq]; exact below_more (below_more (Below.refl _ _) _) _
  have HE := Lib.hid (show w.heap.size + 2 = E.heap.size by rw [hEq]; simp)
  have K1 := Lib.hid (show E.cell? ⟨w.heap.size, 1, none⟩ = some (.slice Q x.facts.length d) by rw [hEq]; simp [go_sem])
  have L1 := Lib.hid (show E.cell? ⟨w.heap.size + 1, 1, none⟩ = some (.slice Q' y.facts.length d') by rw [hEq]; simp [go_sem])
  have hrl := fun (q : Bool) (hq : decide (x.rels = y.rels) = q) => implEqualRels_at x.rels y.rels q hq (.slice P x.rels.length c) (.slice P' y.rels.length c') E ((HR.out.below hE (Nat.le_refl _)).more hE.size) ((HR'.out.below hE (Nat.le_refl _)).more hE.size)
  rw [hEq] at hrl
  cases hd : decide (x.rels = y.rels) with
  | false =>
    have HV := Lib.hid (show eqInst x y = false by unfold eqInst; rw [hd]; rfl)
    replace hrl := hrl false hd
    clear hd
    go_enter Tryz.func28, Tryz.ntmps28
    go_wp2_with (go_at_call 94; refine hrl.mono ?_; rintro e w1 ⟨rfl, hb1⟩)
    rw [← hEq] at hb1
    go_ret
    exact ⟨ret_bool HV.out.symm, hE.trans (hb1.mono hE.size)⟩
  | true =>
    have HV := Lib.hid (show eqInst x y = decide (x.facts = y.facts) by unfold eqInst; rw [hd]; rfl)
    replace hrl := hrl true hd
    have hfl := fun (W : World) (hb : Below w.heap.size w W) => implEqualFacts_at x.facts y.facts _ rfl (.slice Q x.facts.length d) (.slice Q' y.facts.length d') W (HF.out.later hb) (HF'.out.later hb)
    clear hd
    go_enter Tryz.func28, Tryz.ntmps28
    go_wp2_with fail
    refine hrl.mono ?_
    rintro e w1 ⟨rfl, hb1⟩
    rw [← hEq] at hb1
    have hW1 := hE.trans (hb1.mono hE.size)
    have f1 := (hb1.cell (p := ⟨w.heap.size, 1, none⟩) (by show w.heap.size < _; have := HE.out; omega)).trans K1.out
    have g1 := (hb1.cell (p := ⟨w.heap.size + 1, 1, none⟩) (by show w.heap.size + 1 < _; have := HE.out; omega)).trans L1.out
    replace hfl := hfl w1 hW1
    clear hrl hEq
    go_wp2_with (go_at_call 95; refine hfl.mono ?_; rintro e w2 ⟨rfl, hb2⟩)
    go_ret
    exact ⟨ret_bool HV.out.symm, hW1.trans (hb2.mono hW1.size)⟩
theorem implEqualInstances_c (v : Value) (x : Inst) (u : Value) (y : Inst) (w : World) (h : Instance_at w w.heap.size v x) (_ : Instance_wf x) (_ : Instance_sz x ≤ 1048576) (h' : Instance_at w w.heap.size u y) (_ : Instance_wf y) (_ : Instance_sz y ≤ 1048576) :
    Calls Tryz.prog 28 #[v, u] w fun e w' => e = .returned (.bool (eqInst x y)) ∧ Below w.heap.size w w' := implEqualInstances_any v u x y w h h'

end Go.Proofs.YtmecdjincmkofaaGreatDoor
