/-
  Walks and plain lemmas for the laws of this seat: what single Go functions return, for every argument.
-/
import Derived.Test.YtmecdjincmkofaaGreatDoorShelf
import Derived.Laws.StructEq
import Derived.Deep.RegionHeld3
import Derived.Test.YtmecdjincmkofaaGreatDoorMem
import Derived.Test.YtmecdjincmkofaaGreatDoorInts
import Derived.Test.YtmecdjincmkofaaGreatDoorRels
import Derived.Test.YtmecdjincmkofaaGreatDoorFact
import Derived.Test.YtmecdjincmkofaaGreatDoorTyInst
import Derived.Test.YtmecdjincmkofaaGreatDoorTakeE
import Derived.Test.YtmecdjincmkofaaGreatDoorMInst
import Derived.Test.YtmecdjincmkofaaGreatDoorFactV
import Derived.Test.YtmecdjincmkofaaGreatDoorMSub
import Derived.Test.YtmecdjincmkofaaGreatDoorMHom
import Derived.Test.YtmecdjincmkofaaGreatDoorValInI
namespace Go.Proofs.YtmecdjincmkofaaGreatDoor
open Go.RowKit

set_option maxHeartbeats 1600000 in
set_option maxRecDepth 100000 in
theorem specEqualSubstitutions_any (v u : Value) (x y : Sbst) (w : World) (h : Substitution_at w w.heap.size v x) (h' : Substitution_at w w.heap.size u y) :
    Calls Tryz.prog 70 #[v, u] w fun e w' => e = .returned (.bool (eqSub x y)) ∧ Below w.heap.size w w' := by
  obtain ⟨P, c, Q, d, rfl⟩ := Substitution_form h
  obtain ⟨P', c', Q', d', rfl⟩ := Substitution_form h'
  obtain ⟨V1, V2, hv, hR, hF⟩ := h
  obtain ⟨U1, U2, hu, hR', hF'⟩ := h'
  simp only [Value.agg.injEq, Array.mk.injEq, List.cons.injEq, and_true] at hv hu
  obtain ⟨rfl, rfl⟩ := hv
  obtain ⟨rfl, rfl⟩ := hu
  have HF := Lib.hid hF
  have HF' := Lib.hid hF'
  have HR := Lib.hid hR
  have HR' := Lib.hid hR'
  clear hR hF hR' hF'
  obtain ⟨E, hEq⟩ : ∃ E, E = ((w.alloc (.cells #[.slice P x.nulls.length c, .slice Q x.vals.length d] 81)).alloc (.cells #[.slice P' y.nulls.length c', .slice Q' y.vals.length d'] 81)) := ⟨_, rfl⟩
  have hE : Below w.heap.size w E := by rw [hEq]; exact below_more (below_more (Below.refl _ _) _) _
  have HE := Lib.hid (show w.heap.size + 2 = E.heap.size by rw [hEq]; simp)
  have K1 := Lib.hid (show E.cell? ⟨w.heap.size, 1, none⟩ = some (.slice Q x.vals.length d) by rw [hEq]; simp [go_sem])
  have L1 := Lib.hid (show E.cell? ⟨w.heap.size + 1, 1, none⟩ = some (.slice Q' y.vals.length d') by rw [hEq]; simp [go_sem])
  have hrl := specInts_any (.slice P x.nulls.length c) (.slice P' y.nulls.length c') x.nulls y.nulls E ((HR.out.below hE (Nat.le_refl _)).more hE.size) ((HR'.out.below hE (Nat.le_refl _)).more hE.size)
  have hfl := fun (W : World) (hb : Below w.heap.size w W) => specInts_any (.slice Q x.vals.length d) (.slice Q' y.vals.length d') x.vals y.vals W (HF.out.later hb) (HF'.out.later hb)
  rw [hEq] at hrl
  have HV := Lib.hid (show eqSub x y = (decide (cmpInts x.nulls y.nulls = 0) && decide (cmpInts x.vals y.vals = 0)) from rfl)
  generalize cmpInts x.nulls y.nulls = p at *
  generalize cmpInts x.vals y.vals = q at *
  by_cases hp : p = 0
  · subst hp
    have hz : ((0 : Int) == 0) = true := rfl
    go_enter Tryz.func70, Tryz.ntmps70
    go_wp2_with fail
    refine hrl.mono ?_
    rintro e w1 ⟨rfl, hb1⟩
    rw [← hEq] at hb1
    have hW1 := hE.trans (hb1.mono hE.size)
    have f1 := (hb1.cell (p := ⟨w.heap.size, 1, none⟩) (by show w.heap.size < _; have := HE.out; omega)).trans K1.out
    have g1 := (hb1.cell (p := ⟨w.heap.size + 1, 1, none⟩) (by show w.heap.size + 1 < _; have := HE.out; omega)).trans L1.out
    replace hfl := hfl w1 hW1
    clear hrl hEq
    by_cases hq : q = 0
    · subst hq
      go_wp2_with (go_at_call 152; refine hfl.mono ?_; rintro e w2 ⟨rfl, hb2⟩)
      go_ret
      exact ⟨ret_bool HV.out.symm, hW1.trans (hb2.mono hW1.size)⟩
    · have hb : (q == 0) = false := beq_eq_false_iff_ne.2 hq
      have HV2 := Lib.hid (show eqSub x y = false by rw [HV.out, decide_eq_false hq]; rfl)
      clear hq
      go_wp2_with (go_at_call 152; refine hfl.mono ?_; rintro e w2 ⟨rfl, hb2⟩)
      go_ret
      exact ⟨ret_bool HV2.out.symm, hW1.trans (hb2.mono hW1.size)⟩
  · have hb : (p == 0) = false := beq_eq_false_iff_ne.2 hp
    have HV2 := Lib.hid (show eqSub x y = false by rw [HV.out, decide_eq_false hp]; rfl)
    clear hp
    go_enter Tryz.func70, Tryz.ntmps70
    go_wp2_with (go_at_call 152; refine hrl.mono ?_; rintro e w1 ⟨rfl, hb1⟩)
    rw [← hEq] at hb1
    go_ret
    exact ⟨ret_bool HV2.out.symm, hE.trans (hb1.mono hE.size)⟩
theorem specEqualSubstitutions_c (v : Value) (x : Sbst) (u : Value) (y : Sbst) (w : World) (h : Substitution_at w w.heap.size v x) (_ : Substitution_wf x) (_ : Substitution_sz x ≤ 1048576) (h' : Substitution_at w w.heap.size u y) (_ : Substitution_wf y) (_ : Substitution_sz y ≤ 1048576) :
    Calls Tryz.prog 70 #[v, u] w fun e w' => e = .returned (.bool (eqSub x y)) ∧ Below w.heap.size w w' := specEqualSubstitutions_any v u x y w h h'

theorem implEqInts_any (l m : List Int) (v u : Value) (w : World) (hl : IntsAt w w.heap.size v l) (hm : IntsAt w w.heap.size u m) :
    Calls Tryz.prog 151 #[v, u] w fun e w' => e = .returned (.bool (decide (l = m))) ∧ Below w.heap.size w w' := by
  obtain ⟨A, c, rfl, hlc, hcm, hc, -⟩ := hl
  obtain ⟨A', c', rfl, hlc', hcm', hc', -⟩ := hm
  unfold maxLen at hcm hcm'
  by_cases hlen : l.length = m.length
  · rcases Nat.eq_zero_or_pos l.length with h0 | h0
    · have e : l = [] := List.eq_nil_of_length_eq_zero h0
      have e' : m = [] := List.eq_nil_of_length_eq_zero (by omega)
      subst e e'
      refine (Tryz.slices_Equal_int_empty A A' c 0 c' w (by omega)).mono ?_
      rintro e w' ⟨rfl, hw⟩
      exact ⟨rfl, by rw [hw]; exact Below.refl _ _⟩
    · obtain ⟨b, off, rfl, hb, hc⟩ := hc h0
      obtain ⟨b', off', rfl, hb', hc'⟩ := hc' (by omega)
      have k1 : ∀ j, j < l.length → w.cell? ⟨b, off + j, none⟩ = some (.int .i64 (l.getD j 0)) := fun j hj => hc j _ (by rw [flat_int]; simp [hj])
      have k2 : ∀ j, j < m.length → w.cell? ⟨b', off' + j, none⟩ = some (.int .i64 (m.getD j 0)) := fun j hj => hc' j _ (by rw [flat_int]; simp [hj])
      have h := Tryz.slices_Equal_int b off l.length c b' off' m.length c' l m w (Nat.le_refl _) (Nat.le_refl _) (by omega) (by omega) k1 k2
      rw [List.take_of_length_le (Nat.le_refl _), List.take_of_length_le (Nat.le_refl _)] at h
      refine h.mono ?_
      rintro e w' ⟨rfl, q, rfl⟩
      refine ⟨?_, below_drewN w q⟩
      by_cases e : l = m
      · subst e; simp
      · rw [decide_eq_false e, beq_eq_false_iff_ne.2 e]
  · refine (Tryz.slices_Equal_int_lens A A' l.length c m.length c' w hlen).mono ?_
    rintro e w' ⟨rfl, hw⟩
    exact ⟨by rw [decide_eq_false (fun e => hlen (by rw [e]))], by rw [hw]; exact Below.refl _ _⟩

set_option maxHeartbeats 1600000 in
set_option maxRecDepth 100000 in
theorem implEqualSubstitutions_any (v u : Value) (x y : Sbst) (w : World) (h : Substitution_at w w.heap.size v x) (h' : Substitution_at w w.heap.size u y) :
    Calls Tryz.prog 69 #[v, u] w fun e w' => e = .returned (.bool (eqSub x y)) ∧ Below w.heap.size w w' := by
  obtain ⟨P, c, Q, d, rfl⟩ := Substitution_form h
  obtain ⟨P', c', Q', d', rfl⟩ := Substitution_form h'
  obtain ⟨V1, V2, hv, hR, hF⟩ := h
  obtain ⟨U1, U2, hu, hR', hF'⟩ := h'
  simp only [Value.agg.injEq, Array.mk.injEq, List.cons.injEq, and_true] at hv hu
  obtain ⟨rfl, rfl⟩ := hv
  obtain ⟨rfl, rfl⟩ := hu
  have HF := Lib.hid hF
  have HF' := Lib.hid hF'
  have HR := Lib.hid hR
  have HR' := Lib.hid hR'
  clear hR hF hR' hF'
  obtain ⟨E, hEq⟩ : ∃ E, E = ((w.alloc (.cells #[.slice P x.nulls.length c, .slice Q x.vals.length d] 81)).alloc (.cells #[.slice P' y.nulls.length c', .slice Q' y.vals.length d'] 81)) := ⟨_, rfl⟩
  have hE : Below w.heap.size w E := by rw [hEq]; exact below_more (below_more (Below.refl _ _) _) _
  have HE := Lib.hid (show w.heap.size + 2 = E.heap.size by rw [hEq]; simp)
  have K1 := Lib.hid (show E.cell? ⟨w.heap.size, 1, none⟩ = some (.slice Q x.vals.length d) by rw [hEq]; simp [go_sem])
  have L1 := Lib.hid (show E.cell? ⟨w.heap.size + 1, 1, none⟩ = some (.slice Q' y.vals.length d') by rw [hEq]; simp [go_sem])
  have hrl := implEqInts_any x.nulls y.nulls (.slice P x.nulls.length c) (.slice P' y.nulls.length c') E ((HR.out.below hE (Nat.le_refl _)).more hE.size) ((HR'.out.below hE (Nat.le_refl _)).more hE.size)
  have hfl := fun (W : World) (hb : Below w.heap.size w W) => implEqInts_any x.vals y.vals (.slice Q x.vals.length d) (.slice Q' y.vals.length d') W (HF.out.later hb) (HF'.out.later hb)
  rw [hEq] at hrl
  have HV := Lib.hid (eqSub_eq x y)
  generalize decide (x.vals = y.vals) = q at *
  cases hp : decide (x.nulls = y.nulls) with
  | true =>
    rw [hp] at hrl HV
    clear hp
    go_enter Tryz.func69, Tryz.ntmps69
    go_wp2_with fail
    refine hrl.mono ?_
    rintro e w1 ⟨rfl, hb1⟩
    rw [← hEq] at hb1
    have hW1 := hE.trans (hb1.mono hE.size)
    have f1 := (hb1.cell (p := ⟨w.heap.size, 1, none⟩) (by show w.heap.size < _; have := HE.out; omega)).trans K1.out
    have g1 := (hb1.cell (p := ⟨w.heap.size + 1, 1, none⟩) (by show w.heap.size + 1 < _; have := HE.out; omega)).trans L1.out
    replace hfl := hfl w1 hW1
    clear hrl hEq
    go_wp2_with (go_at_call 151; refine hfl.mono ?_; rintro e w2 ⟨rfl, hb2⟩)
    go_ret
    exact ⟨ret_bool HV.out.symm, hW1.trans (hb2.mono hW1.size)⟩
  | false =>
    rw [hp] at hrl HV
    clear hp
    go_enter Tryz.func69, Tryz.ntmps69
    go_wp2_with (go_at_call 151; refine hrl.mono ?_; rintro e w1 ⟨rfl, hb1⟩)
    rw [← hEq] at hb1
    go_ret
    exact ⟨ret_bool HV.out.symm, hE.trans (hb1.mono hE.size)⟩
theorem implEqualSubstitutions_c (v : Value) (x : Sbst) (u : Value) (y : Sbst) (w : World) (h : Substitution_at w w.heap.size v x) (_ : Substitution_wf x) (_ : Substitution_sz x ≤ 1048576) (h' : Substitution_at w w.heap.size u y) (_ : Substitution_wf y) (_ : Substitution_sz y ≤ 1048576) :
    Calls Tryz.prog 69 #[v, u] w fun e w' => e = .returned (.bool (eqSub x y)) ∧ Below w.heap.size w w' := implEqualSubstitutions_any v u x y w h h'

set_option maxHeartbeats 3200000 in
set_option maxRecDepth 100000 in
theorem specNullsOfInstance_any (v : Value) (x : Inst) (w : World) (h : Instance_at w w.heap.size v x) (hw : Instance_wf x) :
    Calls Tryz.prog 72 #[v] w fun e w' => ∃ u, e = .returned u ∧ OwnInts w.heap.size u (nullsI x.facts) w' ∧ Below w.heap.size w w' := by
  obtain ⟨P, c, Q, d, rfl⟩ := Instance_form h
  obtain ⟨V1, V2, hv, hR, hF⟩ := h
  simp only [Value.agg.injEq, Array.mk.injEq, List.cons.injEq, and_true] at hv
  obtain ⟨rfl, rfl⟩ := hv
  obtain ⟨_, _, hv2, hd1, hd2⟩ := hF.form
  injection hv2 with e1 _ e2
  subst e1 e2
  unfold maxLen at hd2
  have HF := Lib.hid hF
  obtain ⟨-, hwF⟩ := hw
  clear hF hR
  have hE : Below w.heap.size w (w.alloc (.cells #[.slice P x.rels.length c, .slice Q x.facts.length d] 40)) := (Below.refl _ _).alloc (Nat.le_refl _) _
  have HE := Lib.hid (show w.heap.size + 1 = (w.alloc (.cells #[.slice P x.rels.length c, .slice Q x.facts.length d] 40)).heap.size by simp)
  have K1 := Lib.hid (show (w.alloc (.cells #[.slice P x.rels.length c, .slice Q x.facts.length d] 40)).cell? ⟨w.heap.size, 1, none⟩ = some (.slice Q x.facts.length d) by simp [go_sem])
  go_enter Tryz.func72, Tryz.ntmps72
  go_wp2
  go_loopw [3, 4] (fun o i wr => ∃ k g cap : Nat, k ≤ x.facts.length ∧ i = .int .i64 k ∧ o = .slice (some ⟨g, 0, none⟩) (nullsI (x.facts.take k)).length cap ∧ OwnInts (w.heap.size + 1) o (nullsI (x.facts.take k)) wr ∧ Below (w.heap.size + 1) (w.alloc (.cells #[.slice P x.rels.length c, .slice Q x.facts.length d] 40)) wr) (fun _ i _ => x.facts.length - (intOf i).toNat)
  case atStart => exact ⟨0, _, _, by omega, rfl, rfl, by simpa [nullsI] using OwnInts.empty (w.alloc (.cells #[.slice P x.rels.length c, .slice Q x.facts.length d] 40)) (w.heap.size + 1) (by simp), (Below.refl _ _).alloc (by simp) _⟩
  case round =>
    obtain ⟨k, g, cap, hk, rfl, rfl, hO, hW⟩ := hrel
    have hz := hW.size
    rw [← HE.out] at hz
    have hWw : Below w.heap.size w wr := hE.trans (hW.mono (by omega))
    have f1 := (hW.cell (p := ⟨w.heap.size, 1, none⟩) (by show w.heap.size < _; omega)).trans K1.out
    by_cases hlt : k < x.facts.length
    · obtain ⟨b, off, V, rfl, hb, c0, c1, hV⟩ := FactS_at.elem HF.out k hlt
      replace c0 := (hWw.cell (p := ⟨b, off + k * 2, none⟩) hb).trans c0
      replace c1 := (hWw.cell (p := ⟨b, off + k * 2 + 1, none⟩) hb).trans c1
      have hcon := specNullsOfFact_any x.facts[k].rel V x.facts[k].vals wr ((hV.below hWw (Nat.le_refl _)).more hWw.size) (hwF k hlt).2
      have HN := Lib.hid (show nullsI (x.facts.take (k + 1)) = (nullsOf x.facts[k].vals).foldl putI (nullsI (x.facts.take k)) from nullsI_take x.facts k hlt)
      have hAs := asc_nulls x.facts[k].vals
      have hAo := asc_nullsI (x.facts.take k)
      have HAs := Lib.hid hAs
      have HAo := Lib.hid hAo
      have HO := Lib.hid hO
      clear hV hAs hAo hO
      go_wp2_with fail
      refine hcon.mono ?_
      rintro e w1 ⟨u, rfl, hU, hb1⟩
      clear hcon c0 c1 f1
      have hz1 := hb1.size
      obtain ⟨Pn, cn, rfl, -, hcn, -⟩ := hU.at_
      unfold maxLen at hcn
      have HU := Lib.hid hU
      have HO1 := Lib.hid (HO.out.below hb1 (Nat.le_refl _))
      have hln := (HAs.out).len
      clear hU
      generalize nullsOf x.facts[k].vals = L at *
      generalize nullsI (x.facts.take k) = S at *
      go_wp2
      go_loopw [3, 6] (fun o i wq => ∃ m g2 cap2 : Nat, m ≤ L.length ∧ i = .int .i64 m ∧ o = .slice (some ⟨g2, 0, none⟩) ((L.take m).foldl putI S).length cap2 ∧ OwnInts (w.heap.size + 1) o ((L.take m).foldl putI S) wq ∧ Below w1.heap.size w1 wq) (fun _ i _ => L.length - (intOf i).toNat)
      case atStart => exact ⟨0, g, cap, by omega, rfl, rfl, HO1.out, Below.refl _ _⟩
      case round =>
        obtain ⟨m, g2, cap2, hm, rfl, rfl, hO2, hW2⟩ := hrel
        have hz2 := hW2.size
        by_cases hlm : m < L.length
        · obtain ⟨b', off', rfl, hb', d0⟩ := IntsAt.elem (HU.out.at_.below hW2 (Nat.le_refl _)) m hlm
          have HP := Lib.hid (foldPut_take S L m hlm)
          have hAm := (HAo.out.fold (L.take m) (fun y hy => HAs.out.2 y (List.mem_of_mem_take hy))).len
          have hput := specPut_any (w.heap.size + 1) g2 cap2 ((L.take m).foldl putI S) L[m] wr hO2 (by omega) (by omega)
          rw [← HP.out] at hput
          clear hO2
          go_wp2_with (go_at_call 156; refine hput.mono ?_; rintro e w3 ⟨g3, cap3, rfl, hO3, hb3⟩)
          go_roundw
          case rel => exact ⟨m + 1, g3, cap3, by omega, by go_num, rfl, hO3, hW2.trans (hb3.mono hz2)⟩
          case measure => simp [intOf]; omega
        · obtain rfl : m = L.length := by omega
          have he : (L.take L.length).foldl putI S = nullsI (x.facts.take (k + 1)) := by
            rw [List.take_of_length_le (Nat.le_refl _), HN.out]
          go_wp2
          go_roundw
          case rel => exact ⟨k + 1, g2, cap2, by omega, by go_num, by rw [← he], by rw [← he]; exact hO2, hW.trans ((hb1.trans (hW2.mono hz1)).mono hz)⟩
          case measure => simp [intOf]; omega
    · obtain rfl : k = x.facts.length := by omega
      have he : nullsI (x.facts.take x.facts.length) = nullsI x.facts := by rw [List.take_of_length_le (Nat.le_refl _)]
      rw [he] at hO
      have HO := Lib.hid (hO.mono (B' := w.heap.size) (by omega))
      clear hO
      go_wp2
      go_ret
      exact ⟨_, by rw [he]; rfl, HO.out, hWw⟩
def NullsOfInstance_r0 (x : Inst) : List Int := nullsI x.facts
theorem specNullsOfInstance_c (v : Value) (x : Inst) (w : World) (h : Instance_at w w.heap.size v x) (hw : Instance_wf x) (_ : Instance_sz x ≤ 1048576) :
    Calls Tryz.prog 72 #[v] w fun e w' => ∃ u, e = .returned u ∧ IntS_at w' w'.heap.size u (NullsOfInstance_r0 x) ∧ Below w.heap.size w w' :=
  (specNullsOfInstance_any v x w h hw).mono fun _ _ ⟨u, he, ho, hb⟩ => ⟨u, he, ho.at_, hb⟩

theorem guardRel : Tryz.prog.eqGuardType Tryz.prog.depth 113 = false := by kernel_rfl
theorem stoodRel : Tryz.prog.stoodInHeld 113 = false := by kernel_rfl
theorem run_neq_rel (r r' : Rel) (w : World) : (binOp .neq 113 (.agg #[.string r.name, .int .i64 r.arity, .bool r.source]) (.agg #[.string r'.name, .int .i64 r'.arity, .bool r'.source])).run Tryz.prog w = .ok (.bool (!(decide (r = r')))) w := by
  rw [run_neq_struct]
  rw [run_equalIn_struct w 9999 113 _ _ (by kernel_rfl) stoodRel]
  simp [go_sem, Tryz.underlying113, Tryz.underlying9, Tryz.underlying3, Tryz.underlying4]
  have key : (r = r') ↔ (r.name.toList = r'.name.toList ∧ r.arity = r'.arity ∧ r.source = r'.source) := by
    constructor
    · rintro rfl; exact ⟨rfl, rfl, rfl⟩
    · rintro ⟨h1, h2, h3⟩
      have h4 : r.name = r'.name := by
        have := h1
        rw [ByteArray.toList_eq, ByteArray.toList_eq] at this
        exact ByteArray.ext (Array.ext' this)
      cases r; cases r'; simp_all
  by_cases h1 : r.name.toList = r'.name.toList <;> by_cases h2 : r.arity = r'.arity <;> by_cases h3 : r.source = r'.source <;> simp [key, h1, h2, h3]
theorem run_guard_rel (r r' : Rel) (w : World) (x y : Operand) : (eqGuard .neq 113 x y (.agg #[.string r.name, .int .i64 r.arity, .bool r.source]) (.agg #[.string r'.name, .int .i64 r'.arity, .bool r'.source])).run Tryz.prog w = .ok () w := run_eqGuard_agg w _ _ x y _ _ guardRel
/-- as a step of a region that draws its order -/
theorem quiet_neq_rel {C : World → Prop} {K : Act → Prop} {a : Act} {o : Oper} (r r' : Rel) (x y : Operand) (t : TypeId) (ho : o.op = .binOp .neq 113 x y t) (hx : a.eval x = .agg #[.string r.name, .int .i64 r.arity, .bool r.source]) (hy : a.eval y = .agg #[.string r'.name, .int .i64 r'.arity, .bool r'.source]) (q : Bool) (hq : decide (r = r') = q)
    (h : K (a.put o.dst (.bool (!q)))) : o.quiet Tryz.prog a C K := by
  subst hq
  refine ⟨_, fun w _ => ?_, h⟩
  unfold Oper.quietAt execOp
  simp only [ho, hx, hy, Sem.run_bind, run_guard_rel, run_neq_rel, Result.andThen_ok, Sem.run_pure]
  exact ⟨rfl, rfl⟩

set_option maxHeartbeats 1600000 in
set_option maxRecDepth 100000 in
theorem implEqualRels_at (l m : List Rel) (q : Bool) (hq : decide (l = m) = q) (v u : Value) (w : World) (hl : RelsAt w w.heap.size v l) (hm : RelsAt w w.heap.size u m) :
    Calls Tryz.prog 94 #[v, u] w fun e w' => e = .returned (.bool q) ∧ Below w.heap.size w w' := by
  subst hq
  have HL := Lib.hid hl
  have HM := Lib.hid hm
  obtain ⟨A, c, rfl, hlc, hcm, -⟩ := hl
  obtain ⟨A', c', rfl, hlc', hcm', -⟩ := hm
  unfold maxLen at hcm hcm'
  by_cases hn : l.length = m.length
  · have hnb : ((l.length : Int) != (m.length : Int)) = false := by rw [hn]; simp
    have HN := Lib.hid hn
    clear hn
    go_enter Tryz.func94, Tryz.ntmps94
    go_wp2
    go_loopw [13] (fun i wr => ∃ k : Nat, k ≤ l.length ∧ i = .int .i64 k ∧ Hid (l.take k = m.take k) ∧ Below w.heap.size w wr) (fun i _ => l.length - (intOf i).toNat)
    case atStart => exact ⟨0, by omega, rfl, Lib.hid (by simp), Below.refl _ _⟩
    case round =>
      obtain ⟨k, hk, rfl, HT, hW⟩ := hrel
      have hz := hW.size
      by_cases hlt : k < l.length
      · have hlt' : k < m.length := by have := HN.out; omega
        obtain ⟨b, off, rfl, hb, c0, c1, c2⟩ := RelsAt.elem HL.out k hlt
        obtain ⟨b', off', rfl, hb', d0, d1, d2⟩ := RelsAt.elem HM.out k hlt'
        have HE := Lib.hid (take_eq_next l m k hlt hlt')
        have HF := Lib.hid (fun h => take_eq_not l m k hlt hlt' h)
        generalize l[k] = r at *
        generalize m[k] = r' at *
        have C0 := Aft.cell hb c0
        have C1 := Aft.cell hb c1
        have C2 := Aft.cell hb c2
        have D0 := Aft.cell hb' d0
        have D1 := Aft.cell hb' d1
        have D2 := Aft.cell hb' d2
        clear c0 c1 c2 d0 d1 d2
        cases hd : decide (r = r') with
        | true =>
          have HE' := Lib.hid (HE.out (of_decide_eq_true hd) HT.out)
          go_wp2
          refine wp_region_aft hW (by kernel_rfl) (by kernel_rfl) ?_
          repeat (go_big_quiet_step (fail))
          go_big_quiet_want
          refine quiet_neq_rel r r' _ _ _ rfl rfl rfl true hd ?_
          go_big_quiet_on
          refine wpQuiet_nil ?_
          refine aft_end ?_
          intro w1 hh
          go_wp2
          go_roundw
          case rel => exact ⟨k + 1, by omega, by go_num, HE', hh⟩
          case measure => simp [intOf]; omega
        | false =>
          have HE' := Lib.hid (decide_eq_false (HF.out (of_decide_eq_false hd)))
          go_wp2
          refine wp_region_aft hW (by kernel_rfl) (by kernel_rfl) ?_
          repeat (go_big_quiet_step (fail))
          go_big_quiet_want
          refine quiet_neq_rel r r' _ _ _ rfl rfl rfl false hd ?_
          go_big_quiet_on
          refine wpQuiet_nil ?_
          refine aft_end ?_
          intro w1 hh
          go_wp2
          go_ret
          exact ⟨by rw [HE'.out]; rfl, hh⟩
      · obtain rfl : k = l.length := by omega
        have HE' := Lib.hid (decide_eq_true (show l = m by have := HT.out; rwa [List.take_of_length_le (Nat.le_refl _), List.take_of_length_le (by rw [HN.out]; exact Nat.le_refl _)] at this))
        go_wp2
        go_ret
        exact ⟨by rw [HE'.out]; rfl, hW⟩
  · have hnb : ((l.length : Int) != (m.length : Int)) = true := by rw [bne_iff_ne]; omega
    have HE' := Lib.hid (decide_eq_false (show ¬ l = m by rintro rfl; exact hn rfl))
    clear hn
    go_enter Tryz.func94, Tryz.ntmps94
    go_wp2
    go_ret
    exact ⟨by rw [HE'.out]; rfl, Below.refl _ _⟩

set_option maxHeartbeats 1600000 in
set_option maxRecDepth 100000 in
theorem implHaveEqual_at (x y : Inst) (q : Bool) (hq : sameRels x y = q) (v u : Value) (w : World) (h : Instance_at w w.heap.size v x) (hw : Instance_wf x) (h' : Instance_at w w.heap.size u y) (hw' : Instance_wf y) :
    Calls Tryz.prog 153 #[v, u] w fun e w' => e = .returned (.bool q) ∧ Below w.heap.size w w' := by
  obtain ⟨P, c, Q, d, rfl⟩ := Instance_form h
  obtain ⟨P', c', Q', d', rfl⟩ := Instance_form h'
  have HX := Lib.hid h
  have HY := Lib.hid h'
  obtain ⟨V1, V2, hv, hR, -⟩ := h
  obtain ⟨U1, U2, hu, hR', -⟩ := h'
  simp only [Value.agg.injEq, Array.mk.injEq, List.cons.injEq, and_true] at hv hu
  obtain ⟨rfl, rfl⟩ := hv
  obtain ⟨rfl, rfl⟩ := hu
  have HR := Lib.hid hR
  have HR' := Lib.hid hR'
  clear hR hR'
  obtain ⟨E, hEq⟩ : ∃ E, E = ((w.alloc (.cells #[.slice P x.rels.length c, .slice Q x.facts.length d] 40)).alloc (.cells #[.slice P' y.rels.length c', .slice Q' y.facts.length d'] 40)) := ⟨_, rfl⟩
  have hE : Below w.heap.size w E := by rw [hEq]; exact below_more (below_more (Below.refl _ _) _) _
  have HE := Lib.hid (show w.heap.size + 2 = E.heap.size by rw [hEq]; simp)
  have K0 := Lib.hid (show E.cell? ⟨w.heap.size, 0, none⟩ = some (.slice P x.rels.length c) by rw [hEq]; simp [go_sem])
  have L0 := Lib.hid (show E.cell? ⟨w.heap.size + 1, 0, none⟩ = some (.slice P' y.rels.length c') by rw [hEq]; simp [go_sem])
  have L1 := Lib.hid (show E.cell? ⟨w.heap.size + 1, 1, none⟩ = some (.slice Q' y.facts.length d') by rw [hEq]; simp [go_sem])
  have hcx := fun (b : Bool) (hb : instOk x = b) => implIsValidInstance_at x b hb _ E (HX.out.later hE) hw
  have hcy := fun (b : Bool) (hb : instOk y = b) (W : World) (hW : Below w.heap.size w W) => implIsValidInstance_at y b hb _ W (HY.out.later hW) hw'
  have hcr := fun (b : Bool) (hb : decide (x.rels = y.rels) = b) (W : World) (hW : Below w.heap.size w W) => implEqualRels_at x.rels y.rels b hb _ _ W ((HR.out.below hW (Nat.le_refl _)).more hW.size) ((HR'.out.below hW (Nat.le_refl _)).more hW.size)
  rw [hEq] at hcx
  cases ho : instOk x with
  | false =>
    have HV := Lib.hid ((sameRels_not1 (y := y) ho).symm.trans hq)
    replace hcx := hcx false ho
    clear ho hcy hcr
    go_enter Tryz.func153, Tryz.ntmps153
    go_wp2_with fail
    refine hcx.mono ?_
    rintro e w1 ⟨rfl, b1⟩
    rw [← hEq] at b1
    clear hEq hcx
    go_wp2
    go_ret
    exact ⟨ret_bool HV.out, hE.trans (b1.mono hE.size)⟩
  | true =>
    have HO := Lib.hid ho
    replace hcx := hcx true ho
    clear ho
    go_enter Tryz.func153, Tryz.ntmps153
    go_wp2_with fail
    refine hcx.mono ?_
    rintro e w1 ⟨rfl, b1⟩
    rw [← hEq] at b1
    clear hEq hcx
    have hW1 := hE.trans (b1.mono hE.size)
    have l0 := (b1.cell (p := ⟨w.heap.size + 1, 0, none⟩) (by show w.heap.size + 1 < _; have := HE.out; omega)).trans L0.out
    have l1 := (b1.cell (p := ⟨w.heap.size + 1, 1, none⟩) (by show w.heap.size + 1 < _; have := HE.out; omega)).trans L1.out
    cases hy : instOk y with
    | false =>
      have HV := Lib.hid ((sameRels_not2 (x := x) hy).symm.trans hq)
      replace hcy := hcy false hy w1 hW1
      clear hy hcr
      go_wp2_with fail
      refine hcy.mono ?_
      rintro e w2 ⟨rfl, b2⟩
      go_wp2
      go_ret
      exact ⟨ret_bool HV.out, hW1.trans (b2.mono hW1.size)⟩
    | true =>
      have HOY := Lib.hid hy
      replace hcy := hcy true hy w1 hW1
      clear hy
      go_wp2_with fail
      refine hcy.mono ?_
      rintro e w2 ⟨rfl, b2⟩
      have hW2 := hW1.trans (b2.mono hW1.size)
      have bb := b1.trans (b2.mono b1.size)
      have k0 := (bb.cell (p := ⟨w.heap.size, 0, none⟩) (by show w.heap.size < _; have := HE.out; omega)).trans K0.out
      have m0 := (bb.cell (p := ⟨w.heap.size + 1, 0, none⟩) (by show w.heap.size + 1 < _; have := HE.out; omega)).trans L0.out
      have HV := Lib.hid (fun b (hb : decide (x.rels = y.rels) = b) => show sameRels x y = b by unfold sameRels; rw [HO.out, HOY.out, hb]; rfl)
      clear hcy l0 l1
      cases hr : decide (x.rels = y.rels) with
      | false =>
        have HV' := Lib.hid ((HV.out _ hr).symm.trans hq)
        replace hcr := hcr false hr w2 hW2
        clear hr
        go_wp2_with (go_at_call 94; refine hcr.mono ?_; rintro e w3 ⟨rfl, b3⟩)
        go_ret
        exact ⟨ret_bool HV'.out, hW2.trans (b3.mono hW2.size)⟩
      | true =>
        have HV' := Lib.hid ((HV.out _ hr).symm.trans hq)
        replace hcr := hcr true hr w2 hW2
        clear hr
        go_wp2_with (go_at_call 94; refine hcr.mono ?_; rintro e w3 ⟨rfl, b3⟩)
        go_ret
        exact ⟨ret_bool HV'.out, hW2.trans (b3.mono hW2.size)⟩

end Go.Proofs.YtmecdjincmkofaaGreatDoor
