/-
  Walks and plain lemmas for the laws of this seat: what single Go functions return, for every argument.
-/
import Derived.Deep.Quiet
import Derived.Test.YtobdijcnfmgidaaGreatPlan
import Derived.Test.YtobdijcnfmgidaaGreatFact
import Derived.Test.YtobdijcnfmgidaaGreatTySS
import Derived.Test.YtobdijcnfmgidaaGreatKpM
import Derived.Test.YtobdijcnfmgidaaGreatMatB
import Derived.Test.YtobdijcnfmgidaaGreatFactV
import Derived.Test.YtobdijcnfmgidaaGreatInstV
import Derived.Test.YtobdijcnfmgidaaGreatMatK
import Derived.Test.YtobdijcnfmgidaaGreatTrigM
import Derived.Test.YtobdijcnfmgidaaGreatDepK
import Derived.Test.YtobdijcnfmgidaaGreatActsS
namespace Go.Proofs.YtobdijcnfmgidaaGreat
open Go.RowKit

set_option maxHeartbeats 3200000 in
set_option maxRecDepth 100000 in
theorem specAreValidDeps_any (v : Value) (l : List Rel) (u : Value) (xs : List Dep) (w : World) (hl : RelsAt w w.heap.size v l) (hln : l.length ≤ 1048576) (h : DependencyS_at w w.heap.size u xs) (hw : DependencyS_wf xs) :
    Calls Tryz.prog 15 #[v, u] w fun e w' => e = .returned (.bool (depsOk l xs)) ∧ Below w.heap.size w w' := by
  have HL := Lib.hid hl
  have HX := Lib.hid h
  obtain ⟨A, a0, rfl, hlc, hcm, -⟩ := hl
  obtain ⟨A', c, rfl, hc1, hc2⟩ := h.form
  unfold maxLen at hc2
  clear h
  go_enter Tryz.func15, Tryz.ntmps15
  go_wp2
  go_loopw [5] (fun i wr => ∃ j : Nat, j ≤ xs.length ∧ i = .int .i64 j ∧ Hid (AllTo (depOk l) xs j) ∧ Below w.heap.size w wr) (fun i _ => xs.length - (intOf i).toNat)
  case atStart => exact ⟨0, by omega, rfl, Lib.hid (AllTo.zero _ _), Below.refl _ _⟩
  case round =>
    obtain ⟨j, hj, rfl, HT, hW⟩ := hrel
    have hz := hW.size
    by_cases hlt : j < xs.length
    · obtain ⟨b, off, V, U, rfl, hb, c0, c1, c2, c3, c4, hV, hU⟩ := DependencyS_at.elem HX.out j hlt
      obtain ⟨PV, cV, rfl, -, -⟩ := hV.form
      obtain ⟨PU, cU, rfl, -, -⟩ := hU.form
      replace c0 := (hW.cell (p := ⟨b, off + j * 5, none⟩) hb).trans c0
      replace c1 := (hW.cell (p := ⟨b, off + j * 5 + 1, none⟩) hb).trans c1
      replace c2 := (hW.cell (p := ⟨b, off + j * 5 + 2, none⟩) hb).trans c2
      replace c3 := (hW.cell (p := ⟨b, off + j * 5 + 3, none⟩) hb).trans c3
      replace c4 := (hW.cell (p := ⟨b, off + j * 5 + 4, none⟩) hb).trans c4
      have hcon := fun (q : Bool) (hq : depOk l xs[j] = q) => specIsValidDependency_at (.slice A l.length a0) l (.agg #[.slice PV xs[j].body.length cV, .slice PU xs[j].head.length cU, .bool xs[j].egd, .int .i64 xs[j].left, .int .i64 xs[j].right]) xs[j] q hq wr ((HL.out.below hW (Nat.le_refl _)).more hz) hln ⟨_, _, rfl, (hV.below hW (Nat.le_refl _)).more hz, (hU.below hW (Nat.le_refl _)).more hz⟩ (hw j hlt)
      clear hV hU
      cases hv : depOk l xs[j] with
      | false =>
        have HV := Lib.hid (show depsOk l xs = false by unfold depsOk; rw [all_no hlt hv]; simp)
        replace hcon := hcon false hv
        clear hv
        go_wp2_with (go_at_call 39; refine hcon.mono ?_; rintro e w3 ⟨rfl, hb3⟩)
        go_ret
        exact ⟨ret_bool HV.out.symm, hW.trans (hb3.mono hz)⟩
      | true =>
        have HN := Lib.hid (HT.out.next hlt hv)
        replace hcon := hcon true hv
        clear hv
        go_wp2_with (go_at_call 39; refine hcon.mono ?_; rintro e w3 ⟨rfl, hb3⟩)
        go_roundw
        case rel => exact ⟨j + 1, by omega, by go_num, HN, hW.trans (hb3.mono hz)⟩
        case measure => simp [intOf]; omega
    · obtain rfl : j = xs.length := by omega
      have HA := Lib.hid (show depsOk l xs = (validRels l && decide (((xs.length : Nat) : Int) ≤ 5)) by
        unfold depsOk; rw [HT.out.full, Bool.and_true]
        congr 1
        exact decide_eq_decide.2 (by omega))
      cases hr : validRels l with
      | false =>
        have hcon := specAreValid_at2 l false hr (.slice A l.length a0) wr ((HL.out.below hW (Nat.le_refl _)).more hz)
        have HV := Lib.hid (HA.out.trans (by rw [hr]; rfl : _ = false))
        clear hr
        go_wp2_with (go_at_call 38; refine hcon.mono ?_; rintro e w3 ⟨rfl, hb3⟩)
        go_ret
        exact ⟨ret_bool HV.out.symm, hW.trans (hb3.mono hz)⟩
      | true =>
        have hcon := specAreValid_at2 l true hr (.slice A l.length a0) wr ((HL.out.below hW (Nat.le_refl _)).more hz)
        have HV := Lib.hid (HA.out.trans (by rw [hr]; rfl : _ = decide (((xs.length : Nat) : Int) ≤ 5)))
        clear hr
        go_wp2_with (go_at_call 38; refine hcon.mono ?_; rintro e w3 ⟨rfl, hb3⟩)
        go_ret
        exact ⟨ret_bool HV.out.symm, hW.trans (hb3.mono hz)⟩
theorem specAreValidDependencies_c (v : Value) (l : List Rel) (u : Value) (x : List Dep) (w : World) (h : RelationS_at w w.heap.size v l) (_ : RelationS_wf l) (hn : RelationS_sz l ≤ 1048576) (h' : DependencyS_at w w.heap.size u x) (hw : DependencyS_wf x) (_ : DependencyS_sz x ≤ 1048576) :
    Calls Tryz.prog 15 #[v, u] w fun e w' => e = .returned (.bool (depsOk l x)) ∧ Below w.heap.size w w' :=
  specAreValidDeps_any v l u x w h (by unfold RelationS_sz at hn; omega) h' hw

set_option maxHeartbeats 6400000 in
set_option maxRecDepth 100000 in
theorem specFirst_any (v u : Value) (x : Inst) (l : List Dep) (w : World) (hx : Instance_at w w.heap.size v x) (hxw : Instance_wf x) (hxn : x.rels.length ≤ 1048576) (hd : DependencyS_at w w.heap.size u l) (hdw : DependencyS_wf l) (hn : DependencyS_sz l ≤ 1048576) :
    Calls Tryz.prog 10 #[v, u] w fun e w' => ∃ r, e = .returned (.tuple #[.int .i64 (FirstViolation_r0 x l), r, .bool (FirstViolation_r2 x l)]) ∧ IntS_own w.heap.size w'.heap.size r (FirstViolation_r1 x l) w' ∧ Below w.heap.size w w' := by
  have HX := Lib.hid hx
  have HD := Lib.hid hd
  obtain ⟨P, c, Q, d1, rfl⟩ := Instance_form hx
  have HR := Lib.hid (show RelationS_at w w.heap.size (.slice P x.rels.length c) x.rels by
    obtain ⟨V1, V2, hv, hR, hF⟩ := hx
    simp only [Value.agg.injEq, Array.mk.injEq, List.cons.injEq, and_true] at hv
    obtain ⟨rfl, rfl⟩ := hv
    exact hR)
  obtain ⟨A, c0, rfl, hc1, hc2⟩ := hd.form
  unfold maxLen at hc2
  have HEL := Lib.hid (show ∀ k (h : k < l.length), Dependency_sz l[k] ≤ 1048576 from fun k h => by
    have h1 := depsLen_take l k h
    have h2 := depsLen_le l (k + 1)
    unfold DependencyS_sz at hn; omega)
  clear hx hd
  obtain ⟨E, hEq⟩ : ∃ E, E = w.alloc (.cells #[.slice P x.rels.length c, .slice Q x.facts.length d1] 27) := ⟨_, rfl⟩
  have hE : Below w.heap.size w E := by rw [hEq]; exact below_more (Below.refl _ _) _
  have hzE : w.heap.size < E.heap.size := by rw [hEq]; simp
  have X0 := Lib.hid (show E.cell? ⟨w.heap.size, 0, none⟩ = some (.slice P x.rels.length c) by rw [hEq]; simp [go_sem])
  have X1 := Lib.hid (show E.cell? ⟨w.heap.size, 1, none⟩ = some (.slice Q x.facts.length d1) by rw [hEq]; simp [go_sem])
  have HE := Lib.hid hE
  have HNo := Lib.hid (fun h : firstV x l = none => firstV_none h)
  have HVD := Lib.hid (fun (W : World) (hW : Below w.heap.size w W) => specAreValidDeps_any (.slice P x.rels.length c) x.rels (.slice A l.length c0) l W ((HR.out.below hW (Nat.le_refl _)).more hW.size) hxn ((HD.out.below hW (Nat.le_refl _)).more hW.size) hdw)
  have HVI := Lib.hid (fun (W : World) (hW : Below w.heap.size w W) => specIsValidInstance_at1 x _ rfl (.agg #[.slice P x.rels.length c, .slice Q x.facts.length d1]) W ((HX.out.below hW (Nat.le_refl _)).more hW.size) hxw hxn)
  clear hE
  go_enter Tryz.func10, Tryz.ntmps10
  go_wp2_with fail
  rw [← hEq]
  clear hEq
  go_loopw [7] (fun i wr => ∃ j : Nat, j ≤ l.length ∧ i = .int .i64 j ∧ Hid (AllTo (calm x) l j) ∧ Hid (Below E.heap.size E wr)) (fun i _ => l.length - (intOf i).toNat)
  case atStart => exact ⟨0, by omega, rfl, Lib.hid (AllTo.zero _ _), Lib.hid (Below.refl _ _)⟩
  case round =>
    obtain ⟨j, hj, rfl, HT, HW⟩ := hrel
    have HWr := Lib.hid (HE.out.trans (HW.out.mono HE.out.size))
    have hzr := HWr.out.size
    by_cases hlt : j < l.length
    · have hd : decide ((j : Int) < (l.length : Int)) = true := decide_eq_true (by omega)
      have x0 := (HW.out.cell (p := ⟨w.heap.size, 0, none⟩) hzE).trans X0.out
      have x1 := (HW.out.cell (p := ⟨w.heap.size, 1, none⟩) hzE).trans X1.out
      cases kd : depsOk x.rels l with
      | false =>
        have HV := Lib.hid (HNo.out (firstV_off kd))
        have hvd := HVD.out wr HWr.out
        rw [kd] at hvd
        clear kd
        go_wp2_with fail
        refine hvd.mono ?_
        rintro e w2 ⟨rfl, hb2⟩
        have HZ := Lib.hid (HWr.out.trans (hb2.mono hzr))
        clear hvd hb2 x0 x1
        go_wp2
        refine bodyPost_ret (v := .tuple #[.int .i64 0, .slice (some ⟨w2.heap.size, 0, none⟩) 0 0, .bool false]) (by simp [results, Tryz.results10, go_sem]) rfl ⟨_, ret_viol HV.out.1 HV.out.2.2, by rw [HV.out.2.1]; exact ⟨OwnInts.empty _ _ HZ.out.size, fun g hg => by obtain rfl : g = w2.heap.size := (by simpa [Value.ownBlock] using hg.symm); simp⟩, HZ.out.alloc HZ.out.size _⟩
      | true =>
        have HK := Lib.hid kd
        have hvd := HVD.out wr HWr.out
        rw [kd] at hvd
        clear kd
        cases ki : instOk x with
        | false =>
          have HV := Lib.hid (HNo.out (firstV_bad ki))
          go_wp2_with fail
          refine hvd.mono ?_
          rintro e w2 ⟨rfl, hb2⟩
          have HZ := Lib.hid (HWr.out.trans (hb2.mono hzr))
          have hvi := HVI.out w2 HZ.out
          rw [ki] at hvi
          have hzw2 : w.heap.size < wr.heap.size := by have := HW.out.size; omega
          replace x0 := (hb2.cell (p := ⟨w.heap.size, 0, none⟩) hzw2).trans x0
          replace x1 := (hb2.cell (p := ⟨w.heap.size, 1, none⟩) hzw2).trans x1
          clear ki hvd hb2
          go_wp2_with fail
          refine hvi.mono ?_
          rintro e w3 ⟨rfl, hb3⟩
          have HZ3 := Lib.hid (HZ.out.trans (hb3.mono HZ.out.size))
          clear hvi hb3 x0 x1 HZ
          go_wp2
          refine bodyPost_ret (v := .tuple #[.int .i64 0, .slice (some ⟨w3.heap.size, 0, none⟩) 0 0, .bool false]) (by simp [results, Tryz.results10, go_sem]) rfl ⟨_, ret_viol HV.out.1 HV.out.2.2, by rw [HV.out.2.1]; exact ⟨OwnInts.empty _ _ HZ3.out.size, fun g hg => by obtain rfl : g = w3.heap.size := (by simpa [Value.ownBlock] using hg.symm); simp⟩, HZ3.out.alloc HZ3.out.size _⟩
        | true =>
          go_wp2_with fail
          refine hvd.mono ?_
          rintro e w2 ⟨rfl, hb2⟩
          have HZ := Lib.hid (HWr.out.trans (hb2.mono hzr))
          have hvi := HVI.out w2 HZ.out
          rw [ki] at hvi
          have hzw2 : w.heap.size < wr.heap.size := by have := HW.out.size; omega
          replace x0 := (hb2.cell (p := ⟨w.heap.size, 0, none⟩) hzw2).trans x0
          replace x1 := (hb2.cell (p := ⟨w.heap.size, 1, none⟩) hzw2).trans x1
          have HW2 := Lib.hid (HW.out.trans (hb2.mono HW.out.size))
          clear ki hvd hb2
          go_wp2_with fail
          refine hvi.mono ?_
          rintro e w3 ⟨rfl, hb3⟩
          have HZ3 := Lib.hid (HZ.out.trans (hb3.mono HZ.out.size))
          have HW3 := Lib.hid (HW2.out.trans (hb3.mono HW2.out.size))
          have hzw3 : w.heap.size < w3.heap.size := by have := HW3.out.size; omega
          have hz3 : w.heap.size ≤ w3.heap.size := HZ3.out.size
          clear hvi hb3 x0 x1 HZ HW2 hzw2
          have B0 := Aft.cell (B := w3.heap.size) (w := w3) hzw3 ((HW3.out.cell (p := ⟨w.heap.size, 0, none⟩) hzE).trans X0.out)
          have B1 := Aft.cell (B := w3.heap.size) (w := w3) hzw3 ((HW3.out.cell (p := ⟨w.heap.size, 1, none⟩) hzE).trans X1.out)
          obtain ⟨q, off, V, U, rfl, hq, c0, c1, c2, c3, c4, hV, hU⟩ := DependencyS_at.elem HD.out j hlt
          obtain ⟨PV, cV, rfl, -, -⟩ := hV.form
          obtain ⟨PU, cU, rfl, -, -⟩ := hU.form
          have hq3 : q < w3.heap.size := Nat.lt_of_lt_of_le hq hz3
          have C0 := Aft.cell (B := w3.heap.size) (w := w3) hq3 ((HZ3.out.cell (p := ⟨q, off + j * 5, none⟩) hq).trans c0)
          have C1 := Aft.cell (B := w3.heap.size) (w := w3) hq3 ((HZ3.out.cell (p := ⟨q, off + j * 5 + 1, none⟩) hq).trans c1)
          have C2 := Aft.cell (B := w3.heap.size) (w := w3) hq3 ((HZ3.out.cell (p := ⟨q, off + j * 5 + 2, none⟩) hq).trans c2)
          have C3 := Aft.cell (B := w3.heap.size) (w := w3) hq3 ((HZ3.out.cell (p := ⟨q, off + j * 5 + 3, none⟩) hq).trans c3)
          have C4 := Aft.cell (B := w3.heap.size) (w := w3) hq3 ((HZ3.out.cell (p := ⟨q, off + j * 5 + 4, none⟩) hq).trans c4)
          have hac := fun (u : Aft w3.heap.size w3) => specActs_any (.agg #[.slice P x.rels.length c, .slice Q x.facts.length d1]) (.agg #[.slice PV l[j].body.length cV, .slice PU l[j].head.length cU, .bool l[j].egd, .int .i64 l[j].left, .int .i64 l[j].right]) x l[j] u.now ((HX.out.below (HZ3.out.trans (u.is.mono hz3)) (Nat.le_refl _)).more (HZ3.out.trans (u.is.mono hz3)).size) hxw hxn ⟨_, _, rfl, (hV.below (HZ3.out.trans (u.is.mono hz3)) (Nat.le_refl _)).more (HZ3.out.trans (u.is.mono hz3)).size, (hU.below (HZ3.out.trans (u.is.mono hz3)) (Nat.le_refl _)).more (HZ3.out.trans (u.is.mono hz3)).size⟩ (hdw j hlt) (HEL.out j hlt)
          have HNX := Lib.hid (fun h => HT.out.next hlt (calm_iff.2 h))
          have HAT := Lib.hid (fun (bb : List Int) (t : List (List Int)) (hA : ActiveTriggers_r0 x l[j] = bb :: t) => firstV_some (firstV_at HK.out HT.out hlt hA))
          obtain ⟨M, hM⟩ : ∃ M, ActiveTriggers_r0 x l[j] = M := ⟨_, rfl⟩
          rw [hM] at hac HNX HAT
          clear hV hU c0 c1 c2 c3 c4 hM hd
          generalize l[j] = dd at *
          go_wp2_with fail
          have hb := (Below.refl w3.heap.size w3).drew
          refine wp_region_planL (C := fun w' => ∃ u : Aft w3.heap.size w3, w' = u.now) (.still 0 (.still 1 (.still 2 (.still 3 (.still 4 (.move true 5 (.still 6 .done) .none)))))) (by kernel_rfl) (by kernel_rfl) (by kernel_rfl) (fun _ => ⟨⟨w3.drew, hb⟩, rfl⟩) ?_
          iterate 5
            refine plan_look _ rfl rfl ?_
            go_big_quiet_step (fail)
            refine wpQuiet_nil ?_
          refine plan_call _ 33 _ _ _ _ _ rfl _ Tryz.func33 (by kernel_rfl) (by kernel_rfl) ?_ True.intro
          refine (hac ⟨_, hb⟩).mono ?_
          rintro _ w4 ⟨r4, rfl, hO, hb4⟩
          have HO := Lib.hid (hO.mono (Nat.le_refl w3.heap.size) (Nat.le_refl _))
          have HB4 := Lib.hid (hb.trans (hb4.mono hb.size))
          obtain ⟨A4, c4, rfl, -, hcm4⟩ := (hO.at_ (Nat.le_refl _)).form
          unfold maxLen at hcm4
          refine ⟨_, rfl, fun _ => ⟨⟨_, HB4.out⟩, rfl⟩, ?_⟩
          refine plan_put ?_ (by simp only [Act.put, List.setIfInBounds_toArray, List.set_cons_succ, List.set_cons_zero]; rfl)
          refine plan_look _ rfl rfl ?_
          go_big_quiet_step (fail)
          refine wpQuiet_nil ?_
          refine plan_done ?_
          have HZ4 := Lib.hid (HZ3.out.trans (HB4.out.mono hz3))
          have HW4 := Lib.hid (HW3.out.trans (HB4.out.mono HW3.out.size))
          clear hO hb4 hb hac B0 B1 C0 C1 C2 C3 C4
          cases M with
          | nil =>
            have HN := Lib.hid (HNX.out rfl)
            clear HNX HAT
            rw [show ([] : List (List Int)).length = 0 from rfl]
            go_wp2
            go_roundw
            case rel => exact ⟨j + 1, by omega, by go_num, HN, HW4⟩
            case measure => simp [intOf]; omega
          | cons bb t =>
            have HV := Lib.hid (HAT.out bb t rfl)
            obtain ⟨g, a3, U3, hv, hg, hm3, cc, hR⟩ := HO.out.first
            injection hv with e3 e4 e5
            subst e3 e5
            have hgd : decide ((0 : Int) < (((bb :: t).length : Nat) : Int)) = true := decide_eq_true (by simp only [List.length_cons]; omega)
            have HR3 := Lib.hid (IntS_own.mono hR hz3 (Nat.le_refl _))
            have G0 := Aft.cell (B := w4.heap.size) (w := w4) hg cc
            clear HNX HAT cc hR
            go_wp2_with fail
            refine wp_region_aft (Below.refl w4.heap.size w4) (by kernel_rfl) (by kernel_rfl) ?_
            repeat (go_big_quiet_step (fail))
            refine wpQuiet_nil ?_
            refine aft_end ?_
            intro w5 hh
            have HR5 := Lib.hid (IntS_own.mono (IntS_own.below HR3.out hh (Nat.le_refl _)) (Nat.le_refl _) hh.size)
            have HZ5 := Lib.hid (HZ4.out.trans (hh.mono HZ4.out.size))
            go_wp2
            refine bodyPost_ret (v := .tuple #[.int .i64 ((j : Nat) : Int), U3, .bool true]) (by simp [results, Tryz.results10, go_sem]) rfl ⟨_, ret_viol HV.out.1 HV.out.2.2, by rw [HV.out.2.1]; exact HR5.out, HZ5.out⟩
    · obtain rfl : j = l.length := by omega
      have HV := Lib.hid (HNo.out (firstV_end HT.out))
      have hd : decide ((l.length : Int) < (l.length : Int)) = false := decide_eq_false (by omega)
      go_wp2
      refine bodyPost_ret (v := .tuple #[.int .i64 0, .slice (some ⟨wr.heap.size, 0, none⟩) 0 0, .bool false]) (by simp [results, Tryz.results10, go_sem]) rfl ⟨_, ret_viol HV.out.1 HV.out.2.2, by rw [HV.out.2.1]; exact ⟨OwnInts.empty _ _ HWr.out.size, fun g hg => by obtain rfl : g = wr.heap.size := (by simpa [Value.ownBlock] using hg.symm); simp⟩, HWr.out.alloc HWr.out.size _⟩
theorem specFirstViolation_c (v : Value) (x : Inst) (u : Value) (l : List Dep) (w : World) (h : Instance_at w w.heap.size v x) (hw : Instance_wf x) (hi : Instance_sz x ≤ 1048576) (h' : DependencyS_at w w.heap.size u l) (hw' : DependencyS_wf l) (hn : DependencyS_sz l ≤ 1048576) :
    Calls Tryz.prog 10 #[v, u] w fun e w' => ∃ r, e = .returned (.tuple #[.int .i64 (FirstViolation_r0 x l), r, .bool (FirstViolation_r2 x l)]) ∧ IntS_at w' w'.heap.size r (FirstViolation_r1 x l) ∧ Below w.heap.size w w' :=
  (specFirst_any v u x l w h hw (by unfold Instance_sz RelationS_sz at hi; omega) h' hw' hn).mono fun _ _ ⟨r, he, ho, hb⟩ => ⟨r, he, ho.at_ (Nat.le_refl _), hb⟩

set_option maxRecDepth 100000 in
theorem implTermValue_any (t : Int) (b : List Int) (v : Value) (w : World) (hb : IntsAt w w.heap.size v b) (h0 : -9223372036854775808 ≤ t) (ht : t < b.length) :
    Calls Tryz.prog 172 #[.int .i64 t, v] w fun e w' => e = .returned (.int .i64 (fillT b t)) ∧ w = w' := by
  have hvar := implIsVariable_any t w
  by_cases hneg : t < 0
  · have d1 : decide (0 ≤ t) = false := decide_eq_false (by omega)
    have HF := Lib.hid (show fillT b t = -1 - t by unfold fillT; rw [if_pos hneg])
    have hz : 0 ≤ -1 - t := by omega
    rw [d1] at hvar
    go_enter Tryz.func172, Tryz.ntmps172
    go_wp2_with (go_at_call 161; refine hvar.mono ?_; rintro e w3 ⟨rfl, rfl⟩)
    go_ret
    exact ⟨by rw [HF.out] <;> go_num, rfl⟩
  · have d1 : decide (0 ≤ t) = true := decide_eq_true (by omega)
    rw [d1] at hvar
    obtain ⟨j, rfl⟩ : ∃ j : Nat, t = (j : Int) := ⟨t.toNat, by omega⟩
    have hj : j < b.length := by omega
    have HF := Lib.hid (show fillT b (j : Int) = b[j] by unfold fillT; rw [if_neg hneg]; simp [List.getD, hj])
    have HB := Lib.hid hb
    obtain ⟨P, c, rfl, hc1, hc2, -⟩ := hb
    unfold maxLen at hc2
    obtain ⟨b0, off0, rfl, hb0, e0⟩ := IntsAt.elem HB.out j hj
    clear hneg
    go_enter Tryz.func172, Tryz.ntmps172
    go_wp2_with (go_at_call 161; refine hvar.mono ?_; rintro e w3 ⟨rfl, rfl⟩)
    go_ret
    exact ⟨by rw [HF.out]; rfl, rfl⟩

set_option maxHeartbeats 1600000 in
set_option maxRecDepth 100000 in
theorem implNothingBound_any (w : World) :
    Calls Tryz.prog 89 #[] w fun e w' => e = .returned (bAgg blank5) ∧ Below w.heap.size w w' := by
  obtain ⟨E, hEq⟩ : ∃ E, E = ((w.alloc (.cells #[.int .i64 0, .int .i64 0, .int .i64 0, .int .i64 0, .int .i64 0] 122)).alloc (.cells #[.int .i64 0, .int .i64 0, .int .i64 0, .int .i64 0, .int .i64 0] 122)) := ⟨_, rfl⟩
  have hE : Below w.heap.size w E := by rw [hEq]; exact below_more (below_more (Below.refl _ _) _) _
  have HEz := Lib.hid (show E.heap.size = w.heap.size + 2 by rw [hEq]; simp)
  have R0 := Lib.hid (show ∀ j, j < 5 → E.cell? ⟨w.heap.size, j, none⟩ = some (.int .i64 0) by
    intro j hj
    rcases (show j = 0 ∨ j = 1 ∨ j = 2 ∨ j = 3 ∨ j = 4 by omega) with h | h | h | h | h <;> subst h <;> (rw [hEq]; simp [go_sem]))
  have RZ := Lib.hid (show ∀ o, E.frozen? ⟨w.heap.size, o, none⟩ = false by intro o; rw [hEq]; simp [go_sem])
  have A0 := Lib.hid (show Arr (w.heap.size + 1) [0, 0, 0, 0, 0] E by
    refine ⟨fun j hj => ?_, fun o => by rw [hEq]; simp [go_sem]⟩
    rcases (show j = 0 ∨ j = 1 ∨ j = 2 ∨ j = 3 ∨ j = 4 by omega) with h | h | h | h | h <;> subst h <;> (rw [hEq]; simp [go_sem, at5]))
  go_enter Tryz.func89, Tryz.ntmps89
  go_wp2
  rw [← hEq]
  clear hEq
  go_loopw [3] (fun i wr => ∃ (k : Nat) (bk : List Int), k ≤ 5 ∧ i = .int .i64 k ∧ Hid (bk.length = 5) ∧ Hid (∀ j, j < k → at5 bk j = 10) ∧ Hid (Arr (w.heap.size + 1) bk wr) ∧ Hid (Chg (fun q => q = w.heap.size + 1) E wr)) (fun i _ => 5 - (intOf i).toNat)
  case atStart => exact ⟨0, [0, 0, 0, 0, 0], by omega, rfl, Lib.hid rfl, Lib.hid (fun j hj => by omega), A0, Lib.hid (Chg.refl _ _)⟩
  case round =>
    obtain ⟨k, bk, hk, rfl, HL, HT, HA, HC⟩ := hrel
    by_cases hlt : k < 5
    · have e0 := HA.out.1 k hlt
      have ez := HA.out.2 k
      have HA2 := Lib.hid (HA.out.set HL.out k hlt 10)
      have HC2 := Lib.hid (HC.out.setCell (p := ⟨w.heap.size + 1, k, none⟩) rfl (.int .i64 10))
      go_wp2
      go_roundw
      case rel =>
        refine ⟨k + 1, bk.set k 10, by omega, by go_num, Lib.hid (by rw [List.length_set]; exact HL.out), Lib.hid (fun j hj => ?_), HA2, HC2⟩
        unfold at5
        rw [List.getD_eq_getElem?_getD, List.getElem?_set]
        split
        · rename_i e; subst e; rw [if_pos (by rw [HL.out]; omega)]; rfl
        · rw [← List.getD_eq_getElem?_getD]; exact HT.out j (by omega)
      case measure => simp [intOf]; omega
    · obtain rfl : k = 5 := by omega
      have a0 := (HA.out.1 0 (by omega)).trans (by rw [HT.out 0 (by omega)])
      have a1 := (HA.out.1 1 (by omega)).trans (by rw [HT.out 1 (by omega)])
      have a2 := (HA.out.1 2 (by omega)).trans (by rw [HT.out 2 (by omega)])
      have a3 := (HA.out.1 3 (by omega)).trans (by rw [HT.out 3 (by omega)])
      have a4 := (HA.out.1 4 (by omega)).trans (by rw [HT.out 4 (by omega)])
      have hz : w.heap.size < E.heap.size := by rw [HEz.out]; omega
      have r0 := (HC.out.cell (b := w.heap.size) (o := 0) hz (by omega)).trans (R0.out 0 (by omega))
      have r1 := (HC.out.cell (b := w.heap.size) (o := 1) hz (by omega)).trans (R0.out 1 (by omega))
      have r2 := (HC.out.cell (b := w.heap.size) (o := 2) hz (by omega)).trans (R0.out 2 (by omega))
      have r3 := (HC.out.cell (b := w.heap.size) (o := 3) hz (by omega)).trans (R0.out 3 (by omega))
      have r4 := (HC.out.cell (b := w.heap.size) (o := 4) hz (by omega)).trans (R0.out 4 (by omega))
      have rz := fun o => (HC.out.frozen (b := w.heap.size) (o := o) hz (by omega)).trans (RZ.out o)
      have HB := Lib.hid (show Below w.heap.size w wr from hE.trans (HC.out.below (B := w.heap.size) (fun q hq => by omega) (by omega)))
      go_wp2
      refine bodyPost_ret (v := bAgg blank5) (by simp [results, Tryz.results89, go_sem, r0, r1, r2, r3, r4, blank5, at5]) rfl ⟨rfl, ?_⟩
      exact below_set5 HB.out (Nat.le_refl _) _ _ _ _ _

end Go.Proofs.YtobdijcnfmgidaaGreat
