/-
  Walks and plain lemmas for the laws of this seat: what single Go functions return, for every argument.
-/
import Derived.RangeFuncNested
import Derived.RangeFuncCalls
import Derived.OrdersIn
import Derived.Lib.SliceRun
import Derived.Shelf.Abstract
import Derived.Test.YtoapphgahmofhaaGreatInts
import Derived.Test.YtoapphgahmofhaaGreatPlan
import Derived.Test.YtoapphgahmofhaaGreatAft
import Derived.Test.YtoapphgahmofhaaGreatTyAtom
import Derived.Test.YtoapphgahmofhaaGreatParInI
import Derived.Test.YtoapphgahmofhaaGreatMatK
import Derived.Test.YtoapphgahmofhaaGreatMatF
import Derived.Test.YtoapphgahmofhaaGreatDrawB14
import Derived.Test.YtoapphgahmofhaaGreatExtI
import Derived.Test.YtoapphgahmofhaaGreatValInI
import Derived.Test.YtoapphgahmofhaaGreatVarsI
import Derived.Test.YtoapphgahmofhaaGreatIxA
namespace Go.Proofs.YtoapphgahmofhaaGreat
open Go.RowKit

set_option maxHeartbeats 3200000 in
set_option maxRecDepth 100000 in
theorem implIsTrigger_any (v u : Value) (x : Inst) (d : Dep) (bv : Value) (b : List Int) (w : World) (hx : Instance_at w w.heap.size v x) (hxw : Instance_wf x) (hd : Dependency_at w w.heap.size u d) (hdw : Dependency_wf d) (hn : Dependency_sz d ≤ 1048576) (hb : IntsAt w w.heap.size bv b) :
    Calls Tryz.prog 10 #[v, u, bv] w fun e w' => e = .returned (.bool (trigOk x d b)) ∧ Below w.heap.size w w' := by
  have HX := Lib.hid hx
  have HD := Lib.hid hd
  have HB := Lib.hid hb
  obtain ⟨P, c, Q, d1, rfl⟩ := Instance_form hx
  have HR := Lib.hid (show RelationS_at w w.heap.size (.slice P x.rels.length c) x.rels by
    obtain ⟨V1, V2, hv, hR, hF⟩ := hx
    simp only [Value.agg.injEq, Array.mk.injEq, List.cons.injEq, and_true] at hv
    obtain ⟨rfl, rfl⟩ := hv
    exact hR)
  obtain ⟨R, q, S, t, rfl⟩ := Dependency_form hd
  have HBD := Lib.hid (show AtomS_at w w.heap.size (.slice R d.body.length q) d.body by
    obtain ⟨V1, V2, hv, h1, h2⟩ := hd
    simp only [Value.agg.injEq, Array.mk.injEq, List.cons.injEq, and_true] at hv
    obtain ⟨rfl, rfl⟩ := hv
    exact h1)
  obtain ⟨T, tc, rfl, -⟩ := id hb
  clear hx hd hb
  obtain ⟨E, hEq⟩ : ∃ E, E = (w.alloc (.cells #[.slice P x.rels.length c, .slice Q x.facts.length d1] 27)).alloc (.cells #[.slice R d.body.length q, .slice S d.head.length t, .bool d.egd, .int .i64 d.left, .int .i64 d.right] 30) := ⟨_, rfl⟩
  have hE : Below w.heap.size w E := by rw [hEq]; exact below_more (below_more (Below.refl _ _) _) _
  have hEz : E.heap.size = w.heap.size + 2 := by rw [hEq]; simp
  have X0 : E.cell? ⟨w.heap.size, 0, none⟩ = some (.slice P x.rels.length c) := by rw [hEq]; simp [go_sem]
  have X1 : E.cell? ⟨w.heap.size, 1, none⟩ = some (.slice Q x.facts.length d1) := by rw [hEq]; simp [go_sem]
  have D0 : E.cell? ⟨w.heap.size + 1, 0, none⟩ = some (.slice R d.body.length q) := by rw [hEq]; simp [go_sem]
  have hvd := fun qq (hq : depOk x.rels d = qq) => implIsValidDependency_z x.rels d qq hq (.slice P x.rels.length c) _ E ((HR.out.below hE (Nat.le_refl _)).more hE.size) ((HD.out.below hE (Nat.le_refl _)).more hE.size)
  rw [hEq] at hvd
  cases h1 : depOk x.rels d with
  | false =>
    have HF := Lib.hid (show trigOk x d b = false by rw [trig_is, h1]; rfl)
    replace hvd := hvd false h1
    clear h1
    go_enter Tryz.func10, Tryz.ntmps10
    go_wp2_with (go_at_call 33; refine hvd.mono ?_; rintro e w1 ⟨rfl, hb1⟩)
    rw [← hEq] at hb1
    go_ret
    exact ⟨ret_bool HF.out.symm, hE.trans (hb1.mono hE.size)⟩
  | true =>
    replace hvd := hvd true h1
    have hbs : AtomS_sz d.body ≤ 1048576 := by unfold Dependency_sz at hn; omega
    have HV := Lib.hid (fun (W : World) (hW : Below w.heap.size w W) => implVariables_any (.slice R d.body.length q) d.body W ((HBD.out.below hW (Nat.le_refl _)).more hW.size) hbs)
    have HBI := Lib.hid (fun (W : World) (hW : Below w.heap.size w W) (vv : Value) (hvv : OwnInts E.heap.size vv (varsOf d.body) W) => implBinds_any b (varsOf d.body) (.slice T b.length tc) vv W ((HB.out.below hW (Nat.le_refl _)).more hW.size) hvv.at_)
    cases h2 : bindsOk b (varsOf d.body) with
    | false =>
      have HF := Lib.hid (show trigOk x d b = false by rw [trig_is, h1, h2]; rfl)
      rw [h2] at HBI
      clear h1 h2
      go_enter Tryz.func10, Tryz.ntmps10
      go_wp2_with fail
      refine hvd.mono ?_
      rintro e w1 ⟨rfl, hb1⟩
      rw [← hEq] at hb1
      have hw1 := hE.trans (hb1.mono hE.size)
      have d0 := (hb1.cell (p := ⟨w.heap.size + 1, 0, none⟩) (by show w.heap.size + 1 < _; omega)).trans D0
      have hv2 := HV.out w1 hw1
      clear hvd hEq
      go_wp2_with fail
      refine hv2.mono ?_
      rintro e w2 ⟨vv, rfl, hO2, hb2⟩
      have hw2 := hw1.trans (hb2.mono hw1.size)
      have hbi := HBI.out w2 hw2 vv (OwnInts.mono hO2 hb1.size)
      obtain ⟨U, uc, rfl, -⟩ := id hO2.at_
      clear hv2
      go_wp2_with (go_at_call 34; refine hbi.mono ?_; rintro e w3 ⟨rfl, rfl⟩)
      go_ret
      exact ⟨ret_bool HF.out.symm, hw2⟩
    | true =>
      have HF := Lib.hid (show trigOk x d b = hasExt x d.body b by rw [trig_is, h1, h2]; rfl)
      rw [h2] at HBI
      clear h1 h2
      go_enter Tryz.func10, Tryz.ntmps10
      go_wp2_with fail
      refine hvd.mono ?_
      rintro e w1 ⟨rfl, hb1⟩
      rw [← hEq] at hb1
      have hw1 := hE.trans (hb1.mono hE.size)
      have d0 := (hb1.cell (p := ⟨w.heap.size + 1, 0, none⟩) (by show w.heap.size + 1 < _; omega)).trans D0
      have hv2 := HV.out w1 hw1
      clear hvd hEq
      go_wp2_with fail
      refine hv2.mono ?_
      rintro e w2 ⟨vv, rfl, hO2, hb2⟩
      have hw2 := hw1.trans (hb2.mono hw1.size)
      have hb12 : Below E.heap.size E w2 := hb1.trans (hb2.mono hb1.size)
      have hbi := HBI.out w2 hw2 vv (OwnInts.mono hO2 hb1.size)
      obtain ⟨U, uc, rfl, -⟩ := id hO2.at_
      have d02 := (hb12.cell (p := ⟨w.heap.size + 1, 0, none⟩) (by show w.heap.size + 1 < _; omega)).trans D0
      have x02 := (hb12.cell (p := ⟨w.heap.size, 0, none⟩) (by show w.heap.size < _; omega)).trans X0
      have x12 := (hb12.cell (p := ⟨w.heap.size, 1, none⟩) (by show w.heap.size < _; omega)).trans X1
      have hx2 := implHasExtension_any _ (.slice R d.body.length q) x d.body (.slice T b.length tc) b w2 ((HX.out.below hw2 (Nat.le_refl _)).more hw2.size) hxw ((HBD.out.below hw2 (Nat.le_refl _)).more hw2.size) hdw.1 ((HB.out.below hw2 (Nat.le_refl _)).more hw2.size)
      clear hv2
      go_wp2_with (first | (go_at_call 34; refine hbi.mono ?_; rintro e w3 ⟨rfl, rfl⟩) | (go_at_call 17; refine hx2.mono ?_; rintro e w4 ⟨rfl, hb4⟩))
      go_ret
      exact ⟨ret_bool HF.out.symm, hw2.trans (hb4.mono hw2.size)⟩
theorem implIsTrigger_c (v : Value) (x : Inst) (u : Value) (d : Dep) (bv : Value) (b : List Int) (w : World) (h : Instance_at w w.heap.size v x) (hw : Instance_wf x) (_ : Instance_sz x ≤ 1048576) (h' : Dependency_at w w.heap.size u d) (hw' : Dependency_wf d) (hn : Dependency_sz d ≤ 1048576) (h'' : IntS_at w w.heap.size bv b) (_ : IntS_wf b) (_ : IntS_sz b ≤ 1048576) :
    Calls Tryz.prog 10 #[v, u, bv] w fun e w' => e = .returned (.bool (trigOk x d b)) ∧ Below w.heap.size w w' :=
  implIsTrigger_any v u x d bv b w h hw h' hw' hn h''

theorem holdsM_egd {fs : List Fct} {d : Dep} {b : List Int} (h : d.egd = true) : holdsM fs d b = decide (b.getD d.left.toNat 0 = b.getD d.right.toNat 0) := by unfold holdsM; rw [if_pos h]
theorem holdsM_tgd {fs : List Fct} {d : Dep} {b : List Int} (h : d.egd = false) : holdsM fs d b = decide (0 < (walkM fs d.head b).length) := by unfold holdsM; rw [if_neg (by rw [h]; simp)]
set_option maxHeartbeats 3200000 in
set_option maxRecDepth 100000 in
theorem implHolds_any (fs : List Fct) (hfw : FactS_wf fs) (d : Dep) (b : List Int) (hb5 : b.length = 5) (hv : d.egd = true → (0 ≤ d.left ∧ d.left.toNat < 5) ∧ (0 ≤ d.right ∧ d.right.toNat < 5)) (hh : ∀ a ∈ d.head, AtmFit fs a) (vF vd vb : Value) (w : World) (hF : FactS_at w w.heap.size vF fs) (hD : Dependency_at w w.heap.size vd d) (hb : IntsAt w w.heap.size vb b) :
    Calls Tryz.prog 32 #[vF, vd, vb] w fun e w' => e = .returned (.bool (holdsM fs d b)) ∧ Below w.heap.size w w' := by
  have HF := Lib.hid hF
  have HB := Lib.hid hb
  obtain ⟨V1, V2, rfl, hA1, hA2⟩ := hD
  have HH := Lib.hid hA2
  obtain ⟨P, c, rfl, -⟩ := hA1.form
  obtain ⟨Q, c2, rfl, -⟩ := hA2.form
  obtain ⟨R, c3, rfl, -⟩ := hF.form
  obtain ⟨S, t, rfl, ht1, ht2, -, -⟩ := hb
  unfold maxLen at ht2
  clear hA1 hA2 hF
  obtain ⟨E, hEq⟩ : ∃ E, E = w.alloc (.cells #[.slice P d.body.length c, .slice Q d.head.length c2, .bool d.egd, .int .i64 d.left, .int .i64 d.right] 30) := ⟨_, rfl⟩
  have hE : Below w.heap.size w E := by rw [hEq]; exact below_more (Below.refl _ _) _
  have hEz : w.heap.size < E.heap.size := by rw [hEq]; simp
  cases hg : d.egd with
  | true =>
    obtain ⟨⟨h1, h2⟩, h3, h4⟩ := hv hg
    have HM := Lib.hid (holdsM_egd (fs := fs) (b := b) hg)
    obtain ⟨jl, hjl⟩ : ∃ j : Nat, d.left = (j : Int) := ⟨d.left.toNat, by omega⟩
    obtain ⟨jr, hjr⟩ : ∃ j : Nat, d.right = (j : Int) := ⟨d.right.toNat, by omega⟩
    rw [hjl, hjr] at HM
    simp only [Int.toNat_natCast] at HM
    have hl5 : jl < b.length := by omega
    have hr5 : jr < b.length := by omega
    obtain ⟨q, off, e9, hq, k1⟩ := IntsAt.elem HB.out jl hl5
    subst e9
    obtain ⟨q', off', e9, -, k2⟩ := IntsAt.elem HB.out jr hr5
    cases e9
    have HV := Lib.hid (show (b[jl] == b[jr]) = holdsM fs d b by
      rw [HM.out]
      have e1 : b.getD jl 0 = b[jl] := by simp [List.getD, hl5]
      have e2 : b.getD jr 0 = b[jr] := by simp [List.getD, hr5]
      rw [Bool.eq_iff_iff, beq_iff_eq, decide_eq_true_iff]
      show b[jl] = b[jr] ↔ b.getD jl 0 = b.getD jr 0
      rw [e1, e2])
    have G1 := Aft.cell (B := E.heap.size) hEz (show E.cell? ⟨w.heap.size, 3, none⟩ = some (.int .i64 (jl : Int)) by rw [hEq, hjl]; simp [go_sem])
    have G2 := Aft.cell (B := E.heap.size) hEz (show E.cell? ⟨w.heap.size, 4, none⟩ = some (.int .i64 (jr : Int)) by rw [hEq, hjr]; simp [go_sem])
    have G3 := Aft.cell (B := E.heap.size) (Nat.lt_of_lt_of_le hq hE.size) ((hE.cell (p := ⟨q, off + jl, none⟩) hq).trans k1)
    have G4 := Aft.cell (B := E.heap.size) (Nat.lt_of_lt_of_le hq hE.size) ((hE.cell (p := ⟨q, off + jr, none⟩) hq).trans k2)
    rw [hg, hjl, hjr] at hEq
    rw [hjl, hjr]
    clear HM hh hv h1 h2 h3 h4 hjl hjr k1 k2 hb5
    go_enter Tryz.func32, Tryz.ntmps32
    go_upto_region 2 with fail
    rw [← hEq]
    refine wp_region_aft (Below.refl E.heap.size E) (by kernel_rfl) (by kernel_rfl) ?_
    repeat (go_big_quiet_step (fail))
    refine wpQuiet_nil ?_
    refine aft_end ?_
    intro w2 hh2
    go_wp2
    go_ret
    exact ⟨ret_bool HV.out, hE.trans (hh2.mono hE.size)⟩
  | false =>
    have HM := Lib.hid (holdsM_tgd (fs := fs) (b := b) hg)
    have hcall := implHasExt_any fs hfw d.head hh b hb5 (.slice R fs.length c3) (.slice Q d.head.length c2) (.slice S b.length t) E ((HF.out.below hE (Nat.le_refl _)).more hE.size) ((HH.out.below hE (Nat.le_refl _)).more hE.size) ((HB.out.below hE (Nat.le_refl _)).more hE.size)
    rw [hg] at hEq
    rw [hEq] at hcall
    clear hh hv hb5
    go_enter Tryz.func32, Tryz.ntmps32
    go_wp2_with (go_at_call 50; refine hcall.mono ?_; rintro e w1 ⟨rfl, hb1⟩)
    rw [← hEq] at hb1
    go_ret
    exact ⟨ret_bool HM.out.symm, hE.trans (hb1.mono hE.size)⟩

theorem trig_parts {x : Inst} {d : Dep} {b : List Int} (h : trigOk x d b = true) : instOk x = true ∧ depOk x.rels d = true ∧ b.length = 5 := by
  unfold trigOk at h
  simp only [Bool.and_eq_true, decide_eq_true_eq] at h
  exact ⟨h.1, h.2.1, h.2.2.1⟩
theorem active_no {x : Inst} {d : Dep} {b : List Int} (h : trigOk x d b = false) : activeOk x d b = false := by unfold activeOk; rw [h]; rfl
theorem head_fit {x : Inst} {d : Dep} (hx : instOk x = true) (hd : depOk x.rels d = true) (hw : AtomS_wf d.head) : ∀ a ∈ d.head, AtmFit x.facts a := okM_fit hw (by rw [okM_head hd]; exact hx)
set_option maxHeartbeats 3200000 in
set_option maxRecDepth 100000 in
theorem implIsActive_any (v u : Value) (x : Inst) (d : Dep) (bv : Value) (b : List Int) (w : World) (hx : Instance_at w w.heap.size v x) (hxw : Instance_wf x) (hd : Dependency_at w w.heap.size u d) (hdw : Dependency_wf d) (hn : Dependency_sz d ≤ 1048576) (hb : IntsAt w w.heap.size bv b) :
    Calls Tryz.prog 9 #[v, u, bv] w fun e w' => e = .returned (.bool (activeOk x d b)) ∧ Below w.heap.size w w' := by
  have HX := Lib.hid hx
  have HD := Lib.hid hd
  have HB := Lib.hid hb
  obtain ⟨P, c, Q, d1, rfl⟩ := Instance_form hx
  have HF := Lib.hid (show FactS_at w w.heap.size (.slice Q x.facts.length d1) x.facts by
    obtain ⟨V1, V2, hv, hR, hF⟩ := hx
    simp only [Value.agg.injEq, Array.mk.injEq, List.cons.injEq, and_true] at hv
    obtain ⟨rfl, rfl⟩ := hv
    exact hF)
  obtain ⟨R, q, S, t, rfl⟩ := Dependency_form hd
  obtain ⟨T, tc, rfl, -⟩ := id hb
  clear hx hd hb
  obtain ⟨E, hEq⟩ : ∃ E, E = (w.alloc (.cells #[.slice P x.rels.length c, .slice Q x.facts.length d1] 27)).alloc (.cells #[.slice R d.body.length q, .slice S d.head.length t, .bool d.egd, .int .i64 d.left, .int .i64 d.right] 30) := ⟨_, rfl⟩
  have hE : Below w.heap.size w E := by rw [hEq]; exact below_more (below_more (Below.refl _ _) _) _
  have hEz : E.heap.size = w.heap.size + 2 := by rw [hEq]; simp
  have X1 : E.cell? ⟨w.heap.size, 1, none⟩ = some (.slice Q x.facts.length d1) := by rw [hEq]; simp [go_sem]
  have D0 : E.cell? ⟨w.heap.size + 1, 0, none⟩ = some (.slice R d.body.length q) := by rw [hEq]; simp [go_sem]
  have D1 : E.cell? ⟨w.heap.size + 1, 1, none⟩ = some (.slice S d.head.length t) := by rw [hEq]; simp [go_sem]
  have D2 : E.cell? ⟨w.heap.size + 1, 2, none⟩ = some (.bool d.egd) := by rw [hEq]; simp [go_sem]
  have D3 : E.cell? ⟨w.heap.size + 1, 3, none⟩ = some (.int .i64 d.left) := by rw [hEq]; simp [go_sem]
  have D4 : E.cell? ⟨w.heap.size + 1, 4, none⟩ = some (.int .i64 d.right) := by rw [hEq]; simp [go_sem]
  have htr := implIsTrigger_any _ _ x d (.slice T b.length tc) b E ((HX.out.below hE (Nat.le_refl _)).more hE.size) hxw ((HD.out.below hE (Nat.le_refl _)).more hE.size) hdw hn ((HB.out.below hE (Nat.le_refl _)).more hE.size)
  rw [hEq] at htr
  cases h1 : trigOk x d b with
  | false =>
    have HA := Lib.hid (active_no h1)
    rw [h1] at htr
    clear h1 D0 D1 D2 D3 D4 X1
    go_enter Tryz.func9, Tryz.ntmps9
    go_wp2_with (go_at_call 10; refine htr.mono ?_; rintro e w1 ⟨rfl, hb1⟩)
    rw [← hEq] at hb1
    go_ret
    exact ⟨ret_bool HA.out.symm, hE.trans (hb1.mono hE.size)⟩
  | true =>
    obtain ⟨p1, p2, p3⟩ := trig_parts h1
    have HA := Lib.hid (active_is h1)
    have HH := Lib.hid (fun (W : World) (hW : Below w.heap.size w W) => implHolds_any x.facts hxw.2 d b p3 (fun hg => depOk_vars p2 hg) (head_fit p1 p2 hdw.2.1) (.slice Q x.facts.length d1) _ (.slice T b.length tc) W ((HF.out.below hW (Nat.le_refl _)).more hW.size) ((HD.out.below hW (Nat.le_refl _)).more hW.size) ((HB.out.below hW (Nat.le_refl _)).more hW.size))
    rw [h1] at htr
    clear h1 p1 p2 p3
    go_enter Tryz.func9, Tryz.ntmps9
    go_wp2_with fail
    refine htr.mono ?_
    rintro e w1 ⟨rfl, hb1⟩
    rw [← hEq] at hb1
    have hw1 := hE.trans (hb1.mono hE.size)
    have hz0 : w.heap.size < E.heap.size := by omega
    have hz1 : w.heap.size + 1 < E.heap.size := by omega
    have x1 := (hb1.cell (p := ⟨w.heap.size, 1, none⟩) hz0).trans X1
    have d0 := (hb1.cell (p := ⟨w.heap.size + 1, 0, none⟩) hz1).trans D0
    have d1' := (hb1.cell (p := ⟨w.heap.size + 1, 1, none⟩) hz1).trans D1
    have d2 := (hb1.cell (p := ⟨w.heap.size + 1, 2, none⟩) hz1).trans D2
    have d3 := (hb1.cell (p := ⟨w.heap.size + 1, 3, none⟩) hz1).trans D3
    have d4 := (hb1.cell (p := ⟨w.heap.size + 1, 4, none⟩) hz1).trans D4
    have hh := HH.out w1 hw1
    clear htr hEq D0 D1 D2 D3 D4 X1
    cases hq : holdsM x.facts d b with
    | true =>
      rw [hq] at hh
      go_wp2_with (go_at_call 32; refine hh.mono ?_; rintro e w2 ⟨rfl, hb2⟩)
      go_ret
      exact ⟨ret_bool (by rw [HA.out, hq]; rfl), hw1.trans (hb2.mono hw1.size)⟩
    | false =>
      rw [hq] at hh
      go_wp2_with (go_at_call 32; refine hh.mono ?_; rintro e w2 ⟨rfl, hb2⟩)
      go_ret
      exact ⟨ret_bool (by rw [HA.out, hq]; rfl), hw1.trans (hb2.mono hw1.size)⟩
theorem implIsActiveTrigger_c (v : Value) (x : Inst) (u : Value) (d : Dep) (bv : Value) (b : List Int) (w : World) (h : Instance_at w w.heap.size v x) (hw : Instance_wf x) (_ : Instance_sz x ≤ 1048576) (h' : Dependency_at w w.heap.size u d) (hw' : Dependency_wf d) (hn : Dependency_sz d ≤ 1048576) (h'' : IntS_at w w.heap.size bv b) (_ : IntS_wf b) (_ : IntS_sz b ≤ 1048576) :
    Calls Tryz.prog 9 #[v, u, bv] w fun e w' => e = .returned (.bool (activeOk x d b)) ∧ Below w.heap.size w w' :=
  implIsActive_any v u x d bv b w h hw h' hw' hn h''

theorem ownsRow_cells {w : World} {B k n : Nat} {e : TypeId} {v : Value} {xs : List Value} (h : w.ownsRow B e k v n xs) (g : Nat) (hg : v.ownBlock = some g) : ∃ c, w.heap[g]? = some (.cells c e (0, 0)) := by
  rcases h.2 with ⟨rfl, _⟩ | ⟨g', cap, cur, rfl, _, hgb, _⟩
  · cases hg
  · obtain rfl : g' = g := by simpa [Value.ownBlock] using hg
    exact ⟨cur, hgb⟩

/-- rows stay where only blocks of other kinds turn -/
theorem IntSSO.chgN {S : Nat → Prop} {B C : Nat} {v : Value} {Vs : List Value} {l : List (List Int)} {w w' : World} (h : IntSSO B C v Vs l w) (hc : Chg S w w') (hS : ∀ q c t f, w.heap[q]? = some (.cells c t f) → (t = 3 ∨ t = 31) → ¬ S q) : IntSSO B C v Vs l w' :=
  ⟨h.len, hc.row h.row (fun g hg => by obtain ⟨c, hcc⟩ := ownsRow_cells h.row g hg; exact hS g _ _ _ hcc (.inr rfl)), h.ins, fun i h1 h2 => ⟨(h.el i h1 h2).1.chg hc (fun q hq => by obtain ⟨c, hcc⟩ := ownsRow_cells (h.el i h1 h2).1 q hq; exact hS q _ _ _ hcc (.inl rfl)), (h.el i h1 h2).2⟩, h.dis⟩
theorem ss_book {β : Type} (B : Nat) (f : β → List (List Int)) : Own (fun (s : β) W => ∃ v Vs, IntSSO B W.heap.size v Vs (f s) W) := by
  rintro s X Y row ⟨v, Vs, h⟩ hg hr
  refine ⟨v, Vs, (IntSSO.chgN h (chg_row hg) (fun q c t f hq _ e => ?_)).mono (Nat.le_refl _) hg.size⟩
  obtain ⟨o, ho, hoc⟩ := hr q e
  rw [hq] at ho; cases ho; cases hoc
/-- a box that holds rows -/
theorem box_ss_own {β : Type} (B g : Nat) (f : β → List (List Int)) : Own (fun (s : β) W => ∃ v Vs, Boxed W g 35 v ∧ IntSSO B W.heap.size v Vs (f s) W) := by
  rintro s X Y row ⟨v, Vs, hb, h⟩ hg hr
  refine ⟨v, Vs, hb.kept hg (fun e => ?_), (IntSSO.chgN h (chg_row hg) (fun q c t f hq _ e => ?_)).mono (Nat.le_refl _) hg.size⟩
  · obtain ⟨o, ho, hoc⟩ := hr g e.symm
    rw [show X.heap[g]? = _ from hb] at ho; cases ho; cases hoc
  · obtain ⟨o, ho, hoc⟩ := hr q e
    rw [hq] at ho; cases ho; cases hoc
theorem BoxA.own {β : Type} (g : Nat) (b : List Int) : Own (fun (_ : β) W => BoxA g b W) := by
  intro s X Y row hs hg hr
  refine (hg.block g hs.lt (fun e => ?_)).trans hs
  obtain ⟨o, ho, hoc⟩ := hr g e.symm
  rw [show X.heap[g]? = _ from hs] at ho; cases ho; cases hoc
theorem keeps_below {W W' : World} (h : Below W.heap.size W W') : KeepsOthers W W' := ⟨h.size, fun k _ hk _ => (h.block k (Array.getElem?_eq_some_iff.1 hk).1).trans hk⟩
/-- a binding's five values -/
def list5 (b : List Int) : List Int := [at5 b 0, at5 b 1, at5 b 2, at5 b 3, at5 b 4]
theorem list5_self {b : List Int} (h : b.length = 5) : list5 b = b := by
  match b, h with
  | [_, _, _, _, _], _ => rfl
theorem walkM_five (fs : List Fct) (l : List Atm) (b : List Int) (hb : b.length = 5) : ∀ c ∈ walkM fs l b, c.length = 5 := by
  induction l generalizing b with
  | nil => intro c hc; unfold walkM at hc; rw [List.mem_singleton] at hc; rw [hc, hb]
  | cons a r ih =>
    intro c hc
    rw [walkM_cons, List.mem_flatMap] at hc
    obtain ⟨f, _, hc⟩ := hc
    unfold walkF at hc
    split at hc
    · exact ih _ (by rw [fitA_len]; exact hb) c hc
    · cases hc
theorem walk_list5 (fs : List Fct) (l : List Atm) (b : List Int) (hb : b.length = 5) : (walkM fs l b).map list5 = walkM fs l b := by
  have h := walkM_five fs l b hb
  generalize walkM fs l b = L at h
  induction L with
  | nil => rfl
  | cons a t ih => rw [List.map_cons, list5_self (h a (by simp)), ih (fun c hc => h c (by simp [hc]))]
theorem BoxA.ints5 {g B : Nat} {b : List Int} {w : World} (h : BoxA g b w) (hg : g < B) : IntsAt w B (.slice (some ⟨g, 0, none⟩) 5 5) (list5 b) := by
  have hA : Arr g (list5 b) w := ⟨fun j hj => by
    rw [h.arr.1 j hj]
    rcases (show j = 0 ∨ j = 1 ∨ j = 2 ∨ j = 3 ∨ j = 4 by omega) with e | e | e | e | e <;> subst e <;> rfl, h.arr.2⟩
  exact hA.ints rfl hg

/-- no operation is a defer statement -/
def noDefer (ops : Array Oper) : Bool := ops.all fun o => match o.op with | .defer _ => false | _ => true
theorem noDefer_at {ops : Array Oper} (h : noDefer ops = true) (j : Nat) (o : Oper) (ho : ops[j]? = some o) : ∀ c, o.op ≠ .defer c := by
  intro c e
  obtain ⟨hj, hk⟩ := Array.getElem?_eq_some_iff.1 ho
  unfold noDefer at h
  rw [Array.all_eq_true] at h
  have := h j hj
  rw [hk, e] at this
  cases this
theorem rowsIn_wide {n : Nat} {P : Program} {row : String} {args : Array Value} {w : World} {R : Value → World → Prop} (h : Rows P row args w R) : RowsIn Fence.wide n P row args w R :=
  fun c cs _ => let ⟨v, w', r, s⟩ := h c cs; ⟨v, w', r, stepsIn_wide.2 s⟩
/-- an operation that is no defer statement goes in a round as anywhere -/
theorem oper_round {l n : Nat} {P : Program} {o : Oper} {a : Act} {w : World} {K : Act → World → Prop} {Q : Exit → Act → World → Prop} (hd : ∀ c, o.op ≠ .defer c) (h : o.wp P a w K Q) : o.wpIn (Fence.wide.inRound l) n P a w K Q := by
  refine ⟨fun _ _ => trivial, ?_⟩
  unfold Oper.wp at h
  rw [Oper.semAt_eq _ _ _ hd]
  generalize (execOp a.eval o).run P w = r at *
  have hdep : ((Fence.wide.inRound l).depth.isSome = true → 1 ≤ n) := fun h => by cases h
  cases r with
  | ok x w' =>
    cases x with
    | value v => exact h
    | skip => exact h
    | defer d => exact h
    | enter f args => exact ⟨hdep, ((callsIn_wide (n := n - 1)).2 h).inRound l⟩
    | row row args => exact ⟨hdep, rowsIn_wide (n := n - 1) h⟩
    | _ => exact h.elim
  | halt x w' =>
    cases x with
    | panic v => exact h
    | _ => exact h.elim
theorem any_round {l n : Nat} {P : Program} {md : Region.Mode} {ops : Array Oper} {Q : Exit → Act → World → Prop} (hd : noDefer ops = true) (hQ : ¬ LetsOut Q) :
    ∀ (fuel : Nat) (listed : Array Bool) (a : Act) (w : World), wpAny P md ops Q fuel listed a w → wpAnyIn (Fence.wide.inRound l) n P md ops Q fuel listed a w
  | 0, _, _, _, h => h
  | fuel + 1, listed, a, w, h => by
    refine ⟨h.1, fun i hi => ?_⟩
    have h2 := h.2 i hi
    unfold wpOp at h2
    unfold wpOpIn
    cases ho : ops[i]? with
    | none => rw [ho] at h2; exact any_round hd hQ fuel _ a w h2
    | some o =>
      rw [ho] at h2
      simp only at h2 ⊢
      split
      · rename_i hw
        rw [if_pos hw] at h2
        rcases h2 with h2 | ⟨_, h2⟩
        · exact Oper.wpIn_mono (fun a w hh => any_round hd hQ fuel _ a w hh) (oper_round (noDefer_at hd i o ho) h2)
        · exact absurd h2 hQ
      · rename_i hw
        rw [if_neg hw] at h2
        exact ⟨fun _ _ => trivial, any_round hd hQ fuel _ _ w h2⟩
/-- a region that draws its order, in a round of a range over a function -/
theorem wp_round_planL {l n : Nat} {P : Program} {ops : Array Oper} {C : World → Prop} {id : Nat} {Q' : Exit → Act → World → Prop} {a : Act} {w : World} (p : Plan) (hm : P.follows .mixedOrders = true) (hn : Region.noSelect ops = true) (hd : noDefer ops = true) (hQ : ¬ LetsOut Q') (hB : planL .any ops ops.size [(List.replicate ops.size false, p)] = true) (hC : p.looks = true → C w.drew)
    (h : wpPlan P ops C (Q' .normal) p a w.drew) : (Code.region id ops true).wpIn (Fence.wide.inRound l) n P Q' a w := by
  have hB := planL_sound .any ops ops.size _ hB (List.replicate ops.size false, p) (List.mem_singleton.2 rfl)
  refine wpIn_region_any hm (any_round hd hQ _ _ _ _ (plan_any (Q := Q' .normal) (Region.noSelect_spec hn) (fun _ _ h => h) _ _ p a _ (by
    cases hl : p.looks with
    | true => exact .inl ⟨_, hC hl⟩
    | false => exact .inr rfl) (fun h => hC (reads_looks p h)) (by simpa using hB) h))

set_option maxHeartbeats 800000 in
theorem implCloneInts_any (v : Value) (l : List Int) (w : World) (hl : IntsAt w w.heap.size v l) (hn : l.length ≤ 1048576) :
    Calls Tryz.prog 77 #[v] w fun e w' => ∃ u, e = .returned u ∧ IntS_own w.heap.size w'.heap.size u l w' ∧ Below w.heap.size w w' := by
  have HL := Lib.hid hl
  obtain ⟨A, c, rfl, hlc, hcm, hel, hA⟩ := hl
  unfold maxLen at hcm
  have q0 : ∀ (w : World) (a : Option Addr) (n c n' c' : Nat), (binOp .eql 31 (.slice a n c) (.slice none n' c')).run Tryz.prog w = .ok (.bool a.isNone) w := fun w a n c n' c' => Lib.run_eql_slice_nil w _ _ a n c n' c' Tryz.underlying31
  cases A with
  | none =>
    obtain rfl := hA rfl
    obtain rfl : l = [] := List.eq_nil_of_length_eq_zero (by omega)
    clear hel hA
    go_enter Tryz.func77, Tryz.ntmps77
    go_wp2
    go_ret
    exact ⟨_, rfl, ⟨OwnInts.nil _ _, fun g hg => by cases hg⟩, Below.refl _ _⟩
  | some a =>
    have HLE := Lib.hid ((HL.out.below ((Below.refl w.heap.size w).alloc (Nat.le_refl _) (.cells #[] 3)) (Nat.le_refl _)))
    have HOE := Lib.hid (OwnInts.empty w w.heap.size (Nat.le_refl _))
    clear hel hA
    go_enter Tryz.func77, Tryz.ntmps77
    go_wp2_with (at_builtin; refine ints_apps (r := l) HOE.out rfl _ _ rfl (by simp [go_sem]) (some a) l.length c rfl rfl HLE.out (fun e => by cases e) (by simp; omega) (by simp) ?_; intro v1 w1 hO1 hW1 _ _)
    go_ret
    rw [List.nil_append] at hO1
    exact ⟨_, rfl, IntsO.of hO1, ((Below.refl _ _).alloc (Nat.le_refl _) _).trans hW1⟩

end Go.Proofs.YtoapphgahmofhaaGreat
