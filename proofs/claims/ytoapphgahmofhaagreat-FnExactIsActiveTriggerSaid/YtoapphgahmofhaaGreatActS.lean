/-
  Walks and plain lemmas for the laws of this seat: what single Go functions return, for every argument.
-/
import Derived.Test.YtoapphgahmofhaaGreatTyAtom
import Derived.Test.YtoapphgahmofhaaGreatTakeE
import Derived.Test.YtoapphgahmofhaaGreatMatK
import Derived.Test.YtoapphgahmofhaaGreatTrigM
import Derived.Test.YtoapphgahmofhaaGreatTrgS
import Derived.Test.YtoapphgahmofhaaGreatExtI
import Derived.Test.YtoapphgahmofhaaGreatDepVI
namespace Go.Proofs.YtoapphgahmofhaaGreat
open Go.RowKit

theorem active_egd {x : Inst} {d : Dep} {b : List Int} (h : trigOk x d b = true) (hg : d.egd = true) : activeOk x d b = decide (b.getD d.left.toNat 0 ≠ b.getD d.right.toNat 0) := by unfold activeOk; rw [h, if_pos hg]; rfl
theorem active_tgd {x : Inst} {d : Dep} {b : List Int} (h : trigOk x d b = true) (hg : d.egd = false) : activeOk x d b = !hasExt x d.head b := by unfold activeOk; rw [h, if_neg (by rw [hg]; simp)]; rfl
theorem active_off {x : Inst} {d : Dep} {b : List Int} (h : trigOk x d b = false) : activeOk x d b = false := by unfold activeOk; rw [h]; rfl
theorem trig_three {x : Inst} {d : Dep} {b : List Int} (h : trigOk x d b = true) : instOk x = true ∧ depOk x.rels d = true ∧ b.length = 5 := by
  unfold trigOk at h
  simp only [Bool.and_eq_true, decide_eq_true_eq] at h
  exact ⟨h.1, h.2.1, h.2.2.1⟩
set_option maxHeartbeats 3200000 in
set_option maxRecDepth 100000 in
theorem specIsActive_any (v u : Value) (x : Inst) (d : Dep) (bv : Value) (b : List Int) (w : World) (hx : Instance_at w w.heap.size v x) (hxw : Instance_wf x) (hxn : x.rels.length ≤ 1048576) (hd : Dependency_at w w.heap.size u d) (hdw : Dependency_wf d) (hn : Dependency_sz d ≤ 1048576) (hb : IntsAt w w.heap.size bv b) (hbw : IntsWf b) :
    Calls Tryz.prog 12 #[v, u, bv] w fun e w' => e = .returned (.bool (activeOk x d b)) ∧ Below w.heap.size w w' := by
  have HX := Lib.hid hx
  have HD := Lib.hid hd
  have HB := Lib.hid hb
  obtain ⟨P, c, Q, d1, rfl⟩ := Instance_form hx
  obtain ⟨R, q, S, t, rfl⟩ := Dependency_form hd
  have HH := Lib.hid (show AtomS_at w w.heap.size (.slice S d.head.length t) d.head by
    obtain ⟨V1, V2, hv, h1, h2⟩ := hd
    simp only [Value.agg.injEq, Array.mk.injEq, List.cons.injEq, and_true] at hv
    obtain ⟨rfl, rfl⟩ := hv
    exact h2)
  obtain ⟨T, tc, rfl, ht1, ht2, -, -⟩ := id hb
  unfold maxLen at ht2
  clear hx hd hb
  obtain ⟨E, hEq⟩ : ∃ E, E = (w.alloc (.cells #[.slice P x.rels.length c, .slice Q x.facts.length d1] 27)).alloc (.cells #[.slice R d.body.length q, .slice S d.head.length t, .bool d.egd, .int .i64 d.left, .int .i64 d.right] 30) := ⟨_, rfl⟩
  have hE : Below w.heap.size w E := by rw [hEq]; exact below_more (below_more (Below.refl _ _) _) _
  have hEz : E.heap.size = w.heap.size + 2 := by rw [hEq]; simp
  have X0 : E.cell? ⟨w.heap.size, 0, none⟩ = some (.slice P x.rels.length c) := by rw [hEq]; simp [go_sem]
  have X1 : E.cell? ⟨w.heap.size, 1, none⟩ = some (.slice Q x.facts.length d1) := by rw [hEq]; simp [go_sem]
  have D1 : E.cell? ⟨w.heap.size + 1, 1, none⟩ = some (.slice S d.head.length t) := by rw [hEq]; simp [go_sem]
  have D2 : E.cell? ⟨w.heap.size + 1, 2, none⟩ = some (.bool d.egd) := by rw [hEq]; simp [go_sem]
  have D3 : E.cell? ⟨w.heap.size + 1, 3, none⟩ = some (.int .i64 d.left) := by rw [hEq]; simp [go_sem]
  have D4 : E.cell? ⟨w.heap.size + 1, 4, none⟩ = some (.int .i64 d.right) := by rw [hEq]; simp [go_sem]
  have htr := specIsTrigger_any _ _ x d (.slice T b.length tc) b E ((HX.out.below hE (Nat.le_refl _)).more hE.size) hxw hxn ((HD.out.below hE (Nat.le_refl _)).more hE.size) hdw hn ((HB.out.below hE (Nat.le_refl _)).more hE.size) hbw
  rw [hEq] at htr
  have hz0 : w.heap.size < E.heap.size := by omega
  have hz1 : w.heap.size + 1 < E.heap.size := by omega
  cases h1 : trigOk x d b with
  | false =>
    have HA := Lib.hid (active_off h1)
    rw [h1] at htr
    clear h1 D1 D2 D3 D4 X1 X0
    go_enter Tryz.func12, Tryz.ntmps12
    go_wp2_with (go_at_call 13; refine htr.mono ?_; rintro e w1 ⟨rfl, hb1⟩)
    rw [← hEq] at hb1
    go_ret
    exact ⟨ret_bool HA.out.symm, hE.trans (hb1.mono hE.size)⟩
  | true =>
    obtain ⟨p1, p2, p3⟩ := trig_three h1
    cases hg : d.egd with
    | true =>
      obtain ⟨⟨v1, v2⟩, v3, v4⟩ := depOk_vars p2 hg
      have HA := Lib.hid (active_egd h1 hg)
      obtain ⟨jl, hjl⟩ : ∃ j : Nat, d.left = (j : Int) := ⟨d.left.toNat, by omega⟩
      obtain ⟨jr, hjr⟩ : ∃ j : Nat, d.right = (j : Int) := ⟨d.right.toNat, by omega⟩
      rw [hjl, hjr] at HA
      have hl5 : jl < b.length := by omega
      have hr5 : jr < b.length := by omega
      have HV := Lib.hid (show (b[jl] != b[jr]) = activeOk x d b by
        rw [HA.out]
        have e1 : b.getD (jl : Int).toNat 0 = b[jl] := by simp [List.getD, hl5]
        have e2 : b.getD (jr : Int).toNat 0 = b[jr] := by simp [List.getD, hr5]
        rw [Bool.eq_iff_iff, bne_iff_ne, decide_eq_true_iff, e1, e2])
      obtain ⟨q0, off, e9, hq0, k1⟩ := IntsAt.elem HB.out jl hl5
      subst e9
      obtain ⟨q', off', e9, -, k2⟩ := IntsAt.elem HB.out jr hr5
      cases e9
      rw [h1] at htr
      rw [hjl] at D3
      rw [hjr] at D4
      rw [hg] at D2
      rw [hg, hjl, hjr] at htr hEq
      rw [hjl, hjr]
      clear h1 p1 p2 p3 v1 v2 v3 v4 HA hjl hjr D1 X0 X1
      go_enter Tryz.func12, Tryz.ntmps12
      go_wp2_with fail
      refine htr.mono ?_
      rintro e w1 ⟨rfl, hb1⟩
      rw [← hEq] at hb1
      have hw1 := hE.trans (hb1.mono hE.size)
      have d2 := (hb1.cell (p := ⟨w.heap.size + 1, 2, none⟩) hz1).trans D2
      clear htr hEq
      have hzw : w.heap.size + 1 < w1.heap.size := Nat.lt_of_lt_of_le hz1 hb1.size
      have G1 := Aft.cell (B := w1.heap.size) hzw ((hb1.cell (p := ⟨w.heap.size + 1, 3, none⟩) hz1).trans D3)
      have G2 := Aft.cell (B := w1.heap.size) hzw ((hb1.cell (p := ⟨w.heap.size + 1, 4, none⟩) hz1).trans D4)
      have G3 := Aft.cell (B := w1.heap.size) (Nat.lt_of_lt_of_le hq0 hw1.size) ((hw1.cell (p := ⟨q0, off + jl, none⟩) hq0).trans k1)
      have G4 := Aft.cell (B := w1.heap.size) (Nat.lt_of_lt_of_le hq0 hw1.size) ((hw1.cell (p := ⟨q0, off + jr, none⟩) hq0).trans k2)
      clear D2 D3 D4 k1 k2
      go_upto_region 4 with fail
      refine wp_region_aft (Below.refl w1.heap.size w1) (by kernel_rfl) (by kernel_rfl) ?_
      repeat (go_big_quiet_step (fail))
      refine wpQuiet_nil ?_
      refine aft_end ?_
      intro w2 hh2
      go_wp2
      go_ret
      exact ⟨ret_bool HV.out, hw1.trans (hh2.mono hw1.size)⟩
    | false =>
      have HA := Lib.hid (active_tgd h1 hg)
      rw [h1] at htr
      rw [hg] at D2 htr hEq
      have HHE := Lib.hid (fun (W : World) (hW : Below w.heap.size w W) => specHasExt_any _ (.slice S d.head.length t) x d.head (.slice T b.length tc) b W ((HX.out.below hW (Nat.le_refl _)).more hW.size) hxw hxn ((HH.out.below hW (Nat.le_refl _)).more hW.size) hdw.2.1 ((HB.out.below hW (Nat.le_refl _)).more hW.size))
      clear h1 p1 p2 p3 D3 D4
      go_enter Tryz.func12, Tryz.ntmps12
      go_wp2_with fail
      refine htr.mono ?_
      rintro e w1 ⟨rfl, hb1⟩
      rw [← hEq] at hb1
      have hw1 := hE.trans (hb1.mono hE.size)
      have x0 := (hb1.cell (p := ⟨w.heap.size, 0, none⟩) hz0).trans X0
      have x1 := (hb1.cell (p := ⟨w.heap.size, 1, none⟩) hz0).trans X1
      have d1' := (hb1.cell (p := ⟨w.heap.size + 1, 1, none⟩) hz1).trans D1
      have d2 := (hb1.cell (p := ⟨w.heap.size + 1, 2, none⟩) hz1).trans D2
      have hh := HHE.out w1 hw1
      clear htr hEq D1 D2 X0 X1
      go_wp2_with (go_at_call 39; refine hh.mono ?_; rintro e w2 ⟨rfl, hb2⟩)
      go_ret
      exact ⟨ret_bool HA.out.symm, hw1.trans (hb2.mono hw1.size)⟩
theorem specIsActiveTrigger_c (v : Value) (x : Inst) (u : Value) (d : Dep) (bv : Value) (b : List Int) (w : World) (h : Instance_at w w.heap.size v x) (hw : Instance_wf x) (hn : Instance_sz x ≤ 1048576) (h' : Dependency_at w w.heap.size u d) (hw' : Dependency_wf d) (hn' : Dependency_sz d ≤ 1048576) (h'' : IntS_at w w.heap.size bv b) (hbw : IntS_wf b) (_ : IntS_sz b ≤ 1048576) :
    Calls Tryz.prog 12 #[v, u, bv] w fun e w' => e = .returned (.bool (activeOk x d b)) ∧ Below w.heap.size w w' :=
  specIsActive_any v u x d bv b w h hw (by unfold Instance_sz RelationS_sz at hn; omega) h' hw' hn' h'' hbw

theorem holdsM_egd {fs : List Fct} {d : Dep} {b : List Int} (h : d.egd = true) : holdsM fs d b = decide (b.getD d.left.toNat 0 = b.getD d.right.toNat 0) := by unfold holdsM; rw [if_pos h]
theorem holdsM_tgd {fs : List Fct} {d : Dep} {b : List Int} (h : d.egd = false) : holdsM fs d b = decide (0 < (walkM fs d.head b).length) := by unfold holdsM; rw [if_neg (by rw [h]; simp)]
set_option maxHeartbeats 3200000 in
set_option maxRecDepth 100000 in
theorem implHolds_any (fs : List Fct) (hfw : FactS_wf fs) (d : Dep) (b : List Int) (hb5 : b.length = 5) (hv : d.egd = true → (0 ≤ d.left ∧ d.left.toNat < 5) ∧ (0 ≤ d.right ∧ d.right.toNat < 5)) (hh : ∀ a ∈ d.head, AtmFit fs a) (vF vd vb : Value) (w : World) (hF : FactS_at w w.heap.size vF fs) (hD : Dependency_at w w.heap.size vd d) (hb : IntsAt w w.heap.size vb b) :
    Calls Tryz.prog 32 #[vF, vd, vb] w fun e w' => e = .returned (.bool (holdsM fs d b)) ∧ Below w.heap.size w w' := by
  have HF := Lib.hid hF
  have HB := Lib.hid hb
  obtain ⟨V1, V2, rfl, hA1, hA2⟩ := hD
  have HH := Lib.hid hA2
  obtain ⟨P, c, rfl, -⟩ := hA1.form
  obtain ⟨Q, c2, rfl, -⟩ := hA2.form
  obtain ⟨R, c3, rfl, -⟩ := hF.form
  obtain ⟨S, t, rfl, ht1, ht2, -, -⟩ := hb
  unfold maxLen at ht2
  clear hA1 hA2 hF
  obtain ⟨E, hEq⟩ : ∃ E, E = w.alloc (.cells #[.slice P d.body.length c, .slice Q d.head.length c2, .bool d.egd, .int .i64 d.left, .int .i64 d.right] 30) := ⟨_, rfl⟩
  have hE : Below w.heap.size w E := by rw [hEq]; exact below_more (Below.refl _ _) _
  have hEz : w.heap.size < E.heap.size := by rw [hEq]; simp
  cases hg : d.egd with
  | true =>
    obtain ⟨⟨h1, h2⟩, h3, h4⟩ := hv hg
    have HM := Lib.hid (holdsM_egd (fs := fs) (b := b) hg)
    obtain ⟨jl, hjl⟩ : ∃ j : Nat, d.left = (j : Int) := ⟨d.left.toNat, by omega⟩
    obtain ⟨jr, hjr⟩ : ∃ j : Nat, d.right = (j : Int) := ⟨d.right.toNat, by omega⟩
    rw [hjl, hjr] at HM
    simp only [Int.toNat_natCast] at HM
    have hl5 : jl < b.length := by omega
    have hr5 : jr < b.length := by omega
    obtain ⟨q, off, e9, hq, k1⟩ := IntsAt.elem HB.out jl hl5
    subst e9
    obtain ⟨q', off', e9, -, k2⟩ := IntsAt.elem HB.out jr hr5
    cases e9
    have HV := Lib.hid (show (b[jl] == b[jr]) = holdsM fs d b by
      rw [HM.out]
      have e1 : b.getD jl 0 = b[jl] := by simp [List.getD, hl5]
      have e2 : b.getD jr 0 = b[jr] := by simp [List.getD, hr5]
      rw [Bool.eq_iff_iff, beq_iff_eq, decide_eq_true_iff]
      show b[jl] = b[jr] ↔ b.getD jl 0 = b.getD jr 0
      rw [e1, e2])
    have G1 := Aft.cell (B := E.heap.size) hEz (show E.cell? ⟨w.heap.size, 3, none⟩ = some (.int .i64 (jl : Int)) by rw [hEq, hjl]; simp [go_sem])
    have G2 := Aft.cell (B := E.heap.size) hEz (show E.cell? ⟨w.heap.size, 4, none⟩ = some (.int .i64 (jr : Int)) by rw [hEq, hjr]; simp [go_sem])
    have G3 := Aft.cell (B := E.heap.size) (Nat.lt_of_lt_of_le hq hE.size) ((hE.cell (p := ⟨q, off + jl, none⟩) hq).trans k1)
    have G4 := Aft.cell (B := E.heap.size) (Nat.lt_of_lt_of_le hq hE.size) ((hE.cell (p := ⟨q, off + jr, none⟩) hq).trans k2)
    rw [hg, hjl, hjr] at hEq
    rw [hjl, hjr]
    clear HM hh hv h1 h2 h3 h4 hjl hjr k1 k2 hb5
    go_enter Tryz.func32, Tryz.ntmps32
    go_upto_region 2 with fail
    rw [← hEq]
    refine wp_region_aft (Below.refl E.heap.size E) (by kernel_rfl) (by kernel_rfl) ?_
    repeat (go_big_quiet_step (fail))
    refine wpQuiet_nil ?_
    refine aft_end ?_
    intro w2 hh2
    go_wp2
    go_ret
    exact ⟨ret_bool HV.out, hE.trans (hh2.mono hE.size)⟩
  | false =>
    have HM := Lib.hid (holdsM_tgd (fs := fs) (b := b) hg)
    have hcall := implHasExt_any fs hfw d.head hh b hb5 (.slice R fs.length c3) (.slice Q d.head.length c2) (.slice S b.length t) E ((HF.out.below hE (Nat.le_refl _)).more hE.size) ((HH.out.below hE (Nat.le_refl _)).more hE.size) ((HB.out.below hE (Nat.le_refl _)).more hE.size)
    rw [hg] at hEq
    rw [hEq] at hcall
    clear hh hv hb5
    go_enter Tryz.func32, Tryz.ntmps32
    go_wp2_with (go_at_call 50; refine hcall.mono ?_; rintro e w1 ⟨rfl, hb1⟩)
    rw [← hEq] at hb1
    go_ret
    exact ⟨ret_bool HM.out.symm, hE.trans (hb1.mono hE.size)⟩

theorem trig_parts {x : Inst} {d : Dep} {b : List Int} (h : trigOk x d b = true) : instOk x = true ∧ depOk x.rels d = true ∧ b.length = 5 := by
  unfold trigOk at h
  simp only [Bool.and_eq_true, decide_eq_true_eq] at h
  exact ⟨h.1, h.2.1, h.2.2.1⟩
theorem active_no {x : Inst} {d : Dep} {b : List Int} (h : trigOk x d b = false) : activeOk x d b = false := by unfold activeOk; rw [h]; rfl
theorem head_fit {x : Inst} {d : Dep} (hx : instOk x = true) (hd : depOk x.rels d = true) (hw : AtomS_wf d.head) : ∀ a ∈ d.head, AtmFit x.facts a := okM_fit hw (by rw [okM_head hd]; exact hx)
set_option maxHeartbeats 3200000 in
set_option maxRecDepth 100000 in
theorem implIsActive_any (v u : Value) (x : Inst) (d : Dep) (bv : Value) (b : List Int) (w : World) (hx : Instance_at w w.heap.size v x) (hxw : Instance_wf x) (hd : Dependency_at w w.heap.size u d) (hdw : Dependency_wf d) (hn : Dependency_sz d ≤ 1048576) (hb : IntsAt w w.heap.size bv b) :
    Calls Tryz.prog 9 #[v, u, bv] w fun e w' => e = .returned (.bool (activeOk x d b)) ∧ Below w.heap.size w w' := by
  have HX := Lib.hid hx
  have HD := Lib.hid hd
  have HB := Lib.hid hb
  obtain ⟨P, c, Q, d1, rfl⟩ := Instance_form hx
  have HF := Lib.hid (show FactS_at w w.heap.size (.slice Q x.facts.length d1) x.facts by
    obtain ⟨V1, V2, hv, hR, hF⟩ := hx
    simp only [Value.agg.injEq, Array.mk.injEq, List.cons.injEq, and_true] at hv
    obtain ⟨rfl, rfl⟩ := hv
    exact hF)
  obtain ⟨R, q, S, t, rfl⟩ := Dependency_form hd
  obtain ⟨T, tc, rfl, -⟩ := id hb
  clear hx hd hb
  obtain ⟨E, hEq⟩ : ∃ E, E = (w.alloc (.cells #[.slice P x.rels.length c, .slice Q x.facts.length d1] 27)).alloc (.cells #[.slice R d.body.length q, .slice S d.head.length t, .bool d.egd, .int .i64 d.left, .int .i64 d.right] 30) := ⟨_, rfl⟩
  have hE : Below w.heap.size w E := by rw [hEq]; exact below_more (below_more (Below.refl _ _) _) _
  have hEz : E.heap.size = w.heap.size + 2 := by rw [hEq]; simp
  have X1 : E.cell? ⟨w.heap.size, 1, none⟩ = some (.slice Q x.facts.length d1) := by rw [hEq]; simp [go_sem]
  have D0 : E.cell? ⟨w.heap.size + 1, 0, none⟩ = some (.slice R d.body.length q) := by rw [hEq]; simp [go_sem]
  have D1 : E.cell? ⟨w.heap.size + 1, 1, none⟩ = some (.slice S d.head.length t) := by rw [hEq]; simp [go_sem]
  have D2 : E.cell? ⟨w.heap.size + 1, 2, none⟩ = some (.bool d.egd) := by rw [hEq]; simp [go_sem]
  have D3 : E.cell? ⟨w.heap.size + 1, 3, none⟩ = some (.int .i64 d.left) := by rw [hEq]; simp [go_sem]
  have D4 : E.cell? ⟨w.heap.size + 1, 4, none⟩ = some (.int .i64 d.right) := by rw [hEq]; simp [go_sem]
  have htr := implIsTrigger_any _ _ x d (.slice T b.length tc) b E ((HX.out.below hE (Nat.le_refl _)).more hE.size) hxw ((HD.out.below hE (Nat.le_refl _)).more hE.size) hdw hn ((HB.out.below hE (Nat.le_refl _)).more hE.size)
  rw [hEq] at htr
  cases h1 : trigOk x d b with
  | false =>
    have HA := Lib.hid (active_no h1)
    rw [h1] at htr
    clear h1 D0 D1 D2 D3 D4 X1
    go_enter Tryz.func9, Tryz.ntmps9
    go_wp2_with (go_at_call 10; refine htr.mono ?_; rintro e w1 ⟨rfl, hb1⟩)
    rw [← hEq] at hb1
    go_ret
    exact ⟨ret_bool HA.out.symm, hE.trans (hb1.mono hE.size)⟩
  | true =>
    obtain ⟨p1, p2, p3⟩ := trig_parts h1
    have HA := Lib.hid (active_is h1)
    have HH := Lib.hid (fun (W : World) (hW : Below w.heap.size w W) => implHolds_any x.facts hxw.2 d b p3 (fun hg => depOk_vars p2 hg) (head_fit p1 p2 hdw.2.1) (.slice Q x.facts.length d1) _ (.slice T b.length tc) W ((HF.out.below hW (Nat.le_refl _)).more hW.size) ((HD.out.below hW (Nat.le_refl _)).more hW.size) ((HB.out.below hW (Nat.le_refl _)).more hW.size))
    rw [h1] at htr
    clear h1 p1 p2 p3
    go_enter Tryz.func9, Tryz.ntmps9
    go_wp2_with fail
    refine htr.mono ?_
    rintro e w1 ⟨rfl, hb1⟩
    rw [← hEq] at hb1
    have hw1 := hE.trans (hb1.mono hE.size)
    have hz0 : w.heap.size < E.heap.size := by omega
    have hz1 : w.heap.size + 1 < E.heap.size := by omega
    have x1 := (hb1.cell (p := ⟨w.heap.size, 1, none⟩) hz0).trans X1
    have d0 := (hb1.cell (p := ⟨w.heap.size + 1, 0, none⟩) hz1).trans D0
    have d1' := (hb1.cell (p := ⟨w.heap.size + 1, 1, none⟩) hz1).trans D1
    have d2 := (hb1.cell (p := ⟨w.heap.size + 1, 2, none⟩) hz1).trans D2
    have d3 := (hb1.cell (p := ⟨w.heap.size + 1, 3, none⟩) hz1).trans D3
    have d4 := (hb1.cell (p := ⟨w.heap.size + 1, 4, none⟩) hz1).trans D4
    have hh := HH.out w1 hw1
    clear htr hEq D0 D1 D2 D3 D4 X1
    cases hq : holdsM x.facts d b with
    | true =>
      rw [hq] at hh
      go_wp2_with (go_at_call 32; refine hh.mono ?_; rintro e w2 ⟨rfl, hb2⟩)
      go_ret
      exact ⟨ret_bool (by rw [HA.out, hq]; rfl), hw1.trans (hb2.mono hw1.size)⟩
    | false =>
      rw [hq] at hh
      go_wp2_with (go_at_call 32; refine hh.mono ?_; rintro e w2 ⟨rfl, hb2⟩)
      go_ret
      exact ⟨ret_bool (by rw [HA.out, hq]; rfl), hw1.trans (hb2.mono hw1.size)⟩
theorem implIsActiveTrigger_c (v : Value) (x : Inst) (u : Value) (d : Dep) (bv : Value) (b : List Int) (w : World) (h : Instance_at w w.heap.size v x) (hw : Instance_wf x) (_ : Instance_sz x ≤ 1048576) (h' : Dependency_at w w.heap.size u d) (hw' : Dependency_wf d) (hn : Dependency_sz d ≤ 1048576) (h'' : IntS_at w w.heap.size bv b) (_ : IntS_wf b) (_ : IntS_sz b ≤ 1048576) :
    Calls Tryz.prog 9 #[v, u, bv] w fun e w' => e = .returned (.bool (activeOk x d b)) ∧ Below w.heap.size w w' :=
  implIsActive_any v u x d bv b w h hw h' hw' hn h''

end Go.Proofs.YtoapphgahmofhaaGreat
