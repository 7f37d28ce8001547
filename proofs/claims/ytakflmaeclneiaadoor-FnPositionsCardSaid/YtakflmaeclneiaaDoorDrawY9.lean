/-
  Walks and plain lemmas for the laws of this seat: what single Go functions return, for every argument.
-/
import Derived.Deep.Quiet
import Derived.Test.YtakflmaeclneiaaDoorDraw
import Derived.Test.YtakflmaeclneiaaDoorVarsM
import Derived.Test.YtakflmaeclneiaaDoorDrawU9
namespace Go.Proofs.YtakflmaeclneiaaDoor
open Go.RowKit

set_option maxHeartbeats 6400000 in
set_option maxRecDepth 100000 in
theorem l9Any_c (p : Nat) (cv : Value) (code : List UInt8) (st : DrawSt) (w : World) (hC : CurS w p cv code st) :
    Calls Tryd.prog 41 #[.pointer (some ⟨p, 0, none⟩)] w (GivesDep9 3 p cv code w) := by
  have hp := Cur.lt hC
  obtain ⟨E, hEq⟩ : ∃ E, E = w.alloc (.cells #[.slice none 0 0, .slice none 0 0, .bool false, .int .i64 0, .int .i64 0] 75) := ⟨_, rfl⟩
  have hEz : E.heap.size = w.heap.size + 1 := by rw [hEq]; simp
  have hCE : CurS E p cv code st := by rw [hEq]; exact Cur.alloc hC _
  have hGE : w.grownBy E (some p) := by rw [hEq]; exact World.grownBy_alloc w _ (some p)
  have hBE : BoxD w.heap.size (.slice none 0 0) (.slice none 0 0) E := by rw [hEq]; exact ⟨by simp [go_sem], by simp [go_sem], by simp [go_sem], by simp [go_sem], by simp [go_sem], fun o => by simp [go_sem]⟩
  have hcon := l9Rule_c p cv code st E hCE
  rw [hEq] at hcon
  go_enter Tryd.func41, Tryd.ntmps41
  go_wp2_with fail
  refine hcon.mono ?_
  rw [← hEq]
  clear hEq hcon
  rintro e w1 ⟨X, x, rfl, hX, hs, ⟨st1, hC1⟩, hg1⟩
  obtain ⟨Y1, y1, hv0, -, -⟩ := (hX.1.at_ (Nat.le_refl _)).form
  obtain ⟨Y2, y2, hv1, -, -⟩ := (hX.2.1.at_ (Nat.le_refl _)).form
  obtain ⟨b, h, q, l, r⟩ := x
  dsimp only at hv0 hv1
  unfold DVal9
  dsimp only
  rw [hv0, hv1]
  have hz1 := hg1.size
  have HG1 := Lib.hid (hGE.trans hg1)
  have HR := Lib.hid (hBE.grown hg1 (by omega) (by omega))
  obtain ⟨W, hWe⟩ : ∃ W, W = w1.alloc (.cells #[.slice Y1 b.length y1, .slice Y2 h.length y2, .bool q, .int .i64 l, .int .i64 r] 75) := ⟨_, rfl⟩
  obtain ⟨D, hD⟩ : ∃ D, D = w1.heap.size := ⟨_, rfl⟩
  have hWz : W.heap.size = D + 1 := by rw [hWe, hD]; simp
  have hCW : CurS W p cv code st1 := by rw [hWe]; exact Cur.alloc hC1 _
  have hGW : w1.grownBy W (some p) := by rw [hWe]; exact World.grownBy_alloc w1 _ (some p)
  have hBW : BoxX D (.slice Y1 b.length y1) (.slice Y2 h.length y2) q l r W := by rw [hWe, hD]; exact ⟨by simp [go_sem], by simp [go_sem], by simp [go_sem], by simp [go_sem], by simp [go_sem], fun o => by simp [go_sem]⟩
  have hXW : DepOwn (w.heap.size + 1) D X ⟨b, h, q, l, r⟩ W := by
    rw [hD]
    exact (hX.mono (by omega) (Nat.le_refl _)).grown hGW (by omega)
  have HRW := Lib.hid (HR.out.grown hGW (by omega) (by omega))
  have HGW := Lib.hid (HG1.out.trans hGW)
  have HV0 := Lib.hid hv0
  have HV1 := Lib.hid hv1
  have hpD : p < D ∧ w.heap.size < D := by omega
  have hcon := l1Below_r p cv code st1 12 W hCW
  rw [hWe] at hcon
  go_wp2_with fail
  refine hcon.mono ?_
  rw [← hWe, ← hD]
  clear hWe hcon hD hCW hC1 hz1 hEz hGW hGE hBE hCE hg1 HG1 HR hX hv0 hv1
  rintro e w2 ⟨rfl, hC2, hg2⟩
  generalize belowR code st1 12 = bb at *
  obtain ⟨kk, st2⟩ := bb
  dsimp only at *
  have hz2 := hg2.size
  have HB2 := Lib.hid (hBW.grown hg2 (by omega) (by intro e; injection e; omega))
  have HX2 := Lib.hid (hXW.grown hg2 (by omega))
  have HR2 := Lib.hid (HRW.out.grown hg2 (by omega) (by omega))
  have HG2 := Lib.hid (HGW.out.trans hg2)
  have hD2 : D < w2.heap.size := by omega
  have HS := Lib.hid hs
  have hDR : ¬ D = w.heap.size := by omega
  have hRD : ¬ w.heap.size = D := by omega
  have hsn : DepSmall 3 ⟨b, h, q, l, r⟩ := ⟨hs.1, ⟨Nat.le_trans hs.2.1.1 (by decide), hs.2.1.2⟩, hs.2.2⟩
  clear hBW hXW hg2 hWz HRW HGW hs
  rcases (show kk = 0 ∨ kk = 1 ∨ kk = 2 ∨ kk = 3 ∨ kk = 4 ∨ (¬ kk = 0 ∧ ¬ kk = 1 ∧ ¬ kk = 2 ∧ ¬ kk = 3 ∧ ¬ kk = 4) by omega) with rfl | rfl | rfl | rfl | rfl | ⟨k0, k1, k2, k3, k4⟩
  · obtain ⟨g, cap, hbk, hBg, hgD0⟩ := HX2.out.1.block (by have := hsn.1.1; exact this)
    have hb1 : 0 < b.length := hsn.1.1
    obtain ⟨hY0, hY00⟩ : Y1 = some ⟨g, 0, none⟩ ∧ y1 = cap := by
      have h1 := HV0.out.symm.trans hbk
      injection h1 with h1 _ h3
      exact ⟨h1, h3⟩
    subst hY0
    clear hY00 hbk
    have hS : Holds [(⟨D, 0, none⟩, .slice (some ⟨g, 0, none⟩) b.length y1)] w2 := by
      intro q hq
      simp only [List.mem_cons, List.not_mem_nil, or_false] at hq
      subst hq
      exact HB2.out.c0
    have HSb := Lib.hid (show ∀ q ∈ [((⟨D, 0, none⟩ : Addr), Value.slice (some ⟨g, 0, none⟩) b.length y1)], q.1.block < w2.heap.size by
      intro q hq
      simp only [List.mem_cons, List.not_mem_nil, or_false] at hq
      subst hq
      exact hD2)
    have HSb2 := Lib.hid (show ∀ q ∈ [((⟨D, 0, none⟩ : Addr), Value.slice (some ⟨g, 0, none⟩) b.length y1)], q.1.block = D by
      intro q hq
      simp only [List.mem_cons, List.not_mem_nil, or_false] at hq
      subst hq
      rfl)
    have g0 := Keep.cell (h0 := hS) (a := ⟨D, 0, none⟩) (v := .slice (some ⟨g, 0, none⟩) b.length y1) (by simp)
    have hi0 : decide ((0 : Int) < (b.length : Int)) = true := decide_eq_true (by omega)
    have hi1 : (0 : Int) < (b.length : Int) := by omega
    go_wp2_with fail
    refine wp_region_planL (C := fun w' => ∃ u : Keep _ w2 hS, w' = u.now) (.still 0 (.still 1 (.still 2 (.move true 3 (.still 4 (.still 5 (.still 6 (.move false 7 .done .none)))) .none)))) (by kernel_rfl) (by kernel_rfl) (by kernel_rfl) (fun _ => ⟨⟨w2.drew, hS⟩, rfl⟩) ?_
    iterate 3
      refine plan_look _ rfl rfl ?_
      go_big_quiet_step (fail)
      refine wpQuiet_nil ?_
    refine plan_call _ 22 _ _ _ _ _ rfl _ Tryd.func22 (by kernel_rfl) (by kernel_rfl) ?_ True.intro
    refine (l1Below_r p cv code st2 7 _ (Cur.drewN hC2 1)).mono ?_
    rintro _ w3 ⟨rfl, hC3, hg3'⟩
    have hbd := belowR_bd code st2 7
    generalize belowR code st2 7 = bb at *
    obtain ⟨jj, st3⟩ := bb
    dsimp only at *
    have hj1 := hbd.1
    have hj2 := hbd.2 (by omega)
    have hg3 : w2.grownBy w3 (some p) := ⟨hg3'.os, hg3'.tape, hg3'.output, hg3'.size, hg3'.block⟩
    have hz3 := hg3.size
    have HB3 := Lib.hid (HB2.out.grown hg3 (by omega) (by intro e; injection e; omega))
    have HR3 := Lib.hid (HR2.out.grown hg3 (by omega) (by omega))
    have HG3 := Lib.hid (HG2.out.trans hg3)
    have HX3 := Lib.hid (HX2.out.grown hg3 (by omega))
    refine ⟨_, rfl, fun _ => ⟨⟨_, hS.grown hg3 (fun q hq => ⟨HSb.out q hq, by intro e; injection e with e; have := HSb2.out q hq; omega⟩)⟩, rfl⟩, ?_⟩
    refine plan_put ?_ (by simp only [Act.put, List.setIfInBounds_toArray, List.set_cons_succ, List.set_cons_zero]; rfl)
    iterate 3
      refine plan_look _ rfl rfl ?_
      go_big_quiet_step (fail)
      refine wpQuiet_nil ?_
    obtain ⟨v0, hv0⟩ : ∃ v : Int, v = jj - 1 := ⟨_, rfl⟩
    rw [← hv0]
    have hv12 : -1 ≤ v0 ∧ v0 ≤ 5 := by omega
    clear hv0 hj1 hj2 hbd hg3 hg3'
    have hbX := HX3.out.1
    rw [HV0.out] at hbX
    have hset := hbX.setRel (by decide) rfl 0 hb1 v0
    have hcr := hbX.cells rfl 0 hb1 (by rw [hbX.len]; exact hb1)
    have hfr := hbX.frozen rfl 0
    simp only [Nat.zero_mul] at hset hcr hfr
    have hgw : w.heap.size + 1 ≤ g := hBg
    have hch : Chg (fun k => k = g) w3 (w3.setCell ⟨g, 0, none⟩ (.int .i64 v0)) := (Chg.refl (fun k => k = g) w3).setCell (p := ⟨g, 0, none⟩) rfl _
    have hbl : Below w.heap.size w3 (w3.setCell ⟨g, 0, none⟩ (.int .i64 v0)) := (Below.refl w.heap.size w3).setCell (p := ⟨g, 0, none⟩) (by show w.heap.size ≤ g; omega) _
    have hXs : DepOwn (w.heap.size + 1) (w3.setCell ⟨g, 0, none⟩ (.int .i64 v0)).heap.size X ⟨b.set 0 ⟨v0, b[0].vals⟩, h, q, l, r⟩ (w3.setCell ⟨g, 0, none⟩ (.int .i64 v0)) := by
      have hh := HX3.out.2.1.chgS hch (fun k hk e => HX3.out.2.2 g (.inl (by rw [HV0.out]; rfl)) (e ▸ hk))
      have hset' : AtomSO 86 (w.heap.size + 1) D X.1.1 X.1.2 (b.set 0 ⟨v0, b[0].vals⟩) (w3.setCell ⟨g, 0, none⟩ (.int .i64 v0)) := by rw [HV0.out]; exact hset
      exact ⟨hset'.mono (Nat.le_refl _) (by simp only [World.size_setCell]; omega), hh.mono (Nat.le_refl _) (by simp only [World.size_setCell]; omega), HX3.out.2.2⟩
    have hsm : DepSmall 3 ⟨b.set 0 ⟨v0, b[0].vals⟩, h, q, l, r⟩ := by
      refine ⟨⟨by rw [List.length_set]; exact hsn.1.1, by rw [List.length_set]; exact hsn.1.2.1, fun a ha => ?_⟩, hsn.2.1, hsn.2.2⟩
      rcases List.mem_or_eq_of_mem_set ha with h1 | h1
      · exact hsn.1.2.2 a h1
      · rw [h1]
        have h2 := hsn.1.2.2 b[0] (List.getElem_mem _)
        exact ⟨⟨hv12.1, by show v0 ≤ 6; omega⟩, h2.2⟩
    have HF := Lib.hid (rule_fin (n := 3) hC (Cur.below hC hC3 hbl) (grown_of_below HG3.out hbl) hXs hsm HV0.out HV1.out)
    have hcl := hcr.1
    obtain ⟨z0, z1, z2, z3, z4, zz⟩ := HR3.out
    obtain ⟨q0, q1, q2, q3, q4, qz⟩ := HB3.out
    have hgD : ¬ g = D := by omega
    have hDg : ¬ D = g := by omega
    have hgR : ¬ g = w.heap.size := by omega
    have hRg : ¬ w.heap.size = g := by omega
    clear hch hbl hXs hsm hset hbX hcr
    refine plan_skip (w' := w3.setCell ⟨g, 0, none⟩ (.int .i64 v0)) _ rfl rfl rfl (by simp [go_sem, hcl, hfr]) (fun e => by cases e) ?_ True.intro
    refine plan_put ?_ (by simp only [Act.put]; rfl)
    refine plan_done ?_
    go_wp2
    refine bodyPost_ret (v := .agg #[.slice (some ⟨g, 0, none⟩) b.length y1, .slice Y2 h.length y2, .bool q, .int .i64 l, .int .i64 r]) (by simp [results, Tryd.results41, go_sem, z0, z1, z2, z3, z4]) rfl HF.out
  · obtain ⟨g, cap, hbk, hBg, hgD0⟩ := HX2.out.1.block (by have := hsn.1.1; exact this)
    have hb1 : 0 < b.length := hsn.1.1
    obtain ⟨hY0, hY00⟩ : Y1 = some ⟨g, 0, none⟩ ∧ y1 = cap := by
      have h1 := HV0.out.symm.trans hbk
      injection h1 with h1 _ h3
      exact ⟨h1, h3⟩
    subst hY0
    clear hY00 hbk
    have hvl := (hsn.1.2.2 b[0] (List.getElem_mem _)).2.1

    have hbX2 := HX2.out.1
    have hjv : 0 < X.1.2.length := by rw [hbX2.len]; exact hb1
    obtain ⟨g2, cap2, hV0, hg21, hg22⟩ : ∃ g2 cap2, X.1.2[0] = .slice (some ⟨g2, 0, none⟩) b[0].vals.length cap2 ∧ w.heap.size + 1 ≤ g2 ∧ g2 < D := by
      have h1 := hbX2.el 0 hb1 hjv
      obtain ⟨g2, cap2, e, h2, -, -, -⟩ := OwnInts.form h1.1 (by have := hvl.1; exact this)
      exact ⟨g2, cap2, e, h2, h1.2 g2 (by rw [e]; rfl)⟩
    rw [HV0.out] at hbX2
    have hcl := (hbX2.cells rfl 0 hb1 hjv).2
    rw [hV0] at hcl
    simp only [Nat.zero_mul, Nat.zero_add] at hcl
    obtain ⟨n2, hn2⟩ : ∃ n, n = b[0].vals.length := ⟨_, rfl⟩
    rw [← hn2] at hcl hV0 hvl
    have HN2 := Lib.hid hn2
    clear hbX2 hn2
    have hS : Holds [(⟨D, 0, none⟩, .slice (some ⟨g, 0, none⟩) b.length y1), (⟨g, 1, none⟩, .slice (some ⟨g2, 0, none⟩) n2 cap2)] w2 := by
      intro q hq
      simp only [List.mem_cons, List.not_mem_nil, or_false] at hq
      rcases hq with rfl | rfl
      · exact HB2.out.c0
      · exact hcl
    have HSb := Lib.hid (show ∀ q ∈ [((⟨D, 0, none⟩ : Addr), Value.slice (some ⟨g, 0, none⟩) b.length y1), (⟨g, 1, none⟩, .slice (some ⟨g2, 0, none⟩) n2 cap2)], q.1.block < w2.heap.size ∧ q.1.block ≠ p by
      intro q hq
      simp only [List.mem_cons, List.not_mem_nil, or_false] at hq
      rcases hq with rfl | rfl
      · exact ⟨hD2, by show D ≠ p; omega⟩
      · exact ⟨by show g < _; omega, by show g ≠ p; omega⟩)
    have g0 := Keep.cell (h0 := hS) (a := ⟨D, 0, none⟩) (v := .slice (some ⟨g, 0, none⟩) b.length y1) (by simp)
    have g1 := Keep.cell (h0 := hS) (a := ⟨g, 1, none⟩) (v := .slice (some ⟨g2, 0, none⟩) n2 cap2) (by simp)
    have hi0 : decide ((0 : Int) < (b.length : Int)) = true := decide_eq_true (by omega)
    have hi1 : (0 : Int) < (b.length : Int) := by omega
    have hi2 : (0 : Int) < (n2 : Int) := by omega
    go_wp2_with fail
    refine wp_region_planL (C := fun w' => ∃ u : Keep _ w2 hS, w' = u.now) (.still 0 (.still 1 (.still 2 (.still 3 (.still 4 (.still 5 (.move true 6 (.move true 7 (.still 8 (.move false 9 .done .none)) .none) .none))))))) (by kernel_rfl) (by kernel_rfl) (by kernel_rfl) (fun _ => ⟨⟨w2.drew, hS⟩, rfl⟩) ?_
    iterate 6
      refine plan_look _ rfl rfl ?_
      go_big_quiet_step (fail)
      refine wpQuiet_nil ?_
    have hal0 : w2.grownBy (w2.drew.alloc (.cells #[.int .i64 5, .int .i64 (-11), .int .i64 4] 3)) (some p) := (show w2.grownBy w2.drew (some p) from ⟨rfl, rfl, rfl, Nat.le_refl _, fun _ _ _ => rfl⟩).trans (World.grownBy_alloc _ _ _)
    refine plan_value (u := .slice (some ⟨w2.heap.size, 0, none⟩) 3 3) (w' := w2.drew.alloc (.cells #[.int .i64 5, .int .i64 (-11), .int .i64 4] 3)) _ rfl rfl rfl (by simp [go_sem]) (fun _ => ⟨⟨_, hS.grown hal0 (fun q hq => ⟨(HSb.out q hq).1, by intro e; injection e with e; exact (HSb.out q hq).2 e⟩)⟩, rfl⟩) ?_ True.intro
    refine plan_put ?_ (by simp only [Act.put, List.setIfInBounds_toArray, List.set_cons_succ, List.set_cons_zero]; rfl)
    refine plan_call _ 28 _ _ _ _ _ rfl _ Tryd.func28 (by kernel_rfl) (by kernel_rfl) ?_ True.intro
    refine (l1PickInt_d p cv code st2 [5, -11, 4] (-11) 5 ⟨by decide, by decide⟩ (by decide) w2.drew 3 (by decide) (by decide) (by show p < w2.heap.size; omega) w2.heap.size rfl 3 3 rfl _ rfl (Cur.alloc (Cur.drewN hC2 1) _)).mono ?_
    rintro _ w3 ⟨v0, hv1, hv2, rfl, ⟨st3, hC3⟩, hg3a⟩
    have hg3 := hal0.trans hg3a
    have hz3 := hg3.size
    have HB3 := Lib.hid (HB2.out.grown hg3 (by omega) (by intro e; injection e; omega))
    have HR3 := Lib.hid (HR2.out.grown hg3 (by omega) (by omega))
    have HG3 := Lib.hid (HG2.out.trans hg3)
    have HX3 := Lib.hid (HX2.out.grown hg3 (by omega))
    refine ⟨_, rfl, fun _ => ⟨⟨_, hS.grown hg3 (fun q hq => ⟨(HSb.out q hq).1, by intro e; injection e with e; exact (HSb.out q hq).2 e⟩)⟩, rfl⟩, ?_⟩
    refine plan_put ?_ (by simp only [Act.put, List.setIfInBounds_toArray, List.set_cons_succ, List.set_cons_zero]; rfl)
    iterate 1
      refine plan_look _ rfl rfl ?_
      go_big_quiet_step (fail)
      refine wpQuiet_nil ?_
    clear hg3 hg3a hal0 hcl
    have hI := (HX3.out.1.el 0 hb1 hjv).1
    rw [hV0] at hI
    have hset := OwnInts.set (cap := cap2) hI HN2.out.symm 0 v0
    have hcv := OwnInts.cell (cap := cap2) hI HN2.out.symm 0 (by rw [← HN2.out]; omega)
    have hfr := OwnInts.frozen (cap := cap2) hI HN2.out.symm 0
    have hch : Chg (fun k => k = g2) w3 (w3.setCell ⟨g2, 0, none⟩ (.int .i64 v0)) := (Chg.refl (fun k => k = g2) w3).setCell (p := ⟨g2, 0, none⟩) rfl _
    have hbl : Below w.heap.size w3 (w3.setCell ⟨g2, 0, none⟩ (.int .i64 v0)) := (Below.refl w.heap.size w3).setCell (p := ⟨g2, 0, none⟩) (by show w.heap.size ≤ g2; omega) _
    have hob : X.1.2[0].ownBlock = some g2 := by rw [hV0]; rfl
    have hXs : DepOwn (w.heap.size + 1) (w3.setCell ⟨g2, 0, none⟩ (.int .i64 v0)).heap.size X ⟨b.set 0 ⟨b[0].rel, b[0].vals.set 0 v0⟩, h, q, l, r⟩ (w3.setCell ⟨g2, 0, none⟩ (.int .i64 v0)) := by
      have hh := HX3.out.2.1.chgS hch (fun k hk e => HX3.out.2.2 g2 (.inr ⟨_, List.getElem_mem hjv, hob⟩) (e ▸ hk))
      have hsv := AtomSO.setVals (by decide) HX3.out.1 0 hb1 hjv (b[0].vals.set 0 v0) ⟨by rw [hV0]; exact hset, (HX3.out.1.el 0 hb1 hjv).2⟩ (hch.mono (fun k hk => by rw [hob, hk]))
      exact ⟨hsv.mono (Nat.le_refl _) (by simp only [World.size_setCell]; omega), hh.mono (Nat.le_refl _) (by simp only [World.size_setCell]; omega), HX3.out.2.2⟩
    have hsm : DepSmall 3 ⟨b.set 0 ⟨b[0].rel, b[0].vals.set 0 v0⟩, h, q, l, r⟩ := by
      refine ⟨⟨by rw [List.length_set]; exact hsn.1.1, by rw [List.length_set]; exact hsn.1.2.1, fun a ha => ?_⟩, hsn.2.1, hsn.2.2⟩
      rcases List.mem_or_eq_of_mem_set ha with h1 | h1
      · exact hsn.1.2.2 a h1
      · rw [h1]
        have h2 := hsn.1.2.2 b[0] (List.getElem_mem _)
        refine ⟨h2.1, by show 1 ≤ (b[0].vals.set 0 v0).length ∧ _; rw [List.length_set]; exact h2.2.1, fun z hz => ?_⟩
        rcases List.mem_or_eq_of_mem_set hz with h3 | h3
        · exact h2.2.2 z h3
        · rw [h3]; exact ⟨hv1, hv2⟩
    have HF := Lib.hid (rule_fin (n := 3) hC (Cur.below hC hC3 hbl) (grown_of_below HG3.out hbl) hXs hsm HV0.out HV1.out)
    obtain ⟨z0, z1, z2, z3, z4, zz⟩ := HR3.out
    obtain ⟨q0, q1, q2, q3, q4, qz⟩ := HB3.out
    have hgD : ¬ g2 = D := by omega
    have hDg : ¬ D = g2 := by omega
    have hgR : ¬ g2 = w.heap.size := by omega
    have hRg : ¬ w.heap.size = g2 := by omega
    clear hch hbl hXs hsm hset hI hob
    refine plan_skip (w' := w3.setCell ⟨g2, 0, none⟩ (.int .i64 v0)) _ rfl rfl rfl (by simp [go_sem, hcv, hfr]) (fun e => by cases e) ?_ True.intro
    refine plan_put ?_ (by simp only [Act.put]; rfl)
    refine plan_done ?_
    go_wp2
    refine bodyPost_ret (v := .agg #[.slice (some ⟨g, 0, none⟩) b.length y1, .slice Y2 h.length y2, .bool q, .int .i64 l, .int .i64 r]) (by simp [results, Tryd.results41, go_sem, z0, z1, z2, z3, z4]) rfl HF.out
  · have hcon := l1Below_r p cv code st2 4 w2 hC2
    go_wp2_with fail
    refine hcon.mono ?_
    rintro e w3 ⟨rfl, hC3, hg3⟩
    have hbd := belowR_bd code st2 4
    generalize belowR code st2 4 = bb at *
    obtain ⟨v0, st3⟩ := bb
    dsimp only at *
    have hj1 := hbd.1
    have hj2 := hbd.2 (by omega)
    have hz3 := hg3.size
    have HB3 := Lib.hid (HB2.out.grown hg3 (by omega) (by intro e; injection e; omega))
    have HR3 := Lib.hid (HR2.out.grown hg3 (by omega) (by omega))
    have HG3 := Lib.hid (HG2.out.trans hg3)
    have HX3 := Lib.hid (HX2.out.grown hg3 (by omega))
    have hch := (Chg.refl (fun g => g = D) w3).setCell (p := ⟨D, 3, none⟩) rfl (.int .i64 v0)
    have hbl : Below w.heap.size w3 (w3.setCell ⟨D, 3, none⟩ (.int .i64 v0)) := (Below.refl w.heap.size w3).setCell (p := ⟨D, 3, none⟩) (by show w.heap.size ≤ D; omega) _
    have hXs : DepOwn (w.heap.size + 1) (w3.setCell ⟨D, 3, none⟩ (.int .i64 v0)).heap.size X ⟨b, h, q, v0, r⟩ (w3.setCell ⟨D, 3, none⟩ (.int .i64 v0)) := (HX3.out.store hch (Nat.le_refl _)).mono (Nat.le_refl _) (by simp only [World.size_setCell]; omega)
    have HF := Lib.hid (rule_fin (n := 3) hC (Cur.below hC hC3 hbl) (grown_of_below HG3.out hbl) hXs ⟨hsn.1, hsn.2.1, ⟨by show -11 ≤ v0; omega, by show v0 ≤ 5; omega⟩, hsn.2.2.2⟩ HV0.out HV1.out)
    obtain ⟨z0, z1, z2, z3, z4, zz⟩ := HR3.out
    obtain ⟨q0, q1, q2, q3, q4, qz⟩ := HB3.out
    clear hch hbl hXs
    clear hbd hj1 hj2 hg3 hcon
    go_wp2
    refine bodyPost_ret (v := .agg #[.slice Y1 b.length y1, .slice Y2 h.length y2, .bool q, .int .i64 v0, .int .i64 r]) (by simp [results, Tryd.results41, go_sem, z0, z1, z2, z3, z4]) rfl HF.out
  · have hch := (Chg.refl (fun g => g = D) w2).setCell (p := ⟨D, 2, none⟩) rfl (.bool (!q))
    have hbl : Below w.heap.size w2 (w2.setCell ⟨D, 2, none⟩ (.bool (!q))) := (Below.refl w.heap.size w2).setCell (p := ⟨D, 2, none⟩) (by show w.heap.size ≤ D; omega) _
    have hXs : DepOwn (w.heap.size + 1) (w2.setCell ⟨D, 2, none⟩ (.bool (!q))).heap.size X ⟨b, h, !q, l, r⟩ (w2.setCell ⟨D, 2, none⟩ (.bool (!q))) := (HX2.out.store hch (Nat.le_refl _)).mono (Nat.le_refl _) (by simp only [World.size_setCell]; omega)
    have HF := Lib.hid (rule_fin (n := 3) hC (Cur.below hC hC2 hbl) (grown_of_below HG2.out hbl) hXs ⟨hsn.1, hsn.2.1, hsn.2.2⟩ HV0.out HV1.out)
    obtain ⟨z0, z1, z2, z3, z4, zz⟩ := HR2.out
    obtain ⟨q0, q1, q2, q3, q4, qz⟩ := HB2.out
    clear hch hbl hXs
    go_wp2
    refine bodyPost_ret (v := .agg #[.slice Y1 b.length y1, .slice Y2 h.length y2, .bool (!q), .int .i64 l, .int .i64 r]) (by simp [results, Tryd.results41, go_sem, z0, z1, z2, z3, z4]) rfl HF.out
  · have hi0 := HX2.out.2.1
    have hS : Holds [(⟨D, 1, none⟩, .slice Y2 h.length y2)] w2 := by
      intro q hq
      simp only [List.mem_cons, List.not_mem_nil, or_false] at hq
      subst hq
      exact HB2.out.c1
    have HSb := Lib.hid (show ∀ q ∈ [((⟨D, 1, none⟩ : Addr), Value.slice Y2 h.length y2)], q.1.block = D by
      intro q hq
      simp only [List.mem_cons, List.not_mem_nil, or_false] at hq
      subst hq
      rfl)
    have g0 := Keep.cell (h0 := hS) (a := ⟨D, 1, none⟩) (v := .slice Y2 h.length y2) (by simp)
    have hbd := belowR_bd code st2 5
    go_wp2_with fail
    refine wp_region_planL (C := fun w' => ∃ u : Keep _ w2 hS, w' = u.now) (.still 0 (.still 1 (.still 2 (.still 3 (.move true 4 (.move true 5 (.move true 6 (.move true 7 (.still 8 (.move false 9 .done .none)) .none) .none) .none) .none))))) (by kernel_rfl) (by kernel_rfl) (by kernel_rfl) (fun _ => ⟨⟨w2.drew, hS⟩, rfl⟩) ?_
    iterate 4
      refine plan_look _ rfl rfl ?_
      go_big_quiet_step (fail)
      refine wpQuiet_nil ?_
    refine plan_call _ 22 _ _ _ _ _ rfl _ Tryd.func22 (by kernel_rfl) (by kernel_rfl) ?_ True.intro
    refine (l1Below_r p cv code st2 5 _ (Cur.drewN hC2 1)).mono ?_
    rintro _ wa ⟨rfl, hCa, hga⟩
    generalize belowR code st2 5 = bb at *
    obtain ⟨jj, sta⟩ := bb
    dsimp only at *
    have hga' : w2.grownBy wa (some p) := ⟨hga.os, hga.tape, hga.output, hga.size, hga.block⟩
    have hza := hga'.size
    have hKa := hS.grown hga' (fun q hq => ⟨by rw [HSb.out q hq]; exact hD2, by rw [HSb.out q hq]; intro e; injection e; omega⟩)
    refine ⟨_, rfl, fun _ => ⟨⟨_, hKa⟩, rfl⟩, ?_⟩
    refine plan_put ?_ (by simp only [Act.put, List.setIfInBounds_toArray, List.set_cons_succ, List.set_cons_zero]; rfl)
    obtain ⟨j, hj⟩ : ∃ j : Nat, jj = (j : Int) := ⟨jj.toNat, by have := hbd.1; omega⟩
    have hj5 : j < 5 := by have := hbd.2 (by omega); omega
    rw [hj]
    clear hj hbd hga
    refine plan_call _ 52 _ _ _ _ _ rfl _ Tryd.func52 (by kernel_rfl) (by kernel_rfl) ?_ True.intro
    refine (l9Atom_c p cv code sta j hj5 3 (by omega) (by omega) _ hCa).mono ?_
    rintro _ wb ⟨U, vs, rfl, hU, hv1, hv2, hvs, ⟨stb, hCb⟩, hgb⟩
    obtain ⟨PU, cU, rfl, -⟩ := id hU.at_
    have hgb' := hga'.trans hgb
    have hzb := hgb.size
    have hKb := hKa.grown hgb (fun q hq => ⟨by rw [HSb.out q hq]; omega, by rw [HSb.out q hq]; intro e; injection e; omega⟩)
    refine ⟨_, rfl, fun _ => ⟨⟨_, hKb⟩, rfl⟩, ?_⟩
    refine plan_put ?_ (by simp only [Act.put, List.setIfInBounds_toArray, List.set_cons_succ, List.set_cons_zero]; rfl)
    have hXb := HX2.out.grown hgb' (by omega)
    obtain ⟨wc, hwc⟩ : ∃ wc, wc = wb.alloc (.cells #[.int .i64 (j : Int), .slice PU vs.length cU] 86) := ⟨_, rfl⟩
    have hwcz : wc.heap.size = wb.heap.size + 1 := by rw [hwc]; simp
    have hAl : Below wb.heap.size wb wc := by rw [hwc]; exact (Below.refl wb.heap.size wb).alloc (Nat.le_refl _) _
    refine plan_value (u := .slice (some ⟨wb.heap.size, 0, none⟩) 1 1) (w' := wc) _ rfl rfl rfl (by rw [hwc]; simp [go_sem]) (fun _ => ⟨⟨_, hKb.below hAl (fun q hq => by rw [HSb.out q hq]; omega)⟩, rfl⟩) ?_ True.intro
    refine plan_put ?_ (by simp only [Act.put, List.setIfInBounds_toArray, List.set_cons_succ, List.set_cons_zero]; rfl)
    have hXc := hXb.below hAl (by omega)
    have hUc : IntS_own wa.heap.size wb.heap.size (.slice PU vs.length cU) vs wc := IntS_own.below (IntsO.of hU) hAl (Nat.le_refl _)
    have hr : SliceAt apairCells wc (wb.heap.size + 1) (.slice (some ⟨wb.heap.size, 0, none⟩) [((j : Int), Value.slice PU vs.length cU)].length 1) [((j : Int), Value.slice PU vs.length cU)] := by
      refine ⟨_, _, rfl, Nat.le_refl _, by simp [maxLen], fun _ => ⟨_, _, rfl, by omega, ?_⟩, fun h => by cases h⟩
      intro i u hu
      rw [hwc, Nat.zero_add, box_cell]
      simpa [apairCells] using hu
    have hOc := hXc.2.1
    rw [HV1.out] at hOc
    have hapl : (apairs h X.2.2).length = h.length := apairs_len hOc.len
    have hbs2 : h.length ≤ 2 := HS.out.2.1.1
    refine plan_app apairCells 2 32 (r := [((j : Int), Value.slice PU vs.length cU)]) (fun x hx u hu => by rw [List.mem_singleton.1 hx] at hu; simp [apairCells] at hu; rcases hu with rfl | rfl <;> rfl) apairCells_len _ rfl rfl Tryd.underlying73 infoAtm rfl (by decide) hOc.row _ _ rfl rfl ⟨wb.heap.size, 0, none⟩ 1 1 rfl rfl hr (by rw [hapl]; simp; omega) (by rw [hapl]; simp; omega) (by rw [hwcz]; omega) ?_ True.intro
    intro v4 wd hO4 hB4 hg4 hown4
    have hzd := hg4.size
    have hins : ∀ k, (Value.slice Y2 h.length y2).ownBlock = some k → k < D := fun k hk => hOc.ins k hk
    have hFS := AtomSO.snoc (e := 86) (by decide) (x := ⟨(j : Int), vs⟩) (C' := wd.heap.size) hOc (by omega) hO4 hg4 (row_inside hO4 (Nat.le_refl _)) (hUc.mono (by omega) (by omega)) (fun i hi k h1 h2 => by
      have h3 := (hU.lt k h2).1
      have h4 := (hOc.el i (by have := hOc.len; omega) hi).2 k h1
      omega)
    obtain ⟨P5, c5, rfl, -, -⟩ := (hFS.at_ (Nat.le_refl _)).form
    have hl5 : (h ++ [(⟨(j : Int), vs⟩ : Atm)]).length = h.length + 1 := by simp
    rw [hl5] at hFS hown4
    have hBd := hXc.1.kept hg4 (fun k hk e => hXc.2.2 k hk (.inl (by rw [HV1.out]; exact e)))
    have hBXd := ((HB2.out.grown hgb' hD2 (by intro e; injection e; omega)).below hAl (by omega)).grown hg4 (by omega) (fun e => by have := hins D e.symm; omega)
    have hRd : BoxD w.heap.size (.slice none 0 0) (.slice none 0 0) wd := ((HR2.out.grown hgb' (by omega) (by omega)).below hAl (by omega)).grownR hg4 (by omega) (fun e => by have := (World.ownsRow.lt hOc.row _ e.symm).1; omega)
    have hbwd : Below w.heap.size wb wd := (hAl.mono (by omega)).trans (hB4.mono (by omega))
    have hch := (Chg.refl (fun k => k = D) wd).setCell (p := ⟨D, 1, none⟩) rfl (.slice P5 (h.length + 1) c5)
    have hbl : Below w.heap.size wb (wd.setCell ⟨D, 1, none⟩ (.slice P5 (h.length + 1) c5)) := hbwd.setCell (p := ⟨D, 1, none⟩) (by show w.heap.size ≤ D; omega) _
    have hdis : ∀ k, aFootF X.1.1 X.1.2 k → ¬ aFootF (.slice P5 (h.length + 1) c5) (X.2.2 ++ [.slice PU vs.length cU]) k := by
      intro k hk hn
      have hkD := (hXc.1.foot k hk).2
      rcases hn with hn | ⟨V, hV, hn⟩
      · rcases hown4 with h1 | h1
        · rw [h1] at hn
          exact hXc.2.2 k hk (.inl (by rw [HV1.out]; exact hn))
        · rw [h1] at hn
          injection hn with hn
          omega
      · rcases List.mem_append.1 hV with h1 | h1
        · exact hXc.2.2 k hk (.inr ⟨V, h1, hn⟩)
        · rw [List.mem_singleton.1 h1] at hn
          have := (hU.lt k hn).1
          omega
    have hXs : DepOwn (w.heap.size + 1) (wd.setCell ⟨D, 1, none⟩ (.slice P5 (h.length + 1) c5)).heap.size (X.1, (.slice P5 (h.length + 1) c5, X.2.2 ++ [.slice PU vs.length cU])) ⟨b, h ++ [⟨(j : Int), vs⟩], q, l, r⟩ (wd.setCell ⟨D, 1, none⟩ (.slice P5 (h.length + 1) c5)) := by
      refine ⟨(hBd.chgS hch (fun k hk e => by have := (hBd.foot k hk).2; omega)).mono (Nat.le_refl _) (by simp only [World.size_setCell]; omega), (hFS.chgS hch (fun k hk e => ?_)).mono (Nat.le_refl _) (by simp only [World.size_setCell]; exact Nat.le_refl _), hdis⟩
      rcases hk with hn | ⟨V, hV, hn⟩
      · rcases hown4 with h1 | h1
        · rw [h1] at hn
          have := hins k hn
          omega
        · rw [h1] at hn
          injection hn with hn
          omega
      · rcases List.mem_append.1 hV with h1 | h1
        · have := (hOc.foot k (.inr ⟨V, h1, hn⟩)).2
          omega
        · rw [List.mem_singleton.1 h1] at hn
          have := (hU.lt k hn).1
          omega
    have hsm : DepSmall 3 ⟨b, h ++ [⟨(j : Int), vs⟩], q, l, r⟩ := by
      refine ⟨hsn.1, ⟨by show (h ++ [_]).length ≤ 3; simp; omega, fun a ha => ?_⟩, hsn.2.2⟩
      rcases List.mem_append.1 ha with h1 | h1
      · exact hsn.2.1.2 a h1
      · rw [List.mem_singleton.1 h1]
        exact ⟨⟨by show -1 ≤ (j : Int); omega, by show (j : Int) ≤ 6; omega⟩, ⟨hv1, hv2⟩, fun z hz => by have := hvs z hz; omega⟩
    have HF := Lib.hid (rule_fin (n := 3) hC (Cur.below hC hCb hbl) (grown_of_below (HG2.out.trans hgb') hbl) hXs hsm HV0.out rfl)
    obtain ⟨z0, z1, z2, z3, z4, zz⟩ := hRd
    obtain ⟨q0, q1, q2, q3, q4, qz⟩ := hBXd
    refine ⟨fun _ => ⟨⟨_, (hKb.below hAl (fun q hq => by rw [HSb.out q hq]; omega)).grown hg4 (fun q hq => ⟨by rw [HSb.out q hq]; omega, by rw [HSb.out q hq]; intro e; have := hins D e.symm; omega⟩)⟩, rfl⟩, ?_⟩
    clear hXs hsm hdis hch hbl hbwd hBd hFS hown4 hO4 hB4 hg4 hr hOc hXc hUc hXb hAl hwc hKb hKa hgb hvs hga' hCa hi0
    refine plan_put ?_ (by simp only [Act.put, List.setIfInBounds_toArray, List.set_cons_succ, List.set_cons_zero]; rfl)
    iterate 1
      refine plan_look _ rfl rfl ?_
      go_big_quiet_step (fail)
      refine wpQuiet_nil ?_
    refine plan_skip (w' := wd.setCell ⟨D, 1, none⟩ (.slice P5 (h.length + 1) c5)) _ rfl rfl rfl (by simp [go_sem, q1, qz]) (fun e => by cases e) ?_ True.intro
    refine plan_put ?_ (by simp only [Act.put]; rfl)
    refine plan_done ?_
    go_wp2
    refine bodyPost_ret (v := .agg #[.slice Y1 b.length y1, .slice P5 (h.length + 1) c5, .bool q, .int .i64 l, .int .i64 r]) (by simp [results, Tryd.results41, go_sem, z0, z1, z2, z3, z4]) rfl HF.out
  · have HF := Lib.hid (rule_fin (n := 3) hC hC2 HG2.out (HX2.out.mono (Nat.le_refl _) (by omega)) hsn HV0.out HV1.out)
    obtain ⟨z0, z1, z2, z3, z4, zz⟩ := HR2.out
    obtain ⟨q0, q1, q2, q3, q4, qz⟩ := HB2.out
    have e0 : (kk == 0) = false := beq_eq_false_iff_ne.2 k0
    have e1 : (kk == 1) = false := beq_eq_false_iff_ne.2 k1
    have e2 : (kk == 2) = false := beq_eq_false_iff_ne.2 k2
    have e3 : (kk == 3) = false := beq_eq_false_iff_ne.2 k3
    have e4 : (kk == 4) = false := beq_eq_false_iff_ne.2 k4
    go_wp2
    refine bodyPost_ret (v := .agg #[.slice Y1 b.length y1, .slice Y2 h.length y2, .bool q, .int .i64 l, .int .i64 r]) (by simp [results, Tryd.results41, go_sem, z0, z1, z2, z3, z4]) rfl HF.out

end Go.Proofs.YtakflmaeclneiaaDoor
