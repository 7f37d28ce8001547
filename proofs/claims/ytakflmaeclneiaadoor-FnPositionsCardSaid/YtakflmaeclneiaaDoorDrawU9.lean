/-
  Walks and plain lemmas for the laws of this seat: what single Go functions return, for every argument.
-/
import Derived.Deep.Quiet
import Derived.Test.YtakflmaeclneiaaDoorTyAtom
import Derived.Test.YtakflmaeclneiaaDoorPlan
import Derived.Test.YtakflmaeclneiaaDoorDrawA9
import Derived.Test.YtakflmaeclneiaaDoorVarsM
import Derived.Test.YtakflmaeclneiaaDoorDrawK9
import Derived.Test.YtakflmaeclneiaaDoorAtomV
namespace Go.Proofs.YtakflmaeclneiaaDoor
open Go.RowKit

set_option maxHeartbeats 6400000 in
set_option maxRecDepth 100000 in
theorem l9Rule_c (p : Nat) (cv : Value) (code : List UInt8) (st : DrawSt) (w : World) (hC : CurS w p cv code st) :
  Calls Tryd.prog 51 #[.pointer (some ⟨p, 0, none⟩)] w (GivesDep9 2 p cv code w) := by
 have hp := Cur.lt hC
 obtain ⟨E, hEq⟩ : ∃ E, E = w.alloc (.cells #[.slice none 0 0, .slice none 0 0, .bool false, .int .i64 0, .int .i64 0] 75) := ⟨_, rfl⟩
 have hEz : E.heap.size = w.heap.size + 1 := by rw [hEq]; simp
 have hCE : CurS E p cv code st := by rw [hEq]; exact Cur.alloc hC _
 have hGE : w.grownBy E (some p) := by rw [hEq]; exact World.grownBy_alloc w _ (some p)
 have hBE : BoxD w.heap.size (.slice none 0 0) (.slice none 0 0) E := by rw [hEq]; exact ⟨by simp [go_sem], by simp [go_sem], by simp [go_sem], by simp [go_sem], by simp [go_sem], fun o => by simp [go_sem]⟩
 have hcon := l1Once_r p cv code st 3 E hCE
 rw [hEq] at hcon
 go_enter Tryd.func51, Tryd.ntmps51
 go_wp2_with fail
 refine hcon.mono ?_
 rw [← hEq]
 clear hEq hcon
 rintro e w1 ⟨rfl, hC1, hg1⟩
 generalize onceR code st 3 = b at *
 obtain ⟨bb, st1⟩ := b
 dsimp only at *
 have hz1 := hg1.size
 have HG1 := Lib.hid (hGE.trans hg1)
 have HR := Lib.hid (hBE.grown hg1 (by omega) (by omega))
 clear hBE hg1 hGE hCE
 cases bb with
 | false =>
  go_wp2_with fail
  refine (l9Known_c p cv code st1 w1 hC1).mono ?_
  rintro e w2 ⟨X, x, rfl, hX, hs, ⟨st2, hC2⟩, hg2⟩
  obtain ⟨Y1, y1, hv0, -, -⟩ := (hX.1.at_ (Nat.le_refl _)).form
  obtain ⟨Y2, y2, hv1, -, -⟩ := (hX.2.1.at_ (Nat.le_refl _)).form
  have HF := Lib.hid (rule_fin hC hC2 (HG1.out.trans hg2) (hX.mono (by omega) (Nat.le_refl _)) hs hv0 hv1)
  have hR2 := HR.out.grown hg2 (by omega) (by omega)
  have z0 := hR2.c0
  have z1 := hR2.c1
  have z2 := hR2.c2
  have z3 := hR2.c3
  have z4 := hR2.c4
  have zf := hR2.fz
  unfold DVal9
  rw [hv0, hv1]
  clear hX hs hv0 hv1 hg2 hR2
  go_wp2
  refine bodyPost_ret (v := .agg #[.slice Y1 x.body.length y1, .slice Y2 x.head.length y2, .bool x.egd, .int .i64 x.left, .int .i64 x.right]) (by simp [results, Tryd.results51, go_sem, z0, z1, z2, z3, z4]) rfl HF.out
 | true =>
  obtain ⟨W, hWe⟩ : ∃ W, W = w1.alloc (.cells #[.slice none 0 0, .slice none 0 0, .bool false, .int .i64 0, .int .i64 0] 75) := ⟨_, rfl⟩
  obtain ⟨D, hD⟩ : ∃ D, D = w1.heap.size := ⟨_, rfl⟩
  have hWz : W.heap.size = D + 1 := by rw [hWe, hD]; simp
  have hCW : CurS W p cv code st1 := by rw [hWe]; exact Cur.alloc hC1 _
  have hGW : w1.grownBy W (some p) := by rw [hWe]; exact World.grownBy_alloc w1 _ (some p)
  have hBW : BoxD D (.slice none 0 0) (.slice none 0 0) W := by rw [hWe, hD]; exact ⟨by simp [go_sem], by simp [go_sem], by simp [go_sem], by simp [go_sem], by simp [go_sem], fun o => by simp [go_sem]⟩
  have HRW := Lib.hid (HR.out.grown hGW (by omega) (by omega))
  have HGW := Lib.hid (HG1.out.trans hGW)
  have hpD : p < D ∧ w.heap.size < D := by omega
  have hcon := l1Below_r p cv code st1 2 W hCW
  rw [hWe] at hcon
  go_wp2_with fail
  refine hcon.mono ?_
  rw [← hWe, ← hD]
  clear hWe hcon hD hCW hC1 hz1 hEz hGW
  rintro e w2 ⟨rfl, hC2, hg2⟩
  have hbn := belowR_bd code st1 2
  generalize belowR code st1 2 = b at *
  obtain ⟨nn, st2⟩ := b
  dsimp only at *
  obtain ⟨n0, hn0⟩ : ∃ n0 : Nat, 1 + nn = (n0 : Int) := ⟨(1 + nn).toNat, by have := hbn.1; omega⟩
  have hn1 : 1 ≤ n0 ∧ n0 ≤ 2 := by have := hbn.1; have := hbn.2 (by omega); omega
  have hz2 := hg2.size
  have hB2 := hBW.grown hg2 (by omega) (by omega)
  obtain ⟨B0, hB0⟩ : ∃ B0, B0 = w2.heap.size := ⟨_, rfl⟩
  have HB0 := Lib.hid hB0
  have hDB : D < B0 ∧ p < B0 := by omega
  clear hB0
  have HR2 := Lib.hid (HRW.out.grown hg2 (by omega) (by omega))
  have HG2 := Lib.hid (HGW.out.trans hg2)
  have hnn1 := hbn.1
  have hnn2 := hbn.2 (by omega)
  clear hbn hg2 hBW hWz HRW HGW HR HG1
  go_wp2_with fail

  clear hn0 hnn1 hnn2
  go_loopw [4] (fun i wr => ∃ (m : Nat) (bs : List Atm) (Vs : List Value) (V : Value) (st' : DrawSt), i = .int .i64 (m : Int) ∧ bs.length + m ≤ 2 ∧ 1 ≤ bs.length + m ∧ Hid (BoxD D V (.slice none 0 0) wr) ∧ Hid (AtomSO 86 B0 wr.heap.size V Vs bs wr) ∧ Hid (∀ a ∈ bs, AtmSmall a) ∧ CurS wr p cv code st' ∧ Hid (Chg (fun q => q = p ∨ q = D) w2 wr)) (fun i _ => (intOf i).toNat)
  case atStart => exact ⟨n0, [], [], _, st2, rfl, by simp; omega, by simp; omega, Lib.hid hB2, Lib.hid (AtomSO.nil0 _ _ _ _), Lib.hid (fun a ha => absurd ha (by simp)), hC2, Lib.hid (Chg.refl _ _)⟩
  case round =>
   clear hB2 hC2 hz2
   obtain ⟨m, bs, Vs, V, st', rfl, hm2, hm1, HBX, HO, HSM, hCr, HC⟩ := hrel
   obtain ⟨P4, c4, rfl, -, -⟩ := (HO.out.at_ (Nat.le_refl _)).form
   have hzr : B0 ≤ wr.heap.size := by rw [HB0.out]; exact HC.out.size
   have hDr : D < wr.heap.size := by omega
   by_cases hlt : 0 < m
   ·
    have e1 : decide ((0 : Int) < (m : Int)) = true := decide_eq_true (by omega)
    have e2 : decide (0 < m) = true := decide_eq_true hlt
    have hS : Holds [(⟨D, 0, none⟩, .slice P4 bs.length c4)] wr := by
     intro q hq
     simp only [List.mem_cons, List.not_mem_nil, or_false] at hq
     subst hq
     exact HBX.out.c0
    have HSb := Lib.hid (show ∀ q ∈ [((⟨D, 0, none⟩ : Addr), Value.slice P4 bs.length c4)], q.1.block = D by
     intro q hq
     simp only [List.mem_cons, List.not_mem_nil, or_false] at hq
     subst hq
     rfl)
    have g0 := Keep.cell (h0 := hS) (a := ⟨D, 0, none⟩) (v := .slice P4 bs.length c4) (by simp)
    have hbd := belowR_bd code st' 5
    go_wp2_with fail
    refine wp_region_planL (C := fun w' => ∃ u : Keep _ wr hS, w' = u.now) (.still 0 (.still 1 (.still 2 (.still 3 (.move true 4 (.move true 5 (.move true 6 (.move true 7 (.still 8 (.move false 9 .done .none)) .none) .none) .none) .none))))) (by kernel_rfl) (by kernel_rfl) (by kernel_rfl) (fun _ => ⟨⟨wr.drew, hS⟩, rfl⟩) ?_
    iterate 4
     refine plan_look _ rfl rfl ?_
     go_big_quiet_step (fail)
     refine wpQuiet_nil ?_
    refine plan_call _ 22 _ _ _ _ _ rfl _ Tryd.func22 (by kernel_rfl) (by kernel_rfl) ?_ True.intro
    refine (l1Below_r p cv code st' 5 _ (Cur.drewN hCr 1)).mono ?_
    rintro _ wa ⟨rfl, hCa, hga⟩
    generalize belowR code st' 5 = b at *
    obtain ⟨jj, sta⟩ := b
    dsimp only at *
    have hga' : wr.grownBy wa (some p) := ⟨hga.os, hga.tape, hga.output, hga.size, hga.block⟩
    have hza := hga'.size
    have hKa := hS.grown hga' (fun q hq => ⟨by rw [HSb.out q hq]; exact hDr, by rw [HSb.out q hq]; intro e; injection e; omega⟩)
    refine ⟨_, rfl, fun _ => ⟨⟨_, hKa⟩, rfl⟩, ?_⟩
    refine plan_put ?_ (by simp only [Act.put, List.setIfInBounds_toArray, List.set_cons_succ, List.set_cons_zero]; rfl)
    obtain ⟨j, hj⟩ : ∃ j : Nat, jj = (j : Int) := ⟨(jj).toNat, by have := hbd.1; omega⟩
    have hj5 : j < 5 := by have := hbd.2 (by omega); have := hbd.1; omega
    rw [hj]
    clear hj hbd hga
    refine plan_call _ 52 _ _ _ _ _ rfl _ Tryd.func52 (by kernel_rfl) (by kernel_rfl) ?_ True.intro
    refine (l9Atom_c p cv code sta j hj5 3 (by omega) (by omega) _ hCa).mono ?_
    rintro _ wb ⟨U, vs, rfl, hU, hv1, hv2, hvs, ⟨stb, hCb⟩, hgb⟩
    obtain ⟨PU, cU, rfl, -⟩ := id hU.at_
    have hgb' := hga'.trans hgb
    have hzb := hgb.size
    have hKb := hKa.grown hgb (fun q hq => ⟨by rw [HSb.out q hq]; omega, by rw [HSb.out q hq]; intro e; injection e; omega⟩)
    refine ⟨_, rfl, fun _ => ⟨⟨_, hKb⟩, rfl⟩, ?_⟩
    refine plan_put ?_ (by simp only [Act.put, List.setIfInBounds_toArray, List.set_cons_succ, List.set_cons_zero]; rfl)
    have hAl := (Below.refl wb.heap.size wb).alloc (Nat.le_refl _) (.cells #[.int .i64 (j : Int), .slice PU vs.length cU] 86)
    have hUo : IntS_own wa.heap.size wb.heap.size (.slice PU vs.length cU) vs wb := IntsO.of hU
    have hOb := (HO.out.grown hgb' (by omega)).mono (Nat.le_refl _) (Nat.le_trans hza hzb)
    obtain ⟨wc, hwc⟩ : ∃ wc, wc = wb.alloc (.cells #[.int .i64 (j : Int), .slice PU vs.length cU] 86) := ⟨_, rfl⟩
    have hwcz : wc.heap.size = wb.heap.size + 1 := by rw [hwc]; simp
    have hAl' : Below wb.heap.size wb wc := by rw [hwc]; exact hAl
    refine plan_value (u := .slice (some ⟨wb.heap.size, 0, none⟩) 1 1) (w' := wc) _ rfl rfl rfl (by rw [hwc]; simp [go_sem]) (fun _ => ⟨⟨_, hKb.below hAl' (fun q hq => by rw [HSb.out q hq]; omega)⟩, rfl⟩) ?_ True.intro
    refine plan_put ?_ (by simp only [Act.put, List.setIfInBounds_toArray, List.set_cons_succ, List.set_cons_zero]; rfl)
    have hOc := hOb.below hAl' (Nat.le_refl _)
    have hUc := (IntS_own.below hUo hAl' (Nat.le_refl _))
    have hr : SliceAt apairCells wc (wb.heap.size + 1) (.slice (some ⟨wb.heap.size, 0, none⟩) [((j : Int), Value.slice PU vs.length cU)].length 1) [((j : Int), Value.slice PU vs.length cU)] := by
     refine ⟨_, _, rfl, Nat.le_refl _, by simp [maxLen], fun _ => ⟨_, _, rfl, by omega, ?_⟩, fun h => by cases h⟩
     intro i u hu
     rw [hwc, Nat.zero_add, box_cell]
     simpa [apairCells] using hu
    have hapl : (apairs bs Vs).length = bs.length := apairs_len hOc.len
    have hbs2 : bs.length ≤ 2 := by omega
    refine plan_app apairCells 2 32 (r := [((j : Int), Value.slice PU vs.length cU)]) (fun x hx u hu => by rw [List.mem_singleton.1 hx] at hu; simp [apairCells] at hu; rcases hu with rfl | rfl <;> rfl) apairCells_len _ rfl rfl Tryd.underlying73 infoAtm rfl (by decide) hOc.row _ _ rfl rfl ⟨wb.heap.size, 0, none⟩ 1 1 rfl rfl hr (by rw [hapl]; simp; omega) (by rw [hapl]; simp; omega) (by rw [hwcz]; omega) ?_ True.intro
    intro v4 wd hO4 hB4 hg4 _
    have hzd := hg4.size
    have hFS := AtomSO.snoc (e := 86) (by decide) (x := ⟨(j : Int), vs⟩) (C' := wd.heap.size) hOc (by omega) hO4 hg4 (row_inside hO4 (Nat.le_refl _)) (hUc.mono (by omega) (by omega)) (fun i hi q h1 h2 => by
     have h3 := (hU.lt q h2).1
     have h4 := (HO.out.el i (by have := HO.out.len; omega) hi).2 q h1
     omega)
    obtain ⟨P5, c5, rfl, -, -⟩ := (hFS.at_ (Nat.le_refl _)).form
    have hl5 : (bs ++ [(⟨(j : Int), vs⟩ : Atm)]).length = bs.length + 1 := by simp
    rw [hl5] at hFS
    clear hl5
    have hBcd : Below B0 wb wd := (hAl'.mono (by omega)).trans hB4
    have hBXd := ((HBX.out.grown hgb' hDr (by omega)).below hBcd (by omega))
    have HBXd := Lib.hid hBXd
    have zc := hBXd.c0
    have zf := hBXd.fz
    have HFS := Lib.hid hFS
    have HCb := Lib.hid hCb
    have HBcd := Lib.hid hBcd
    have HGB := Lib.hid hgb'
    have HVS := Lib.hid (show AtmSmall ⟨(j : Int), vs⟩ from ⟨⟨by show -1 ≤ (j : Int); omega, by show (j : Int) ≤ 6; omega⟩, ⟨hv1, hv2⟩, fun z hz => by have := hvs z hz; omega⟩)
    refine ⟨fun _ => ⟨⟨_, (hKb.below hAl' (fun q hq => by rw [HSb.out q hq]; omega)).below (hB4.mono (Nat.le_refl _)) (fun q hq => by rw [HSb.out q hq]; omega)⟩, rfl⟩, ?_⟩
    clear hFS hBXd hBcd hO4 hB4 hg4 hr hUc hOc hOb hUo hU hAl hAl' hwc hKb hKa hgb hCb hvs hga' hCa
    refine plan_put ?_ (by simp only [Act.put, List.setIfInBounds_toArray, List.set_cons_succ, List.set_cons_zero]; rfl)
    iterate 1
     refine plan_look _ rfl rfl ?_
     go_big_quiet_step (fail)
     refine wpQuiet_nil ?_
    refine plan_skip (w' := wd.setCell ⟨D, 0, none⟩ (.slice P5 (bs.length + 1) c5)) _ rfl rfl rfl (by simp [go_sem, zc, zf]) (fun e => by cases e) ?_ True.intro
    refine plan_put ?_ (by simp only [Act.put]; rfl)
    refine plan_done ?_
    go_wp2
    go_roundw
    case measure => simp [intOf]; omega
    case rel =>
     have hch : Chg (fun q => q = p ∨ q = D) wr wb := ⟨HGB.out.os, HGB.out.tape, HGB.out.output, HGB.out.size, fun k hk hn => HGB.out.block k hk (by intro e; injection e with e; exact hn (.inl e))⟩
     have hbf : Below w.heap.size wb (wd.setCell ⟨D, 0, none⟩ (.slice P5 (bs.length + 1) c5)) := (HBcd.out.mono (by omega)).setCell (p := ⟨D, 0, none⟩) (by show w.heap.size ≤ D; omega) _
     have hfs := HFS.out.chgS ((Chg.refl (fun q => q = D) wd).setCell (p := ⟨D, 0, none⟩) rfl (.slice P5 (bs.length + 1) c5)) (fun q hq e => by have := (HFS.out.foot q hq).1; omega)
     refine ⟨m - 1, bs ++ [⟨(j : Int), vs⟩], _, _, stb, by go_num, by simp; omega, by simp; omega, Lib.hid (HBXd.out.set0 _), Lib.hid (hfs.mono (Nat.le_refl _) (by simp only [World.size_setCell]; exact Nat.le_refl _)), Lib.hid ?_, Cur.below hC HCb.out hbf, Lib.hid (((HC.out.trans hch).then_below (by rw [← HB0.out]; exact HBcd.out)).setCell (p := ⟨D, 0, none⟩) (.inr rfl) _)⟩
     intro a ha
     rcases List.mem_append.1 ha with h | h
     ·
      exact HSM.out a h
     ·
      rw [List.mem_singleton.1 h]; exact HVS.out
   ·
    obtain rfl : m = 0 := by omega
    have hsz := AtmSmall.sz HSM.out
    have hvr := specVariables_any (.slice P4 bs.length c4) bs wr (HO.out.at_ (Nat.le_refl _)) (by omega)
    have x0 := HBX.out.c0
    go_wp2_with fail
    refine hvr.mono ?_
    rintro e w3 ⟨u, rfl, hu, hb3⟩
    obtain ⟨Pu, cu, rfl, -⟩ := id hu.at_
    have hz3 := hb3.size
    have hB3 := HBX.out.below hb3 hDr
    have HGr := Lib.hid (chg_grown HG2.out HC.out (by omega))
    have HG3 := Lib.hid (grown_of_below HGr.out (hb3.mono HGr.out.size))
    have hRr : BoxD w.heap.size (.slice none 0 0) (.slice none 0 0) wr := HR2.out.same (fun o => HC.out.cell (b := w.heap.size) (o := o) (by rw [← HB0.out]; omega) (by omega)) (fun o => HC.out.frozen (b := w.heap.size) (o := o) (by rw [← HB0.out]; omega) (by omega))
    have HR3 := Lib.hid (hRr.below hb3 (by omega))
    have HO3 := Lib.hid ((HO.out.below hb3 (Nat.le_refl _)).mono (Nat.le_refl _) hz3)
    have hC3 : CurS w3 p cv code st' := Cur.below hC hCr (hb3.mono HGr.out.size)
    have hDR : ¬ D = w.heap.size := by omega
    have hRD : ¬ w.heap.size = D := by omega
    have hbl : 1 ≤ bs.length ∧ bs.length ≤ 2 := by omega
    clear hvr x0 hRr HBX HO HC hm1 hm2 hsz
    by_cases hv1 : 1 < (varsOf bs).length
    ·
     have e1 : decide ((1 : Int) < ((varsOf bs).length : Int)) = true := decide_eq_true (by omega)
     have e2 : decide (1 < (varsOf bs).length) = true := decide_eq_true hv1
     go_wp2_with fail
     refine (l1Once_r p cv code st' 3 _ hC3).mono ?_
     rintro e w4 ⟨rfl, hC4, hg4⟩
     generalize onceR code st' 3 = b at *
     obtain ⟨bq, st4⟩ := b
     dsimp only at *
     have hz4 := hg4.size
     have hB4 := hB3.grown hg4 (by omega) (by omega)
     have HG4 := Lib.hid (HG3.out.trans hg4)
     have HR4 := Lib.hid (HR3.out.grown hg4 (by omega) (by omega))
     have HO4 := Lib.hid ((HO3.out.grown hg4 (by omega)).mono (Nat.le_refl _) hz4)
     have hu4 := hu.grown hg4 (by omega)
     clear hB3 hg4 hC3
     cases bq with
     | true =>
      obtain ⟨b0, off0, rfl, hb0, d0⟩ := IntsAt.elem hu4.at_ 0 (by omega)
      obtain ⟨b1, off1, hP1, hb1, d1⟩ := IntsAt.elem hu4.at_ 1 hv1
      cases hP1
      have hm0 : -11 ≤ (varsOf bs)[0] ∧ (varsOf bs)[0] ≤ 5 := vars_bd HSM.out _ (List.getElem_mem _)
      have hm1 : -11 ≤ (varsOf bs)[1] ∧ (varsOf bs)[1] ≤ 5 := vars_bd HSM.out _ (List.getElem_mem _)
      have hbD : ¬ b0 = D := by have := (hu4.lt b0 rfl).1; omega
      have hDb : ¬ D = b0 := fun e => hbD e.symm
      generalize (varsOf bs)[0] = v0 at *
      generalize (varsOf bs)[1] = v1 at *
      rw [Nat.add_zero] at d0
      obtain ⟨q0, q1, q2, q3, q4, qz⟩ := hB4
      obtain ⟨z0, z1, z2, z3, z4, zz⟩ := HR4.out
      have hch : Chg (fun g => g = D) w4 (((w4.setCell ⟨D, 2, none⟩ (.bool true)).setCell ⟨D, 3, none⟩ (.int .i64 v0)).setCell ⟨D, 4, none⟩ (.int .i64 v1)) := ((((Chg.refl (fun g => g = D) w4).setCell (p := ⟨D, 2, none⟩) rfl (.bool true)).setCell (p := ⟨D, 3, none⟩) rfl (.int .i64 v0)).setCell (p := ⟨D, 4, none⟩) rfl (.int .i64 v1))
      have hbl5 : Below w.heap.size w4 (((w4.setCell ⟨D, 2, none⟩ (.bool true)).setCell ⟨D, 3, none⟩ (.int .i64 v0)).setCell ⟨D, 4, none⟩ (.int .i64 v1)) := ((((Below.refl w.heap.size w4).setCell (p := ⟨D, 2, none⟩) (by show w.heap.size ≤ D; omega) _).setCell (p := ⟨D, 3, none⟩) (by show w.heap.size ≤ D; omega) _).setCell (p := ⟨D, 4, none⟩) (by show w.heap.size ≤ D; omega) _)
      have hX : DepOwn (w.heap.size + 1) (((w4.setCell ⟨D, 2, none⟩ (.bool true)).setCell ⟨D, 3, none⟩ (.int .i64 v0)).setCell ⟨D, 4, none⟩ (.int .i64 v1)).heap.size ((.slice P4 bs.length c4, Vs), (.slice none 0 0, [])) ⟨bs, [], true, v0, v1⟩ (((w4.setCell ⟨D, 2, none⟩ (.bool true)).setCell ⟨D, 3, none⟩ (.int .i64 v0)).setCell ⟨D, 4, none⟩ (.int .i64 v1)) := ⟨(HO4.out.chgS hch (fun g hg e => by have := (HO4.out.foot g hg).1; omega)).mono (by omega) (by simp only [World.size_setCell]; exact Nat.le_refl _), AtomSO.nil0 _ _ _ _, fun g h1 h2 => no_foot g h2⟩
      have HF := Lib.hid (rule_fin hC (Cur.below hC hC4 hbl5) (grown_of_below HG4.out hbl5) hX ⟨⟨hbl.1, hbl.2, HSM.out⟩, ⟨by show 0 ≤ 2; decide, fun a ha => absurd ha (by simp)⟩, hm0, hm1⟩ rfl rfl)
      clear hch hbl5 hX hm0 hm1
      go_wp2
      refine bodyPost_ret (v := .agg #[.slice P4 bs.length c4, .slice none 0 0, .bool true, .int .i64 v0, .int .i64 v1]) (by simp [results, Tryd.results51, go_sem, z0, z1, z2, z3, z4]) rfl HF.out
     | false =>
      have hcon := l1Below_r p cv code _ 2 w4 hC4
      go_wp2_with fail
      refine hcon.mono ?_
      rintro e w5q ⟨rfl, hCq, hgq⟩
      clear hcon
      generalize hbb : belowR code _ 2 = b at *
      have hbn : 0 ≤ b.1 ∧ b.1 < 2 := by rw [← hbb]; exact ⟨(belowR_bd code _ 2).1, (belowR_bd code _ 2).2 (by omega)⟩
      clear hbb
      obtain ⟨nq, stq⟩ := b
      dsimp only at *
      obtain ⟨n1, hn1⟩ : ∃ n1 : Nat, 1 + nq = (n1 : Int) := ⟨(1 + nq).toNat, by omega⟩
      have hnn1 := hbn.1
      have hnn2 := hbn.2
      have hn2 : n1 ≤ 2 := by omega
      have hzq := hgq.size
      obtain ⟨C0, hC0⟩ : ∃ C0, C0 = w5q.heap.size := ⟨_, rfl⟩
      have HC0 := Lib.hid hC0
      have hBq := hB4.grown hgq (by omega) (by omega)
      have HGq := Lib.hid (HG4.out.trans hgq)
      have HRq := Lib.hid (HR4.out.grown hgq (by omega) (by omega))
      have HOq := Lib.hid ((HO4.out.grown hgq (by omega)).mono (Nat.le_refl _) hzq)
      have hCD : D + 1 ≤ C0 ∧ p < C0 := by omega
      clear hB4 hgq hbn hC4 hu hC0 hzq
      go_wp2_with fail
      clear hn1 hnn1 hnn2
      go_loopw [6] (fun i wr => ∃ (m : Nat) (hs : List Atm) (Us : List Value) (V : Value) (st' : DrawSt), i = .int .i64 (m : Int) ∧ hs.length + m ≤ 2 ∧ 0 ≤ hs.length + m ∧ Hid (BoxD D (.slice P4 bs.length c4) V wr) ∧ Hid (AtomSO 86 C0 wr.heap.size V Us hs wr) ∧ Hid (∀ a ∈ hs, AtmSmall a) ∧ CurS wr p cv code st' ∧ Hid (Chg (fun q => q = p ∨ q = D) w5q wr)) (fun i _ => (intOf i).toNat)
      case atStart => exact ⟨n1, [], [], _, _, rfl, by simp; omega, by omega, Lib.hid hBq, Lib.hid (AtomSO.nil0 _ _ _ _), Lib.hid (fun a ha => absurd ha (by simp)), hCq, Lib.hid (Chg.refl _ _)⟩
      case round =>
       clear hBq hCq
       obtain ⟨m, hs, Us, V, st', rfl, hm2, hm1, HBY, HQ, HSN, hCr, HC⟩ := hrel
       obtain ⟨P6, c6, rfl, -, -⟩ := (HQ.out.at_ (Nat.le_refl _)).form
       have hzr : C0 ≤ wr.heap.size := by rw [HC0.out]; exact HC.out.size
       have hDr : D < wr.heap.size := by omega
       by_cases hlt : 0 < m
       ·
        have e1 : decide ((0 : Int) < (m : Int)) = true := decide_eq_true (by omega)
        have e2 : decide (0 < m) = true := decide_eq_true hlt
        have hS : Holds [(⟨D, 1, none⟩, .slice P6 hs.length c6)] wr := by
         intro q hq
         simp only [List.mem_cons, List.not_mem_nil, or_false] at hq
         subst hq
         exact HBY.out.c1
        have HSb := Lib.hid (show ∀ q ∈ [((⟨D, 1, none⟩ : Addr), Value.slice P6 hs.length c6)], q.1.block = D by
         intro q hq
         simp only [List.mem_cons, List.not_mem_nil, or_false] at hq
         subst hq
         rfl)
        have g0 := Keep.cell (h0 := hS) (a := ⟨D, 1, none⟩) (v := .slice P6 hs.length c6) (by simp)
        have hbd := belowR_bd code st' 3
        go_wp2_with fail
        refine wp_region_planL (C := fun w' => ∃ u : Keep _ wr hS, w' = u.now) (.still 0 (.still 1 (.still 2 (.still 3 (.move true 4 (.still 5 (.move true 6 (.move true 7 (.move true 8 (.still 9 (.move false 10 .done .none)) .none) .none) .none)) .none))))) (by kernel_rfl) (by kernel_rfl) (by kernel_rfl) (fun _ => ⟨⟨wr.drew, hS⟩, rfl⟩) ?_
        iterate 4
         refine plan_look _ rfl rfl ?_
         go_big_quiet_step (fail)
         refine wpQuiet_nil ?_
        refine plan_call _ 22 _ _ _ _ _ rfl _ Tryd.func22 (by kernel_rfl) (by kernel_rfl) ?_ True.intro
        refine (l1Below_r p cv code st' 3 _ (Cur.drewN hCr 1)).mono ?_
        rintro _ wa ⟨rfl, hCa, hga⟩
        generalize belowR code st' 3 = b at *
        obtain ⟨jj, sta⟩ := b
        dsimp only at *
        have hga' : wr.grownBy wa (some p) := ⟨hga.os, hga.tape, hga.output, hga.size, hga.block⟩
        have hza := hga'.size
        have hKa := hS.grown hga' (fun q hq => ⟨by rw [HSb.out q hq]; exact hDr, by rw [HSb.out q hq]; intro e; injection e; omega⟩)
        refine ⟨_, rfl, fun _ => ⟨⟨_, hKa⟩, rfl⟩, ?_⟩
        refine plan_put ?_ (by simp only [Act.put, List.setIfInBounds_toArray, List.set_cons_succ, List.set_cons_zero]; rfl)
        iterate 1
         refine plan_look _ rfl rfl ?_
         go_big_quiet_step (fail)
         refine wpQuiet_nil ?_
        obtain ⟨j, hj⟩ : ∃ j : Nat, 2 + jj = (j : Int) := ⟨(2 + jj).toNat, by have := hbd.1; omega⟩
        have hj5 : j < 5 := by have := hbd.2 (by omega); have := hbd.1; omega
        rw [hj]
        clear hj hbd hga
        refine plan_call _ 52 _ _ _ _ _ rfl _ Tryd.func52 (by kernel_rfl) (by kernel_rfl) ?_ True.intro
        refine (l9Atom_c p cv code sta j hj5 4 (by omega) (by omega) _ hCa).mono ?_
        rintro _ wb ⟨U, vs, rfl, hU, hv1, hv2, hvs, ⟨stb, hCb⟩, hgb⟩
        obtain ⟨PU, cU, rfl, -⟩ := id hU.at_
        have hgb' := hga'.trans hgb
        have hzb := hgb.size
        have hKb := hKa.grown hgb (fun q hq => ⟨by rw [HSb.out q hq]; omega, by rw [HSb.out q hq]; intro e; injection e; omega⟩)
        refine ⟨_, rfl, fun _ => ⟨⟨_, hKb⟩, rfl⟩, ?_⟩
        refine plan_put ?_ (by simp only [Act.put, List.setIfInBounds_toArray, List.set_cons_succ, List.set_cons_zero]; rfl)
        have hAl := (Below.refl wb.heap.size wb).alloc (Nat.le_refl _) (.cells #[.int .i64 (j : Int), .slice PU vs.length cU] 86)
        have hUo : IntS_own wa.heap.size wb.heap.size (.slice PU vs.length cU) vs wb := IntsO.of hU
        have hOb := (HQ.out.grown hgb' (by omega)).mono (Nat.le_refl _) (Nat.le_trans hza hzb)
        obtain ⟨wc, hwc⟩ : ∃ wc, wc = wb.alloc (.cells #[.int .i64 (j : Int), .slice PU vs.length cU] 86) := ⟨_, rfl⟩
        have hwcz : wc.heap.size = wb.heap.size + 1 := by rw [hwc]; simp
        have hAl' : Below wb.heap.size wb wc := by rw [hwc]; exact hAl
        refine plan_value (u := .slice (some ⟨wb.heap.size, 0, none⟩) 1 1) (w' := wc) _ rfl rfl rfl (by rw [hwc]; simp [go_sem]) (fun _ => ⟨⟨_, hKb.below hAl' (fun q hq => by rw [HSb.out q hq]; omega)⟩, rfl⟩) ?_ True.intro
        refine plan_put ?_ (by simp only [Act.put, List.setIfInBounds_toArray, List.set_cons_succ, List.set_cons_zero]; rfl)
        have hOc := hOb.below hAl' (Nat.le_refl _)
        have hUc := (IntS_own.below hUo hAl' (Nat.le_refl _))
        have hr : SliceAt apairCells wc (wb.heap.size + 1) (.slice (some ⟨wb.heap.size, 0, none⟩) [((j : Int), Value.slice PU vs.length cU)].length 1) [((j : Int), Value.slice PU vs.length cU)] := by
         refine ⟨_, _, rfl, Nat.le_refl _, by simp [maxLen], fun _ => ⟨_, _, rfl, by omega, ?_⟩, fun h => by cases h⟩
         intro i u hu
         rw [hwc, Nat.zero_add, box_cell]
         simpa [apairCells] using hu
        have hapl : (apairs hs Us).length = hs.length := apairs_len hOc.len
        have hbs2 : hs.length ≤ 2 := by omega
        refine plan_app apairCells 2 32 (r := [((j : Int), Value.slice PU vs.length cU)]) (fun x hx u hu => by rw [List.mem_singleton.1 hx] at hu; simp [apairCells] at hu; rcases hu with rfl | rfl <;> rfl) apairCells_len _ rfl rfl Tryd.underlying73 infoAtm rfl (by decide) hOc.row _ _ rfl rfl ⟨wb.heap.size, 0, none⟩ 1 1 rfl rfl hr (by rw [hapl]; simp; omega) (by rw [hapl]; simp; omega) (by rw [hwcz]; omega) ?_ True.intro
        intro v4 wd hO4 hB4 hg4 _
        have hzd := hg4.size
        have hFS := AtomSO.snoc (e := 86) (by decide) (x := ⟨(j : Int), vs⟩) (C' := wd.heap.size) hOc (by omega) hO4 hg4 (row_inside hO4 (Nat.le_refl _)) (hUc.mono (by omega) (by omega)) (fun i hi q h1 h2 => by
         have h3 := (hU.lt q h2).1
         have h4 := (HQ.out.el i (by have := HQ.out.len; omega) hi).2 q h1
         omega)
        obtain ⟨P5, c5, rfl, -, -⟩ := (hFS.at_ (Nat.le_refl _)).form
        have hl5 : (hs ++ [(⟨(j : Int), vs⟩ : Atm)]).length = hs.length + 1 := by simp
        rw [hl5] at hFS
        clear hl5
        have hBcd : Below C0 wb wd := (hAl'.mono (by omega)).trans hB4
        have hBXd := ((HBY.out.grown hgb' hDr (by omega)).below hBcd (by omega))
        have HBYd := Lib.hid hBXd
        have zc := hBXd.c1
        have zf := hBXd.fz
        have HFT := Lib.hid hFS
        have HCb := Lib.hid hCb
        have HBcd := Lib.hid hBcd
        have HGB := Lib.hid hgb'
        have HVT := Lib.hid (show AtmSmall ⟨(j : Int), vs⟩ from ⟨⟨by show -1 ≤ (j : Int); omega, by show (j : Int) ≤ 6; omega⟩, ⟨hv1, hv2⟩, fun z hz => by have := hvs z hz; omega⟩)
        refine ⟨fun _ => ⟨⟨_, (hKb.below hAl' (fun q hq => by rw [HSb.out q hq]; omega)).below (hB4.mono (Nat.le_refl _)) (fun q hq => by rw [HSb.out q hq]; omega)⟩, rfl⟩, ?_⟩
        clear hFS hBXd hBcd hO4 hB4 hg4 hr hUc hOc hOb hUo hU hAl hAl' hwc hKb hKa hgb hCb hvs hga' hCa
        refine plan_put ?_ (by simp only [Act.put, List.setIfInBounds_toArray, List.set_cons_succ, List.set_cons_zero]; rfl)
        iterate 1
         refine plan_look _ rfl rfl ?_
         go_big_quiet_step (fail)
         refine wpQuiet_nil ?_
        refine plan_skip (w' := wd.setCell ⟨D, 1, none⟩ (.slice P5 (hs.length + 1) c5)) _ rfl rfl rfl (by simp [go_sem, zc, zf]) (fun e => by cases e) ?_ True.intro
        refine plan_put ?_ (by simp only [Act.put]; rfl)
        refine plan_done ?_
        go_wp2
        go_roundw
        case measure => simp [intOf]; omega
        case rel =>
         have hch : Chg (fun q => q = p ∨ q = D) wr wb := ⟨HGB.out.os, HGB.out.tape, HGB.out.output, HGB.out.size, fun k hk hn => HGB.out.block k hk (by intro e; injection e with e; exact hn (.inl e))⟩
         have hbf : Below w.heap.size wb (wd.setCell ⟨D, 1, none⟩ (.slice P5 (hs.length + 1) c5)) := (HBcd.out.mono (by omega)).setCell (p := ⟨D, 1, none⟩) (by show w.heap.size ≤ D; omega) _
         have hfs := HFT.out.chgS ((Chg.refl (fun q => q = D) wd).setCell (p := ⟨D, 1, none⟩) rfl (.slice P5 (hs.length + 1) c5)) (fun q hq e => by have := (HFT.out.foot q hq).1; omega)
         refine ⟨m - 1, hs ++ [⟨(j : Int), vs⟩], _, _, stb, by go_num, by simp; omega, Nat.zero_le _, Lib.hid (HBYd.out.set1 _), Lib.hid (hfs.mono (Nat.le_refl _) (by simp only [World.size_setCell]; exact Nat.le_refl _)), Lib.hid ?_, Cur.below hC HCb.out hbf, Lib.hid (((HC.out.trans hch).then_below (by rw [← HC0.out]; exact HBcd.out)).setCell (p := ⟨D, 1, none⟩) (.inr rfl) _)⟩
         intro a ha
         rcases List.mem_append.1 ha with h | h
         ·
          exact HSN.out a h
         ·
          rw [List.mem_singleton.1 h]; exact HVT.out
       ·
        obtain rfl : m = 0 := by omega
        have HGe := chg_grown HGq.out HC.out (by omega)
        have hRe : BoxD w.heap.size (.slice none 0 0) (.slice none 0 0) wr := HRq.out.same (fun o => HC.out.cell (b := w.heap.size) (o := o) (by rw [← HC0.out]; omega) (by omega)) (fun o => HC.out.frozen (b := w.heap.size) (o := o) (by rw [← HC0.out]; omega) (by omega))
        have hOe := HOq.out.chgS HC.out (fun g hg e => by have := (HOq.out.foot g hg).1; omega)
        have hX : DepOwn (w.heap.size + 1) wr.heap.size ((.slice P4 bs.length c4, Vs), (.slice P6 hs.length c6, Us)) ⟨bs, hs, false, 0, 0⟩ wr := ⟨hOe.mono (by omega) HC.out.size, HQ.out.mono (by omega) (Nat.le_refl _), fun g h1 h2 => by have := (HOq.out.foot g h1).2; have := (HQ.out.foot g h2).1; have := HC0.out; omega⟩
        have HF := Lib.hid (rule_fin hC hCr HGe hX ⟨⟨hbl.1, hbl.2, HSM.out⟩, ⟨by show hs.length ≤ 2; omega, HSN.out⟩, ⟨by show (-11 : Int) ≤ 0; decide, by show (0 : Int) ≤ 5; decide⟩, by show (-11 : Int) ≤ 0; decide, by show (0 : Int) ≤ 5; decide⟩ rfl rfl)
        obtain ⟨q0, q1, q2, q3, q4, qz⟩ := HBY.out
        obtain ⟨z0, z1, z2, z3, z4, zz⟩ := hRe
        clear hX hOe
        go_wp2
        refine bodyPost_ret (v := .agg #[.slice P4 bs.length c4, .slice P6 hs.length c6, .bool false, .int .i64 0, .int .i64 0]) (by simp [results, Tryd.results51, go_sem, z0, z1, z2, z3, z4]) rfl HF.out
    ·
     have e1 : decide ((1 : Int) < ((varsOf bs).length : Int)) = false := decide_eq_false (by omega)
     have e2 : decide (1 < (varsOf bs).length) = false := decide_eq_false hv1
     have hcon := l1Below_r p cv code _ 2 w3 hC3
     go_wp2_with fail
     refine hcon.mono ?_
     rintro e w4q ⟨rfl, hCq, hgq⟩
     clear hcon
     generalize hbb : belowR code _ 2 = b at *
     have hbn : 0 ≤ b.1 ∧ b.1 < 2 := by rw [← hbb]; exact ⟨(belowR_bd code _ 2).1, (belowR_bd code _ 2).2 (by omega)⟩
     clear hbb
     obtain ⟨nq, stq⟩ := b
     dsimp only at *
     obtain ⟨n1, hn1⟩ : ∃ n1 : Nat, 1 + nq = (n1 : Int) := ⟨(1 + nq).toNat, by omega⟩
     have hnn1 := hbn.1
     have hnn2 := hbn.2
     have hn2 : n1 ≤ 2 := by omega
     have hzq := hgq.size
     obtain ⟨C0, hC0⟩ : ∃ C0, C0 = w4q.heap.size := ⟨_, rfl⟩
     have HC0 := Lib.hid hC0
     have hBq := hB3.grown hgq (by omega) (by omega)
     have HGq := Lib.hid (HG3.out.trans hgq)
     have HRq := Lib.hid (HR3.out.grown hgq (by omega) (by omega))
     have HOq := Lib.hid ((HO3.out.grown hgq (by omega)).mono (Nat.le_refl _) hzq)
     have hCD : D + 1 ≤ C0 ∧ p < C0 := by omega
     clear hB3 hgq hbn hC3 hu hC0 hzq
     go_wp2_with fail
     clear hn1 hnn1 hnn2
     go_loopw [6] (fun i wr => ∃ (m : Nat) (hs : List Atm) (Us : List Value) (V : Value) (st' : DrawSt), i = .int .i64 (m : Int) ∧ hs.length + m ≤ 2 ∧ 0 ≤ hs.length + m ∧ Hid (BoxD D (.slice P4 bs.length c4) V wr) ∧ Hid (AtomSO 86 C0 wr.heap.size V Us hs wr) ∧ Hid (∀ a ∈ hs, AtmSmall a) ∧ CurS wr p cv code st' ∧ Hid (Chg (fun q => q = p ∨ q = D) w4q wr)) (fun i _ => (intOf i).toNat)
     case atStart => exact ⟨n1, [], [], _, _, rfl, by simp; omega, by omega, Lib.hid hBq, Lib.hid (AtomSO.nil0 _ _ _ _), Lib.hid (fun a ha => absurd ha (by simp)), hCq, Lib.hid (Chg.refl _ _)⟩
     case round =>
      clear hBq hCq
      obtain ⟨m, hs, Us, V, st', rfl, hm2, hm1, HBY, HQ, HSN, hCr, HC⟩ := hrel
      obtain ⟨P6, c6, rfl, -, -⟩ := (HQ.out.at_ (Nat.le_refl _)).form
      have hzr : C0 ≤ wr.heap.size := by rw [HC0.out]; exact HC.out.size
      have hDr : D < wr.heap.size := by omega
      by_cases hlt : 0 < m
      ·
       have e1 : decide ((0 : Int) < (m : Int)) = true := decide_eq_true (by omega)
       have e2 : decide (0 < m) = true := decide_eq_true hlt
       have hS : Holds [(⟨D, 1, none⟩, .slice P6 hs.length c6)] wr := by
        intro q hq
        simp only [List.mem_cons, List.not_mem_nil, or_false] at hq
        subst hq
        exact HBY.out.c1
       have HSb := Lib.hid (show ∀ q ∈ [((⟨D, 1, none⟩ : Addr), Value.slice P6 hs.length c6)], q.1.block = D by
        intro q hq
        simp only [List.mem_cons, List.not_mem_nil, or_false] at hq
        subst hq
        rfl)
       have g0 := Keep.cell (h0 := hS) (a := ⟨D, 1, none⟩) (v := .slice P6 hs.length c6) (by simp)
       have hbd := belowR_bd code st' 3
       go_wp2_with fail
       refine wp_region_planL (C := fun w' => ∃ u : Keep _ wr hS, w' = u.now) (.still 0 (.still 1 (.still 2 (.still 3 (.move true 4 (.still 5 (.move true 6 (.move true 7 (.move true 8 (.still 9 (.move false 10 .done .none)) .none) .none) .none)) .none))))) (by kernel_rfl) (by kernel_rfl) (by kernel_rfl) (fun _ => ⟨⟨wr.drew, hS⟩, rfl⟩) ?_
       iterate 4
        refine plan_look _ rfl rfl ?_
        go_big_quiet_step (fail)
        refine wpQuiet_nil ?_
       refine plan_call _ 22 _ _ _ _ _ rfl _ Tryd.func22 (by kernel_rfl) (by kernel_rfl) ?_ True.intro
       refine (l1Below_r p cv code st' 3 _ (Cur.drewN hCr 1)).mono ?_
       rintro _ wa ⟨rfl, hCa, hga⟩
       generalize belowR code st' 3 = b at *
       obtain ⟨jj, sta⟩ := b
       dsimp only at *
       have hga' : wr.grownBy wa (some p) := ⟨hga.os, hga.tape, hga.output, hga.size, hga.block⟩
       have hza := hga'.size
       have hKa := hS.grown hga' (fun q hq => ⟨by rw [HSb.out q hq]; exact hDr, by rw [HSb.out q hq]; intro e; injection e; omega⟩)
       refine ⟨_, rfl, fun _ => ⟨⟨_, hKa⟩, rfl⟩, ?_⟩
       refine plan_put ?_ (by simp only [Act.put, List.setIfInBounds_toArray, List.set_cons_succ, List.set_cons_zero]; rfl)
       iterate 1
        refine plan_look _ rfl rfl ?_
        go_big_quiet_step (fail)
        refine wpQuiet_nil ?_
       obtain ⟨j, hj⟩ : ∃ j : Nat, 2 + jj = (j : Int) := ⟨(2 + jj).toNat, by have := hbd.1; omega⟩
       have hj5 : j < 5 := by have := hbd.2 (by omega); have := hbd.1; omega
       rw [hj]
       clear hj hbd hga
       refine plan_call _ 52 _ _ _ _ _ rfl _ Tryd.func52 (by kernel_rfl) (by kernel_rfl) ?_ True.intro
       refine (l9Atom_c p cv code sta j hj5 4 (by omega) (by omega) _ hCa).mono ?_
       rintro _ wb ⟨U, vs, rfl, hU, hv1, hv2, hvs, ⟨stb, hCb⟩, hgb⟩
       obtain ⟨PU, cU, rfl, -⟩ := id hU.at_
       have hgb' := hga'.trans hgb
       have hzb := hgb.size
       have hKb := hKa.grown hgb (fun q hq => ⟨by rw [HSb.out q hq]; omega, by rw [HSb.out q hq]; intro e; injection e; omega⟩)
       refine ⟨_, rfl, fun _ => ⟨⟨_, hKb⟩, rfl⟩, ?_⟩
       refine plan_put ?_ (by simp only [Act.put, List.setIfInBounds_toArray, List.set_cons_succ, List.set_cons_zero]; rfl)
       have hAl := (Below.refl wb.heap.size wb).alloc (Nat.le_refl _) (.cells #[.int .i64 (j : Int), .slice PU vs.length cU] 86)
       have hUo : IntS_own wa.heap.size wb.heap.size (.slice PU vs.length cU) vs wb := IntsO.of hU
       have hOb := (HQ.out.grown hgb' (by omega)).mono (Nat.le_refl _) (Nat.le_trans hza hzb)
       obtain ⟨wc, hwc⟩ : ∃ wc, wc = wb.alloc (.cells #[.int .i64 (j : Int), .slice PU vs.length cU] 86) := ⟨_, rfl⟩
       have hwcz : wc.heap.size = wb.heap.size + 1 := by rw [hwc]; simp
       have hAl' : Below wb.heap.size wb wc := by rw [hwc]; exact hAl
       refine plan_value (u := .slice (some ⟨wb.heap.size, 0, none⟩) 1 1) (w' := wc) _ rfl rfl rfl (by rw [hwc]; simp [go_sem]) (fun _ => ⟨⟨_, hKb.below hAl' (fun q hq => by rw [HSb.out q hq]; omega)⟩, rfl⟩) ?_ True.intro
       refine plan_put ?_ (by simp only [Act.put, List.setIfInBounds_toArray, List.set_cons_succ, List.set_cons_zero]; rfl)
       have hOc := hOb.below hAl' (Nat.le_refl _)
       have hUc := (IntS_own.below hUo hAl' (Nat.le_refl _))
       have hr : SliceAt apairCells wc (wb.heap.size + 1) (.slice (some ⟨wb.heap.size, 0, none⟩) [((j : Int), Value.slice PU vs.length cU)].length 1) [((j : Int), Value.slice PU vs.length cU)] := by
        refine ⟨_, _, rfl, Nat.le_refl _, by simp [maxLen], fun _ => ⟨_, _, rfl, by omega, ?_⟩, fun h => by cases h⟩
        intro i u hu
        rw [hwc, Nat.zero_add, box_cell]
        simpa [apairCells] using hu
       have hapl : (apairs hs Us).length = hs.length := apairs_len hOc.len
       have hbs2 : hs.length ≤ 2 := by omega
       refine plan_app apairCells 2 32 (r := [((j : Int), Value.slice PU vs.length cU)]) (fun x hx u hu => by rw [List.mem_singleton.1 hx] at hu; simp [apairCells] at hu; rcases hu with rfl | rfl <;> rfl) apairCells_len _ rfl rfl Tryd.underlying73 infoAtm rfl (by decide) hOc.row _ _ rfl rfl ⟨wb.heap.size, 0, none⟩ 1 1 rfl rfl hr (by rw [hapl]; simp; omega) (by rw [hapl]; simp; omega) (by rw [hwcz]; omega) ?_ True.intro
       intro v4 wd hO4 hB4 hg4 _
       have hzd := hg4.size
       have hFS := AtomSO.snoc (e := 86) (by decide) (x := ⟨(j : Int), vs⟩) (C' := wd.heap.size) hOc (by omega) hO4 hg4 (row_inside hO4 (Nat.le_refl _)) (hUc.mono (by omega) (by omega)) (fun i hi q h1 h2 => by
        have h3 := (hU.lt q h2).1
        have h4 := (HQ.out.el i (by have := HQ.out.len; omega) hi).2 q h1
        omega)
       obtain ⟨P5, c5, rfl, -, -⟩ := (hFS.at_ (Nat.le_refl _)).form
       have hl5 : (hs ++ [(⟨(j : Int), vs⟩ : Atm)]).length = hs.length + 1 := by simp
       rw [hl5] at hFS
       clear hl5
       have hBcd : Below C0 wb wd := (hAl'.mono (by omega)).trans hB4
       have hBXd := ((HBY.out.grown hgb' hDr (by omega)).below hBcd (by omega))
       have HBYd := Lib.hid hBXd
       have zc := hBXd.c1
       have zf := hBXd.fz
       have HFT := Lib.hid hFS
       have HCb := Lib.hid hCb
       have HBcd := Lib.hid hBcd
       have HGB := Lib.hid hgb'
       have HVT := Lib.hid (show AtmSmall ⟨(j : Int), vs⟩ from ⟨⟨by show -1 ≤ (j : Int); omega, by show (j : Int) ≤ 6; omega⟩, ⟨hv1, hv2⟩, fun z hz => by have := hvs z hz; omega⟩)
       refine ⟨fun _ => ⟨⟨_, (hKb.below hAl' (fun q hq => by rw [HSb.out q hq]; omega)).below (hB4.mono (Nat.le_refl _)) (fun q hq => by rw [HSb.out q hq]; omega)⟩, rfl⟩, ?_⟩
       clear hFS hBXd hBcd hO4 hB4 hg4 hr hUc hOc hOb hUo hU hAl hAl' hwc hKb hKa hgb hCb hvs hga' hCa
       refine plan_put ?_ (by simp only [Act.put, List.setIfInBounds_toArray, List.set_cons_succ, List.set_cons_zero]; rfl)
       iterate 1
        refine plan_look _ rfl rfl ?_
        go_big_quiet_step (fail)
        refine wpQuiet_nil ?_
       refine plan_skip (w' := wd.setCell ⟨D, 1, none⟩ (.slice P5 (hs.length + 1) c5)) _ rfl rfl rfl (by simp [go_sem, zc, zf]) (fun e => by cases e) ?_ True.intro
       refine plan_put ?_ (by simp only [Act.put]; rfl)
       refine plan_done ?_
       go_wp2
       go_roundw
       case measure => simp [intOf]; omega
       case rel =>
        have hch : Chg (fun q => q = p ∨ q = D) wr wb := ⟨HGB.out.os, HGB.out.tape, HGB.out.output, HGB.out.size, fun k hk hn => HGB.out.block k hk (by intro e; injection e with e; exact hn (.inl e))⟩
        have hbf : Below w.heap.size wb (wd.setCell ⟨D, 1, none⟩ (.slice P5 (hs.length + 1) c5)) := (HBcd.out.mono (by omega)).setCell (p := ⟨D, 1, none⟩) (by show w.heap.size ≤ D; omega) _
        have hfs := HFT.out.chgS ((Chg.refl (fun q => q = D) wd).setCell (p := ⟨D, 1, none⟩) rfl (.slice P5 (hs.length + 1) c5)) (fun q hq e => by have := (HFT.out.foot q hq).1; omega)
        refine ⟨m - 1, hs ++ [⟨(j : Int), vs⟩], _, _, stb, by go_num, by simp; omega, Nat.zero_le _, Lib.hid (HBYd.out.set1 _), Lib.hid (hfs.mono (Nat.le_refl _) (by simp only [World.size_setCell]; exact Nat.le_refl _)), Lib.hid ?_, Cur.below hC HCb.out hbf, Lib.hid (((HC.out.trans hch).then_below (by rw [← HC0.out]; exact HBcd.out)).setCell (p := ⟨D, 1, none⟩) (.inr rfl) _)⟩
        intro a ha
        rcases List.mem_append.1 ha with h | h
        ·
         exact HSN.out a h
        ·
         rw [List.mem_singleton.1 h]; exact HVT.out
      ·
       obtain rfl : m = 0 := by omega
       have HGe := chg_grown HGq.out HC.out (by omega)
       have hRe : BoxD w.heap.size (.slice none 0 0) (.slice none 0 0) wr := HRq.out.same (fun o => HC.out.cell (b := w.heap.size) (o := o) (by rw [← HC0.out]; omega) (by omega)) (fun o => HC.out.frozen (b := w.heap.size) (o := o) (by rw [← HC0.out]; omega) (by omega))
       have hOe := HOq.out.chgS HC.out (fun g hg e => by have := (HOq.out.foot g hg).1; omega)
       have hX : DepOwn (w.heap.size + 1) wr.heap.size ((.slice P4 bs.length c4, Vs), (.slice P6 hs.length c6, Us)) ⟨bs, hs, false, 0, 0⟩ wr := ⟨hOe.mono (by omega) HC.out.size, HQ.out.mono (by omega) (Nat.le_refl _), fun g h1 h2 => by have := (HOq.out.foot g h1).2; have := (HQ.out.foot g h2).1; have := HC0.out; omega⟩
       have HF := Lib.hid (rule_fin hC hCr HGe hX ⟨⟨hbl.1, hbl.2, HSM.out⟩, ⟨by show hs.length ≤ 2; omega, HSN.out⟩, ⟨by show (-11 : Int) ≤ 0; decide, by show (0 : Int) ≤ 5; decide⟩, by show (-11 : Int) ≤ 0; decide, by show (0 : Int) ≤ 5; decide⟩ rfl rfl)
       obtain ⟨q0, q1, q2, q3, q4, qz⟩ := HBY.out
       obtain ⟨z0, z1, z2, z3, z4, zz⟩ := hRe
       clear hX hOe
       go_wp2
       refine bodyPost_ret (v := .agg #[.slice P4 bs.length c4, .slice P6 hs.length c6, .bool false, .int .i64 0, .int .i64 0]) (by simp [results, Tryd.results51, go_sem, z0, z1, z2, z3, z4]) rfl HF.out

end Go.Proofs.YtakflmaeclneiaaDoor
