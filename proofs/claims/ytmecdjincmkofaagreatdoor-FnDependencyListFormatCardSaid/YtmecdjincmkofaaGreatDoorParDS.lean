/-
  Walks and plain lemmas for the laws of this seat: what single Go functions return, for every argument.
-/
import Derived.Test.YtmecdjincmkofaaGreatDoorBase
import Derived.Test.YtmecdjincmkofaaGreatDoorPlan
import Derived.Test.YtmecdjincmkofaaGreatDoorVarsM
import Derived.Test.YtmecdjincmkofaaGreatDoorAft
import Derived.Test.YtmecdjincmkofaaGreatDoorFmtDS
import Derived.Test.YtmecdjincmkofaaGreatDoorFmtDI
import Derived.Test.YtmecdjincmkofaaGreatDoorReadS
namespace Go.Proofs.YtmecdjincmkofaaGreatDoor
open Go.RowKit

set_option maxHeartbeats 16000000 in
set_option maxRecDepth 100000 in
theorem specParseDep_any (v : Value) (l : List Rel) (s : ByteArray) (w : World) (hl : RelsAt w w.heap.size v l) (hn : l.length ≤ 1048576) (hs : s.size ≤ 1048576) :
    Calls Tryz.prog 45 #[v, .string s] w (GivesDep l s w) := by
  have HL := Lib.hid hl
  obtain ⟨A, a0, rfl, hlc, hcm, -⟩ := hl
  have hcutP := fun w => specCutAt_any 62 s w hs
  have hcutQ := fun w => specCutAt_any 61 s w hs
  have h62 : (((62 : UInt8).toNat : Nat) : Int) = 62 := rfl
  have h61 : (((61 : UInt8).toNat : Nat) : Int) = 61 := rfl
  rw [h62] at hcutP
  rw [h61] at hcutQ
  clear h62 h61
  obtain ⟨E, hEq⟩ : ∃ E, E = ((w.alloc (.cells #[.slice none 0 0, .slice none 0 0, .bool false, .int .i64 0, .int .i64 0] 37)).alloc (.cells #[.slice none 0 0, .slice none 0 0, .bool false, .int .i64 0, .int .i64 0] 37)) := ⟨_, rfl⟩
  have hE : Below w.heap.size w E := by rw [hEq]; exact below_more (below_more (Below.refl _ _) _) _
  have HEz := Lib.hid (show E.heap.size = w.heap.size + 2 by rw [hEq]; simp)
  have HA := fun o => Lib.hid (show E.cell? ⟨w.heap.size, o, none⟩ = (#[.slice none 0 0, .slice none 0 0, .bool false, .int .i64 0, .int .i64 0] : Array Value)[o]? by rw [hEq]; rcases (show o = 0 ∨ o = 1 ∨ o = 2 ∨ o = 3 ∨ o = 4 ∨ 5 ≤ o by omega) with rfl | rfl | rfl | rfl | rfl | h <;> simp [go_sem])
  have HR := fun o => Lib.hid (show E.cell? ⟨w.heap.size + 1, o, none⟩ = (#[.slice none 0 0, .slice none 0 0, .bool false, .int .i64 0, .int .i64 0] : Array Value)[o]? by rw [hEq]; rcases (show o = 0 ∨ o = 1 ∨ o = 2 ∨ o = 3 ∨ o = 4 ∨ 5 ≤ o by omega) with rfl | rfl | rfl | rfl | rfl | h <;> simp [go_sem])
  have HAz := Lib.hid (show ∀ o, E.frozen? ⟨w.heap.size, o, none⟩ = false by intro o; rw [hEq]; simp [go_sem])
  have HRz := Lib.hid (show ∀ o, E.frozen? ⟨w.heap.size + 1, o, none⟩ = false by intro o; rw [hEq]; simp [go_sem])
  have hcP := hcutP E
  rw [hEq] at hcP
  go_enter Tryz.func45, Tryz.ntmps45
  go_wp2_with fail
  refine hcP.mono ?_
  rw [← hEq]
  clear hEq hcP hcutP
  rintro e w1 ⟨vP, LP, rfl, hLP, hOP, hb1⟩
  have hz1 := hb1.size
  obtain ⟨AP, cP, rfl, hcP1, hcP2⟩ := hOP.form
  unfold maxLen at hcP2
  have HOP := Lib.hid hOP
  have HLP := Lib.hid hLP
  have HB1 := Lib.hid hb1
  clear hOP hLP hb1
  go_wp2_with fail
  refine (hcutQ w1).mono ?_
  rintro e w2 ⟨vQ, LQ, rfl, hLQ, hOQ, hb2⟩
  have hz2 := hb2.size
  obtain ⟨AQ, cQ, rfl, hcQ1, hcQ2⟩ := hOQ.form
  unfold maxLen at hcQ2
  have HBE := Lib.hid (show Below E.heap.size E w2 from HB1.out.trans (hb2.mono hz1))
  have hWw := hE.trans (HBE.out.mono hE.size)
  have HWw := Lib.hid hWw
  have HOPq := Lib.hid (HOP.out.below hb2 (Nat.le_refl _)).at_
  have HOQq := Lib.hid hOQ.at_
  have HLQ := Lib.hid hLQ
  have hg2 : w.heap.size + 1 < w2.heap.size := by have := HEz.out; have := HBE.out.size; omega
  have R := fun o => (HBE.out.cell (p := ⟨w.heap.size + 1, o, none⟩) (by show w.heap.size + 1 < _; rw [HEz.out]; omega)).trans (HR o).out
  have Z := fun o => (HBE.out.cell (p := ⟨w.heap.size, o, none⟩) (by show w.heap.size < _; rw [HEz.out]; omega)).trans (HA o).out
  have rz := fun o => (HBE.out.frozen (p := ⟨w.heap.size + 1, o, none⟩) (by show w.heap.size + 1 < _; rw [HEz.out]; omega)).trans (HRz.out o)
  have zz := fun o => (HBE.out.frozen (p := ⟨w.heap.size, o, none⟩) (by show w.heap.size < _; rw [HEz.out]; omega)).trans (HAz.out o)
  have r0 := R 0
  have r1 := R 1
  have r2 := R 2
  have r3 := R 3
  have r4 := R 4
  have z0 := Z 0
  have z1 := Z 1
  have z2 := Z 2
  have z3 := Z 3
  have z4 := Z 4
  simp at r0 r1 r2 r3 r4 z0 z1 z2 z3 z4
  have HZ := Lib.hid (And.intro z0 (And.intro z1 (And.intro z2 (And.intro z3 (And.intro z4 zz)))))
  have HRR := Lib.hid (And.intro r0 (And.intro r1 (And.intro r2 (And.intro r3 (And.intro r4 rz)))))
  clear R Z HA HR HAz HRz rz zz r0 r1 r2 r3 r4 z0 z1 z2 z3 z4 hcutQ hb2 hOQ hLQ HB1 HOP hz1 hz2
  by_cases h2 : LQ.length = 2
  · obtain ⟨qa, qb, rfl⟩ := list_two LQ h2
    obtain ⟨bQ, offQ, rfl, hbQ, hd0⟩ := StrsAt.elem HOQq.out 0 (by simp)
    obtain ⟨b', off', he', -, hd1⟩ := StrsAt.elem HOQq.out 1 (by simp)
    cases he'
    simp only [Nat.add_zero, List.getElem_cons_zero, List.getElem_cons_succ] at hd0 hd1
    have hb2 : (((2 : Nat) : Int) == 2) = true := rfl
    clear h2
    by_cases hq : qb.size = 2
    · obtain ⟨c, d, rfl⟩ := bytes_two qb hq
      have HRD := Lib.hid (show readDep l s.data.toList = ⟨readAtoms l qa.data.toList, [], true, termOf c, termOf d⟩ from readDep_egd HLQ.out.symm)
      have hsq : ByteArray.size ⟨#[c, d]⟩ = 2 := rfl
      have e1 : (⟨#[c, d]⟩ : ByteArray).extract 0 1 = ⟨#[c]⟩ := rfl
      have e2 : (⟨#[c, d]⟩ : ByteArray).extract 1 2 = ⟨#[d]⟩ := rfl
      have hc0 := hd0
      have hc1 := hd1
      have hb := hbQ
      clear hq hd0 hd1
      have hsz_qa : qa.size ≤ 1048576 := by
        have h1 := cutA_mem_len 61 s.data.toList qa.data.toList (by rw [← HLQ.out]; exact List.mem_map.2 ⟨qa, by simp, rfl⟩)
        have h2 : s.data.toList.length = s.size := by simp
        have h3 : qa.data.toList.length = qa.size := by simp
        omega
      have htc := specL10Term_any c
      have htd := specL10Term_any d
      have hS : Holds [(⟨bQ, offQ, none⟩, .string qa), (⟨bQ, offQ + 1, none⟩, .string ⟨#[c, d]⟩)] w2.drew := by
        intro q hq
        simp only [List.mem_cons, List.not_mem_nil, or_false] at hq
        rcases hq with rfl | rfl
        · exact hc0
        · exact hc1
      have HSb := Lib.hid (show ∀ q ∈ [((⟨bQ, offQ, none⟩ : Addr), Value.string qa), (⟨bQ, offQ + 1, none⟩, .string ⟨#[c, d]⟩)], q.1.block < w2.heap.size by
        intro q hq
        simp only [List.mem_cons, List.not_mem_nil, or_false] at hq
        rcases hq with rfl | rfl
        · exact hb
        · exact hb)
      have g0 := Keep.cell (h0 := hS) (a := ⟨bQ, offQ, none⟩) (v := .string qa) (by simp)
      have g1 := Keep.cell (h0 := hS) (a := ⟨bQ, offQ + 1, none⟩) (v := .string ⟨#[c, d]⟩) (by simp)
      go_wp2
      clear hc0 hc1
      refine wp_region_planL (C := fun w' => ∃ u : Keep _ w2.drew hS, w' = u.now) (.still 0 (.still 1 (.still 2 (.still 3 (.still 5 (.still 6 (.still 7 (.still 8 (.still 10 (.still 11 (.still 12 (.still 13 (.move true 4 (.move true 9 (.move true 14 (.still 15 (.move false 16 .done .none)) .none) .none) .none))))))))))))) (by kernel_rfl) (by kernel_rfl) (by kernel_rfl) (fun _ => ⟨⟨_, hS⟩, rfl⟩) ?_
      iterate 12
        refine plan_look _ rfl rfl ?_
        go_big_quiet_step (fail)
        refine wpQuiet_nil ?_
      refine plan_call _ 121 _ _ _ _ _ rfl _ Tryz.func121 (by kernel_rfl) (by kernel_rfl) ?_ True.intro
      have hWd : Below w.heap.size w w2.drew := HWw.out.drew
      refine (specRead_any (.slice A l.length a0) l qa _ ((HL.out.below hWd (Nat.le_refl _)).more hWd.size) hsz_qa).mono ?_
      rintro _ w3 ⟨U1, rfl, ho1, hb3⟩
      obtain ⟨Y1, y1, rfl, -, -⟩ := (ho1.at_ (Nat.le_refl _)).form
      have hb3' : Below w2.heap.size w2 w3 := (show Below w2.heap.size w2 w2.drew from (Below.refl _ _).drew).trans hb3
      have hz3 := hb3'.size
      have hK3 := hS.below hb3 HSb.out
      have hW3 := HWw.out.trans (hb3'.mono HWw.out.size)
      refine ⟨_, rfl, fun _ => ⟨⟨_, hK3⟩, rfl⟩, ?_⟩
      refine plan_put ?_ (by simp only [Act.put, List.setIfInBounds_toArray, List.set_cons_succ, List.set_cons_zero]; rfl)
      refine plan_call _ 122 _ _ _ _ _ rfl _ Tryz.func122 (by kernel_rfl) (by kernel_rfl) ?_ True.intro
      refine (htc w3).mono ?_
      rintro _ w5 ⟨rfl, hb5⟩
      have hz5 := hb5.size
      have hb5' := hb3'.trans (hb5.mono hz3)
      have hK5 := hK3.below hb5 (fun q hq => Nat.lt_of_lt_of_le (HSb.out q hq) hz3)
      refine ⟨_, rfl, fun _ => ⟨⟨_, hK5⟩, rfl⟩, ?_⟩
      refine plan_put ?_ (by simp only [Act.put, List.setIfInBounds_toArray, List.set_cons_succ, List.set_cons_zero]; rfl)
      refine plan_call _ 122 _ _ _ _ _ rfl _ Tryz.func122 (by kernel_rfl) (by kernel_rfl) ?_ True.intro
      refine (htd w5).mono ?_
      rintro _ w4 ⟨rfl, hb4⟩
      have hz4 := hb4.size
      have hb2l := hb5'.trans (hb4.mono hb5'.size)
      have hWl := HWw.out.trans (hb2l.mono HWw.out.size)
      refine ⟨_, rfl, fun _ => ⟨⟨_, hK5.below hb4 (fun q hq => Nat.lt_of_lt_of_le (HSb.out q hq) (Nat.le_trans hz3 hz5))⟩, rfl⟩, ?_⟩
      refine plan_put ?_ (by simp only [Act.put, List.setIfInBounds_toArray, List.set_cons_succ, List.set_cons_zero]; rfl)
      iterate 1
        refine plan_look _ rfl rfl ?_
        go_big_quiet_step (fail)
        refine wpQuiet_nil ?_
      obtain ⟨q0, q1, q2, q3, q4, qz⟩ := HRR.out
      replace q0 := (hb2l.cell (p := ⟨w.heap.size + 1, 0, none⟩) hg2).trans q0
      replace q1 := (hb2l.cell (p := ⟨w.heap.size + 1, 1, none⟩) hg2).trans q1
      replace q2 := (hb2l.cell (p := ⟨w.heap.size + 1, 2, none⟩) hg2).trans q2
      replace q3 := (hb2l.cell (p := ⟨w.heap.size + 1, 3, none⟩) hg2).trans q3
      replace q4 := (hb2l.cell (p := ⟨w.heap.size + 1, 4, none⟩) hg2).trans q4
      replace qz := fun o => (hb2l.frozen (p := ⟨w.heap.size + 1, o, none⟩) hg2).trans (qz o)
      obtain ⟨W, hWe⟩ : ∃ W, W = (((((w4.setCell ⟨w.heap.size + 1, 0, none⟩ (.slice Y1 (readAtoms l qa.data.toList).length y1)).setCell ⟨w.heap.size + 1, 1, none⟩ (.slice none 0 0)).setCell ⟨w.heap.size + 1, 2, none⟩ (.bool true)).setCell ⟨w.heap.size + 1, 3, none⟩ (.int .i64 (termOf c))).setCell ⟨w.heap.size + 1, 4, none⟩ (.int .i64 (termOf d))) := ⟨_, rfl⟩
      obtain ⟨Vs1, hS1⟩ := ho1
      obtain ⟨x, hx⟩ : ∃ x : Dep, x = ⟨readAtoms l qa.data.toList, [], true, termOf c, termOf d⟩ := ⟨_, rfl⟩
      obtain ⟨X, hX⟩ : ∃ X : DepX, X = ((.slice Y1 (readAtoms l qa.data.toList).length y1, Vs1), (.slice none 0 0, [])) := ⟨_, rfl⟩
      have hXl : DepOwn w2.heap.size w4.heap.size X x w4 := by
        rw [hx, hX]
        exact ⟨((hS1.below hb5 (Nat.le_refl _)).mono (Nat.le_refl _) hz5 |>.below hb4 (Nat.le_refl _)).mono (Nat.le_refl _) hz4, AtomSO.nil0 _ _ _ _, fun q h1 h2 => no_foot q h2⟩
      have hgl : w.heap.size + 2 ≤ w4.heap.size := by omega
      refine plan_skip (w' := W) _ rfl rfl rfl (by rw [hWe]; simp [go_sem, q0, q1, q2, q3, q4, qz]) (fun e => by cases e) ?_ True.intro
      refine plan_put ?_ (by simp only [Act.put]; rfl)
      refine plan_done ?_
      have hchW : Chg (Mid (w.heap.size + 1) (w.heap.size + 2)) w4 W := by rw [hWe]; exact ((((((Chg.refl (Mid (w.heap.size + 1) (w.heap.size + 2)) w4).setCell (p := ⟨w.heap.size + 1, 0, none⟩) ⟨Nat.le_refl _, Nat.lt_succ_self _⟩ (.slice Y1 (readAtoms l qa.data.toList).length y1)).setCell (p := ⟨w.heap.size + 1, 1, none⟩) ⟨Nat.le_refl _, Nat.lt_succ_self _⟩ (.slice none 0 0)).setCell (p := ⟨w.heap.size + 1, 2, none⟩) ⟨Nat.le_refl _, Nat.lt_succ_self _⟩ (.bool true)).setCell (p := ⟨w.heap.size + 1, 3, none⟩) ⟨Nat.le_refl _, Nat.lt_succ_self _⟩ (.int .i64 (termOf c))).setCell (p := ⟨w.heap.size + 1, 4, none⟩) ⟨Nat.le_refl _, Nat.lt_succ_self _⟩ (.int .i64 (termOf d)))
      have HBW := Lib.hid (show Below w.heap.size w W by rw [hWe]; exact (((((hWl.setCell (p := ⟨w.heap.size + 1, 0, none⟩) (Nat.le_succ _) (.slice Y1 (readAtoms l qa.data.toList).length y1)).setCell (p := ⟨w.heap.size + 1, 1, none⟩) (Nat.le_succ _) (.slice none 0 0)).setCell (p := ⟨w.heap.size + 1, 2, none⟩) (Nat.le_succ _) (.bool true)).setCell (p := ⟨w.heap.size + 1, 3, none⟩) (Nat.le_succ _) (.int .i64 (termOf c))).setCell (p := ⟨w.heap.size + 1, 4, none⟩) (Nat.le_succ _) (.int .i64 (termOf d))))
      have hszW : W.heap.size = w4.heap.size := by rw [hWe]; simp [World.setCell]
      have HGW := Lib.hid (show w.heap.size + 2 ≤ W.heap.size by rw [hszW]; exact hgl)
      have HC := Lib.hid (show W.cell? ⟨w.heap.size + 1, 0, none⟩ = some X.1.1 ∧ W.cell? ⟨w.heap.size + 1, 1, none⟩ = some X.2.1 ∧ W.cell? ⟨w.heap.size + 1, 2, none⟩ = some (.bool x.egd) ∧ W.cell? ⟨w.heap.size + 1, 3, none⟩ = some (.int .i64 x.left) ∧ W.cell? ⟨w.heap.size + 1, 4, none⟩ = some (.int .i64 x.right) by
        rw [hX, hx, hWe]
        exact ⟨by simp [go_sem, q0], by simp [go_sem, q1], by simp [go_sem, q2], by simp [go_sem, q3], by simp [go_sem, q4]⟩)
      obtain ⟨u0, u1, u2, u3, u4, uz⟩ := HZ.out
      have HZW := Lib.hid (show W.cell? ⟨w.heap.size, 0, none⟩ = some (.slice none 0 0) ∧ W.cell? ⟨w.heap.size, 1, none⟩ = some (.slice none 0 0) ∧ W.cell? ⟨w.heap.size, 2, none⟩ = some (.bool false) ∧ W.cell? ⟨w.heap.size, 3, none⟩ = some (.int .i64 0) ∧ W.cell? ⟨w.heap.size, 4, none⟩ = some (.int .i64 0) ∧ ∀ o, W.frozen? ⟨w.heap.size, o, none⟩ = false from
        ⟨(hchW.cell (by omega) (fun h => by have := h.1; omega)).trans ((hb2l.cell (p := ⟨w.heap.size, 0, none⟩) (by show w.heap.size < _; omega)).trans u0), (hchW.cell (by omega) (fun h => by have := h.1; omega)).trans ((hb2l.cell (p := ⟨w.heap.size, 1, none⟩) (by show w.heap.size < _; omega)).trans u1), (hchW.cell (by omega) (fun h => by have := h.1; omega)).trans ((hb2l.cell (p := ⟨w.heap.size, 2, none⟩) (by show w.heap.size < _; omega)).trans u2), (hchW.cell (by omega) (fun h => by have := h.1; omega)).trans ((hb2l.cell (p := ⟨w.heap.size, 3, none⟩) (by show w.heap.size < _; omega)).trans u3), (hchW.cell (by omega) (fun h => by have := h.1; omega)).trans ((hb2l.cell (p := ⟨w.heap.size, 4, none⟩) (by show w.heap.size < _; omega)).trans u4), fun o => (hchW.frozen (by omega) (fun h => by have := h.1; omega)).trans ((hb2l.frozen (p := ⟨w.heap.size, o, none⟩) (by show w.heap.size < _; omega)).trans (uz o))⟩)
      have HX := Lib.hid (show DepOwn (w.heap.size + 2) W.heap.size X x W from ((hXl.mono (by omega) (Nat.le_of_eq hszW.symm)).chg hchW (.inr (Nat.le_refl _))))
      have HXR := Lib.hid (show x = readDep l s.data.toList by rw [hx]; exact HRD.out.symm)
      have HWf := Lib.hid (show Dependency_wf x by rw [hx]; exact ⟨readAtoms_wf l hn _, fun i hi => absurd hi (by show ¬ i < 0; omega), by have := termOf_bd c; show _ ≤ termOf c ∧ termOf c ≤ _; omega, by have := termOf_bd d; show _ ≤ termOf d ∧ termOf d ≤ _; omega⟩)
      clear hx hX hWe hS1 hXl hchW hszW hgl hb2l hWl hW3 hb3 hb4 hb5 hb3' hb5' hK3 hK5 hS u0 u1 u2 u3 u4 uz q0 q1 q2 q3 q4 qz g0 g1 hWd htc htd
      obtain ⟨Y1, y1, hY1, -, -⟩ := (HX.out.1.at_ (Nat.le_refl _)).form
      obtain ⟨Y2, y2, hY2, -, -⟩ := (HX.out.2.1.at_ (Nat.le_refl _)).form
      obtain ⟨c0, c1, c2, c3, c4⟩ := HC.out
      rw [hY1] at c0
      rw [hY2] at c1
      have HY := Lib.hid (And.intro hY1 hY2)
      have hfd := specFormatDep_any (.slice A l.length a0) l (.agg #[.slice Y1 x.body.length y1, .slice Y2 x.head.length y2, .bool x.egd, .int .i64 x.left, .int .i64 x.right]) x W ((HL.out.below HBW.out (Nat.le_refl _)).more HBW.out.size) hn ⟨_, _, rfl, by rw [← HY.out.1]; exact HX.out.1.at_ (Nat.le_refl _), by rw [← HY.out.2]; exact HX.out.2.1.at_ (Nat.le_refl _)⟩ HWf.out
      obtain ⟨F, hF⟩ : ∃ F : ByteArray, F = ⟨(fmtDep l x).toArray⟩ := ⟨_, rfl⟩
      rw [← hF] at hfd
      have HF := Lib.hid hF
      clear hF hY1 hY2
      have HW2 := Lib.hid (show w.heap.size + 1 < W.heap.size by have := HGW.out; omega)
      by_cases hFs : F = s
      · by_cases h0 : s.data.toList = []
        · have HV := Lib.hid (parseDep_no HXR.out (fun h => h.2 h0))
          have he : (F.toList == s.toList) = true := by rw [hFs]; exact str_eq s
          have hse : (s.toList == []) = true := by rw [ByteArray.toList_eq, h0]; rfl
          have hne : (F.toList != s.toList) = false := by unfold bne; rw [he]; rfl
          clear h0 hFs
          go_wp2_with fail
          refine hfd.mono ?_
          rintro e w9 ⟨rfl, hb9⟩
          have hz9 := hb9.size
          have hW9 := HBW.out.trans (hb9.mono HBW.out.size)
          obtain ⟨z0, z1, z2, z3, z4, zz⟩ := HZW.out
          replace z0 := (hb9.cell (p := ⟨w.heap.size, 0, none⟩) (by have := HW2.out; show w.heap.size < _; omega)).trans z0
          replace z1 := (hb9.cell (p := ⟨w.heap.size, 1, none⟩) (by have := HW2.out; show w.heap.size < _; omega)).trans z1
          replace z2 := (hb9.cell (p := ⟨w.heap.size, 2, none⟩) (by have := HW2.out; show w.heap.size < _; omega)).trans z2
          replace z3 := (hb9.cell (p := ⟨w.heap.size, 3, none⟩) (by have := HW2.out; show w.heap.size < _; omega)).trans z3
          replace z4 := (hb9.cell (p := ⟨w.heap.size, 4, none⟩) (by have := HW2.out; show w.heap.size < _; omega)).trans z4
          replace zz := fun o => (hb9.frozen (p := ⟨w.heap.size, o, none⟩) (by have := HW2.out; show w.heap.size < _; omega)).trans (zz o)
          clear c0 c1 c2 c3 c4
          clear hfd
          go_wp2
          refine bodyPost_ret (v := .tuple #[.agg #[.slice none 0 0, .slice none 0 0, .bool false, .int .i64 0, .int .i64 0], .bool false]) (by simp [results, Tryz.results45, go_sem, z0, z1, z2, z3, z4]) rfl ⟨zeroDX, by rw [HV.out.1, HV.out.2]; rfl, by rw [HV.out.1]; exact DepOwn.none _ _ _, ?_⟩
          exact (((((hW9.setCell (p := ⟨w.heap.size, 0, none⟩) (Nat.le_refl _) _).setCell (p := ⟨w.heap.size, 1, none⟩) (Nat.le_refl _) _).setCell (p := ⟨w.heap.size, 2, none⟩) (Nat.le_refl _) _).setCell (p := ⟨w.heap.size, 3, none⟩) (Nat.le_refl _) _).setCell (p := ⟨w.heap.size, 4, none⟩) (Nat.le_refl _) _)
        · have HV := Lib.hid (parseDep_yes HXR.out (by rw [← hFs, HF.out]) h0)
          have he : (F.toList == s.toList) = true := by rw [hFs]; exact str_eq s
          have hse : (s.toList == []) = false := by rw [ByteArray.toList_eq, beq_eq_false_iff_ne]; exact h0
          have hne : (F.toList != s.toList) = false := by unfold bne; rw [he]; rfl
          clear h0 hFs
          go_wp2_with fail
          refine hfd.mono ?_
          rintro e w9 ⟨rfl, hb9⟩
          have hz9 := hb9.size
          have hW9 := HBW.out.trans (hb9.mono HBW.out.size)
          obtain ⟨z0, z1, z2, z3, z4, zz⟩ := HZW.out
          replace z0 := (hb9.cell (p := ⟨w.heap.size, 0, none⟩) (by have := HW2.out; show w.heap.size < _; omega)).trans z0
          replace z1 := (hb9.cell (p := ⟨w.heap.size, 1, none⟩) (by have := HW2.out; show w.heap.size < _; omega)).trans z1
          replace z2 := (hb9.cell (p := ⟨w.heap.size, 2, none⟩) (by have := HW2.out; show w.heap.size < _; omega)).trans z2
          replace z3 := (hb9.cell (p := ⟨w.heap.size, 3, none⟩) (by have := HW2.out; show w.heap.size < _; omega)).trans z3
          replace z4 := (hb9.cell (p := ⟨w.heap.size, 4, none⟩) (by have := HW2.out; show w.heap.size < _; omega)).trans z4
          replace zz := fun o => (hb9.frozen (p := ⟨w.heap.size, o, none⟩) (by have := HW2.out; show w.heap.size < _; omega)).trans (zz o)
          replace c0 := (hb9.cell (p := ⟨w.heap.size + 1, 0, none⟩) HW2.out).trans c0
          replace c1 := (hb9.cell (p := ⟨w.heap.size + 1, 1, none⟩) HW2.out).trans c1
          replace c2 := (hb9.cell (p := ⟨w.heap.size + 1, 2, none⟩) HW2.out).trans c2
          replace c3 := (hb9.cell (p := ⟨w.heap.size + 1, 3, none⟩) HW2.out).trans c3
          replace c4 := (hb9.cell (p := ⟨w.heap.size + 1, 4, none⟩) HW2.out).trans c4
          clear hfd
          go_wp2
          refine bodyPost_ret (v := .tuple #[.agg #[.slice Y1 x.body.length y1, .slice Y2 x.head.length y2, .bool x.egd, .int .i64 x.left, .int .i64 x.right], .bool true]) (by simp [results, Tryz.results45, go_sem, z0, z1, z2, z3, z4]) rfl ⟨X, by rw [HV.out.1, HV.out.2, HY.out.1, HY.out.2], ?_, ?_⟩
          · rw [HV.out.1]
            have hc9 : Chg (Mid w.heap.size (w.heap.size + 1)) w9 _ := (((((Chg.refl (Mid w.heap.size (w.heap.size + 1)) w9).setCell (p := ⟨w.heap.size, 0, none⟩) ⟨Nat.le_refl _, Nat.lt_succ_self _⟩ (.slice Y1 x.body.length y1)).setCell (p := ⟨w.heap.size, 1, none⟩) ⟨Nat.le_refl _, Nat.lt_succ_self _⟩ (.slice Y2 x.head.length y2)).setCell (p := ⟨w.heap.size, 2, none⟩) ⟨Nat.le_refl _, Nat.lt_succ_self _⟩ (.bool x.egd)).setCell (p := ⟨w.heap.size, 3, none⟩) ⟨Nat.le_refl _, Nat.lt_succ_self _⟩ (.int .i64 x.left)).setCell (p := ⟨w.heap.size, 4, none⟩) ⟨Nat.le_refl _, Nat.lt_succ_self _⟩ (.int .i64 x.right)
            exact (((HX.out.below hb9 (Nat.le_refl _)).chg hc9 (.inr (by omega))).mono (by omega) (by simp [World.setCell]; exact hz9))
          · exact (((((hW9.setCell (p := ⟨w.heap.size, 0, none⟩) (Nat.le_refl _) _).setCell (p := ⟨w.heap.size, 1, none⟩) (Nat.le_refl _) _).setCell (p := ⟨w.heap.size, 2, none⟩) (Nat.le_refl _) _).setCell (p := ⟨w.heap.size, 3, none⟩) (Nat.le_refl _) _).setCell (p := ⟨w.heap.size, 4, none⟩) (Nat.le_refl _) _)
      · have HV := Lib.hid (parseDep_no HXR.out (fun h => hFs (by rw [HF.out]; exact bytes_ext (by simp [h.1]))))
        have he := str_ne hFs
        have hne : (F.toList != s.toList) = true := by unfold bne; rw [he]; rfl
        clear hFs
        go_wp2_with fail
        refine hfd.mono ?_
        rintro e w9 ⟨rfl, hb9⟩
        have hz9 := hb9.size
        have hW9 := HBW.out.trans (hb9.mono HBW.out.size)
        obtain ⟨z0, z1, z2, z3, z4, zz⟩ := HZW.out
        replace z0 := (hb9.cell (p := ⟨w.heap.size, 0, none⟩) (by have := HW2.out; show w.heap.size < _; omega)).trans z0
        replace z1 := (hb9.cell (p := ⟨w.heap.size, 1, none⟩) (by have := HW2.out; show w.heap.size < _; omega)).trans z1
        replace z2 := (hb9.cell (p := ⟨w.heap.size, 2, none⟩) (by have := HW2.out; show w.heap.size < _; omega)).trans z2
        replace z3 := (hb9.cell (p := ⟨w.heap.size, 3, none⟩) (by have := HW2.out; show w.heap.size < _; omega)).trans z3
        replace z4 := (hb9.cell (p := ⟨w.heap.size, 4, none⟩) (by have := HW2.out; show w.heap.size < _; omega)).trans z4
        replace zz := fun o => (hb9.frozen (p := ⟨w.heap.size, o, none⟩) (by have := HW2.out; show w.heap.size < _; omega)).trans (zz o)
        clear c0 c1 c2 c3 c4
        clear hfd
        go_wp2
        refine bodyPost_ret (v := .tuple #[.agg #[.slice none 0 0, .slice none 0 0, .bool false, .int .i64 0, .int .i64 0], .bool false]) (by simp [results, Tryz.results45, go_sem, z0, z1, z2, z3, z4]) rfl ⟨zeroDX, by rw [HV.out.1, HV.out.2]; rfl, by rw [HV.out.1]; exact DepOwn.none _ _ _, ?_⟩
        exact (((((hW9.setCell (p := ⟨w.heap.size, 0, none⟩) (Nat.le_refl _) _).setCell (p := ⟨w.heap.size, 1, none⟩) (Nat.le_refl _) _).setCell (p := ⟨w.heap.size, 2, none⟩) (Nat.le_refl _) _).setCell (p := ⟨w.heap.size, 3, none⟩) (Nat.le_refl _) _).setCell (p := ⟨w.heap.size, 4, none⟩) (Nat.le_refl _) _)
    · have HRest := Lib.hid (show readDep l s.data.toList = readTgd l s.data.toList from readDep_rest (fun a c d e => hq (by
        have h := HLQ.out
        rw [e] at h
        have h2 := congrArg List.length (List.cons.inj (List.cons.inj h).2).1
        simpa using h2)))
      have hsq : ((qb.size : Int) == 2) = false := beq_eq_false_iff_ne.2 (by omega)
      clear hq
      by_cases hp2 : LP.length = 2
      · obtain ⟨pa, pb, rfl⟩ := list_two LP hp2
        have HRD := Lib.hid (show readDep l s.data.toList = ⟨readAtoms l pa.data.toList, readAtoms l pb.data.toList, false, 0, 0⟩ from HRest.out.trans (readTgd_two HLP.out.symm))
        clear hp2
        have hsz_pa : pa.size ≤ 1048576 := by
          have h1 := cutA_mem_len 62 s.data.toList pa.data.toList (by rw [← HLP.out]; exact List.mem_map.2 ⟨pa, by simp, rfl⟩)
          have h2 : s.data.toList.length = s.size := by simp
          have h3 : pa.data.toList.length = pa.size := by simp
          omega
        have hsz_pb : pb.size ≤ 1048576 := by
          have h1 := cutA_mem_len 62 s.data.toList pb.data.toList (by rw [← HLP.out]; exact List.mem_map.2 ⟨pb, by simp, rfl⟩)
          have h2 : s.data.toList.length = s.size := by simp
          have h3 : pb.data.toList.length = pb.size := by simp
          omega
        obtain ⟨b, off, rfl, hb, hc0⟩ := StrsAt.elem HOPq.out 0 (by simp)
        obtain ⟨b', off', he', -, hc1⟩ := StrsAt.elem HOPq.out 1 (by simp)
        cases he'
        simp only [Nat.add_zero, List.getElem_cons_zero, List.getElem_cons_succ] at hc0 hc1
        have hbp : (((2 : Nat) : Int) == 2) = true := rfl
        have hS : Holds [(⟨b, off, none⟩, .string pa), (⟨b, off + 1, none⟩, .string pb)] w2.drew := by
          intro q hq
          simp only [List.mem_cons, List.not_mem_nil, or_false] at hq
          rcases hq with rfl | rfl
          · exact hc0
          · exact hc1
        have HSb := Lib.hid (show ∀ q ∈ [((⟨b, off, none⟩ : Addr), Value.string pa), (⟨b, off + 1, none⟩, .string pb)], q.1.block < w2.heap.size by
          intro q hq
          simp only [List.mem_cons, List.not_mem_nil, or_false] at hq
          rcases hq with rfl | rfl
          · exact hb
          · exact hb)
        have g0 := Keep.cell (h0 := hS) (a := ⟨b, off, none⟩) (v := .string pa) (by simp)
        have g1 := Keep.cell (h0 := hS) (a := ⟨b, off + 1, none⟩) (v := .string pb) (by simp)
        clear hc0 hc1
        go_wp2
        refine wp_region_planL (C := fun w' => ∃ u : Keep _ w2.drew hS, w' = u.now) (.still 0 (.still 1 (.still 2 (.still 3 (.still 5 (.still 6 (.still 7 (.still 8 (.move true 4 (.move true 9 (.still 10 (.move false 11 .done .none)) .none) .none))))))))) (by kernel_rfl) (by kernel_rfl) (by kernel_rfl) (fun _ => ⟨⟨_, hS⟩, rfl⟩) ?_
        iterate 8
          refine plan_look _ rfl rfl ?_
          go_big_quiet_step (fail)
          refine wpQuiet_nil ?_
        refine plan_call _ 121 _ _ _ _ _ rfl _ Tryz.func121 (by kernel_rfl) (by kernel_rfl) ?_ True.intro
        have hWd : Below w.heap.size w w2.drew := HWw.out.drew
        refine (specRead_any (.slice A l.length a0) l pa _ ((HL.out.below hWd (Nat.le_refl _)).more hWd.size) hsz_pa).mono ?_
        rintro _ w3 ⟨U1, rfl, ho1, hb3⟩
        obtain ⟨Y1, y1, rfl, -, -⟩ := (ho1.at_ (Nat.le_refl _)).form
        have hb3' : Below w2.heap.size w2 w3 := (show Below w2.heap.size w2 w2.drew from (Below.refl _ _).drew).trans hb3
        have hz3 := hb3'.size
        have hK3 := hS.below hb3 HSb.out
        have hW3 := HWw.out.trans (hb3'.mono HWw.out.size)
        refine ⟨_, rfl, fun _ => ⟨⟨_, hK3⟩, rfl⟩, ?_⟩
        refine plan_put ?_ (by simp only [Act.put, List.setIfInBounds_toArray, List.set_cons_succ, List.set_cons_zero]; rfl)
        refine plan_call _ 121 _ _ _ _ _ rfl _ Tryz.func121 (by kernel_rfl) (by kernel_rfl) ?_ True.intro
        refine (specRead_any (.slice A l.length a0) l pb w3 ((HL.out.below hW3 (Nat.le_refl _)).more hW3.size) hsz_pb).mono ?_
        rintro _ w4 ⟨U2, rfl, ho2, hb4⟩
        obtain ⟨Y2, y2, rfl, -, -⟩ := (ho2.at_ (Nat.le_refl _)).form
        have hz4 := hb4.size
        have hWl := hW3.trans (hb4.mono hW3.size)
        have hb2l := hb3'.trans (hb4.mono hz3)
        refine ⟨_, rfl, fun _ => ⟨⟨_, hK3.below hb4 (fun q hq => Nat.lt_of_lt_of_le (HSb.out q hq) hz3)⟩, rfl⟩, ?_⟩
        refine plan_put ?_ (by simp only [Act.put, List.setIfInBounds_toArray, List.set_cons_succ, List.set_cons_zero]; rfl)
        iterate 1
          refine plan_look _ rfl rfl ?_
          go_big_quiet_step (fail)
          refine wpQuiet_nil ?_
        obtain ⟨q0, q1, q2, q3, q4, qz⟩ := HRR.out
        replace q0 := (hb2l.cell (p := ⟨w.heap.size + 1, 0, none⟩) hg2).trans q0
        replace q1 := (hb2l.cell (p := ⟨w.heap.size + 1, 1, none⟩) hg2).trans q1
        replace q2 := (hb2l.cell (p := ⟨w.heap.size + 1, 2, none⟩) hg2).trans q2
        replace q3 := (hb2l.cell (p := ⟨w.heap.size + 1, 3, none⟩) hg2).trans q3
        replace q4 := (hb2l.cell (p := ⟨w.heap.size + 1, 4, none⟩) hg2).trans q4
        replace qz := fun o => (hb2l.frozen (p := ⟨w.heap.size + 1, o, none⟩) hg2).trans (qz o)
        obtain ⟨W, hWe⟩ : ∃ W, W = (((((w4.setCell ⟨w.heap.size + 1, 0, none⟩ (.slice Y1 (readAtoms l pa.data.toList).length y1)).setCell ⟨w.heap.size + 1, 1, none⟩ (.slice Y2 (readAtoms l pb.data.toList).length y2)).setCell ⟨w.heap.size + 1, 2, none⟩ (.bool false)).setCell ⟨w.heap.size + 1, 3, none⟩ (.int .i64 0)).setCell ⟨w.heap.size + 1, 4, none⟩ (.int .i64 0)) := ⟨_, rfl⟩
        obtain ⟨Vs1, hS1⟩ := ho1
        obtain ⟨Vs2, hS2⟩ := ho2
        obtain ⟨x, hx⟩ : ∃ x : Dep, x = ⟨readAtoms l pa.data.toList, readAtoms l pb.data.toList, false, 0, 0⟩ := ⟨_, rfl⟩
        obtain ⟨X, hX⟩ : ∃ X : DepX, X = ((.slice Y1 (readAtoms l pa.data.toList).length y1, Vs1), (.slice Y2 (readAtoms l pb.data.toList).length y2, Vs2)) := ⟨_, rfl⟩
        have hXl : DepOwn w2.heap.size w4.heap.size X x w4 := by
          rw [hx, hX]
          exact ⟨(hS1.below hb4 (Nat.le_refl _)).mono (Nat.le_refl _) hz4, hS2.mono hz3 (Nat.le_refl _), fun q h1 h2 => by have := (hS1.foot q h1).2; have := (hS2.foot q h2).1; omega⟩
        have hgl : w.heap.size + 2 ≤ w4.heap.size := by omega
        refine plan_skip (w' := W) _ rfl rfl rfl (by rw [hWe]; simp [go_sem, q0, q1, q2, q3, q4, qz]) (fun e => by cases e) ?_ True.intro
        refine plan_put ?_ (by simp only [Act.put]; rfl)
        refine plan_done ?_
        have hchW : Chg (Mid (w.heap.size + 1) (w.heap.size + 2)) w4 W := by rw [hWe]; exact ((((((Chg.refl (Mid (w.heap.size + 1) (w.heap.size + 2)) w4).setCell (p := ⟨w.heap.size + 1, 0, none⟩) ⟨Nat.le_refl _, Nat.lt_succ_self _⟩ (.slice Y1 (readAtoms l pa.data.toList).length y1)).setCell (p := ⟨w.heap.size + 1, 1, none⟩) ⟨Nat.le_refl _, Nat.lt_succ_self _⟩ (.slice Y2 (readAtoms l pb.data.toList).length y2)).setCell (p := ⟨w.heap.size + 1, 2, none⟩) ⟨Nat.le_refl _, Nat.lt_succ_self _⟩ (.bool false)).setCell (p := ⟨w.heap.size + 1, 3, none⟩) ⟨Nat.le_refl _, Nat.lt_succ_self _⟩ (.int .i64 0)).setCell (p := ⟨w.heap.size + 1, 4, none⟩) ⟨Nat.le_refl _, Nat.lt_succ_self _⟩ (.int .i64 0))
        have HBW := Lib.hid (show Below w.heap.size w W by rw [hWe]; exact (((((hWl.setCell (p := ⟨w.heap.size + 1, 0, none⟩) (Nat.le_succ _) (.slice Y1 (readAtoms l pa.data.toList).length y1)).setCell (p := ⟨w.heap.size + 1, 1, none⟩) (Nat.le_succ _) (.slice Y2 (readAtoms l pb.data.toList).length y2)).setCell (p := ⟨w.heap.size + 1, 2, none⟩) (Nat.le_succ _) (.bool false)).setCell (p := ⟨w.heap.size + 1, 3, none⟩) (Nat.le_succ _) (.int .i64 0)).setCell (p := ⟨w.heap.size + 1, 4, none⟩) (Nat.le_succ _) (.int .i64 0)))
        have hszW : W.heap.size = w4.heap.size := by rw [hWe]; simp [World.setCell]
        have HGW := Lib.hid (show w.heap.size + 2 ≤ W.heap.size by rw [hszW]; exact hgl)
        have HC := Lib.hid (show W.cell? ⟨w.heap.size + 1, 0, none⟩ = some X.1.1 ∧ W.cell? ⟨w.heap.size + 1, 1, none⟩ = some X.2.1 ∧ W.cell? ⟨w.heap.size + 1, 2, none⟩ = some (.bool x.egd) ∧ W.cell? ⟨w.heap.size + 1, 3, none⟩ = some (.int .i64 x.left) ∧ W.cell? ⟨w.heap.size + 1, 4, none⟩ = some (.int .i64 x.right) by
          rw [hX, hx, hWe]
          exact ⟨by simp [go_sem, q0], by simp [go_sem, q1], by simp [go_sem, q2], by simp [go_sem, q3], by simp [go_sem, q4]⟩)
        obtain ⟨u0, u1, u2, u3, u4, uz⟩ := HZ.out
        have HZW := Lib.hid (show W.cell? ⟨w.heap.size, 0, none⟩ = some (.slice none 0 0) ∧ W.cell? ⟨w.heap.size, 1, none⟩ = some (.slice none 0 0) ∧ W.cell? ⟨w.heap.size, 2, none⟩ = some (.bool false) ∧ W.cell? ⟨w.heap.size, 3, none⟩ = some (.int .i64 0) ∧ W.cell? ⟨w.heap.size, 4, none⟩ = some (.int .i64 0) ∧ ∀ o, W.frozen? ⟨w.heap.size, o, none⟩ = false from
          ⟨(hchW.cell (by omega) (fun h => by have := h.1; omega)).trans ((hb2l.cell (p := ⟨w.heap.size, 0, none⟩) (by show w.heap.size < _; omega)).trans u0), (hchW.cell (by omega) (fun h => by have := h.1; omega)).trans ((hb2l.cell (p := ⟨w.heap.size, 1, none⟩) (by show w.heap.size < _; omega)).trans u1), (hchW.cell (by omega) (fun h => by have := h.1; omega)).trans ((hb2l.cell (p := ⟨w.heap.size, 2, none⟩) (by show w.heap.size < _; omega)).trans u2), (hchW.cell (by omega) (fun h => by have := h.1; omega)).trans ((hb2l.cell (p := ⟨w.heap.size, 3, none⟩) (by show w.heap.size < _; omega)).trans u3), (hchW.cell (by omega) (fun h => by have := h.1; omega)).trans ((hb2l.cell (p := ⟨w.heap.size, 4, none⟩) (by show w.heap.size < _; omega)).trans u4), fun o => (hchW.frozen (by omega) (fun h => by have := h.1; omega)).trans ((hb2l.frozen (p := ⟨w.heap.size, o, none⟩) (by show w.heap.size < _; omega)).trans (uz o))⟩)
        have HX := Lib.hid (show DepOwn (w.heap.size + 2) W.heap.size X x W from ((hXl.mono (by omega) (Nat.le_of_eq hszW.symm)).chg hchW (.inr (Nat.le_refl _))))
        have HXR := Lib.hid (show x = readDep l s.data.toList by rw [hx]; exact HRD.out.symm)
        have HWf := Lib.hid (show Dependency_wf x by rw [hx]; exact ⟨readAtoms_wf l hn _, readAtoms_wf l hn _, zero_i64, zero_i64⟩)
        clear hx hX hWe hS1 hS2 hXl hchW hszW hgl hb2l hWl hW3 hb3 hb4 hb3' hK3 hS u0 u1 u2 u3 u4 uz q0 q1 q2 q3 q4 qz g0 g1 hWd
        obtain ⟨Y1, y1, hY1, -, -⟩ := (HX.out.1.at_ (Nat.le_refl _)).form
        obtain ⟨Y2, y2, hY2, -, -⟩ := (HX.out.2.1.at_ (Nat.le_refl _)).form
        obtain ⟨c0, c1, c2, c3, c4⟩ := HC.out
        rw [hY1] at c0
        rw [hY2] at c1
        have HY := Lib.hid (And.intro hY1 hY2)
        have hfd := specFormatDep_any (.slice A l.length a0) l (.agg #[.slice Y1 x.body.length y1, .slice Y2 x.head.length y2, .bool x.egd, .int .i64 x.left, .int .i64 x.right]) x W ((HL.out.below HBW.out (Nat.le_refl _)).more HBW.out.size) hn ⟨_, _, rfl, by rw [← HY.out.1]; exact HX.out.1.at_ (Nat.le_refl _), by rw [← HY.out.2]; exact HX.out.2.1.at_ (Nat.le_refl _)⟩ HWf.out
        obtain ⟨F, hF⟩ : ∃ F : ByteArray, F = ⟨(fmtDep l x).toArray⟩ := ⟨_, rfl⟩
        rw [← hF] at hfd
        have HF := Lib.hid hF
        clear hF hY1 hY2
        have HW2 := Lib.hid (show w.heap.size + 1 < W.heap.size by have := HGW.out; omega)
        by_cases hFs : F = s
        · by_cases h0 : s.data.toList = []
          · have HV := Lib.hid (parseDep_no HXR.out (fun h => h.2 h0))
            have he : (F.toList == s.toList) = true := by rw [hFs]; exact str_eq s
            have hse : (s.toList == []) = true := by rw [ByteArray.toList_eq, h0]; rfl
            have hne : (F.toList != s.toList) = false := by unfold bne; rw [he]; rfl
            clear h0 hFs
            go_wp2_with fail
            refine hfd.mono ?_
            rintro e w9 ⟨rfl, hb9⟩
            have hz9 := hb9.size
            have hW9 := HBW.out.trans (hb9.mono HBW.out.size)
            obtain ⟨z0, z1, z2, z3, z4, zz⟩ := HZW.out
            replace z0 := (hb9.cell (p := ⟨w.heap.size, 0, none⟩) (by have := HW2.out; show w.heap.size < _; omega)).trans z0
            replace z1 := (hb9.cell (p := ⟨w.heap.size, 1, none⟩) (by have := HW2.out; show w.heap.size < _; omega)).trans z1
            replace z2 := (hb9.cell (p := ⟨w.heap.size, 2, none⟩) (by have := HW2.out; show w.heap.size < _; omega)).trans z2
            replace z3 := (hb9.cell (p := ⟨w.heap.size, 3, none⟩) (by have := HW2.out; show w.heap.size < _; omega)).trans z3
            replace z4 := (hb9.cell (p := ⟨w.heap.size, 4, none⟩) (by have := HW2.out; show w.heap.size < _; omega)).trans z4
            replace zz := fun o => (hb9.frozen (p := ⟨w.heap.size, o, none⟩) (by have := HW2.out; show w.heap.size < _; omega)).trans (zz o)
            clear c0 c1 c2 c3 c4
            clear hfd
            go_wp2
            refine bodyPost_ret (v := .tuple #[.agg #[.slice none 0 0, .slice none 0 0, .bool false, .int .i64 0, .int .i64 0], .bool false]) (by simp [results, Tryz.results45, go_sem, z0, z1, z2, z3, z4]) rfl ⟨zeroDX, by rw [HV.out.1, HV.out.2]; rfl, by rw [HV.out.1]; exact DepOwn.none _ _ _, ?_⟩
            exact (((((hW9.setCell (p := ⟨w.heap.size, 0, none⟩) (Nat.le_refl _) _).setCell (p := ⟨w.heap.size, 1, none⟩) (Nat.le_refl _) _).setCell (p := ⟨w.heap.size, 2, none⟩) (Nat.le_refl _) _).setCell (p := ⟨w.heap.size, 3, none⟩) (Nat.le_refl _) _).setCell (p := ⟨w.heap.size, 4, none⟩) (Nat.le_refl _) _)
          · have HV := Lib.hid (parseDep_yes HXR.out (by rw [← hFs, HF.out]) h0)
            have he : (F.toList == s.toList) = true := by rw [hFs]; exact str_eq s
            have hse : (s.toList == []) = false := by rw [ByteArray.toList_eq, beq_eq_false_iff_ne]; exact h0
            have hne : (F.toList != s.toList) = false := by unfold bne; rw [he]; rfl
            clear h0 hFs
            go_wp2_with fail
            refine hfd.mono ?_
            rintro e w9 ⟨rfl, hb9⟩
            have hz9 := hb9.size
            have hW9 := HBW.out.trans (hb9.mono HBW.out.size)
            obtain ⟨z0, z1, z2, z3, z4, zz⟩ := HZW.out
            replace z0 := (hb9.cell (p := ⟨w.heap.size, 0, none⟩) (by have := HW2.out; show w.heap.size < _; omega)).trans z0
            replace z1 := (hb9.cell (p := ⟨w.heap.size, 1, none⟩) (by have := HW2.out; show w.heap.size < _; omega)).trans z1
            replace z2 := (hb9.cell (p := ⟨w.heap.size, 2, none⟩) (by have := HW2.out; show w.heap.size < _; omega)).trans z2
            replace z3 := (hb9.cell (p := ⟨w.heap.size, 3, none⟩) (by have := HW2.out; show w.heap.size < _; omega)).trans z3
            replace z4 := (hb9.cell (p := ⟨w.heap.size, 4, none⟩) (by have := HW2.out; show w.heap.size < _; omega)).trans z4
            replace zz := fun o => (hb9.frozen (p := ⟨w.heap.size, o, none⟩) (by have := HW2.out; show w.heap.size < _; omega)).trans (zz o)
            replace c0 := (hb9.cell (p := ⟨w.heap.size + 1, 0, none⟩) HW2.out).trans c0
            replace c1 := (hb9.cell (p := ⟨w.heap.size + 1, 1, none⟩) HW2.out).trans c1
            replace c2 := (hb9.cell (p := ⟨w.heap.size + 1, 2, none⟩) HW2.out).trans c2
            replace c3 := (hb9.cell (p := ⟨w.heap.size + 1, 3, none⟩) HW2.out).trans c3
            replace c4 := (hb9.cell (p := ⟨w.heap.size + 1, 4, none⟩) HW2.out).trans c4
            clear hfd
            go_wp2
            refine bodyPost_ret (v := .tuple #[.agg #[.slice Y1 x.body.length y1, .slice Y2 x.head.length y2, .bool x.egd, .int .i64 x.left, .int .i64 x.right], .bool true]) (by simp [results, Tryz.results45, go_sem, z0, z1, z2, z3, z4]) rfl ⟨X, by rw [HV.out.1, HV.out.2, HY.out.1, HY.out.2], ?_, ?_⟩
            · rw [HV.out.1]
              have hc9 : Chg (Mid w.heap.size (w.heap.size + 1)) w9 _ := (((((Chg.refl (Mid w.heap.size (w.heap.size + 1)) w9).setCell (p := ⟨w.heap.size, 0, none⟩) ⟨Nat.le_refl _, Nat.lt_succ_self _⟩ (.slice Y1 x.body.length y1)).setCell (p := ⟨w.heap.size, 1, none⟩) ⟨Nat.le_refl _, Nat.lt_succ_self _⟩ (.slice Y2 x.head.length y2)).setCell (p := ⟨w.heap.size, 2, none⟩) ⟨Nat.le_refl _, Nat.lt_succ_self _⟩ (.bool x.egd)).setCell (p := ⟨w.heap.size, 3, none⟩) ⟨Nat.le_refl _, Nat.lt_succ_self _⟩ (.int .i64 x.left)).setCell (p := ⟨w.heap.size, 4, none⟩) ⟨Nat.le_refl _, Nat.lt_succ_self _⟩ (.int .i64 x.right)
              exact (((HX.out.below hb9 (Nat.le_refl _)).chg hc9 (.inr (by omega))).mono (by omega) (by simp [World.setCell]; exact hz9))
            · exact (((((hW9.setCell (p := ⟨w.heap.size, 0, none⟩) (Nat.le_refl _) _).setCell (p := ⟨w.heap.size, 1, none⟩) (Nat.le_refl _) _).setCell (p := ⟨w.heap.size, 2, none⟩) (Nat.le_refl _) _).setCell (p := ⟨w.heap.size, 3, none⟩) (Nat.le_refl _) _).setCell (p := ⟨w.heap.size, 4, none⟩) (Nat.le_refl _) _)
        · have HV := Lib.hid (parseDep_no HXR.out (fun h => hFs (by rw [HF.out]; exact bytes_ext (by simp [h.1]))))
          have he := str_ne hFs
          have hne : (F.toList != s.toList) = true := by unfold bne; rw [he]; rfl
          clear hFs
          go_wp2_with fail
          refine hfd.mono ?_
          rintro e w9 ⟨rfl, hb9⟩
          have hz9 := hb9.size
          have hW9 := HBW.out.trans (hb9.mono HBW.out.size)
          obtain ⟨z0, z1, z2, z3, z4, zz⟩ := HZW.out
          replace z0 := (hb9.cell (p := ⟨w.heap.size, 0, none⟩) (by have := HW2.out; show w.heap.size < _; omega)).trans z0
          replace z1 := (hb9.cell (p := ⟨w.heap.size, 1, none⟩) (by have := HW2.out; show w.heap.size < _; omega)).trans z1
          replace z2 := (hb9.cell (p := ⟨w.heap.size, 2, none⟩) (by have := HW2.out; show w.heap.size < _; omega)).trans z2
          replace z3 := (hb9.cell (p := ⟨w.heap.size, 3, none⟩) (by have := HW2.out; show w.heap.size < _; omega)).trans z3
          replace z4 := (hb9.cell (p := ⟨w.heap.size, 4, none⟩) (by have := HW2.out; show w.heap.size < _; omega)).trans z4
          replace zz := fun o => (hb9.frozen (p := ⟨w.heap.size, o, none⟩) (by have := HW2.out; show w.heap.size < _; omega)).trans (zz o)
          clear c0 c1 c2 c3 c4
          clear hfd
          go_wp2
          refine bodyPost_ret (v := .tuple #[.agg #[.slice none 0 0, .slice none 0 0, .bool false, .int .i64 0, .int .i64 0], .bool false]) (by simp [results, Tryz.results45, go_sem, z0, z1, z2, z3, z4]) rfl ⟨zeroDX, by rw [HV.out.1, HV.out.2]; rfl, by rw [HV.out.1]; exact DepOwn.none _ _ _, ?_⟩
          exact (((((hW9.setCell (p := ⟨w.heap.size, 0, none⟩) (Nat.le_refl _) _).setCell (p := ⟨w.heap.size, 1, none⟩) (Nat.le_refl _) _).setCell (p := ⟨w.heap.size, 2, none⟩) (Nat.le_refl _) _).setCell (p := ⟨w.heap.size, 3, none⟩) (Nat.le_refl _) _).setCell (p := ⟨w.heap.size, 4, none⟩) (Nat.le_refl _) _)
      · have HRD := Lib.hid (show readDep l s.data.toList = noDep from HRest.out.trans (readTgd_no (fun e => hp2 (by have := congrArg List.length HLP.out; rw [e] at this; simpa [dataOf] using this))))
        have hbp : ((LP.length : Int) == 2) = false := beq_eq_false_iff_ne.2 (by omega)
        clear hp2
        obtain ⟨W, rfl⟩ : ∃ W, W = w2 := ⟨_, rfl⟩
        obtain ⟨x, hx⟩ : ∃ x, x = noDep := ⟨_, rfl⟩
        obtain ⟨X, hX⟩ : ∃ X, X = zeroDX := ⟨_, rfl⟩
        have HXR := Lib.hid (show x = readDep l s.data.toList by rw [hx]; exact HRD.out.symm)
        have HC := Lib.hid (show W.cell? ⟨w.heap.size + 1, 0, none⟩ = some X.1.1 ∧ W.cell? ⟨w.heap.size + 1, 1, none⟩ = some X.2.1 ∧ W.cell? ⟨w.heap.size + 1, 2, none⟩ = some (.bool x.egd) ∧ W.cell? ⟨w.heap.size + 1, 3, none⟩ = some (.int .i64 x.left) ∧ W.cell? ⟨w.heap.size + 1, 4, none⟩ = some (.int .i64 x.right) by
          rw [hx, hX]
          exact ⟨HRR.out.1, HRR.out.2.1, HRR.out.2.2.1, HRR.out.2.2.2.1, HRR.out.2.2.2.2.1⟩)
        have HZW := HZ
        have HX := Lib.hid (show DepOwn (w.heap.size + 2) W.heap.size X x W by rw [hx, hX]; exact DepOwn.none _ _ _)
        have HWf := Lib.hid (show Dependency_wf x by rw [hx]; exact ⟨fun i hi => absurd hi (by show ¬ i < 0; omega), fun i hi => absurd hi (by show ¬ i < 0; omega), ⟨by decide, by decide⟩, ⟨by decide, by decide⟩⟩)
        have HBW := HWw
        have HGW := Lib.hid (show w.heap.size + 2 ≤ W.heap.size by omega)
        clear hx hX HZ HRR HWw
        obtain ⟨Y1, y1, hY1, -, -⟩ := (HX.out.1.at_ (Nat.le_refl _)).form
        obtain ⟨Y2, y2, hY2, -, -⟩ := (HX.out.2.1.at_ (Nat.le_refl _)).form
        obtain ⟨c0, c1, c2, c3, c4⟩ := HC.out
        rw [hY1] at c0
        rw [hY2] at c1
        have HY := Lib.hid (And.intro hY1 hY2)
        have hfd := specFormatDep_any (.slice A l.length a0) l (.agg #[.slice Y1 x.body.length y1, .slice Y2 x.head.length y2, .bool x.egd, .int .i64 x.left, .int .i64 x.right]) x W ((HL.out.below HBW.out (Nat.le_refl _)).more HBW.out.size) hn ⟨_, _, rfl, by rw [← HY.out.1]; exact HX.out.1.at_ (Nat.le_refl _), by rw [← HY.out.2]; exact HX.out.2.1.at_ (Nat.le_refl _)⟩ HWf.out
        obtain ⟨F, hF⟩ : ∃ F : ByteArray, F = ⟨(fmtDep l x).toArray⟩ := ⟨_, rfl⟩
        rw [← hF] at hfd
        have HF := Lib.hid hF
        clear hF hY1 hY2
        have HW2 := Lib.hid (show w.heap.size + 1 < W.heap.size by have := HGW.out; omega)
        by_cases hFs : F = s
        · by_cases h0 : s.data.toList = []
          · have HV := Lib.hid (parseDep_no HXR.out (fun h => h.2 h0))
            have he : (F.toList == s.toList) = true := by rw [hFs]; exact str_eq s
            have hse : (s.toList == []) = true := by rw [ByteArray.toList_eq, h0]; rfl
            have hne : (F.toList != s.toList) = false := by unfold bne; rw [he]; rfl
            clear h0 hFs
            go_wp2_with fail
            refine hfd.mono ?_
            rintro e w9 ⟨rfl, hb9⟩
            have hz9 := hb9.size
            have hW9 := HBW.out.trans (hb9.mono HBW.out.size)
            obtain ⟨z0, z1, z2, z3, z4, zz⟩ := HZW.out
            replace z0 := (hb9.cell (p := ⟨w.heap.size, 0, none⟩) (by have := HW2.out; show w.heap.size < _; omega)).trans z0
            replace z1 := (hb9.cell (p := ⟨w.heap.size, 1, none⟩) (by have := HW2.out; show w.heap.size < _; omega)).trans z1
            replace z2 := (hb9.cell (p := ⟨w.heap.size, 2, none⟩) (by have := HW2.out; show w.heap.size < _; omega)).trans z2
            replace z3 := (hb9.cell (p := ⟨w.heap.size, 3, none⟩) (by have := HW2.out; show w.heap.size < _; omega)).trans z3
            replace z4 := (hb9.cell (p := ⟨w.heap.size, 4, none⟩) (by have := HW2.out; show w.heap.size < _; omega)).trans z4
            replace zz := fun o => (hb9.frozen (p := ⟨w.heap.size, o, none⟩) (by have := HW2.out; show w.heap.size < _; omega)).trans (zz o)
            clear c0 c1 c2 c3 c4
            clear hfd
            go_wp2
            refine bodyPost_ret (v := .tuple #[.agg #[.slice none 0 0, .slice none 0 0, .bool false, .int .i64 0, .int .i64 0], .bool false]) (by simp [results, Tryz.results45, go_sem, z0, z1, z2, z3, z4]) rfl ⟨zeroDX, by rw [HV.out.1, HV.out.2]; rfl, by rw [HV.out.1]; exact DepOwn.none _ _ _, ?_⟩
            exact (((((hW9.setCell (p := ⟨w.heap.size, 0, none⟩) (Nat.le_refl _) _).setCell (p := ⟨w.heap.size, 1, none⟩) (Nat.le_refl _) _).setCell (p := ⟨w.heap.size, 2, none⟩) (Nat.le_refl _) _).setCell (p := ⟨w.heap.size, 3, none⟩) (Nat.le_refl _) _).setCell (p := ⟨w.heap.size, 4, none⟩) (Nat.le_refl _) _)
          · have HV := Lib.hid (parseDep_yes HXR.out (by rw [← hFs, HF.out]) h0)
            have he : (F.toList == s.toList) = true := by rw [hFs]; exact str_eq s
            have hse : (s.toList == []) = false := by rw [ByteArray.toList_eq, beq_eq_false_iff_ne]; exact h0
            have hne : (F.toList != s.toList) = false := by unfold bne; rw [he]; rfl
            clear h0 hFs
            go_wp2_with fail
            refine hfd.mono ?_
            rintro e w9 ⟨rfl, hb9⟩
            have hz9 := hb9.size
            have hW9 := HBW.out.trans (hb9.mono HBW.out.size)
            obtain ⟨z0, z1, z2, z3, z4, zz⟩ := HZW.out
            replace z0 := (hb9.cell (p := ⟨w.heap.size, 0, none⟩) (by have := HW2.out; show w.heap.size < _; omega)).trans z0
            replace z1 := (hb9.cell (p := ⟨w.heap.size, 1, none⟩) (by have := HW2.out; show w.heap.size < _; omega)).trans z1
            replace z2 := (hb9.cell (p := ⟨w.heap.size, 2, none⟩) (by have := HW2.out; show w.heap.size < _; omega)).trans z2
            replace z3 := (hb9.cell (p := ⟨w.heap.size, 3, none⟩) (by have := HW2.out; show w.heap.size < _; omega)).trans z3
            replace z4 := (hb9.cell (p := ⟨w.heap.size, 4, none⟩) (by have := HW2.out; show w.heap.size < _; omega)).trans z4
            replace zz := fun o => (hb9.frozen (p := ⟨w.heap.size, o, none⟩) (by have := HW2.out; show w.heap.size < _; omega)).trans (zz o)
            replace c0 := (hb9.cell (p := ⟨w.heap.size + 1, 0, none⟩) HW2.out).trans c0
            replace c1 := (hb9.cell (p := ⟨w.heap.size + 1, 1, none⟩) HW2.out).trans c1
            replace c2 := (hb9.cell (p := ⟨w.heap.size + 1, 2, none⟩) HW2.out).trans c2
            replace c3 := (hb9.cell (p := ⟨w.heap.size + 1, 3, none⟩) HW2.out).trans c3
            replace c4 := (hb9.cell (p := ⟨w.heap.size + 1, 4, none⟩) HW2.out).trans c4
            clear hfd
            go_wp2
            refine bodyPost_ret (v := .tuple #[.agg #[.slice Y1 x.body.length y1, .slice Y2 x.head.length y2, .bool x.egd, .int .i64 x.left, .int .i64 x.right], .bool true]) (by simp [results, Tryz.results45, go_sem, z0, z1, z2, z3, z4]) rfl ⟨X, by rw [HV.out.1, HV.out.2, HY.out.1, HY.out.2], ?_, ?_⟩
            · rw [HV.out.1]
              have hc9 : Chg (Mid w.heap.size (w.heap.size + 1)) w9 _ := (((((Chg.refl (Mid w.heap.size (w.heap.size + 1)) w9).setCell (p := ⟨w.heap.size, 0, none⟩) ⟨Nat.le_refl _, Nat.lt_succ_self _⟩ (.slice Y1 x.body.length y1)).setCell (p := ⟨w.heap.size, 1, none⟩) ⟨Nat.le_refl _, Nat.lt_succ_self _⟩ (.slice Y2 x.head.length y2)).setCell (p := ⟨w.heap.size, 2, none⟩) ⟨Nat.le_refl _, Nat.lt_succ_self _⟩ (.bool x.egd)).setCell (p := ⟨w.heap.size, 3, none⟩) ⟨Nat.le_refl _, Nat.lt_succ_self _⟩ (.int .i64 x.left)).setCell (p := ⟨w.heap.size, 4, none⟩) ⟨Nat.le_refl _, Nat.lt_succ_self _⟩ (.int .i64 x.right)
              exact (((HX.out.below hb9 (Nat.le_refl _)).chg hc9 (.inr (by omega))).mono (by omega) (by simp [World.setCell]; exact hz9))
            · exact (((((hW9.setCell (p := ⟨w.heap.size, 0, none⟩) (Nat.le_refl _) _).setCell (p := ⟨w.heap.size, 1, none⟩) (Nat.le_refl _) _).setCell (p := ⟨w.heap.size, 2, none⟩) (Nat.le_refl _) _).setCell (p := ⟨w.heap.size, 3, none⟩) (Nat.le_refl _) _).setCell (p := ⟨w.heap.size, 4, none⟩) (Nat.le_refl _) _)
        · have HV := Lib.hid (parseDep_no HXR.out (fun h => hFs (by rw [HF.out]; exact bytes_ext (by simp [h.1]))))
          have he := str_ne hFs
          have hne : (F.toList != s.toList) = true := by unfold bne; rw [he]; rfl
          clear hFs
          go_wp2_with fail
          refine hfd.mono ?_
          rintro e w9 ⟨rfl, hb9⟩
          have hz9 := hb9.size
          have hW9 := HBW.out.trans (hb9.mono HBW.out.size)
          obtain ⟨z0, z1, z2, z3, z4, zz⟩ := HZW.out
          replace z0 := (hb9.cell (p := ⟨w.heap.size, 0, none⟩) (by have := HW2.out; show w.heap.size < _; omega)).trans z0
          replace z1 := (hb9.cell (p := ⟨w.heap.size, 1, none⟩) (by have := HW2.out; show w.heap.size < _; omega)).trans z1
          replace z2 := (hb9.cell (p := ⟨w.heap.size, 2, none⟩) (by have := HW2.out; show w.heap.size < _; omega)).trans z2
          replace z3 := (hb9.cell (p := ⟨w.heap.size, 3, none⟩) (by have := HW2.out; show w.heap.size < _; omega)).trans z3
          replace z4 := (hb9.cell (p := ⟨w.heap.size, 4, none⟩) (by have := HW2.out; show w.heap.size < _; omega)).trans z4
          replace zz := fun o => (hb9.frozen (p := ⟨w.heap.size, o, none⟩) (by have := HW2.out; show w.heap.size < _; omega)).trans (zz o)
          clear c0 c1 c2 c3 c4
          clear hfd
          go_wp2
          refine bodyPost_ret (v := .tuple #[.agg #[.slice none 0 0, .slice none 0 0, .bool false, .int .i64 0, .int .i64 0], .bool false]) (by simp [results, Tryz.results45, go_sem, z0, z1, z2, z3, z4]) rfl ⟨zeroDX, by rw [HV.out.1, HV.out.2]; rfl, by rw [HV.out.1]; exact DepOwn.none _ _ _, ?_⟩
          exact (((((hW9.setCell (p := ⟨w.heap.size, 0, none⟩) (Nat.le_refl _) _).setCell (p := ⟨w.heap.size, 1, none⟩) (Nat.le_refl _) _).setCell (p := ⟨w.heap.size, 2, none⟩) (Nat.le_refl _) _).setCell (p := ⟨w.heap.size, 3, none⟩) (Nat.le_refl _) _).setCell (p := ⟨w.heap.size, 4, none⟩) (Nat.le_refl _) _)
  · have HRest := Lib.hid (show readDep l s.data.toList = readTgd l s.data.toList from readDep_rest (fun a c d e => h2 (by have := congrArg List.length HLQ.out; rw [e] at this; simpa [dataOf] using this)))
    have hb2 : ((LQ.length : Int) == 2) = false := beq_eq_false_iff_ne.2 (by omega)
    clear h2
    by_cases hp2 : LP.length = 2
    · obtain ⟨pa, pb, rfl⟩ := list_two LP hp2
      have HRD := Lib.hid (show readDep l s.data.toList = ⟨readAtoms l pa.data.toList, readAtoms l pb.data.toList, false, 0, 0⟩ from HRest.out.trans (readTgd_two HLP.out.symm))
      clear hp2
      have hsz_pa : pa.size ≤ 1048576 := by
        have h1 := cutA_mem_len 62 s.data.toList pa.data.toList (by rw [← HLP.out]; exact List.mem_map.2 ⟨pa, by simp, rfl⟩)
        have h2 : s.data.toList.length = s.size := by simp
        have h3 : pa.data.toList.length = pa.size := by simp
        omega
      have hsz_pb : pb.size ≤ 1048576 := by
        have h1 := cutA_mem_len 62 s.data.toList pb.data.toList (by rw [← HLP.out]; exact List.mem_map.2 ⟨pb, by simp, rfl⟩)
        have h2 : s.data.toList.length = s.size := by simp
        have h3 : pb.data.toList.length = pb.size := by simp
        omega
      obtain ⟨b, off, rfl, hb, hc0⟩ := StrsAt.elem HOPq.out 0 (by simp)
      obtain ⟨b', off', he', -, hc1⟩ := StrsAt.elem HOPq.out 1 (by simp)
      cases he'
      simp only [Nat.add_zero, List.getElem_cons_zero, List.getElem_cons_succ] at hc0 hc1
      have hbp : (((2 : Nat) : Int) == 2) = true := rfl
      have hS : Holds [(⟨b, off, none⟩, .string pa), (⟨b, off + 1, none⟩, .string pb)] w2.drew := by
        intro q hq
        simp only [List.mem_cons, List.not_mem_nil, or_false] at hq
        rcases hq with rfl | rfl
        · exact hc0
        · exact hc1
      have HSb := Lib.hid (show ∀ q ∈ [((⟨b, off, none⟩ : Addr), Value.string pa), (⟨b, off + 1, none⟩, .string pb)], q.1.block < w2.heap.size by
        intro q hq
        simp only [List.mem_cons, List.not_mem_nil, or_false] at hq
        rcases hq with rfl | rfl
        · exact hb
        · exact hb)
      have g0 := Keep.cell (h0 := hS) (a := ⟨b, off, none⟩) (v := .string pa) (by simp)
      have g1 := Keep.cell (h0 := hS) (a := ⟨b, off + 1, none⟩) (v := .string pb) (by simp)
      clear hc0 hc1
      go_wp2
      refine wp_region_planL (C := fun w' => ∃ u : Keep _ w2.drew hS, w' = u.now) (.still 0 (.still 1 (.still 2 (.still 3 (.still 5 (.still 6 (.still 7 (.still 8 (.move true 4 (.move true 9 (.still 10 (.move false 11 .done .none)) .none) .none))))))))) (by kernel_rfl) (by kernel_rfl) (by kernel_rfl) (fun _ => ⟨⟨_, hS⟩, rfl⟩) ?_
      iterate 8
        refine plan_look _ rfl rfl ?_
        go_big_quiet_step (fail)
        refine wpQuiet_nil ?_
      refine plan_call _ 121 _ _ _ _ _ rfl _ Tryz.func121 (by kernel_rfl) (by kernel_rfl) ?_ True.intro
      have hWd : Below w.heap.size w w2.drew := HWw.out.drew
      refine (specRead_any (.slice A l.length a0) l pa _ ((HL.out.below hWd (Nat.le_refl _)).more hWd.size) hsz_pa).mono ?_
      rintro _ w3 ⟨U1, rfl, ho1, hb3⟩
      obtain ⟨Y1, y1, rfl, -, -⟩ := (ho1.at_ (Nat.le_refl _)).form
      have hb3' : Below w2.heap.size w2 w3 := (show Below w2.heap.size w2 w2.drew from (Below.refl _ _).drew).trans hb3
      have hz3 := hb3'.size
      have hK3 := hS.below hb3 HSb.out
      have hW3 := HWw.out.trans (hb3'.mono HWw.out.size)
      refine ⟨_, rfl, fun _ => ⟨⟨_, hK3⟩, rfl⟩, ?_⟩
      refine plan_put ?_ (by simp only [Act.put, List.setIfInBounds_toArray, List.set_cons_succ, List.set_cons_zero]; rfl)
      refine plan_call _ 121 _ _ _ _ _ rfl _ Tryz.func121 (by kernel_rfl) (by kernel_rfl) ?_ True.intro
      refine (specRead_any (.slice A l.length a0) l pb w3 ((HL.out.below hW3 (Nat.le_refl _)).more hW3.size) hsz_pb).mono ?_
      rintro _ w4 ⟨U2, rfl, ho2, hb4⟩
      obtain ⟨Y2, y2, rfl, -, -⟩ := (ho2.at_ (Nat.le_refl _)).form
      have hz4 := hb4.size
      have hWl := hW3.trans (hb4.mono hW3.size)
      have hb2l := hb3'.trans (hb4.mono hz3)
      refine ⟨_, rfl, fun _ => ⟨⟨_, hK3.below hb4 (fun q hq => Nat.lt_of_lt_of_le (HSb.out q hq) hz3)⟩, rfl⟩, ?_⟩
      refine plan_put ?_ (by simp only [Act.put, List.setIfInBounds_toArray, List.set_cons_succ, List.set_cons_zero]; rfl)
      iterate 1
        refine plan_look _ rfl rfl ?_
        go_big_quiet_step (fail)
        refine wpQuiet_nil ?_
      obtain ⟨q0, q1, q2, q3, q4, qz⟩ := HRR.out
      replace q0 := (hb2l.cell (p := ⟨w.heap.size + 1, 0, none⟩) hg2).trans q0
      replace q1 := (hb2l.cell (p := ⟨w.heap.size + 1, 1, none⟩) hg2).trans q1
      replace q2 := (hb2l.cell (p := ⟨w.heap.size + 1, 2, none⟩) hg2).trans q2
      replace q3 := (hb2l.cell (p := ⟨w.heap.size + 1, 3, none⟩) hg2).trans q3
      replace q4 := (hb2l.cell (p := ⟨w.heap.size + 1, 4, none⟩) hg2).trans q4
      replace qz := fun o => (hb2l.frozen (p := ⟨w.heap.size + 1, o, none⟩) hg2).trans (qz o)
      obtain ⟨W, hWe⟩ : ∃ W, W = (((((w4.setCell ⟨w.heap.size + 1, 0, none⟩ (.slice Y1 (readAtoms l pa.data.toList).length y1)).setCell ⟨w.heap.size + 1, 1, none⟩ (.slice Y2 (readAtoms l pb.data.toList).length y2)).setCell ⟨w.heap.size + 1, 2, none⟩ (.bool false)).setCell ⟨w.heap.size + 1, 3, none⟩ (.int .i64 0)).setCell ⟨w.heap.size + 1, 4, none⟩ (.int .i64 0)) := ⟨_, rfl⟩
      obtain ⟨Vs1, hS1⟩ := ho1
      obtain ⟨Vs2, hS2⟩ := ho2
      obtain ⟨x, hx⟩ : ∃ x : Dep, x = ⟨readAtoms l pa.data.toList, readAtoms l pb.data.toList, false, 0, 0⟩ := ⟨_, rfl⟩
      obtain ⟨X, hX⟩ : ∃ X : DepX, X = ((.slice Y1 (readAtoms l pa.data.toList).length y1, Vs1), (.slice Y2 (readAtoms l pb.data.toList).length y2, Vs2)) := ⟨_, rfl⟩
      have hXl : DepOwn w2.heap.size w4.heap.size X x w4 := by
        rw [hx, hX]
        exact ⟨(hS1.below hb4 (Nat.le_refl _)).mono (Nat.le_refl _) hz4, hS2.mono hz3 (Nat.le_refl _), fun q h1 h2 => by have := (hS1.foot q h1).2; have := (hS2.foot q h2).1; omega⟩
      have hgl : w.heap.size + 2 ≤ w4.heap.size := by omega
      refine plan_skip (w' := W) _ rfl rfl rfl (by rw [hWe]; simp [go_sem, q0, q1, q2, q3, q4, qz]) (fun e => by cases e) ?_ True.intro
      refine plan_put ?_ (by simp only [Act.put]; rfl)
      refine plan_done ?_
      have hchW : Chg (Mid (w.heap.size + 1) (w.heap.size + 2)) w4 W := by rw [hWe]; exact ((((((Chg.refl (Mid (w.heap.size + 1) (w.heap.size + 2)) w4).setCell (p := ⟨w.heap.size + 1, 0, none⟩) ⟨Nat.le_refl _, Nat.lt_succ_self _⟩ (.slice Y1 (readAtoms l pa.data.toList).length y1)).setCell (p := ⟨w.heap.size + 1, 1, none⟩) ⟨Nat.le_refl _, Nat.lt_succ_self _⟩ (.slice Y2 (readAtoms l pb.data.toList).length y2)).setCell (p := ⟨w.heap.size + 1, 2, none⟩) ⟨Nat.le_refl _, Nat.lt_succ_self _⟩ (.bool false)).setCell (p := ⟨w.heap.size + 1, 3, none⟩) ⟨Nat.le_refl _, Nat.lt_succ_self _⟩ (.int .i64 0)).setCell (p := ⟨w.heap.size + 1, 4, none⟩) ⟨Nat.le_refl _, Nat.lt_succ_self _⟩ (.int .i64 0))
      have HBW := Lib.hid (show Below w.heap.size w W by rw [hWe]; exact (((((hWl.setCell (p := ⟨w.heap.size + 1, 0, none⟩) (Nat.le_succ _) (.slice Y1 (readAtoms l pa.data.toList).length y1)).setCell (p := ⟨w.heap.size + 1, 1, none⟩) (Nat.le_succ _) (.slice Y2 (readAtoms l pb.data.toList).length y2)).setCell (p := ⟨w.heap.size + 1, 2, none⟩) (Nat.le_succ _) (.bool false)).setCell (p := ⟨w.heap.size + 1, 3, none⟩) (Nat.le_succ _) (.int .i64 0)).setCell (p := ⟨w.heap.size + 1, 4, none⟩) (Nat.le_succ _) (.int .i64 0)))
      have hszW : W.heap.size = w4.heap.size := by rw [hWe]; simp [World.setCell]
      have HGW := Lib.hid (show w.heap.size + 2 ≤ W.heap.size by rw [hszW]; exact hgl)
      have HC := Lib.hid (show W.cell? ⟨w.heap.size + 1, 0, none⟩ = some X.1.1 ∧ W.cell? ⟨w.heap.size + 1, 1, none⟩ = some X.2.1 ∧ W.cell? ⟨w.heap.size + 1, 2, none⟩ = some (.bool x.egd) ∧ W.cell? ⟨w.heap.size + 1, 3, none⟩ = some (.int .i64 x.left) ∧ W.cell? ⟨w.heap.size + 1, 4, none⟩ = some (.int .i64 x.right) by
        rw [hX, hx, hWe]
        exact ⟨by simp [go_sem, q0], by simp [go_sem, q1], by simp [go_sem, q2], by simp [go_sem, q3], by simp [go_sem, q4]⟩)
      obtain ⟨u0, u1, u2, u3, u4, uz⟩ := HZ.out
      have HZW := Lib.hid (show W.cell? ⟨w.heap.size, 0, none⟩ = some (.slice none 0 0) ∧ W.cell? ⟨w.heap.size, 1, none⟩ = some (.slice none 0 0) ∧ W.cell? ⟨w.heap.size, 2, none⟩ = some (.bool false) ∧ W.cell? ⟨w.heap.size, 3, none⟩ = some (.int .i64 0) ∧ W.cell? ⟨w.heap.size, 4, none⟩ = some (.int .i64 0) ∧ ∀ o, W.frozen? ⟨w.heap.size, o, none⟩ = false from
        ⟨(hchW.cell (by omega) (fun h => by have := h.1; omega)).trans ((hb2l.cell (p := ⟨w.heap.size, 0, none⟩) (by show w.heap.size < _; omega)).trans u0), (hchW.cell (by omega) (fun h => by have := h.1; omega)).trans ((hb2l.cell (p := ⟨w.heap.size, 1, none⟩) (by show w.heap.size < _; omega)).trans u1), (hchW.cell (by omega) (fun h => by have := h.1; omega)).trans ((hb2l.cell (p := ⟨w.heap.size, 2, none⟩) (by show w.heap.size < _; omega)).trans u2), (hchW.cell (by omega) (fun h => by have := h.1; omega)).trans ((hb2l.cell (p := ⟨w.heap.size, 3, none⟩) (by show w.heap.size < _; omega)).trans u3), (hchW.cell (by omega) (fun h => by have := h.1; omega)).trans ((hb2l.cell (p := ⟨w.heap.size, 4, none⟩) (by show w.heap.size < _; omega)).trans u4), fun o => (hchW.frozen (by omega) (fun h => by have := h.1; omega)).trans ((hb2l.frozen (p := ⟨w.heap.size, o, none⟩) (by show w.heap.size < _; omega)).trans (uz o))⟩)
      have HX := Lib.hid (show DepOwn (w.heap.size + 2) W.heap.size X x W from ((hXl.mono (by omega) (Nat.le_of_eq hszW.symm)).chg hchW (.inr (Nat.le_refl _))))
      have HXR := Lib.hid (show x = readDep l s.data.toList by rw [hx]; exact HRD.out.symm)
      have HWf := Lib.hid (show Dependency_wf x by rw [hx]; exact ⟨readAtoms_wf l hn _, readAtoms_wf l hn _, zero_i64, zero_i64⟩)
      clear hx hX hWe hS1 hS2 hXl hchW hszW hgl hb2l hWl hW3 hb3 hb4 hb3' hK3 hS u0 u1 u2 u3 u4 uz q0 q1 q2 q3 q4 qz g0 g1 hWd
      obtain ⟨Y1, y1, hY1, -, -⟩ := (HX.out.1.at_ (Nat.le_refl _)).form
      obtain ⟨Y2, y2, hY2, -, -⟩ := (HX.out.2.1.at_ (Nat.le_refl _)).form
      obtain ⟨c0, c1, c2, c3, c4⟩ := HC.out
      rw [hY1] at c0
      rw [hY2] at c1
      have HY := Lib.hid (And.intro hY1 hY2)
      have hfd := specFormatDep_any (.slice A l.length a0) l (.agg #[.slice Y1 x.body.length y1, .slice Y2 x.head.length y2, .bool x.egd, .int .i64 x.left, .int .i64 x.right]) x W ((HL.out.below HBW.out (Nat.le_refl _)).more HBW.out.size) hn ⟨_, _, rfl, by rw [← HY.out.1]; exact HX.out.1.at_ (Nat.le_refl _), by rw [← HY.out.2]; exact HX.out.2.1.at_ (Nat.le_refl _)⟩ HWf.out
      obtain ⟨F, hF⟩ : ∃ F : ByteArray, F = ⟨(fmtDep l x).toArray⟩ := ⟨_, rfl⟩
      rw [← hF] at hfd
      have HF := Lib.hid hF
      clear hF hY1 hY2
      have HW2 := Lib.hid (show w.heap.size + 1 < W.heap.size by have := HGW.out; omega)
      by_cases hFs : F = s
      · by_cases h0 : s.data.toList = []
        · have HV := Lib.hid (parseDep_no HXR.out (fun h => h.2 h0))
          have he : (F.toList == s.toList) = true := by rw [hFs]; exact str_eq s
          have hse : (s.toList == []) = true := by rw [ByteArray.toList_eq, h0]; rfl
          have hne : (F.toList != s.toList) = false := by unfold bne; rw [he]; rfl
          clear h0 hFs
          go_wp2_with fail
          refine hfd.mono ?_
          rintro e w9 ⟨rfl, hb9⟩
          have hz9 := hb9.size
          have hW9 := HBW.out.trans (hb9.mono HBW.out.size)
          obtain ⟨z0, z1, z2, z3, z4, zz⟩ := HZW.out
          replace z0 := (hb9.cell (p := ⟨w.heap.size, 0, none⟩) (by have := HW2.out; show w.heap.size < _; omega)).trans z0
          replace z1 := (hb9.cell (p := ⟨w.heap.size, 1, none⟩) (by have := HW2.out; show w.heap.size < _; omega)).trans z1
          replace z2 := (hb9.cell (p := ⟨w.heap.size, 2, none⟩) (by have := HW2.out; show w.heap.size < _; omega)).trans z2
          replace z3 := (hb9.cell (p := ⟨w.heap.size, 3, none⟩) (by have := HW2.out; show w.heap.size < _; omega)).trans z3
          replace z4 := (hb9.cell (p := ⟨w.heap.size, 4, none⟩) (by have := HW2.out; show w.heap.size < _; omega)).trans z4
          replace zz := fun o => (hb9.frozen (p := ⟨w.heap.size, o, none⟩) (by have := HW2.out; show w.heap.size < _; omega)).trans (zz o)
          clear c0 c1 c2 c3 c4
          clear hfd
          go_wp2
          refine bodyPost_ret (v := .tuple #[.agg #[.slice none 0 0, .slice none 0 0, .bool false, .int .i64 0, .int .i64 0], .bool false]) (by simp [results, Tryz.results45, go_sem, z0, z1, z2, z3, z4]) rfl ⟨zeroDX, by rw [HV.out.1, HV.out.2]; rfl, by rw [HV.out.1]; exact DepOwn.none _ _ _, ?_⟩
          exact (((((hW9.setCell (p := ⟨w.heap.size, 0, none⟩) (Nat.le_refl _) _).setCell (p := ⟨w.heap.size, 1, none⟩) (Nat.le_refl _) _).setCell (p := ⟨w.heap.size, 2, none⟩) (Nat.le_refl _) _).setCell (p := ⟨w.heap.size, 3, none⟩) (Nat.le_refl _) _).setCell (p := ⟨w.heap.size, 4, none⟩) (Nat.le_refl _) _)
        · have HV := Lib.hid (parseDep_yes HXR.out (by rw [← hFs, HF.out]) h0)
          have he : (F.toList == s.toList) = true := by rw [hFs]; exact str_eq s
          have hse : (s.toList == []) = false := by rw [ByteArray.toList_eq, beq_eq_false_iff_ne]; exact h0
          have hne : (F.toList != s.toList) = false := by unfold bne; rw [he]; rfl
          clear h0 hFs
          go_wp2_with fail
          refine hfd.mono ?_
          rintro e w9 ⟨rfl, hb9⟩
          have hz9 := hb9.size
          have hW9 := HBW.out.trans (hb9.mono HBW.out.size)
          obtain ⟨z0, z1, z2, z3, z4, zz⟩ := HZW.out
          replace z0 := (hb9.cell (p := ⟨w.heap.size, 0, none⟩) (by have := HW2.out; show w.heap.size < _; omega)).trans z0
          replace z1 := (hb9.cell (p := ⟨w.heap.size, 1, none⟩) (by have := HW2.out; show w.heap.size < _; omega)).trans z1
          replace z2 := (hb9.cell (p := ⟨w.heap.size, 2, none⟩) (by have := HW2.out; show w.heap.size < _; omega)).trans z2
          replace z3 := (hb9.cell (p := ⟨w.heap.size, 3, none⟩) (by have := HW2.out; show w.heap.size < _; omega)).trans z3
          replace z4 := (hb9.cell (p := ⟨w.heap.size, 4, none⟩) (by have := HW2.out; show w.heap.size < _; omega)).trans z4
          replace zz := fun o => (hb9.frozen (p := ⟨w.heap.size, o, none⟩) (by have := HW2.out; show w.heap.size < _; omega)).trans (zz o)
          replace c0 := (hb9.cell (p := ⟨w.heap.size + 1, 0, none⟩) HW2.out).trans c0
          replace c1 := (hb9.cell (p := ⟨w.heap.size + 1, 1, none⟩) HW2.out).trans c1
          replace c2 := (hb9.cell (p := ⟨w.heap.size + 1, 2, none⟩) HW2.out).trans c2
          replace c3 := (hb9.cell (p := ⟨w.heap.size + 1, 3, none⟩) HW2.out).trans c3
          replace c4 := (hb9.cell (p := ⟨w.heap.size + 1, 4, none⟩) HW2.out).trans c4
          clear hfd
          go_wp2
          refine bodyPost_ret (v := .tuple #[.agg #[.slice Y1 x.body.length y1, .slice Y2 x.head.length y2, .bool x.egd, .int .i64 x.left, .int .i64 x.right], .bool true]) (by simp [results, Tryz.results45, go_sem, z0, z1, z2, z3, z4]) rfl ⟨X, by rw [HV.out.1, HV.out.2, HY.out.1, HY.out.2], ?_, ?_⟩
          · rw [HV.out.1]
            have hc9 : Chg (Mid w.heap.size (w.heap.size + 1)) w9 _ := (((((Chg.refl (Mid w.heap.size (w.heap.size + 1)) w9).setCell (p := ⟨w.heap.size, 0, none⟩) ⟨Nat.le_refl _, Nat.lt_succ_self _⟩ (.slice Y1 x.body.length y1)).setCell (p := ⟨w.heap.size, 1, none⟩) ⟨Nat.le_refl _, Nat.lt_succ_self _⟩ (.slice Y2 x.head.length y2)).setCell (p := ⟨w.heap.size, 2, none⟩) ⟨Nat.le_refl _, Nat.lt_succ_self _⟩ (.bool x.egd)).setCell (p := ⟨w.heap.size, 3, none⟩) ⟨Nat.le_refl _, Nat.lt_succ_self _⟩ (.int .i64 x.left)).setCell (p := ⟨w.heap.size, 4, none⟩) ⟨Nat.le_refl _, Nat.lt_succ_self _⟩ (.int .i64 x.right)
            exact (((HX.out.below hb9 (Nat.le_refl _)).chg hc9 (.inr (by omega))).mono (by omega) (by simp [World.setCell]; exact hz9))
          · exact (((((hW9.setCell (p := ⟨w.heap.size, 0, none⟩) (Nat.le_refl _) _).setCell (p := ⟨w.heap.size, 1, none⟩) (Nat.le_refl _) _).setCell (p := ⟨w.heap.size, 2, none⟩) (Nat.le_refl _) _).setCell (p := ⟨w.heap.size, 3, none⟩) (Nat.le_refl _) _).setCell (p := ⟨w.heap.size, 4, none⟩) (Nat.le_refl _) _)
      · have HV := Lib.hid (parseDep_no HXR.out (fun h => hFs (by rw [HF.out]; exact bytes_ext (by simp [h.1]))))
        have he := str_ne hFs
        have hne : (F.toList != s.toList) = true := by unfold bne; rw [he]; rfl
        clear hFs
        go_wp2_with fail
        refine hfd.mono ?_
        rintro e w9 ⟨rfl, hb9⟩
        have hz9 := hb9.size
        have hW9 := HBW.out.trans (hb9.mono HBW.out.size)
        obtain ⟨z0, z1, z2, z3, z4, zz⟩ := HZW.out
        replace z0 := (hb9.cell (p := ⟨w.heap.size, 0, none⟩) (by have := HW2.out; show w.heap.size < _; omega)).trans z0
        replace z1 := (hb9.cell (p := ⟨w.heap.size, 1, none⟩) (by have := HW2.out; show w.heap.size < _; omega)).trans z1
        replace z2 := (hb9.cell (p := ⟨w.heap.size, 2, none⟩) (by have := HW2.out; show w.heap.size < _; omega)).trans z2
        replace z3 := (hb9.cell (p := ⟨w.heap.size, 3, none⟩) (by have := HW2.out; show w.heap.size < _; omega)).trans z3
        replace z4 := (hb9.cell (p := ⟨w.heap.size, 4, none⟩) (by have := HW2.out; show w.heap.size < _; omega)).trans z4
        replace zz := fun o => (hb9.frozen (p := ⟨w.heap.size, o, none⟩) (by have := HW2.out; show w.heap.size < _; omega)).trans (zz o)
        clear c0 c1 c2 c3 c4
        clear hfd
        go_wp2
        refine bodyPost_ret (v := .tuple #[.agg #[.slice none 0 0, .slice none 0 0, .bool false, .int .i64 0, .int .i64 0], .bool false]) (by simp [results, Tryz.results45, go_sem, z0, z1, z2, z3, z4]) rfl ⟨zeroDX, by rw [HV.out.1, HV.out.2]; rfl, by rw [HV.out.1]; exact DepOwn.none _ _ _, ?_⟩
        exact (((((hW9.setCell (p := ⟨w.heap.size, 0, none⟩) (Nat.le_refl _) _).setCell (p := ⟨w.heap.size, 1, none⟩) (Nat.le_refl _) _).setCell (p := ⟨w.heap.size, 2, none⟩) (Nat.le_refl _) _).setCell (p := ⟨w.heap.size, 3, none⟩) (Nat.le_refl _) _).setCell (p := ⟨w.heap.size, 4, none⟩) (Nat.le_refl _) _)
    · have HRD := Lib.hid (show readDep l s.data.toList = noDep from HRest.out.trans (readTgd_no (fun e => hp2 (by have := congrArg List.length HLP.out; rw [e] at this; simpa [dataOf] using this))))
      have hbp : ((LP.length : Int) == 2) = false := beq_eq_false_iff_ne.2 (by omega)
      clear hp2
      obtain ⟨W, rfl⟩ : ∃ W, W = w2 := ⟨_, rfl⟩
      obtain ⟨x, hx⟩ : ∃ x, x = noDep := ⟨_, rfl⟩
      obtain ⟨X, hX⟩ : ∃ X, X = zeroDX := ⟨_, rfl⟩
      have HXR := Lib.hid (show x = readDep l s.data.toList by rw [hx]; exact HRD.out.symm)
      have HC := Lib.hid (show W.cell? ⟨w.heap.size + 1, 0, none⟩ = some X.1.1 ∧ W.cell? ⟨w.heap.size + 1, 1, none⟩ = some X.2.1 ∧ W.cell? ⟨w.heap.size + 1, 2, none⟩ = some (.bool x.egd) ∧ W.cell? ⟨w.heap.size + 1, 3, none⟩ = some (.int .i64 x.left) ∧ W.cell? ⟨w.heap.size + 1, 4, none⟩ = some (.int .i64 x.right) by
        rw [hx, hX]
        exact ⟨HRR.out.1, HRR.out.2.1, HRR.out.2.2.1, HRR.out.2.2.2.1, HRR.out.2.2.2.2.1⟩)
      have HZW := HZ
      have HX := Lib.hid (show DepOwn (w.heap.size + 2) W.heap.size X x W by rw [hx, hX]; exact DepOwn.none _ _ _)
      have HWf := Lib.hid (show Dependency_wf x by rw [hx]; exact ⟨fun i hi => absurd hi (by show ¬ i < 0; omega), fun i hi => absurd hi (by show ¬ i < 0; omega), ⟨by decide, by decide⟩, ⟨by decide, by decide⟩⟩)
      have HBW := HWw
      have HGW := Lib.hid (show w.heap.size + 2 ≤ W.heap.size by omega)
      clear hx hX HZ HRR HWw
      obtain ⟨Y1, y1, hY1, -, -⟩ := (HX.out.1.at_ (Nat.le_refl _)).form
      obtain ⟨Y2, y2, hY2, -, -⟩ := (HX.out.2.1.at_ (Nat.le_refl _)).form
      obtain ⟨c0, c1, c2, c3, c4⟩ := HC.out
      rw [hY1] at c0
      rw [hY2] at c1
      have HY := Lib.hid (And.intro hY1 hY2)
      have hfd := specFormatDep_any (.slice A l.length a0) l (.agg #[.slice Y1 x.body.length y1, .slice Y2 x.head.length y2, .bool x.egd, .int .i64 x.left, .int .i64 x.right]) x W ((HL.out.below HBW.out (Nat.le_refl _)).more HBW.out.size) hn ⟨_, _, rfl, by rw [← HY.out.1]; exact HX.out.1.at_ (Nat.le_refl _), by rw [← HY.out.2]; exact HX.out.2.1.at_ (Nat.le_refl _)⟩ HWf.out
      obtain ⟨F, hF⟩ : ∃ F : ByteArray, F = ⟨(fmtDep l x).toArray⟩ := ⟨_, rfl⟩
      rw [← hF] at hfd
      have HF := Lib.hid hF
      clear hF hY1 hY2
      have HW2 := Lib.hid (show w.heap.size + 1 < W.heap.size by have := HGW.out; omega)
      by_cases hFs : F = s
      · by_cases h0 : s.data.toList = []
        · have HV := Lib.hid (parseDep_no HXR.out (fun h => h.2 h0))
          have he : (F.toList == s.toList) = true := by rw [hFs]; exact str_eq s
          have hse : (s.toList == []) = true := by rw [ByteArray.toList_eq, h0]; rfl
          have hne : (F.toList != s.toList) = false := by unfold bne; rw [he]; rfl
          clear h0 hFs
          go_wp2_with fail
          refine hfd.mono ?_
          rintro e w9 ⟨rfl, hb9⟩
          have hz9 := hb9.size
          have hW9 := HBW.out.trans (hb9.mono HBW.out.size)
          obtain ⟨z0, z1, z2, z3, z4, zz⟩ := HZW.out
          replace z0 := (hb9.cell (p := ⟨w.heap.size, 0, none⟩) (by have := HW2.out; show w.heap.size < _; omega)).trans z0
          replace z1 := (hb9.cell (p := ⟨w.heap.size, 1, none⟩) (by have := HW2.out; show w.heap.size < _; omega)).trans z1
          replace z2 := (hb9.cell (p := ⟨w.heap.size, 2, none⟩) (by have := HW2.out; show w.heap.size < _; omega)).trans z2
          replace z3 := (hb9.cell (p := ⟨w.heap.size, 3, none⟩) (by have := HW2.out; show w.heap.size < _; omega)).trans z3
          replace z4 := (hb9.cell (p := ⟨w.heap.size, 4, none⟩) (by have := HW2.out; show w.heap.size < _; omega)).trans z4
          replace zz := fun o => (hb9.frozen (p := ⟨w.heap.size, o, none⟩) (by have := HW2.out; show w.heap.size < _; omega)).trans (zz o)
          clear c0 c1 c2 c3 c4
          clear hfd
          go_wp2
          refine bodyPost_ret (v := .tuple #[.agg #[.slice none 0 0, .slice none 0 0, .bool false, .int .i64 0, .int .i64 0], .bool false]) (by simp [results, Tryz.results45, go_sem, z0, z1, z2, z3, z4]) rfl ⟨zeroDX, by rw [HV.out.1, HV.out.2]; rfl, by rw [HV.out.1]; exact DepOwn.none _ _ _, ?_⟩
          exact (((((hW9.setCell (p := ⟨w.heap.size, 0, none⟩) (Nat.le_refl _) _).setCell (p := ⟨w.heap.size, 1, none⟩) (Nat.le_refl _) _).setCell (p := ⟨w.heap.size, 2, none⟩) (Nat.le_refl _) _).setCell (p := ⟨w.heap.size, 3, none⟩) (Nat.le_refl _) _).setCell (p := ⟨w.heap.size, 4, none⟩) (Nat.le_refl _) _)
        · have HV := Lib.hid (parseDep_yes HXR.out (by rw [← hFs, HF.out]) h0)
          have he : (F.toList == s.toList) = true := by rw [hFs]; exact str_eq s
          have hse : (s.toList == []) = false := by rw [ByteArray.toList_eq, beq_eq_false_iff_ne]; exact h0
          have hne : (F.toList != s.toList) = false := by unfold bne; rw [he]; rfl
          clear h0 hFs
          go_wp2_with fail
          refine hfd.mono ?_
          rintro e w9 ⟨rfl, hb9⟩
          have hz9 := hb9.size
          have hW9 := HBW.out.trans (hb9.mono HBW.out.size)
          obtain ⟨z0, z1, z2, z3, z4, zz⟩ := HZW.out
          replace z0 := (hb9.cell (p := ⟨w.heap.size, 0, none⟩) (by have := HW2.out; show w.heap.size < _; omega)).trans z0
          replace z1 := (hb9.cell (p := ⟨w.heap.size, 1, none⟩) (by have := HW2.out; show w.heap.size < _; omega)).trans z1
          replace z2 := (hb9.cell (p := ⟨w.heap.size, 2, none⟩) (by have := HW2.out; show w.heap.size < _; omega)).trans z2
          replace z3 := (hb9.cell (p := ⟨w.heap.size, 3, none⟩) (by have := HW2.out; show w.heap.size < _; omega)).trans z3
          replace z4 := (hb9.cell (p := ⟨w.heap.size, 4, none⟩) (by have := HW2.out; show w.heap.size < _; omega)).trans z4
          replace zz := fun o => (hb9.frozen (p := ⟨w.heap.size, o, none⟩) (by have := HW2.out; show w.heap.size < _; omega)).trans (zz o)
          replace c0 := (hb9.cell (p := ⟨w.heap.size + 1, 0, none⟩) HW2.out).trans c0
          replace c1 := (hb9.cell (p := ⟨w.heap.size + 1, 1, none⟩) HW2.out).trans c1
          replace c2 := (hb9.cell (p := ⟨w.heap.size + 1, 2, none⟩) HW2.out).trans c2
          replace c3 := (hb9.cell (p := ⟨w.heap.size + 1, 3, none⟩) HW2.out).trans c3
          replace c4 := (hb9.cell (p := ⟨w.heap.size + 1, 4, none⟩) HW2.out).trans c4
          clear hfd
          go_wp2
          refine bodyPost_ret (v := .tuple #[.agg #[.slice Y1 x.body.length y1, .slice Y2 x.head.length y2, .bool x.egd, .int .i64 x.left, .int .i64 x.right], .bool true]) (by simp [results, Tryz.results45, go_sem, z0, z1, z2, z3, z4]) rfl ⟨X, by rw [HV.out.1, HV.out.2, HY.out.1, HY.out.2], ?_, ?_⟩
          · rw [HV.out.1]
            have hc9 : Chg (Mid w.heap.size (w.heap.size + 1)) w9 _ := (((((Chg.refl (Mid w.heap.size (w.heap.size + 1)) w9).setCell (p := ⟨w.heap.size, 0, none⟩) ⟨Nat.le_refl _, Nat.lt_succ_self _⟩ (.slice Y1 x.body.length y1)).setCell (p := ⟨w.heap.size, 1, none⟩) ⟨Nat.le_refl _, Nat.lt_succ_self _⟩ (.slice Y2 x.head.length y2)).setCell (p := ⟨w.heap.size, 2, none⟩) ⟨Nat.le_refl _, Nat.lt_succ_self _⟩ (.bool x.egd)).setCell (p := ⟨w.heap.size, 3, none⟩) ⟨Nat.le_refl _, Nat.lt_succ_self _⟩ (.int .i64 x.left)).setCell (p := ⟨w.heap.size, 4, none⟩) ⟨Nat.le_refl _, Nat.lt_succ_self _⟩ (.int .i64 x.right)
            exact (((HX.out.below hb9 (Nat.le_refl _)).chg hc9 (.inr (by omega))).mono (by omega) (by simp [World.setCell]; exact hz9))
          · exact (((((hW9.setCell (p := ⟨w.heap.size, 0, none⟩) (Nat.le_refl _) _).setCell (p := ⟨w.heap.size, 1, none⟩) (Nat.le_refl _) _).setCell (p := ⟨w.heap.size, 2, none⟩) (Nat.le_refl _) _).setCell (p := ⟨w.heap.size, 3, none⟩) (Nat.le_refl _) _).setCell (p := ⟨w.heap.size, 4, none⟩) (Nat.le_refl _) _)
      · have HV := Lib.hid (parseDep_no HXR.out (fun h => hFs (by rw [HF.out]; exact bytes_ext (by simp [h.1]))))
        have he := str_ne hFs
        have hne : (F.toList != s.toList) = true := by unfold bne; rw [he]; rfl
        clear hFs
        go_wp2_with fail
        refine hfd.mono ?_
        rintro e w9 ⟨rfl, hb9⟩
        have hz9 := hb9.size
        have hW9 := HBW.out.trans (hb9.mono HBW.out.size)
        obtain ⟨z0, z1, z2, z3, z4, zz⟩ := HZW.out
        replace z0 := (hb9.cell (p := ⟨w.heap.size, 0, none⟩) (by have := HW2.out; show w.heap.size < _; omega)).trans z0
        replace z1 := (hb9.cell (p := ⟨w.heap.size, 1, none⟩) (by have := HW2.out; show w.heap.size < _; omega)).trans z1
        replace z2 := (hb9.cell (p := ⟨w.heap.size, 2, none⟩) (by have := HW2.out; show w.heap.size < _; omega)).trans z2
        replace z3 := (hb9.cell (p := ⟨w.heap.size, 3, none⟩) (by have := HW2.out; show w.heap.size < _; omega)).trans z3
        replace z4 := (hb9.cell (p := ⟨w.heap.size, 4, none⟩) (by have := HW2.out; show w.heap.size < _; omega)).trans z4
        replace zz := fun o => (hb9.frozen (p := ⟨w.heap.size, o, none⟩) (by have := HW2.out; show w.heap.size < _; omega)).trans (zz o)
        clear c0 c1 c2 c3 c4
        clear hfd
        go_wp2
        refine bodyPost_ret (v := .tuple #[.agg #[.slice none 0 0, .slice none 0 0, .bool false, .int .i64 0, .int .i64 0], .bool false]) (by simp [results, Tryz.results45, go_sem, z0, z1, z2, z3, z4]) rfl ⟨zeroDX, by rw [HV.out.1, HV.out.2]; rfl, by rw [HV.out.1]; exact DepOwn.none _ _ _, ?_⟩
        exact (((((hW9.setCell (p := ⟨w.heap.size, 0, none⟩) (Nat.le_refl _) _).setCell (p := ⟨w.heap.size, 1, none⟩) (Nat.le_refl _) _).setCell (p := ⟨w.heap.size, 2, none⟩) (Nat.le_refl _) _).setCell (p := ⟨w.heap.size, 3, none⟩) (Nat.le_refl _) _).setCell (p := ⟨w.heap.size, 4, none⟩) (Nat.le_refl _) _)
theorem specParseDependency_c (v : Value) (l : List Rel) (s : ByteArray) (w : World) (h : RelationS_at w w.heap.size v l) (_ : RelationS_wf l) (hn : RelationS_sz l ≤ 1048576) (hs : s.size ≤ 1048576) :
    Calls Tryz.prog 45 #[v, .string s] w fun e w' => ∃ r0, e = .returned (.tuple #[r0, .bool (ParseDependency_ok l s)]) ∧ Dependency_at w' w'.heap.size r0 (ParseDependency_r0 l s) ∧ Below w.heap.size w w' :=
  (specParseDep_any v l s w h (by unfold RelationS_sz at hn; omega) hs).mono fun _ _ hg => by
    obtain ⟨r0, he, ho, hb⟩ := hg.out
    exact ⟨r0, he, ho.at_ (Nat.le_refl _), hb⟩

end Go.Proofs.YtmecdjincmkofaaGreatDoor
