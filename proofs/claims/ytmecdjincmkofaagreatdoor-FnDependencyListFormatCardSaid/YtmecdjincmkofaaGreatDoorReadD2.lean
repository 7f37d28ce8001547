/-
  Walks and plain lemmas for the laws of this seat: what single Go functions return, for every argument.
-/
import Derived.Test.YtmecdjincmkofaaGreatDoorReadI2
import Derived.Test.YtmecdjincmkofaaGreatDoorDepVI
namespace Go.Proofs.YtmecdjincmkofaaGreatDoor
open Go.RowKit

theorem DepOwn.vals {B C : Nat} {X : DepX} {x : Dep} {w : World} (h : DepOwn B C X x w) : ∃ Y1 y1 Y2 y2, X.1.1 = .slice Y1 x.body.length y1 ∧ X.2.1 = .slice Y2 x.head.length y2 := by
  obtain ⟨Y1, y1, h1, -, -⟩ := (h.1.at_ (Nat.le_refl _)).form
  obtain ⟨Y2, y2, h2, -, -⟩ := (h.2.1.at_ (Nat.le_refl _)).form
  exact ⟨Y1, y1, Y2, y2, h1, h2⟩
set_option maxHeartbeats 1600000 in
set_option maxRecDepth 100000 in
theorem implReadDep_any (v : Value) (l : List Rel) (s : ByteArray) (w : World) (hl : RelsAt w w.heap.size v l) (hs : s.size ≤ 1048576) (ht : Tab w) (hv : ErrVars w) (hm : MaxL w) :
    Calls Tryz.prog 126 #[v, .string s] w (GivesRaw (parseDep l s.data.toList) w) := by
  have HL := Lib.hid hl
  obtain ⟨A, a0, rfl, -⟩ := hl
  obtain ⟨E, hEq⟩ : ∃ E, E = ((w.alloc (.cells #[.slice none 0 0, .slice none 0 0, .bool false, .int .i64 0, .int .i64 0] 37)).alloc (.cells #[.slice none 0 0, .slice none 0 0, .bool false, .int .i64 0, .int .i64 0] 37)) := ⟨_, rfl⟩
  have hE : Below w.heap.size w E := by rw [hEq]; exact below_more (below_more (Below.refl _ _) _) _
  have HEz := Lib.hid (show E.heap.size = w.heap.size + 2 by rw [hEq]; simp)
  have HA := fun o => Lib.hid (show E.cell? ⟨w.heap.size, o, none⟩ = (#[.slice none 0 0, .slice none 0 0, .bool false, .int .i64 0, .int .i64 0] : Array Value)[o]? by rw [hEq]; rcases (show o = 0 ∨ o = 1 ∨ o = 2 ∨ o = 3 ∨ o = 4 ∨ 5 ≤ o by omega) with rfl | rfl | rfl | rfl | rfl | h <;> simp [go_sem])
  have HR := fun o => Lib.hid (show E.cell? ⟨w.heap.size + 1, o, none⟩ = (#[.slice none 0 0, .slice none 0 0, .bool false, .int .i64 0, .int .i64 0] : Array Value)[o]? by rw [hEq]; rcases (show o = 0 ∨ o = 1 ∨ o = 2 ∨ o = 3 ∨ o = 4 ∨ 5 ≤ o by omega) with rfl | rfl | rfl | rfl | rfl | h <;> simp [go_sem])
  have HAz := Lib.hid (show ∀ o, E.frozen? ⟨w.heap.size, o, none⟩ = false by intro o; rw [hEq]; simp [go_sem])
  have HRz := Lib.hid (show ∀ o, E.frozen? ⟨w.heap.size + 1, o, none⟩ = false by intro o; rw [hEq]; simp [go_sem])
  have hcut := cutP_any s 62 E hs (hm.below hE)
  have HRaw := Lib.hid (show implRaw l s.data.toList = if (Lib.cut s.data.toList [62]).2.2 = true then implTgd l (Lib.cut s.data.toList [62]).1 (Lib.cut s.data.toList [62]).2.1 else implEgd l (Lib.cut s.data.toList [61]).1 (Lib.cut s.data.toList [61]).2.1 from rfl)
  have h3 : s.data.toList.length = s.size := by simp
  have hcl := cut_le1 62 s.data.toList
  have hcl2 := cut_le s.data.toList [62]
  generalize (Lib.cut s.data.toList [62]).1 = a at *
  generalize (Lib.cut s.data.toList [62]).2.1 = b at *
  generalize (Lib.cut s.data.toList [62]).2.2 = fd at *
  have hsa : ByteArray.size ⟨a.toArray⟩ ≤ 1048576 := by rw [size_mk]; omega
  have hsb : ByteArray.size ⟨b.toArray⟩ ≤ 1048576 := by rw [size_mk]; omega
  clear h3 hcl hcl2
  rw [hEq] at hcut
  go_enter Tryz.func126, Tryz.ntmps126
  go_wp2_with fail
  refine hcut.mono ?_
  rw [← hEq]
  clear hEq hcut
  rintro e w2 ⟨rfl, hb2⟩
  have hz2 := hb2.size
  have HWw := Lib.hid (hE.trans (hb2.mono hE.size))
  have hg2 : w.heap.size + 1 < w2.heap.size := by have := HEz.out; omega
  have R := fun o => (hb2.cell (p := ⟨w.heap.size + 1, o, none⟩) (by show w.heap.size + 1 < _; rw [HEz.out]; omega)).trans (HR o).out
  have Z := fun o => (hb2.cell (p := ⟨w.heap.size, o, none⟩) (by show w.heap.size < _; rw [HEz.out]; omega)).trans (HA o).out
  have rz := fun o => (hb2.frozen (p := ⟨w.heap.size + 1, o, none⟩) (by show w.heap.size + 1 < _; rw [HEz.out]; omega)).trans (HRz.out o)
  have zz := fun o => (hb2.frozen (p := ⟨w.heap.size, o, none⟩) (by show w.heap.size < _; rw [HEz.out]; omega)).trans (HAz.out o)
  have r0 := R 0
  have r1 := R 1
  have r2 := R 2
  have r3 := R 3
  have r4 := R 4
  have z0 := Z 0
  have z1 := Z 1
  have z2 := Z 2
  have z3 := Z 3
  have z4 := Z 4
  simp at r0 r1 r2 r3 r4 z0 z1 z2 z3 z4
  have HZ := Lib.hid (And.intro z0 (And.intro z1 (And.intro z2 (And.intro z3 (And.intro z4 zz)))))
  have HRR := Lib.hid (And.intro r0 (And.intro r1 (And.intro r2 (And.intro r3 (And.intro r4 rz)))))
  clear R Z HA HR HAz HRz rz zz r0 r1 r2 r3 r4 z0 z1 z2 z3 z4 hb2 hz2
  cases fd with
  | false =>
    have HRE := Lib.hid (show implRaw l s.data.toList = implEgd l (Lib.cut s.data.toList [61]).1 (Lib.cut s.data.toList [61]).2.1 from HRaw.out.trans (if_neg (by simp)))
    have hre := implReadEquality_any (.slice A l.length a0) l s w2 ((HL.out.below HWw.out (Nat.le_refl _)).more HWw.out.size) hs (ht.below HWw.out) (hv.below HWw.out) (hm.below HWw.out)
    clear HRaw
    go_wp2_with fail
    refine hre.mono ?_
    rintro e w3 ⟨hb3, (⟨x, X, hi, he, hXl⟩ | ⟨hi, rfl⟩)⟩
    · obtain ⟨Y1, y1, Y2, y2, hv0, hv1⟩ := hXl.vals
      rw [DVal, hv0, hv1] at he
      subst he
      have HV0 := Lib.hid hv0
      have HV1 := Lib.hid hv1
      have HRW := Lib.hid (HRE.out.trans hi)
      have hW3 := HWw.out.trans (hb3.mono HWw.out.size)
      clear hv0 hv1 hi hre HRE
      have hzl := hb3.size
      obtain ⟨q0, q1, q2, q3, q4, qz⟩ := HRR.out
      replace q0 := (hb3.cell (p := ⟨w.heap.size + 1, 0, none⟩) hg2).trans q0
      replace q1 := (hb3.cell (p := ⟨w.heap.size + 1, 1, none⟩) hg2).trans q1
      replace q2 := (hb3.cell (p := ⟨w.heap.size + 1, 2, none⟩) hg2).trans q2
      replace q3 := (hb3.cell (p := ⟨w.heap.size + 1, 3, none⟩) hg2).trans q3
      replace q4 := (hb3.cell (p := ⟨w.heap.size + 1, 4, none⟩) hg2).trans q4
      replace qz := fun o => (hb3.frozen (p := ⟨w.heap.size + 1, o, none⟩) hg2).trans (qz o)
      obtain ⟨W, hWe⟩ : ∃ W, W = (((((w3.setCell ⟨w.heap.size + 1, 0, none⟩ (.slice Y1 x.body.length y1)).setCell ⟨w.heap.size + 1, 1, none⟩ (.slice Y2 x.head.length y2)).setCell ⟨w.heap.size + 1, 2, none⟩ (.bool x.egd)).setCell ⟨w.heap.size + 1, 3, none⟩ (.int .i64 x.left)).setCell ⟨w.heap.size + 1, 4, none⟩ (.int .i64 x.right)) := ⟨_, rfl⟩
      have hchW : Chg (Mid (w.heap.size + 1) (w.heap.size + 1 + 1)) w3 W := by rw [hWe]; exact chg_mid (chg_mid (chg_mid (chg_mid (chg_mid (Chg.refl _ _) _ _) _ _) _ _) _ _) _ _
      have HBW := Lib.hid (show Below w.heap.size w W by rw [hWe]; exact (((((hW3.setCell (p := ⟨w.heap.size + 1, 0, none⟩) (Nat.le_succ _) _).setCell (p := ⟨w.heap.size + 1, 1, none⟩) (Nat.le_succ _) _).setCell (p := ⟨w.heap.size + 1, 2, none⟩) (Nat.le_succ _) _).setCell (p := ⟨w.heap.size + 1, 3, none⟩) (Nat.le_succ _) _).setCell (p := ⟨w.heap.size + 1, 4, none⟩) (Nat.le_succ _) _))
      have hszW : W.heap.size = w3.heap.size := by rw [hWe]; simp [World.setCell]
      have HGW := Lib.hid (show w.heap.size + 2 ≤ W.heap.size by rw [hszW]; omega)
      have HC := Lib.hid (show W.cell? ⟨w.heap.size + 1, 0, none⟩ = some (.slice Y1 x.body.length y1) ∧ W.cell? ⟨w.heap.size + 1, 1, none⟩ = some (.slice Y2 x.head.length y2) ∧ W.cell? ⟨w.heap.size + 1, 2, none⟩ = some (.bool x.egd) ∧ W.cell? ⟨w.heap.size + 1, 3, none⟩ = some (.int .i64 x.left) ∧ W.cell? ⟨w.heap.size + 1, 4, none⟩ = some (.int .i64 x.right) by
        rw [hWe]
        exact ⟨by simp [go_sem, q0], by simp [go_sem, q1], by simp [go_sem, q2], by simp [go_sem, q3], by simp [go_sem, q4]⟩)
      obtain ⟨u0, u1, u2, u3, u4, uz⟩ := HZ.out
      have HZW := Lib.hid (show W.cell? ⟨w.heap.size, 0, none⟩ = some (.slice none 0 0) ∧ W.cell? ⟨w.heap.size, 1, none⟩ = some (.slice none 0 0) ∧ W.cell? ⟨w.heap.size, 2, none⟩ = some (.bool false) ∧ W.cell? ⟨w.heap.size, 3, none⟩ = some (.int .i64 0) ∧ W.cell? ⟨w.heap.size, 4, none⟩ = some (.int .i64 0) ∧ ∀ o, W.frozen? ⟨w.heap.size, o, none⟩ = false from
        ⟨(hchW.cell (by omega) (fun h => by have := h.1; omega)).trans ((hb3.cell (p := ⟨w.heap.size, 0, none⟩) (by show w.heap.size < _; omega)).trans u0), (hchW.cell (by omega) (fun h => by have := h.1; omega)).trans ((hb3.cell (p := ⟨w.heap.size, 1, none⟩) (by show w.heap.size < _; omega)).trans u1), (hchW.cell (by omega) (fun h => by have := h.1; omega)).trans ((hb3.cell (p := ⟨w.heap.size, 2, none⟩) (by show w.heap.size < _; omega)).trans u2), (hchW.cell (by omega) (fun h => by have := h.1; omega)).trans ((hb3.cell (p := ⟨w.heap.size, 3, none⟩) (by show w.heap.size < _; omega)).trans u3), (hchW.cell (by omega) (fun h => by have := h.1; omega)).trans ((hb3.cell (p := ⟨w.heap.size, 4, none⟩) (by show w.heap.size < _; omega)).trans u4), fun o => (hchW.frozen (by omega) (fun h => by have := h.1; omega)).trans ((hb3.frozen (p := ⟨w.heap.size, o, none⟩) (by show w.heap.size < _; omega)).trans (uz o))⟩)
      have HX := Lib.hid (show DepOwn (w.heap.size + 2) W.heap.size X x W from ((hXl.mono (by omega) (Nat.le_of_eq hszW.symm)).chg hchW (.inr (Nat.le_refl _))))
      have hvd := fun (q : Bool) (hq : depOk l x = q) => implIsValidDependency_z l x q hq (.slice A l.length a0) (.agg #[.slice Y1 x.body.length y1, .slice Y2 x.head.length y2, .bool x.egd, .int .i64 x.left, .int .i64 x.right]) W ((HL.out.below HBW.out (Nat.le_refl _)).more HBW.out.size) ⟨_, _, rfl, by rw [← HV0.out]; exact HX.out.1.at_ (Nat.le_refl _), by rw [← HV1.out]; exact HX.out.2.1.at_ (Nat.le_refl _)⟩
      have HW2 := Lib.hid (show w.heap.size + 1 < W.heap.size by have := HGW.out; omega)
      clear hXl hchW hszW u0 u1 u2 u3 u4 uz hb3 hW3 hzl
      cases hok : depOk l x with
      | false =>
        have HP := Lib.hid (implDep_not HRW.out hok)
        replace hvd := hvd false hok
        clear hok
        rw [hWe] at hvd
        go_wp2_with fail
        refine hvd.mono ?_
        rw [← hWe]
        clear hWe hvd
        rintro e w9 ⟨rfl, hb9⟩
        go_wp2
        exact ⟨rfl, HBW.out.trans (hb9.mono HBW.out.size), .inr ⟨HP.out, rfl⟩⟩
      | true =>
        have HP := Lib.hid (implDep_yes HRW.out hok)
        replace hvd := hvd true hok
        clear hok
        rw [hWe] at hvd
        go_wp2_with fail
        refine hvd.mono ?_
        rw [← hWe]
        clear hWe hvd q0 q1 q2 q3 q4 qz
        rintro e w9 ⟨rfl, hb9⟩
        have hz9 := hb9.size
        have hW9 := HBW.out.trans (hb9.mono HBW.out.size)
        obtain ⟨c0, c1, c2, c3, c4⟩ := HC.out
        obtain ⟨z0, z1, z2, z3, z4, zz⟩ := HZW.out
        replace z0 := (hb9.cell (p := ⟨w.heap.size, 0, none⟩) (by have := HW2.out; show w.heap.size < _; omega)).trans z0
        replace z1 := (hb9.cell (p := ⟨w.heap.size, 1, none⟩) (by have := HW2.out; show w.heap.size < _; omega)).trans z1
        replace z2 := (hb9.cell (p := ⟨w.heap.size, 2, none⟩) (by have := HW2.out; show w.heap.size < _; omega)).trans z2
        replace z3 := (hb9.cell (p := ⟨w.heap.size, 3, none⟩) (by have := HW2.out; show w.heap.size < _; omega)).trans z3
        replace z4 := (hb9.cell (p := ⟨w.heap.size, 4, none⟩) (by have := HW2.out; show w.heap.size < _; omega)).trans z4
        replace zz := fun o => (hb9.frozen (p := ⟨w.heap.size, o, none⟩) (by have := HW2.out; show w.heap.size < _; omega)).trans (zz o)
        replace c0 := (hb9.cell (p := ⟨w.heap.size + 1, 0, none⟩) HW2.out).trans c0
        replace c1 := (hb9.cell (p := ⟨w.heap.size + 1, 1, none⟩) HW2.out).trans c1
        replace c2 := (hb9.cell (p := ⟨w.heap.size + 1, 2, none⟩) HW2.out).trans c2
        replace c3 := (hb9.cell (p := ⟨w.heap.size + 1, 3, none⟩) HW2.out).trans c3
        replace c4 := (hb9.cell (p := ⟨w.heap.size + 1, 4, none⟩) HW2.out).trans c4
        go_wp2
        refine bodyPost_ret (v := .agg #[.slice Y1 x.body.length y1, .slice Y2 x.head.length y2, .bool x.egd, .int .i64 x.left, .int .i64 x.right]) (by simp [results, Tryz.results126, go_sem, z0, z1, z2, z3, z4]) rfl ⟨?_, .inl ⟨x, X, HP.out, by unfold DVal; rw [HV0.out, HV1.out], ?_⟩⟩
        · exact (((((hW9.setCell (p := ⟨w.heap.size, 0, none⟩) (Nat.le_refl _) _).setCell (p := ⟨w.heap.size, 1, none⟩) (Nat.le_refl _) _).setCell (p := ⟨w.heap.size, 2, none⟩) (Nat.le_refl _) _).setCell (p := ⟨w.heap.size, 3, none⟩) (Nat.le_refl _) _).setCell (p := ⟨w.heap.size, 4, none⟩) (Nat.le_refl _) _)
        · have hc9 := chg_mid (chg_mid (chg_mid (chg_mid (chg_mid (Chg.refl (Mid w.heap.size (w.heap.size + 1)) w9) 0 (.slice Y1 x.body.length y1)) 1 (.slice Y2 x.head.length y2)) 2 (.bool x.egd)) 3 (.int .i64 x.left)) 4 (.int .i64 x.right)
          exact (((HX.out.below hb9 (Nat.le_refl _)).chg hc9 (.inr (by omega))).mono (by omega) (by simp [World.setCell]; exact hz9))
    · exact ⟨rfl, HWw.out.trans (hb3.mono HWw.out.size), .inr ⟨implDep_none (HRE.out.trans hi), rfl⟩⟩
  | true =>
    have HRE := Lib.hid (show implRaw l s.data.toList = implTgd l a b from HRaw.out.trans (if_pos rfl))
    have hra := fun w' (hb : Below w.heap.size w w') => implReadAtoms_any (.slice A l.length a0) l ⟨a.toArray⟩ w' ((HL.out.below hb (Nat.le_refl _)).more hb.size) hsa (ht.below hb) (hv.below hb) (hm.below hb)
    have hrb := fun w' (hb : Below w.heap.size w w') => implReadAtoms_any (.slice A l.length a0) l ⟨b.toArray⟩ w' ((HL.out.below hb (Nat.le_refl _)).more hb.size) hsb (ht.below hb) (hv.below hb) (hm.below hb)
    clear HRaw
    go_wp2_with fail
    refine (hra _ HWw.out).mono ?_
    rintro e w3 ⟨hb3, (⟨ts, u, Vs, hi, -, rfl, hO⟩ | ⟨hi, rfl⟩)⟩
    · obtain ⟨Y1, y1, rfl, -, -⟩ := (hO.at_ (Nat.le_refl _)).form
      have hz3 := hb3.size
      have hW3 := HWw.out.trans (hb3.mono HWw.out.size)
      go_wp2_with fail
      refine (hrb _ hW3).mono ?_
      rintro e w4 ⟨hb4, (⟨ts2, u, Vs2, hi2, -, rfl, hO2⟩ | ⟨hi2, rfl⟩)⟩
      · obtain ⟨Y2, y2, rfl, -, -⟩ := (hO2.at_ (Nat.le_refl _)).form
        have hz4 := hb4.size
        have hW4 := hW3.trans (hb4.mono hW3.size)
        have hb4w := hb3.trans (hb4.mono hz3)
        obtain ⟨X, hX⟩ : ∃ X : DepX, X = ((.slice Y1 ts.length y1, Vs), (.slice Y2 ts2.length y2, Vs2)) := ⟨_, rfl⟩
        have hXl : DepOwn w2.heap.size w4.heap.size X ⟨ts, ts2, false, 0, 0⟩ w4 := by
          rw [hX]
          exact ⟨(hO.below hb4 (Nat.le_refl _)).mono (Nat.le_refl _) hz4, hO2.mono hz3 (Nat.le_refl _), fun q h1 h2 => by have := (hO.foot q h1).2; have := (hO2.foot q h2).1; omega⟩
        have HRW := Lib.hid (show implRaw l s.data.toList = some ⟨ts, ts2, false, 0, 0⟩ by rw [HRE.out]; unfold implTgd; have h1 : implAtoms l a = some ts := hi; have h2 : implAtoms l b = some ts2 := hi2; rw [h1, h2])
        have HV0 := Lib.hid (show X.1.1 = .slice Y1 ts.length y1 by rw [hX])
        have HV1 := Lib.hid (show X.2.1 = .slice Y2 ts2.length y2 by rw [hX])
        clear hi hi2 hO hO2 hra hrb HRE hX hW3
        have hzl := hb4w.size
        obtain ⟨q0, q1, q2, q3, q4, qz⟩ := HRR.out
        replace q0 := (hb4w.cell (p := ⟨w.heap.size + 1, 0, none⟩) hg2).trans q0
        replace q1 := (hb4w.cell (p := ⟨w.heap.size + 1, 1, none⟩) hg2).trans q1
        replace q2 := (hb4w.cell (p := ⟨w.heap.size + 1, 2, none⟩) hg2).trans q2
        replace q3 := (hb4w.cell (p := ⟨w.heap.size + 1, 3, none⟩) hg2).trans q3
        replace q4 := (hb4w.cell (p := ⟨w.heap.size + 1, 4, none⟩) hg2).trans q4
        replace qz := fun o => (hb4w.frozen (p := ⟨w.heap.size + 1, o, none⟩) hg2).trans (qz o)
        obtain ⟨W, hWe⟩ : ∃ W, W = (((((w4.setCell ⟨w.heap.size + 1, 0, none⟩ (.slice Y1 ts.length y1)).setCell ⟨w.heap.size + 1, 1, none⟩ (.slice Y2 ts2.length y2)).setCell ⟨w.heap.size + 1, 2, none⟩ (.bool false)).setCell ⟨w.heap.size + 1, 3, none⟩ (.int .i64 0)).setCell ⟨w.heap.size + 1, 4, none⟩ (.int .i64 0)) := ⟨_, rfl⟩
        have hchW : Chg (Mid (w.heap.size + 1) (w.heap.size + 1 + 1)) w4 W := by rw [hWe]; exact chg_mid (chg_mid (chg_mid (chg_mid (chg_mid (Chg.refl _ _) _ _) _ _) _ _) _ _) _ _
        have HBW := Lib.hid (show Below w.heap.size w W by rw [hWe]; exact (((((hW4.setCell (p := ⟨w.heap.size + 1, 0, none⟩) (Nat.le_succ _) _).setCell (p := ⟨w.heap.size + 1, 1, none⟩) (Nat.le_succ _) _).setCell (p := ⟨w.heap.size + 1, 2, none⟩) (Nat.le_succ _) _).setCell (p := ⟨w.heap.size + 1, 3, none⟩) (Nat.le_succ _) _).setCell (p := ⟨w.heap.size + 1, 4, none⟩) (Nat.le_succ _) _))
        have hszW : W.heap.size = w4.heap.size := by rw [hWe]; simp [World.setCell]
        have HGW := Lib.hid (show w.heap.size + 2 ≤ W.heap.size by rw [hszW]; omega)
        have HC := Lib.hid (show W.cell? ⟨w.heap.size + 1, 0, none⟩ = some (.slice Y1 ts.length y1) ∧ W.cell? ⟨w.heap.size + 1, 1, none⟩ = some (.slice Y2 ts2.length y2) ∧ W.cell? ⟨w.heap.size + 1, 2, none⟩ = some (.bool false) ∧ W.cell? ⟨w.heap.size + 1, 3, none⟩ = some (.int .i64 0) ∧ W.cell? ⟨w.heap.size + 1, 4, none⟩ = some (.int .i64 0) by
          rw [hWe]
          exact ⟨by simp [go_sem, q0], by simp [go_sem, q1], by simp [go_sem, q2], by simp [go_sem, q3], by simp [go_sem, q4]⟩)
        obtain ⟨u0, u1, u2, u3, u4, uz⟩ := HZ.out
        have HZW := Lib.hid (show W.cell? ⟨w.heap.size, 0, none⟩ = some (.slice none 0 0) ∧ W.cell? ⟨w.heap.size, 1, none⟩ = some (.slice none 0 0) ∧ W.cell? ⟨w.heap.size, 2, none⟩ = some (.bool false) ∧ W.cell? ⟨w.heap.size, 3, none⟩ = some (.int .i64 0) ∧ W.cell? ⟨w.heap.size, 4, none⟩ = some (.int .i64 0) ∧ ∀ o, W.frozen? ⟨w.heap.size, o, none⟩ = false from
          ⟨(hchW.cell (by omega) (fun h => by have := h.1; omega)).trans ((hb4w.cell (p := ⟨w.heap.size, 0, none⟩) (by show w.heap.size < _; omega)).trans u0), (hchW.cell (by omega) (fun h => by have := h.1; omega)).trans ((hb4w.cell (p := ⟨w.heap.size, 1, none⟩) (by show w.heap.size < _; omega)).trans u1), (hchW.cell (by omega) (fun h => by have := h.1; omega)).trans ((hb4w.cell (p := ⟨w.heap.size, 2, none⟩) (by show w.heap.size < _; omega)).trans u2), (hchW.cell (by omega) (fun h => by have := h.1; omega)).trans ((hb4w.cell (p := ⟨w.heap.size, 3, none⟩) (by show w.heap.size < _; omega)).trans u3), (hchW.cell (by omega) (fun h => by have := h.1; omega)).trans ((hb4w.cell (p := ⟨w.heap.size, 4, none⟩) (by show w.heap.size < _; omega)).trans u4), fun o => (hchW.frozen (by omega) (fun h => by have := h.1; omega)).trans ((hb4w.frozen (p := ⟨w.heap.size, o, none⟩) (by show w.heap.size < _; omega)).trans (uz o))⟩)
        have HX := Lib.hid (show DepOwn (w.heap.size + 2) W.heap.size X ⟨ts, ts2, false, 0, 0⟩ W from ((hXl.mono (by omega) (Nat.le_of_eq hszW.symm)).chg hchW (.inr (Nat.le_refl _))))
        have hvd := fun (q : Bool) (hq : depOk l ⟨ts, ts2, false, 0, 0⟩ = q) => implIsValidDependency_z l ⟨ts, ts2, false, 0, 0⟩ q hq (.slice A l.length a0) (.agg #[.slice Y1 ts.length y1, .slice Y2 ts2.length y2, .bool false, .int .i64 0, .int .i64 0]) W ((HL.out.below HBW.out (Nat.le_refl _)).more HBW.out.size) ⟨_, _, rfl, by rw [← HV0.out]; exact HX.out.1.at_ (Nat.le_refl _), by rw [← HV1.out]; exact HX.out.2.1.at_ (Nat.le_refl _)⟩
        have HW2 := Lib.hid (show w.heap.size + 1 < W.heap.size by have := HGW.out; omega)
        clear hXl hchW hszW u0 u1 u2 u3 u4 uz hb4w hW4 hzl
        cases hok : depOk l ⟨ts, ts2, false, 0, 0⟩ with
        | false =>
          have HP := Lib.hid (implDep_not HRW.out hok)
          replace hvd := hvd false hok
          clear hok
          rw [hWe] at hvd
          go_wp2_with fail
          refine hvd.mono ?_
          rw [← hWe]
          clear hWe hvd
          rintro e w9 ⟨rfl, hb9⟩
          go_wp2
          exact ⟨rfl, HBW.out.trans (hb9.mono HBW.out.size), .inr ⟨HP.out, rfl⟩⟩
        | true =>
          have HP := Lib.hid (implDep_yes HRW.out hok)
          replace hvd := hvd true hok
          clear hok
          rw [hWe] at hvd
          go_wp2_with fail
          refine hvd.mono ?_
          rw [← hWe]
          clear hWe hvd q0 q1 q2 q3 q4 qz
          rintro e w9 ⟨rfl, hb9⟩
          have hz9 := hb9.size
          have hW9 := HBW.out.trans (hb9.mono HBW.out.size)
          obtain ⟨c0, c1, c2, c3, c4⟩ := HC.out
          obtain ⟨z0, z1, z2, z3, z4, zz⟩ := HZW.out
          replace z0 := (hb9.cell (p := ⟨w.heap.size, 0, none⟩) (by have := HW2.out; show w.heap.size < _; omega)).trans z0
          replace z1 := (hb9.cell (p := ⟨w.heap.size, 1, none⟩) (by have := HW2.out; show w.heap.size < _; omega)).trans z1
          replace z2 := (hb9.cell (p := ⟨w.heap.size, 2, none⟩) (by have := HW2.out; show w.heap.size < _; omega)).trans z2
          replace z3 := (hb9.cell (p := ⟨w.heap.size, 3, none⟩) (by have := HW2.out; show w.heap.size < _; omega)).trans z3
          replace z4 := (hb9.cell (p := ⟨w.heap.size, 4, none⟩) (by have := HW2.out; show w.heap.size < _; omega)).trans z4
          replace zz := fun o => (hb9.frozen (p := ⟨w.heap.size, o, none⟩) (by have := HW2.out; show w.heap.size < _; omega)).trans (zz o)
          replace c0 := (hb9.cell (p := ⟨w.heap.size + 1, 0, none⟩) HW2.out).trans c0
          replace c1 := (hb9.cell (p := ⟨w.heap.size + 1, 1, none⟩) HW2.out).trans c1
          replace c2 := (hb9.cell (p := ⟨w.heap.size + 1, 2, none⟩) HW2.out).trans c2
          replace c3 := (hb9.cell (p := ⟨w.heap.size + 1, 3, none⟩) HW2.out).trans c3
          replace c4 := (hb9.cell (p := ⟨w.heap.size + 1, 4, none⟩) HW2.out).trans c4
          go_wp2
          refine bodyPost_ret (v := .agg #[.slice Y1 ts.length y1, .slice Y2 ts2.length y2, .bool false, .int .i64 0, .int .i64 0]) (by simp [results, Tryz.results126, go_sem, z0, z1, z2, z3, z4]) rfl ⟨?_, .inl ⟨⟨ts, ts2, false, 0, 0⟩, X, HP.out, by unfold DVal; rw [HV0.out, HV1.out], ?_⟩⟩
          · exact (((((hW9.setCell (p := ⟨w.heap.size, 0, none⟩) (Nat.le_refl _) _).setCell (p := ⟨w.heap.size, 1, none⟩) (Nat.le_refl _) _).setCell (p := ⟨w.heap.size, 2, none⟩) (Nat.le_refl _) _).setCell (p := ⟨w.heap.size, 3, none⟩) (Nat.le_refl _) _).setCell (p := ⟨w.heap.size, 4, none⟩) (Nat.le_refl _) _)
          · have hc9 := chg_mid (chg_mid (chg_mid (chg_mid (chg_mid (Chg.refl (Mid w.heap.size (w.heap.size + 1)) w9) 0 (.slice Y1 ts.length y1)) 1 (.slice Y2 ts2.length y2)) 2 (.bool false)) 3 (.int .i64 0)) 4 (.int .i64 0)
            exact (((HX.out.below hb9 (Nat.le_refl _)).chg hc9 (.inr (by omega))).mono (by omega) (by simp [World.setCell]; exact hz9))
      · exact ⟨rfl, hW3.trans (hb4.mono hW3.size), .inr ⟨implDep_none (by rw [HRE.out]; unfold implTgd; have h1 : implAtoms l a = some ts := hi; have h2 : implAtoms l b = none := hi2; rw [h1, h2]), rfl⟩⟩
    · exact ⟨rfl, HWw.out.trans (hb3.mono HWw.out.size), .inr ⟨implDep_none (by rw [HRE.out]; unfold implTgd; have h1 : implAtoms l a = none := hi; rw [h1]), rfl⟩⟩

end Go.Proofs.YtmecdjincmkofaaGreatDoor
