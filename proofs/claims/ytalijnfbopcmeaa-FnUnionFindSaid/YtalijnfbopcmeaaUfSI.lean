/-
  Walks and plain lemmas for the laws of this seat: what single Go functions return, for every argument.
-/
import Derived.Test.YtalijnfbopcmeaaNum
import Derived.Test.YtalijnfbopcmeaaInts
import Derived.Test.YtalijnfbopcmeaaMUf
import Derived.Test.YtalijnfbopcmeaaUfVI
namespace Go.Proofs.Ytalijnfbopcmeaa
open Go.RowKit

set_option maxHeartbeats 6400000 in
set_option maxRecDepth 100000 in
theorem implUnionSubstitution_any (v : Value) (x : List Int) (w : World) (h : UnionFind_at w w.heap.size v x) (hw : UnionFind_wf x) :
    Calls Try.prog 22 #[v] w (GivesUS x w) := by
  obtain ⟨P, c, rfl⟩ := UnionFind_form h
  have HX := Lib.hid h
  have hN := h.ints
  clear h
  obtain ⟨_, _, hv1, hc1, hc2⟩ := hN.form
  injection hv1 with e1 _ e2
  subst e1 e2
  unfold maxLen at hc2
  have HN := Lib.hid hN
  clear hN
  obtain ⟨E, hEq⟩ : ∃ E, E = (w.alloc (.cells #[.slice P x.length c] 26)).alloc (.cells #[.slice none 0 0, .slice none 0 0] 35) := ⟨_, rfl⟩
  have hE : Below w.heap.size w E := by rw [hEq]; exact below_more (below_more (Below.refl _ _) _) _
  have HEz := Lib.hid (show E.heap.size = w.heap.size + 2 by rw [hEq]; simp)
  have S0 := Lib.hid (show E.cell? ⟨w.heap.size, 0, none⟩ = some (.slice P x.length c) by rw [hEq]; simp [go_sem])
  have R0 := Lib.hid (show E.cell? ⟨w.heap.size + 1, 0, none⟩ = some (.slice none 0 0) by rw [hEq]; simp [go_sem])
  have R1 := Lib.hid (show E.cell? ⟨w.heap.size + 1, 1, none⟩ = some (.slice none 0 0) by rw [hEq]; simp [go_sem])
  have RZ := Lib.hid (show ∀ o, E.frozen? ⟨w.heap.size + 1, o, none⟩ = false from fun o => by rw [hEq]; simp [go_sem])
  have hval := fun (bb : Bool) (hq : ufOk x = bb) => implIsValidUf_at x bb hq (.agg #[.slice P x.length c]) E ((HX.out.below hE (Nat.le_refl _)).more hE.size) hw
  rw [hEq] at hval
  cases hok : ufOk x with
  | false =>
    have hv := hval false hok
    have HV := Lib.hid (show UnionSubstitution_r0 x = ⟨[], []⟩ from if_neg (by rw [hok]; simp))
    clear hval hok
    go_enter Try.func22, Try.ntmps22
    go_wp2_with fail
    refine hv.mono ?_; rintro e w1 ⟨rfl, b1⟩
    rw [← hEq] at b1
    clear hEq
    have r0 := (b1.cell (p := ⟨w.heap.size + 1, 0, none⟩) (by show w.heap.size + 1 < _; have := HEz.out; omega)).trans R0.out
    have r1 := (b1.cell (p := ⟨w.heap.size + 1, 1, none⟩) (by show w.heap.size + 1 < _; have := HEz.out; omega)).trans R1.out
    have r2 := fun o => (b1.frozen (p := ⟨w.heap.size + 1, o, none⟩) (by show w.heap.size + 1 < _; have := HEz.out; omega)).trans (RZ.out o)
    have HWN := Lib.hid (hE.trans (b1.mono hE.size))
    go_wp2
    refine bodyPost_ret (v := .agg #[.slice none 0 0, .slice none 0 0]) (by simp [results, Try.results22, go_sem, r0, r1]) rfl ⟨_, rfl, ?_, ?_⟩
    · rw [HV.out]
      exact ⟨_, _, rfl, ⟨OwnInts.nil _ _, fun g hg => by cases hg⟩, ⟨OwnInts.nil _ _, fun g hg => by cases hg⟩, fun g hg => by cases hg⟩
    · exact (HWN.out.setCell (p := ⟨w.heap.size + 1, 0, none⟩) (by show w.heap.size ≤ w.heap.size + 1; omega) _).setCell (p := ⟨w.heap.size + 1, 1, none⟩) (by show w.heap.size ≤ w.heap.size + 1; omega) _
  | true =>
    have hv := hval true hok
    have HV := Lib.hid (show UnionSubstitution_r0 x = subTo x x.length from if_pos hok)
    have hl40 := (ufOk_parts hok).len
    clear hval hok
    go_enter Try.func22, Try.ntmps22
    go_wp2_with fail
    refine hv.mono ?_; rintro e w1 ⟨rfl, b1⟩
    rw [← hEq] at b1
    clear hEq hv
    have s0 := (b1.cell (p := ⟨w.heap.size, 0, none⟩) (by show w.heap.size < _; have := HEz.out; omega)).trans S0.out
    obtain ⟨Y, hY⟩ : ∃ Y, Y = w1.heap.size := ⟨_, rfl⟩
    have hz1 : w.heap.size + 2 ≤ Y := by have h1 := b1.size; have h2 := HEz.out; omega
    obtain ⟨W, hWq⟩ : ∃ W, W = w1.alloc (.cells #[.slice none 0 0, .slice none 0 0] 35) := ⟨_, rfl⟩
    have hAl : Below Y w1 W := by rw [hWq]; exact (Below.refl _ _).alloc (by omega) _
    have HSZ := Lib.hid (show W.heap.size = Y + 1 by rw [hWq, hY]; simp)
    have y0 : W.cell? ⟨Y, 0, none⟩ = some (.slice none 0 0) := by rw [hWq, hY]; simp [go_sem]
    have y1 : W.cell? ⟨Y, 1, none⟩ = some (.slice none 0 0) := by rw [hWq, hY]; simp [go_sem]
    have yz : ∀ o, W.frozen? ⟨Y, o, none⟩ = false := fun o => by rw [hWq, hY]; simp [go_sem]
    have HB1 := Lib.hid (show Below w.heap.size w w1 from hE.trans (b1.mono hE.size))
    have HEB := Lib.hid b1
    have HAL := Lib.hid hAl
    have HW0 := Lib.hid (show Below w.heap.size w W from HB1.out.trans (hAl.mono (by omega)))
    have HEY := Lib.hid (show E.heap.size ≤ Y by have := b1.size; omega)
    go_upto_region 4 with fail
    rw [← hY, ← hWq]
    have s1 := (hAl.cell (p := ⟨w.heap.size, 0, none⟩) (by show w.heap.size < Y; omega)).trans s0
    clear hY hWq b1 s0 hAl
    go_wp2
    go_loopw [13] (fun i wr => ∃ (k : Nat) (V1 V2 : Value) (N L : List Int), k ≤ x.length ∧ i = .int .i64 (k : Nat) ∧ Hid (N = (subTo x k).nulls) ∧ Hid (L = (subTo x k).vals) ∧ wr.cell? ⟨Y, 0, none⟩ = some V1 ∧ wr.cell? ⟨Y, 1, none⟩ = some V2 ∧ (∀ o, wr.frozen? ⟨Y, o, none⟩ = false) ∧ Hid (Two (Y + 1) V1 V2 N L wr) ∧ Hid (Below Y W wr)) (fun i _ => x.length - (intOf i).toNat)
    case atStart => exact ⟨0, _, _, [], [], by omega, rfl, Lib.hid rfl, Lib.hid rfl, y0, y1, yz, Lib.hid ⟨OwnInts.nil _ _, OwnInts.nil _ _, fun g hg => by cases hg⟩, Lib.hid (Below.refl _ _)⟩
    case round =>
      clear y0 y1 yz s1
      obtain ⟨k, V1, V2, N, L, hk, rfl, HNe, HLe, y0, y1, yz, HT, HC⟩ := hrel
      have hC := HC.out
      have hYw : Y + 1 ≤ wr.heap.size := by have h1 := hC.size; rw [HSZ.out] at h1; exact h1
      have hwW : Below w.heap.size w wr := HW0.out.trans (hC.mono (by omega))
      have hln := subTo_len x k
      have HNl := Lib.hid (show N.length ≤ 40 by rw [HNe.out]; omega)
      have HLl := Lib.hid (show L.length ≤ 40 by rw [HLe.out]; omega)
      obtain ⟨P1, q1, rfl, -⟩ := HT.out.1.at_
      obtain ⟨P2, q2, rfl, -⟩ := HT.out.2.1.at_
      clear hln
      by_cases hlt : k < x.length
      · obtain ⟨b, off, rfl, hb, c0⟩ := IntsAt.elem (HN.out.below hwW (Nat.le_refl _)) k hlt
        have hnv : ∀ W, Calls Try.prog 30 #[.int .i64 (k : Int)] W fun e w' => e = .returned (.int .i64 (-1 - (k : Int))) ∧ W = w' := fun W => implNullValue_any (k : Int) W (by omega) (by omega)
        by_cases he : x[k] = -1 - (k : Int)
        · have HNx := Lib.hid (subTo_eq hlt he)
          have hq : (x[k] != -1 - (k : Int)) = false := by rw [he]; simp
          clear he hC
          generalize hz : (-1 - (k : Int)) = z at *
          clear hz
          go_wp2_with (go_at_call 30; refine (hnv _).mono ?_; rintro e w7 ⟨rfl, rfl⟩)
          go_roundw
          case rel => exact ⟨k + 1, _, _, N, L, by omega, by go_num, Lib.hid (by rw [HNx.out]; exact HNe.out), Lib.hid (by rw [HNx.out]; exact HLe.out), y0, y1, yz, HT, HC⟩
          case measure => simp [intOf]; omega
        · have hNx := subTo_ne hlt he
          have HNx := Lib.hid hNx
          have hq : (x[k] != -1 - (k : Int)) = true := bne_iff_ne.2 he
          have HX1 := Lib.hid (show ∃ z, x[k] = z from ⟨_, rfl⟩)
          have hone := OwnInts.one wr wr.heap.size (k : Int) (Nat.le_refl _)
          have HONE := Lib.hid hone.at_
          have hAl : Below wr.heap.size wr (wr.alloc (.cells #[.int .i64 (k : Int)] 3)) := (Below.refl _ _).alloc (Nat.le_refl _) _
          have HT1 := Lib.hid (HT.out.below hAl (Nat.le_refl _))
          have hnlen : N.length ≤ 40 := HNl.out
          have hllen : L.length ≤ 40 := HLl.out
          obtain ⟨z, hz⟩ : ∃ z, z = x[k] := ⟨_, rfl⟩
          rw [← hz] at c0 hq
          have HZ := Lib.hid hz
          clear he hC hNx hone hz
          generalize hzz : (-1 - (k : Int)) = zz at *
          clear hzz
          go_upto_region 8 with (go_at_call 30; refine (hnv _).mono ?_; rintro e w7 ⟨rfl, rfl⟩)
          go_upto_region 9 with (at_builtin; refine ints_apps (r := [(k : Int)]) HT1.out.1 rfl _ _ rfl rfl (some ⟨wr.heap.size, 0, none⟩) 1 1 rfl rfl HONE.out (fun h => by cases h) (by simp; omega) (by simp; omega) ?_; intro v5 w5 hO5 hB5 hG5 hN5; have hbA := ((Below.refl (Y + 1) wr).alloc hYw (.cells #[.int .i64 (k : Int)] 3)).trans hB5; have d0 := (hbA.cell (p := ⟨Y, 0, none⟩) (Nat.lt_succ_self _)).trans y0; have d1 := (hbA.cell (p := ⟨Y, 1, none⟩) (Nat.lt_succ_self _)).trans y1; have dz := fun o => (hbA.frozen (p := ⟨Y, o, none⟩) (Nat.lt_succ_self _)).trans (yz o); have HT5a := Lib.hid (HT1.out.first hO5 hG5 hN5); have HBA5 := Lib.hid hbA; obtain ⟨P3, q3, rfl, -⟩ := hO5.at_; clear hO5 hB5 hG5 hN5 hbA y0 yz)
          obtain ⟨WR, hWR⟩ : ∃ WR, WR = w5.setCell ⟨Y, 0, none⟩ (.slice P3 (N.length + 1) q3) := ⟨_, rfl⟩
          have x0 : WR.cell? ⟨Y, 0, none⟩ = some (.slice P3 (N.length + 1) q3) := by rw [hWR]; simp [go_sem, d0]
          have x1 : WR.cell? ⟨Y, 1, none⟩ = some (.slice P2 L.length q2) := by rw [hWR]; simp [go_sem, d1]
          have xz : ∀ o, WR.frozen? ⟨Y, o, none⟩ = false := fun o => by rw [hWR]; simp [dz]
          have hbW : Below Y wr WR := by rw [hWR]; exact (show Below Y wr w5 from HBA5.out.mono (by omega)).setCell (p := ⟨Y, 0, none⟩) (Nat.le_refl Y) _
          have hYW : Y + 1 ≤ WR.heap.size := Nat.le_trans hYw hbW.size
          have hTW : Two (Y + 1) (.slice P3 (N.length + 1) q3) (.slice P2 L.length q2) (N ++ [(k : Int)]) L WR := by
            have hT := HT5a.out
            rw [show (N ++ [(k : Int)]).length = N.length + 1 by simp] at hT
            rw [hWR]; exact hT.chg ((Chg.refl (fun g => g = Y) w5).setCell (p := ⟨Y, 0, none⟩) rfl _) (fun k hk => by subst hk; omega)
          have HBW := Lib.hid (HC.out.trans hbW)
          have hone := OwnInts.one WR WR.heap.size z (Nat.le_refl _)
          have HONE2 := Lib.hid hone.at_
          have HT2 := Lib.hid (hTW.below ((Below.refl WR.heap.size WR).alloc (Nat.le_refl _) (.cells #[.int .i64 z] 3)) (Nat.le_refl _))
          rw [← hWR]
          clear hWR d0 d1 dz hbW y1 hTW hone
          go_upto_region 10 with (at_builtin; refine ints_apps (r := [z]) HT2.out.2.1 rfl _ _ rfl rfl (some ⟨WR.heap.size, 0, none⟩) 1 1 rfl rfl HONE2.out (fun h => by cases h) (by simp; omega) (by simp; omega) ?_; intro v6 w6 hO6 hB6 hG6 hN6; have hbA := ((Below.refl (Y + 1) WR).alloc hYW (.cells #[.int .i64 z] 3)).trans hB6; have d0 := (hbA.cell (p := ⟨Y, 0, none⟩) (Nat.lt_succ_self _)).trans x0; have d1 := (hbA.cell (p := ⟨Y, 1, none⟩) (Nat.lt_succ_self _)).trans x1; have dz := fun o => (hbA.frozen (p := ⟨Y, o, none⟩) (Nat.lt_succ_self _)).trans (xz o); have HT6 := Lib.hid (HT2.out.second hO6 hG6 hN6); have HBA6 := Lib.hid hbA; obtain ⟨P4, q4, rfl, -⟩ := hO6.at_; clear hO6 hB6 hG6 hN6 hbA x0 x1 xz)
          go_wp2
          go_roundw
          case rel =>
            refine ⟨k + 1, .slice P3 (N.length + 1) q3, .slice P4 (L.length + 1) q4, N ++ [(k : Int)], L ++ [z], by omega, by go_num, Lib.hid (by rw [HNx.out.1, HNe.out]), Lib.hid (by rw [HNx.out.2, HLe.out, HZ.out]), by simp [go_sem, d0], by simp [go_sem, d1], fun o => by simp [dz], Lib.hid ?_, Lib.hid ?_⟩
            · have hT := HT6.out
              rw [show (L ++ [z]).length = L.length + 1 by simp] at hT
              exact hT.chg ((Chg.refl (fun g => g = Y) w6).setCell (p := ⟨Y, 1, none⟩) rfl _) (fun k hk => by subst hk; omega)
            · exact HBW.out.trans ((show Below Y WR w6 from HBA6.out.mono (by omega)).setCell (p := ⟨Y, 1, none⟩) (Nat.le_refl Y) _)
          case measure => simp [intOf]; omega
      · obtain rfl : k = x.length := by omega
        have hlo : ∀ p o, p < E.heap.size → wr.cell? ⟨p, o, none⟩ = E.cell? ⟨p, o, none⟩ := fun p o hp => (hC.cell (p := ⟨p, o, none⟩) (by show p < Y; have := HEY.out; omega)).trans ((HAL.out.cell (p := ⟨p, o, none⟩) (by show p < Y; have := HEY.out; omega)).trans (HEB.out.cell (p := ⟨p, o, none⟩) hp))
        have r0 := (hlo (w.heap.size + 1) 0 (by have := HEz.out; omega)).trans R0.out
        have r1 := (hlo (w.heap.size + 1) 1 (by have := HEz.out; omega)).trans R1.out
        have r2 : ∀ o, wr.frozen? ⟨w.heap.size + 1, o, none⟩ = false := fun o => (hC.frozen (p := ⟨w.heap.size + 1, o, none⟩) (by show w.heap.size + 1 < Y; omega)).trans ((HAL.out.frozen (p := ⟨w.heap.size + 1, o, none⟩) (by show w.heap.size + 1 < Y; omega)).trans ((HEB.out.frozen (p := ⟨w.heap.size + 1, o, none⟩) (by show w.heap.size + 1 < _; have := HEz.out; omega)).trans (RZ.out o)))
        have HwW := Lib.hid hwW
        have HST : ∀ u1 u2, Chg (fun g => g = w.heap.size + 1) wr ((wr.setCell ⟨w.heap.size + 1, 0, none⟩ u1).setCell ⟨w.heap.size + 1, 1, none⟩ u2) := fun u1 u2 => ((Chg.refl (fun g => g = w.heap.size + 1) wr).setCell (p := ⟨w.heap.size + 1, 0, none⟩) rfl _).setCell (p := ⟨w.heap.size + 1, 1, none⟩) rfl _
        clear hwW hlo hC
        go_wp2
        refine bodyPost_ret (v := .agg #[.slice P1 N.length q1, .slice P2 L.length q2]) (by simp [results, Try.results22, go_sem, r0, r1]) rfl ⟨_, rfl, ?_, ?_⟩
        · rw [HV.out]
          refine two_own (D := Y + 1) (S := fun g => g = w.heap.size + 1) (w := wr) ?_ (HST (.slice P1 N.length q1) (.slice P2 L.length q2)) (fun k hk => by subst hk; omega) (by omega) rfl
          rw [← HNe.out, ← HLe.out]; exact HT.out
        · exact HwW.out.trans ((HST (.slice P1 N.length q1) (.slice P2 L.length q2)).below (fun g hg => by subst hg; omega) HwW.out.size)
theorem implUnionSubstitution_c (v : Value) (x : List Int) (w : World) (h : UnionFind_at w w.heap.size v x) (hw : UnionFind_wf x) (_ : UnionFind_sz x ≤ 1048576) :
    Calls Try.prog 22 #[v] w fun e w' => ∃ r, e = .returned r ∧ Substitution_own w.heap.size w'.heap.size r (UnionSubstitution_r0 x) w' ∧ Substitution_sz (UnionSubstitution_r0 x) ≤ 1048576 ∧ Below w.heap.size w w' :=
  (implUnionSubstitution_any v x w h hw).mono fun _ _ ⟨r, he, ho, hb⟩ => ⟨r, he, ho, ufSub_sz x, hb⟩

end Go.Proofs.Ytalijnfbopcmeaa
