/-
  Walks and plain lemmas for the laws of this seat: what single Go functions return, for every argument.
-/
import Derived.Test.YtalijnfbopcmeaaInts
import Derived.Test.YtalijnfbopcmeaaMUf
import Derived.Test.YtalijnfbopcmeaaPlan
import Derived.Test.YtalijnfbopcmeaaUfV
namespace Go.Proofs.Ytalijnfbopcmeaa
open Go.RowKit

set_option maxHeartbeats 3200000 in
set_option maxRecDepth 100000 in
theorem specNewUf_any (n : Int) (w : World) (h0 : -9223372036854775808 ≤ n) (h1 : n ≤ 9223372036854775807) :
    Calls Try.prog 31 #[.int .i64 n] w fun e w' => ∃ r, e = .returned r ∧ UnionFind_own w.heap.size w'.heap.size r (NewUnionFind_r0 n) w' ∧ Below w.heap.size w w' := by
  obtain ⟨N, hN, hcs⟩ := newUf_cases n
  rw [hN]
  obtain ⟨W, hEq⟩ : ∃ E, E = (w.alloc (.cells #[.slice none 0 0] 26)).alloc (.cells #[.slice none 0 0] 26) := ⟨_, rfl⟩
  have hE : Below w.heap.size w W := by rw [hEq]; exact below_more (below_more (Below.refl _ _) _) _
  have HEz := Lib.hid (show W.heap.size = w.heap.size + 2 by rw [hEq]; simp)
  have R0 := Lib.hid (show W.cell? ⟨w.heap.size, 0, none⟩ = some (.slice none 0 0) by rw [hEq]; simp [go_sem])
  have RZ := Lib.hid (show ∀ o, W.frozen? ⟨w.heap.size, o, none⟩ = false from fun o => by rw [hEq]; simp [go_sem])
  have y1 : W.cell? ⟨w.heap.size + 1, 0, none⟩ = some (.slice none 0 0) := by rw [hEq]; simp [go_sem]
  have yz : ∀ o, W.frozen? ⟨w.heap.size + 1, o, none⟩ = false := fun o => by rw [hEq]; simp [go_sem]
  have HCS := Lib.hid hcs
  have HW0 := Lib.hid hE
  clear hN hE hcs
  go_enter Try.func31, Try.ntmps31
  go_wp2
  rw [← hEq]
  obtain ⟨Y, hY⟩ : ∃ Y, Y = w.heap.size + 1 := ⟨_, rfl⟩
  rw [← hY] at y1 yz ⊢
  have HY := Lib.hid hY
  clear hY hEq
  go_loopw [4] (fun i wr => ∃ k V, k ≤ N ∧ i = .int .i64 (k : Nat) ∧ wr.cell? ⟨Y, 0, none⟩ = some V ∧ (∀ o, wr.frozen? ⟨Y, o, none⟩ = false) ∧ OwnInts (Y + 1) V (newUf k) wr ∧ Hid (Chg (fun g => g = Y) W wr)) (fun i _ => N - (intOf i).toNat)
  case atStart => exact ⟨0, _, by omega, rfl, y1, yz, OwnInts.nil _ _, Lib.hid (Chg.refl _ _)⟩
  case round =>
    clear y1 yz
    obtain ⟨k, V, hk, rfl, y1, yz, hO, HC⟩ := hrel
    have HO := Lib.hid hO
    obtain ⟨P4, c4, rfl, hl4, hm4, -⟩ := hO.at_
    unfold maxLen at hm4
    clear hO
    have hC := HC.out
    have hwY : w.heap.size + 1 = Y := HY.out.symm
    have hYw : Y + 1 ≤ wr.heap.size := by have h1 := hC.size; rw [HEz.out] at h1; omega
    have hwW : Below w.heap.size w wr := HW0.out.trans (hC.below (fun g hg => by subst hg; omega) (by rw [HEz.out]; omega))
    have hLk := newUf_len k
    have HLk := Lib.hid hLk
    by_cases hlt : k < N
    · have hnb : (0 ≤ n ∧ n ≤ 40 ∧ (N : Int) = n) := HCS.out.elim id (fun h => by omega)
      have hd : decide ((k : Int) < n) = true := decide_eq_true (by omega)
      have hin := specL1In_is n 0 40 true (inB_true (by omega))
      have hnv := specNV_is (k : Int) (-1 - (k : Int)) rfl (by omega) (by omega)
      have hS : Holds [(⟨Y, 0, none⟩, .slice P4 (newUf k).length c4)] wr.drew := by
        intro p hp
        simp only [List.mem_cons, List.not_mem_nil, or_false] at hp
        subst hp
        exact y1
      have hSb : ∀ p ∈ [((⟨Y, 0, none⟩ : Addr), Value.slice P4 (newUf k).length c4)], p.1.block < Y + 1 := by
        intro p hp
        simp only [List.mem_cons, List.not_mem_nil, or_false] at hp
        subst hp
        simp
      have g0 := Keep.cell (h0 := hS) (a := ⟨Y, 0, none⟩) (v := .slice P4 (newUf k).length c4) (by simp)
      have HN := Lib.hid (show newUf (k + 1) = newUf k ++ [-1 - (k : Int)] from rfl)
      have hkb : k < 40 := by omega
      clear hnb hLk
      generalize hz : (-1 - (k : Int)) = z at *
      clear hz
      go_wp2_with (go_at_call 56; refine (hin _).mono ?_; rintro e w1 ⟨rfl, rfl⟩)
      refine wp_region_planL (C := fun w' => ∃ u : Keep _ wr.drew hS, w' = u.now) (.still 0 (.still 1 (.still 2 (.move true 3 (.move true 4 (.move true 5 (.still 6 (.move false 7 .done .none)) .none) .none) .none)))) (by kernel_rfl) (by kernel_rfl) (by kernel_rfl) (fun _ => ⟨⟨_, hS⟩, rfl⟩) ?_
      iterate 3
        refine plan_look _ rfl rfl ?_
        go_big_quiet_step (fail)
        refine wpQuiet_nil ?_
      refine plan_call _ 57 _ _ _ _ _ rfl _ Try.func57 (by kernel_rfl) (by kernel_rfl) ?_ True.intro
      refine (hnv wr.drew).mono ?_
      rintro _ w2 ⟨rfl, rfl⟩
      refine ⟨_, rfl, fun _ => ⟨⟨_, hS⟩, rfl⟩, ?_⟩
      refine plan_put ?_ (by simp only [Act.put, List.setIfInBounds_toArray, List.set_cons_succ, List.set_cons_zero]; rfl)
      have hzd : wr.drew.heap.size = wr.heap.size := rfl
      have hbd : Below wr.heap.size wr wr.drew := (Below.refl _ _).drew
      have hK : ∀ wq, Below (Y + 1) wr.drew wq → Holds _ wq := fun wq hq => hS.below hq hSb
      have hbA0 : Below wr.drew.heap.size wr.drew (wr.drew.alloc (.cells #[.int .i64 z] 3)) := (Below.refl _ _).alloc (Nat.le_refl _) _
      refine plan_value (u := .slice (some ⟨wr.drew.heap.size, 0, none⟩) 1 1) (w' := wr.drew.alloc (.cells #[.int .i64 z] 3)) _ rfl rfl rfl (by simp [go_sem]) (fun _ => ⟨⟨_, hK _ (hbA0.mono hYw)⟩, rfl⟩) ?_ True.intro
      refine plan_put ?_ (by simp only [Act.put, List.setIfInBounds_toArray, List.set_cons_succ, List.set_cons_zero]; rfl)
      have hO3 := (HO.out.below hbd (Nat.le_refl _)).below hbA0 (Nat.le_refl _)
      unfold OwnInts at hO3
      rw [← flat_int] at hO3
      have hr : SliceAt intCell (wr.drew.alloc (.cells #[.int .i64 z] 3)) (wr.drew.heap.size + 1) (.slice (some ⟨wr.drew.heap.size, 0, none⟩) [z].length 1) [z] := by
        refine ⟨_, _, rfl, Nat.le_refl _, by simp [maxLen], fun _ => ⟨_, _, rfl, by omega, ?_⟩, fun h => by cases h⟩
        intro i u hu
        rw [Nat.zero_add, box_cell]
        simpa [intCell] using hu
      refine plan_app intCell 1 8 (r := [z]) (fun x _ u hu => by simp [intCell] at hu; subst hu; rfl) (fun _ => rfl) _ rfl rfl Try.underlying24 infoInt rfl (by decide) hO3 _ _ rfl rfl ⟨wr.drew.heap.size, 0, none⟩ 1 1 rfl rfl hr (by have := HLk.out; simp; omega) (by have := HLk.out; simp; omega) (by simp; omega) ?_ True.intro
      intro v4 w4 hO4 hB4 _ _
      have hbD : Below (Y + 1) wr.drew w4 := (hbA0.mono hYw).trans hB4
      have hbA : Below (Y + 1) wr w4 := (hbd.mono hYw).trans hbD
      have hO5 : OwnInts (Y + 1) v4 (newUf k ++ [z]) w4 := by
        have := hO4
        rw [flat_int] at this
        simpa [OwnInts] using this
      obtain ⟨P5, c5, rfl, -⟩ := hO5.at_
      have z1 := (hbA.cell (p := ⟨Y, 0, none⟩) (Nat.lt_succ_self _)).trans y1
      have zz := fun o => (hbA.frozen (p := ⟨Y, o, none⟩) (Nat.lt_succ_self _)).trans (yz o)
      have HO5 := Lib.hid hO5
      have HBA := Lib.hid hbA
      refine ⟨fun _ => ⟨⟨_, hK _ hbD⟩, rfl⟩, ?_⟩
      clear hO5 hbA hbD hO4 hB4 hr hK hO3 g0 y1 yz hbd hbA0
      refine plan_put ?_ (by simp only [Act.put, List.setIfInBounds_toArray, List.set_cons_succ, List.set_cons_zero]; rfl)
      refine plan_look _ rfl rfl ?_
      go_big_quiet_step (fail)
      refine wpQuiet_nil ?_
      refine plan_skip (w' := w4.setCell ⟨Y, 0, none⟩ (.slice P5 (newUf k ++ [z]).length c5)) _ rfl rfl rfl (by simp [go_sem, z1, zz]) (fun e => by cases e) ?_ True.intro
      refine plan_put ?_ (by simp only [Act.put]; rfl)
      refine plan_done ?_
      go_wp2
      go_roundw
      case rel =>
        refine ⟨k + 1, .slice P5 (newUf k ++ [z]).length c5, by omega, by go_num, by simp [go_sem, z1], fun o => by simp [zz], ?_, Lib.hid ((HC.out.then_below (by rw [HEz.out]; exact HBA.out.mono (by have := HY.out; omega))).setCell (p := ⟨Y, 0, none⟩) rfl _)⟩
        rw [HN.out]
        exact HO5.out.chg ((Chg.refl (fun q => q = Y) w4).setCell (p := ⟨Y, 0, none⟩) rfl _) (fun q hq e => by have := (HO5.out.lt q hq).1; omega)
      case measure => simp [intOf]; omega
    · obtain rfl : k = N := by omega
      have m0 := (hC.cell (b := w.heap.size) (o := 0) (by rw [HEz.out]; omega) (by omega)).trans R0.out
      have mz : ∀ o, wr.frozen? ⟨w.heap.size, o, none⟩ = false := fun o => (hC.frozen (o := o) (by rw [HEz.out]; omega) (by omega)).trans (RZ.out o)
      have HwW := Lib.hid hwW
      have HST : ∀ u1, Chg (Mid w.heap.size (w.heap.size + 1)) wr (wr.setCell ⟨w.heap.size, 0, none⟩ u1) := fun u1 => (Chg.refl _ wr).setCell (p := ⟨w.heap.size, 0, none⟩) ⟨Nat.le_refl _, Nat.lt_succ_self _⟩ _
      have HHY := Lib.hid hwY
      clear hC hwW hLk hwY
      have fin : ∀ w', w' = wr.setCell ⟨w.heap.size, 0, none⟩ (.slice P4 (newUf k).length c4) → UnionFind_own w.heap.size w'.heap.size (.agg #[.slice P4 (newUf k).length c4]) (newUf k) w' ∧ Below w.heap.size w w' := by
        rintro w' rfl
        refine ⟨⟨_, rfl, ?_⟩, ?_⟩
        · exact (IntS_own.chg (IntsO.of HO.out) (HST _) (.inr (by have := HHY.out; omega))).mono (by have := HHY.out; omega) (by simp [World.setCell])
        · exact HwW.out.setCell (p := ⟨w.heap.size, 0, none⟩) (Nat.le_refl _) _
      have FIN := Lib.hid fin
      clear fin HST
      rcases HCS.out with ⟨ha, hb, hc⟩ | ⟨hz, hb⟩
      · have hd : decide ((k : Int) < n) = false := decide_eq_false (by omega)
        go_wp2
        refine bodyPost_ret (v := .agg #[.slice P4 (newUf k).length c4]) (by simp [results, Try.results31, go_sem, m0]) rfl ⟨_, rfl, FIN.out _ rfl⟩
      · by_cases hn : n < 0
        · have hd : decide ((k : Int) < n) = false := decide_eq_false (by omega)
          clear hz
          go_wp2
          refine bodyPost_ret (v := .agg #[.slice P4 (newUf k).length c4]) (by simp [results, Try.results31, go_sem, m0]) rfl ⟨_, rfl, FIN.out _ rfl⟩
        · have hd : decide ((k : Int) < n) = true := decide_eq_true (by omega)
          have hin := specL1In_is n 0 40 false (inB_false (by omega))
          clear hb hn hz
          go_wp2_with (go_at_call 56; refine (hin _).mono ?_; rintro e w1 ⟨rfl, rfl⟩)
          refine bodyPost_ret (v := .agg #[.slice P4 (newUf k).length c4]) (by simp [results, Try.results31, go_sem, m0]) rfl ⟨_, rfl, FIN.out _ rfl⟩
theorem specNewUnionFind_c (n : Int) (w : World) (hn : -9223372036854775808 ≤ n ∧ n ≤ 9223372036854775807) :
    Calls Try.prog 31 #[.int .i64 n] w fun e w' => ∃ r, e = .returned r ∧ UnionFind_at w' w'.heap.size r (NewUnionFind_r0 n) ∧ Below w.heap.size w w' :=
  (specNewUf_any n w hn.1 hn.2).mono fun _ _ ⟨r, he, ho, hb⟩ => ⟨r, he, ho.at_ (Nat.le_refl _), hb⟩

end Go.Proofs.Ytalijnfbopcmeaa
