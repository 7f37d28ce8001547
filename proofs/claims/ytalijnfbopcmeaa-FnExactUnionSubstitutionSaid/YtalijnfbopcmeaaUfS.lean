/-
  Walks and plain lemmas for the laws of this seat: what single Go functions return, for every argument.
-/
import Derived.Test.YtalijnfbopcmeaaPlan
import Derived.Test.YtalijnfbopcmeaaInts
import Derived.Test.YtalijnfbopcmeaaMUf
import Derived.Test.YtalijnfbopcmeaaAft
import Derived.Test.YtalijnfbopcmeaaUfV
namespace Go.Proofs.Ytalijnfbopcmeaa
open Go.RowKit

set_option maxHeartbeats 6400000 in
set_option maxRecDepth 100000 in
theorem specUnionSubstitution_any (v : Value) (x : List Int) (w : World) (h : UnionFind_at w w.heap.size v x) (hw : UnionFind_wf x) :
    Calls Try.prog 37 #[v] w (GivesUS x w) := by
  obtain ⟨P, c, rfl⟩ := UnionFind_form h
  have HX := Lib.hid h
  have hN := h.ints
  clear h
  obtain ⟨_, _, hv1, hc1, hc2⟩ := hN.form
  injection hv1 with e1 _ e2
  subst e1 e2
  unfold maxLen at hc2
  have HN := Lib.hid hN
  clear hN
  obtain ⟨M, hM, hcs⟩ := ufSub_cases x
  have HCS := Lib.hid hcs
  have HV := Lib.hid hM
  have hM40 : M ≤ 40 := by omega
  have hMx : M ≤ x.length := by omega
  obtain ⟨W, hEq⟩ : ∃ E, E = ((w.alloc (.cells #[.slice P x.length c] 26)).alloc (.cells #[.slice none 0 0, .slice none 0 0] 35)).alloc (.cells #[.slice none 0 0, .slice none 0 0] 35) := ⟨_, rfl⟩
  have hE : Below w.heap.size w W := by rw [hEq]; exact below_more (below_more (below_more (Below.refl _ _) _) _) _
  have HEz := Lib.hid (show W.heap.size = w.heap.size + 3 by rw [hEq]; simp)
  have S0 := Lib.hid (show W.cell? ⟨w.heap.size, 0, none⟩ = some (.slice P x.length c) by rw [hEq]; simp [go_sem])
  have R0 := Lib.hid (show W.cell? ⟨w.heap.size + 1, 0, none⟩ = some (.slice none 0 0) by rw [hEq]; simp [go_sem])
  have R1 := Lib.hid (show W.cell? ⟨w.heap.size + 1, 1, none⟩ = some (.slice none 0 0) by rw [hEq]; simp [go_sem])
  have RZ := Lib.hid (show ∀ o, W.frozen? ⟨w.heap.size + 1, o, none⟩ = false from fun o => by rw [hEq]; simp [go_sem])
  have y0 : W.cell? ⟨w.heap.size + 1 + 1, 0, none⟩ = some (.slice none 0 0) := by rw [hEq]; simp [go_sem]
  have y1 : W.cell? ⟨w.heap.size + 1 + 1, 1, none⟩ = some (.slice none 0 0) := by rw [hEq]; simp [go_sem]
  have yz : ∀ o, W.frozen? ⟨w.heap.size + 1 + 1, o, none⟩ = false := fun o => by rw [hEq]; simp [go_sem]
  have HW0 := Lib.hid hE
  obtain ⟨ok, hok⟩ : ∃ ok, ufOk x = ok := ⟨_, rfl⟩
  have hval := fun (wq : World) (hb : Below w.heap.size w wq) => specIsValidUf_at x ok hok (.agg #[.slice P x.length c]) wq ((HX.out.below hb (Nat.le_refl _)).more hb.size) hw
  have HVAL := Lib.hid hval
  have HOK := Lib.hid hok
  clear hval hok hM hcs hE
  go_enter Try.func37, Try.ntmps37
  go_wp2
  rw [← hEq]
  clear hEq
  obtain ⟨Y, hY⟩ : ∃ Y, Y = w.heap.size + 1 + 1 := ⟨_, rfl⟩
  rw [← hY] at y0 y1 yz ⊢
  have HY := Lib.hid hY
  clear hY
  go_loopw [4] (fun i wr => ∃ (k : Nat) (V1 V2 : Value) (N L : List Int), k ≤ M ∧ i = .int .i64 (k : Nat) ∧ Hid (N = (subTo x k).nulls) ∧ Hid (L = (subTo x k).vals) ∧ wr.cell? ⟨Y, 0, none⟩ = some V1 ∧ wr.cell? ⟨Y, 1, none⟩ = some V2 ∧ (∀ o, wr.frozen? ⟨Y, o, none⟩ = false) ∧ Hid (Two (Y + 1) V1 V2 N L wr) ∧ Hid (Below Y W wr)) (fun i _ => M - (intOf i).toNat)
  case atStart => exact ⟨0, _, _, [], [], by omega, rfl, Lib.hid rfl, Lib.hid rfl, y0, y1, yz, Lib.hid ⟨OwnInts.nil _ _, OwnInts.nil _ _, fun g hg => by cases hg⟩, Lib.hid (Below.refl _ _)⟩
  case round =>
    clear y0 y1 yz
    obtain ⟨k, V1, V2, N, L, hk, rfl, HNe, HLe, y0, y1, yz, HT, HC⟩ := hrel
    have hC := HC.out
    have hYe1 : w.heap.size + 2 ≤ Y := by have := HY.out; omega
    have hYe2 : Y ≤ w.heap.size + 2 := by have := HY.out; omega
    have hYw : Y + 1 ≤ wr.heap.size := by have h1 := hC.size; rw [HEz.out] at h1; omega
    have hwW : Below w.heap.size w wr := HW0.out.trans (hC.mono (by omega))
    have hln := subTo_len x k
    have HNl := Lib.hid (show N.length ≤ 40 by rw [HNe.out]; omega)
    have HLl := Lib.hid (show L.length ≤ 40 by rw [HLe.out]; omega)
    obtain ⟨P1, q1, rfl, -⟩ := HT.out.1.at_
    obtain ⟨P2, q2, rfl, -⟩ := HT.out.2.1.at_
    have s0 := (hC.cell (p := ⟨w.heap.size, 0, none⟩) (by show w.heap.size < Y; omega)).trans S0.out
    have hv := HVAL.out wr hwW
    clear hln
    by_cases hlt : k < M
    · have hokt : ok = true := by rw [← HOK.out]; exact HCS.out.elim (fun h => h.1) (fun h => by omega)
      have hkx : k < x.length := by omega
      subst hokt
      have hdk : decide ((k : Int) < (x.length : Int)) = true := decide_eq_true (by omega)
      have hdk2 : decide (k < x.length) = true := decide_eq_true hkx
      obtain ⟨b, off, rfl, hb, c0⟩ := IntsAt.elem (HN.out.below hwW (Nat.le_refl _)) k hkx
      have hnv := specNV_is (k : Int) (-1 - (k : Int)) rfl (by omega) (by omega)
      go_wp2_with fail
      refine hv.mono ?_; rintro e w2 ⟨rfl, b2⟩
      clear hv
      have HT2 := Lib.hid (HT.out.below b2 (Nat.le_refl _))
      have y0 := (b2.cell (p := ⟨Y, 0, none⟩) (by show Y < _; omega)).trans y0
      have y1 := (b2.cell (p := ⟨Y, 1, none⟩) (by show Y < _; omega)).trans y1
      have yz := fun o => (b2.frozen (p := ⟨Y, o, none⟩) (by show Y < _; omega)).trans (yz o)
      have s0 := (b2.cell (p := ⟨w.heap.size, 0, none⟩) (by show w.heap.size < _; omega)).trans s0
      have hW2 := hwW.trans (b2.mono hwW.size)
      have c0 := ((hW2.cell (p := ⟨b, off + k, none⟩) hb).trans ((hwW.cell (p := ⟨b, off + k, none⟩) hb).symm.trans c0))
      have HC2 := Lib.hid (hC.trans (b2.mono (by omega)))
      have hYw2 : Y + 1 ≤ w2.heap.size := Nat.le_trans hYw b2.size
      have hG0 := Aft.cell (B := w2.heap.size) (w := w2) (b := w.heap.size) (o := 0) (by omega) s0
      have hG1 := Aft.cell (B := w2.heap.size) (w := w2) (b := b) (o := off + k) (by omega) c0
      obtain ⟨z, hz⟩ : ∃ z, z = x[k] := ⟨_, rfl⟩
      rw [← hz] at c0 hG1
      have HZ := Lib.hid hz
      by_cases he : x[k] = -1 - (k : Int)
      · have HNx := Lib.hid (subTo_eq hkx he)
        have hq : (z != -1 - (k : Int)) = false := by rw [hz, he]; simp
        clear he hC hz
        generalize hzz : (-1 - (k : Int)) = zz at *
        clear hzz
        go_wp2
        refine wp_region_aft (Below.refl w2.heap.size w2) (by kernel_rfl) (by kernel_rfl) ?_
        repeat (go_big_quiet_step (((go_at_call 57; exact calls_aft_same (hnv _)))))
        refine wpQuiet_nil ?_
        refine aft_end ?_
        intro w3 hh
        have d0 := (hh.cell (p := ⟨Y, 0, none⟩) (by show Y < _; omega)).trans y0
        have d1 := (hh.cell (p := ⟨Y, 1, none⟩) (by show Y < _; omega)).trans y1
        have dz := fun o => (hh.frozen (p := ⟨Y, o, none⟩) (by show Y < _; omega)).trans (yz o)
        clear y0 y1 yz s0 c0 hG0 hG1
        go_wp2
        go_roundw
        case rel => exact ⟨k + 1, _, _, N, L, by omega, by go_num, Lib.hid (by rw [HNx.out]; exact HNe.out), Lib.hid (by rw [HNx.out]; exact HLe.out), d0, d1, dz, Lib.hid (HT2.out.below hh (Nat.le_refl _)), Lib.hid (HC2.out.trans (hh.mono (by omega)))⟩
        case measure => simp [intOf]; omega
      · have HNx := Lib.hid (subTo_ne hkx he)
        have hq : (z != -1 - (k : Int)) = true := by rw [hz]; exact bne_iff_ne.2 he
        clear he hC hz
        generalize hzz : (-1 - (k : Int)) = zz at *
        clear hzz
        go_wp2
        refine wp_region_aft (Below.refl w2.heap.size w2) (by kernel_rfl) (by kernel_rfl) ?_
        repeat (go_big_quiet_step (((go_at_call 57; exact calls_aft_same (hnv _)))))
        refine wpQuiet_nil ?_
        refine aft_end ?_
        intro w3 hh
        have d0 := (hh.cell (p := ⟨Y, 0, none⟩) (by show Y < _; omega)).trans y0
        have d1 := (hh.cell (p := ⟨Y, 1, none⟩) (by show Y < _; omega)).trans y1
        have dz := fun o => (hh.frozen (p := ⟨Y, o, none⟩) (by show Y < _; omega)).trans (yz o)
        have u0 := (hh.cell (p := ⟨w.heap.size, 0, none⟩) (by show w.heap.size < _; omega)).trans s0
        have e0 := (hh.cell (p := ⟨b, off + k, none⟩) (by show b < _; omega)).trans c0
        have HC3 := Lib.hid (HC2.out.trans (hh.mono (by omega)))
        have hYw3 : Y + 1 ≤ w3.heap.size := Nat.le_trans hYw2 hh.size
        have HT3 := Lib.hid (HT2.out.below hh (Nat.le_refl _))
        have hone := OwnInts.one w3 w3.heap.size (k : Int) (Nat.le_refl _)
        have HONE := Lib.hid hone.at_
        have hAl : Below w3.heap.size w3 (w3.alloc (.cells #[.int .i64 (k : Int)] 3)) := (Below.refl _ _).alloc (Nat.le_refl _) _
        have HT1 := Lib.hid (HT3.out.below hAl (Nat.le_refl _))
        have hnlen : N.length ≤ 40 := HNl.out
        have hllen : L.length ≤ 40 := HLl.out
        clear y0 y1 yz s0 c0 hG0 hG1 hh b2 hone hAl
        go_upto_region 7 with (at_builtin; refine ints_apps (r := [(k : Int)]) HT1.out.1 rfl _ _ rfl rfl (some ⟨w3.heap.size, 0, none⟩) 1 1 rfl rfl HONE.out (fun h => by cases h) (by simp; omega) (by simp; omega) ?_; intro v5 w5 hO5 hB5 hG5 hN5; have hbA := ((Below.refl (Y + 1) w3).alloc hYw3 (.cells #[.int .i64 (k : Int)] 3)).trans hB5; have d5 := (hbA.cell (p := ⟨Y, 0, none⟩) (Nat.lt_succ_self _)).trans d0; have d6 := (hbA.cell (p := ⟨Y, 1, none⟩) (Nat.lt_succ_self _)).trans d1; have d7 := fun o => (hbA.frozen (p := ⟨Y, o, none⟩) (Nat.lt_succ_self _)).trans (dz o); have HT5a := Lib.hid (HT1.out.first hO5 hG5 hN5); have HBA5 := Lib.hid hbA; obtain ⟨P3, q3, rfl, -⟩ := hO5.at_; clear hO5 hB5 hG5 hN5 hbA d0 dz)
        obtain ⟨WR, hWR⟩ : ∃ WR, WR = w5.setCell ⟨Y, 0, none⟩ (.slice P3 (N.length + 1) q3) := ⟨_, rfl⟩
        have x0 : WR.cell? ⟨Y, 0, none⟩ = some (.slice P3 (N.length + 1) q3) := by rw [hWR]; simp [go_sem, d5]
        have x1 : WR.cell? ⟨Y, 1, none⟩ = some (.slice P2 L.length q2) := by rw [hWR]; simp [go_sem, d6]
        have xz : ∀ o, WR.frozen? ⟨Y, o, none⟩ = false := fun o => by rw [hWR]; simp [d7]
        have hbW : Below Y w3 WR := by rw [hWR]; exact (show Below Y w3 w5 from HBA5.out.mono (by omega)).setCell (p := ⟨Y, 0, none⟩) (Nat.le_refl Y) _
        have hYW : Y + 1 ≤ WR.heap.size := Nat.le_trans hYw3 hbW.size
        have HTW := Lib.hid (show Two (Y + 1) (.slice P3 (N.length + 1) q3) (.slice P2 L.length q2) (N ++ [(k : Int)]) L WR by
          have hT := HT5a.out
          rw [show (N ++ [(k : Int)]).length = N.length + 1 by simp] at hT
          rw [hWR]; exact hT.chg ((Chg.refl (fun g => g = Y) w5).setCell (p := ⟨Y, 0, none⟩) rfl _) (fun k hk => by subst hk; omega))
        have HBW := Lib.hid (HC3.out.trans hbW)
        have u1 := (hbW.cell (p := ⟨w.heap.size, 0, none⟩) (by show w.heap.size < Y; omega)).trans u0
        have e1 := (hbW.cell (p := ⟨b, off + k, none⟩) (by show b < Y; omega)).trans e0
        rw [← hWR]
        clear hWR d5 d6 d7 hbW u0 e0 d1
        have hS : Holds [(⟨Y, 1, none⟩, .slice P2 L.length q2), (⟨w.heap.size, 0, none⟩, .slice (some ⟨b, off, none⟩) x.length c), (⟨b, off + k, none⟩, .int .i64 z)] WR.drew := by
          intro p hp
          simp only [List.mem_cons, List.not_mem_nil, or_false] at hp
          rcases hp with rfl | rfl | rfl
          · exact x1
          · exact u1
          · exact e1
        have hSb : ∀ p ∈ [((⟨Y, 1, none⟩ : Addr), Value.slice P2 L.length q2), (⟨w.heap.size, 0, none⟩, .slice (some ⟨b, off, none⟩) x.length c), (⟨b, off + k, none⟩, .int .i64 z)], p.1.block < Y + 1 := by
          intro p hp
          simp only [List.mem_cons, List.not_mem_nil, or_false] at hp
          rcases hp with rfl | rfl | rfl <;> simp <;> omega
        have g0 := Keep.cell (h0 := hS) (a := ⟨Y, 1, none⟩) (v := .slice P2 L.length q2) (by simp)
        have g1 := Keep.cell (h0 := hS) (a := ⟨w.heap.size, 0, none⟩) (v := .slice (some ⟨b, off, none⟩) x.length c) (by simp)
        have g2 := Keep.cell (h0 := hS) (a := ⟨b, off + k, none⟩) (v := .int .i64 z) (by simp)
        clear u1 e1
        refine wp_region_planL (C := fun w' => ∃ u : Keep _ WR.drew hS, w' = u.now) (.still 0 (.still 1 (.still 2 (.still 3 (.still 4 (.still 5 (.still 6 (.move true 7 (.move true 8 (.still 9 (.move false 10 .done .none)) .none) .none)))))))) (by kernel_rfl) (by kernel_rfl) (by kernel_rfl) (fun _ => ⟨⟨_, hS⟩, rfl⟩) ?_
        iterate 7
          refine plan_look _ rfl rfl ?_
          go_big_quiet_step (fail)
          refine wpQuiet_nil ?_
        have hbd : Below WR.heap.size WR WR.drew := (Below.refl _ _).drew
        have hbA0 : Below WR.drew.heap.size WR.drew (WR.drew.alloc (.cells #[.int .i64 z] 3)) := (Below.refl _ _).alloc (Nat.le_refl _) _
        refine plan_value (u := .slice (some ⟨WR.drew.heap.size, 0, none⟩) 1 1) (w' := WR.drew.alloc (.cells #[.int .i64 z] 3)) _ rfl rfl rfl (by simp [go_sem]) (fun _ => ⟨⟨_, hS.below (hbA0.mono hYW) hSb⟩, rfl⟩) ?_ True.intro
        refine plan_put ?_ (by simp only [Act.put, List.setIfInBounds_toArray, List.set_cons_succ, List.set_cons_zero]; rfl)
        have hT4 := (HTW.out.below hbd (Nat.le_refl _)).below hbA0 (Nat.le_refl _)
        have hO4 := hT4.2.1
        unfold OwnInts at hO4
        rw [← flat_int] at hO4
        have hr : SliceAt intCell (WR.drew.alloc (.cells #[.int .i64 z] 3)) (WR.drew.heap.size + 1) (.slice (some ⟨WR.drew.heap.size, 0, none⟩) [z].length 1) [z] := by
          refine ⟨_, _, rfl, Nat.le_refl _, by simp [maxLen], fun _ => ⟨_, _, rfl, by omega, ?_⟩, fun h => by cases h⟩
          intro i u hu
          rw [Nat.zero_add, box_cell]
          simpa [intCell] using hu
        refine plan_app intCell 1 8 (r := [z]) (fun x _ u hu => by simp [intCell] at hu; subst hu; rfl) (fun _ => rfl) _ rfl rfl Try.underlying24 infoInt rfl (by decide) hO4 _ _ rfl rfl ⟨WR.drew.heap.size, 0, none⟩ 1 1 rfl rfl hr (by simp; omega) (by simp; omega) (by simp; omega) ?_ True.intro
        intro v5 w6 hO5' hB5 hG5 hN5
        have hO5 : OwnInts (Y + 1) v5 (L ++ [z]) w6 := by
          have := hO5'
          rw [flat_int] at this
          simpa [OwnInts] using this
        have hT5 := hT4.second hO5 hG5 hN5
        obtain ⟨P5, q5, rfl, -⟩ := hO5.at_
        have hbD : Below (Y + 1) WR.drew w6 := (hbA0.mono hYW).trans hB5
        have hbA : Below (Y + 1) WR w6 := (hbd.mono hYW).trans hbD
        have z0 := (hbA.cell (p := ⟨Y, 0, none⟩) (Nat.lt_succ_self _)).trans x0
        have z1 := (hbA.cell (p := ⟨Y, 1, none⟩) (Nat.lt_succ_self _)).trans x1
        have zz2 := fun o => (hbA.frozen (p := ⟨Y, o, none⟩) (Nat.lt_succ_self _)).trans (xz o)
        have HT5 := Lib.hid hT5
        have HBA := Lib.hid hbA
        refine ⟨fun _ => ⟨⟨_, hS.below hbD hSb⟩, rfl⟩, ?_⟩
        clear hT5 hO5 hO5' hB5 hG5 hN5 hbA hbD hT4 hO4 hr g0 g1 g2 x0 x1 xz hbd hbA0
        refine plan_put ?_ (by simp only [Act.put, List.setIfInBounds_toArray, List.set_cons_succ, List.set_cons_zero]; rfl)
        refine plan_look _ rfl rfl ?_
        go_big_quiet_step (fail)
        refine wpQuiet_nil ?_
        refine plan_skip (w' := w6.setCell ⟨Y, 1, none⟩ (.slice P5 (L ++ [z]).length q5)) _ rfl rfl rfl (by simp [go_sem, z1, zz2]) (fun e => by cases e) ?_ True.intro
        refine plan_put ?_ (by simp only [Act.put]; rfl)
        refine plan_done ?_
        go_wp2
        go_roundw
        case rel =>
          refine ⟨k + 1, .slice P3 (N.length + 1) q3, .slice P5 (L ++ [z]).length q5, N ++ [(k : Int)], L ++ [z], by omega, by go_num, Lib.hid (by rw [HNx.out.1, HNe.out]), Lib.hid (by rw [HNx.out.2, HLe.out, HZ.out]), by simp [go_sem, z0], by simp [go_sem, z1], fun o => by simp [zz2], Lib.hid ?_, Lib.hid ?_⟩
          · exact HT5.out.chg ((Chg.refl (fun g => g = Y) w6).setCell (p := ⟨Y, 1, none⟩) rfl _) (fun k hk => by subst hk; omega)
          · exact HBW.out.trans ((show Below Y WR w6 from HBA.out.mono (by omega)).setCell (p := ⟨Y, 1, none⟩) (Nat.le_refl Y) _)
        case measure => simp [intOf]; omega
    · obtain rfl : k = M := by omega
      have fin : ∀ wq, Below wr.heap.size wr wq → wq.cell? ⟨w.heap.size + 1, 0, none⟩ = some (.slice none 0 0) ∧ wq.cell? ⟨w.heap.size + 1, 1, none⟩ = some (.slice none 0 0) ∧ (∀ o, wq.frozen? ⟨w.heap.size + 1, o, none⟩ = false) ∧ wq.cell? ⟨Y, 0, none⟩ = some (.slice P1 N.length q1) ∧ wq.cell? ⟨Y, 1, none⟩ = some (.slice P2 L.length q2) ∧
          (Substitution_own w.heap.size ((wq.setCell ⟨w.heap.size + 1, 0, none⟩ (.slice P1 N.length q1)).setCell ⟨w.heap.size + 1, 1, none⟩ (.slice P2 L.length q2)).heap.size (.agg #[.slice P1 N.length q1, .slice P2 L.length q2]) (UnionSubstitution_r0 x) ((wq.setCell ⟨w.heap.size + 1, 0, none⟩ (.slice P1 N.length q1)).setCell ⟨w.heap.size + 1, 1, none⟩ (.slice P2 L.length q2)) ∧ Below w.heap.size w ((wq.setCell ⟨w.heap.size + 1, 0, none⟩ (.slice P1 N.length q1)).setCell ⟨w.heap.size + 1, 1, none⟩ (.slice P2 L.length q2))) := fun wq hb => by
        have hbY : Below Y W wq := hC.trans (hb.mono (by omega))
        have hwq := hwW.trans (hb.mono hwW.size)
        have hst : Chg (fun g => g = w.heap.size + 1) wq ((wq.setCell ⟨w.heap.size + 1, 0, none⟩ (.slice P1 N.length q1)).setCell ⟨w.heap.size + 1, 1, none⟩ (.slice P2 L.length q2)) := ((Chg.refl (fun g => g = w.heap.size + 1) wq).setCell (p := ⟨w.heap.size + 1, 0, none⟩) rfl _).setCell (p := ⟨w.heap.size + 1, 1, none⟩) rfl _
        refine ⟨(hbY.cell (p := ⟨w.heap.size + 1, 0, none⟩) (by show w.heap.size + 1 < Y; omega)).trans R0.out, (hbY.cell (p := ⟨w.heap.size + 1, 1, none⟩) (by show w.heap.size + 1 < Y; omega)).trans R1.out, fun o => (hbY.frozen (p := ⟨w.heap.size + 1, o, none⟩) (by show w.heap.size + 1 < Y; omega)).trans (RZ.out o), (hb.cell (p := ⟨Y, 0, none⟩) (by show Y < _; omega)).trans y0, (hb.cell (p := ⟨Y, 1, none⟩) (by show Y < _; omega)).trans y1, ?_, ?_⟩
        · rw [HV.out]
          refine two_own (D := Y + 1) (S := fun g => g = w.heap.size + 1) (w := wq) ?_ hst (fun k hk => by subst hk; omega) (by omega) rfl
          rw [← HNe.out, ← HLe.out]; exact HT.out.below hb (Nat.le_refl _)
        · exact hwq.trans (hst.below (fun g hg => by subst hg; omega) hwq.size)
      have FIN := Lib.hid fin
      clear fin hC y0 y1 yz
      rcases HCS.out with ⟨h1, h2, h3⟩ | ⟨h1, h2⟩
      · have hdk : decide ((k : Int) < (x.length : Int)) = false := decide_eq_false (by omega)
        have hdk2 : decide (k < x.length) = false := decide_eq_false (by omega)
        have hh := FIN.out wr (Below.refl _ _)
        clear h1 h2 h3 hv
        obtain ⟨r0, r1, r2, y0, y1, hfin⟩ := hh
        have HF := Lib.hid hfin
        clear hfin
        go_wp2
        refine bodyPost_ret (v := .agg #[.slice P1 N.length q1, .slice P2 L.length q2]) (by simp [results, Try.results37, go_sem, r0, r1]) rfl ⟨_, rfl, HF.out⟩
      · by_cases hx0 : x.length = 0
        · have hdk : decide ((k : Int) < (x.length : Int)) = false := decide_eq_false (by omega)
          have hdk2 : decide (k < x.length) = false := decide_eq_false (by omega)
          have hh := FIN.out wr (Below.refl _ _)
          clear h1 h2 hv hx0
          obtain ⟨r0, r1, r2, y0, y1, hfin⟩ := hh
          have HF := Lib.hid hfin
          clear hfin
          go_wp2
          refine bodyPost_ret (v := .agg #[.slice P1 N.length q1, .slice P2 L.length q2]) (by simp [results, Try.results37, go_sem, r0, r1]) rfl ⟨_, rfl, HF.out⟩
        · have hdk : decide ((k : Int) < (x.length : Int)) = true := decide_eq_true (by omega)
          have hdk2 : decide (k < x.length) = true := decide_eq_true (by omega)
          have hokf : ok = false := by rw [← HOK.out]; exact h1
          subst hokf
          clear h1 h2 hx0
          go_wp2_with fail
          refine hv.mono ?_; rintro e w2 ⟨rfl, b2⟩
          obtain ⟨r0, r1, r2, y0, y1, hfin⟩ := FIN.out w2 b2
          have HF := Lib.hid hfin
          clear hfin s0
          go_wp2
          refine bodyPost_ret (v := .agg #[.slice P1 N.length q1, .slice P2 L.length q2]) (by simp [results, Try.results37, go_sem, r0, r1]) rfl ⟨_, rfl, HF.out⟩
theorem specUnionSubstitution_c (v : Value) (x : List Int) (w : World) (h : UnionFind_at w w.heap.size v x) (hw : UnionFind_wf x) (_ : UnionFind_sz x ≤ 1048576) :
    Calls Try.prog 37 #[v] w fun e w' => ∃ r, e = .returned r ∧ Substitution_at w' w'.heap.size r (UnionSubstitution_r0 x) ∧ Below w.heap.size w w' :=
  (specUnionSubstitution_any v x w h hw).mono fun _ _ ⟨r, he, ho, hb⟩ => ⟨r, he, ho.at_ (Nat.le_refl _), hb⟩

end Go.Proofs.Ytalijnfbopcmeaa
