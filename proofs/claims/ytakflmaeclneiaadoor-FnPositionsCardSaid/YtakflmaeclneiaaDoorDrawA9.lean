/-
  Walks and plain lemmas for the laws of this seat: what single Go functions return, for every argument.
-/
import Derived.Deep.LoopGhost
import Derived.Deep.Quiet
import Derived.Test.YtakflmaeclneiaaDoorDraw
import Derived.Test.YtakflmaeclneiaaDoorDrawR
import Derived.Test.YtakflmaeclneiaaDoorInts
import Derived.Test.YtakflmaeclneiaaDoorTyAtom
import Derived.Test.YtakflmaeclneiaaDoorSigsAr
import Derived.Test.YtakflmaeclneiaaDoorPlan
import Derived.Test.YtakflmaeclneiaaDoorDrawG
namespace Go.Proofs.YtakflmaeclneiaaDoor
open Go.RowKit

set_option maxHeartbeats 1600000 in
set_option maxRecDepth 100000 in
theorem l9Atom_c (p : Nat) (cv : Value) (code : List UInt8) (st : DrawSt) (j : Nat) (hj : j < 5) (n : Int) (h1 : 1 ≤ n) (h2 : n ≤ 4) (w : World) (hC : CurS w p cv code st) :
    Calls Tryd.prog 52 #[.pointer (some ⟨p, 0, none⟩), .int .i64 j, .int .i64 n] w fun e w' => ∃ V vs, e = .returned (.agg #[.int .i64 j, V]) ∧ OwnInts w.heap.size V vs w' ∧ 1 ≤ vs.length ∧ vs.length ≤ 2 ∧ (∀ z ∈ vs, -4 ≤ z ∧ z ≤ 4) ∧ (∃ st', CurS w' p cv code st') ∧ w.grownBy w' (some p) := by
  have hp := Cur.lt hC
  have har := sigs5_ar j hj
  go_enter Tryd.func52, Tryd.ntmps52
  go_wp2_with fail
  refine (l3Sigs_c _).mono ?_; rintro e w2 ⟨rfl, hw2⟩
  have hO2 := sigs5_own (w.alloc (.cells #[.int .i64 0, .slice none 0 0] 86))
  rw [← hw2] at hO2
  go_wp2_with fail
  have hG : (w.alloc (.cells #[.int .i64 0, .slice none 0 0] 86)).heap.size = w.heap.size + 1 := by simp
  obtain ⟨-, s1, -⟩ := hO2.cells rfl j hj
  rw [hG] at s1
  have b0 : w2.cell? ⟨w.heap.size, 0, none⟩ = some (.int .i64 0) := by rw [hw2]; simp [go_sem]
  have b1 : w2.cell? ⟨w.heap.size, 1, none⟩ = some (.slice none 0 0) := by rw [hw2]; simp [go_sem]
  have bz : ∀ o, w2.frozen? ⟨w.heap.size, o, none⟩ = false := by intro o; rw [hw2]; simp [go_sem]
  have hz2 : w2.heap.size = w.heap.size + 2 := by rw [hw2]; simp
  have hC2 : CurS w2 p cv code st := by rw [hw2]; exact Cur.alloc (Cur.alloc hC _) _
  have hB2 : Below w.heap.size w w2 := by rw [hw2]; exact below_more (below_more (Below.refl _ _) _) _
  clear hO2 hG
  rw [← hw2]
  clear hw2
  obtain ⟨g, hg⟩ : ∃ g, g = w2.heap.size := ⟨_, rfl⟩
  have y0 : (w2.alloc (.cells #[.int .i64 j, .slice none 0 0] 86)).cell? ⟨g, 0, none⟩ = some (.int .i64 j) := by rw [hg]; simp [go_sem]
  have y1 : (w2.alloc (.cells #[.int .i64 j, .slice none 0 0] 86)).cell? ⟨g, 1, none⟩ = some (.slice none 0 0) := by rw [hg]; simp [go_sem]
  have yz : ∀ o, (w2.alloc (.cells #[.int .i64 j, .slice none 0 0] 86)).frozen? ⟨g, o, none⟩ = false := by intro o; rw [hg]; simp [go_sem]
  have hsz : (w2.alloc (.cells #[.int .i64 j, .slice none 0 0] 86)).heap.size = g + 1 := by rw [hg]; simp
  have hAl : Below g w2 (w2.alloc (.cells #[.int .i64 j, .slice none 0 0] 86)) := (Below.refl _ _).alloc (by omega) _
  have hCW : CurS (w2.alloc (.cells #[.int .i64 j, .slice none 0 0] 86)) p cv code st := Cur.alloc hC2 _
  have hgw : g = w.heap.size + 2 := hg.trans hz2
  have hGW := Lib.hid hgw
  rw [show w.heap.size + 1 + 1 = g from hgw.symm]
  generalize w2.alloc (.cells #[.int .i64 j, .slice none 0 0] 86) = W at y0 y1 yz hsz hAl hCW ⊢
  obtain ⟨A, hA⟩ : ∃ A : Nat, sigs5[j].arity = A := ⟨sigs5[j].arity.toNat, by omega⟩
  rw [hA] at s1 har
  have S1 := Lib.hid ((hAl.cell (p := ⟨w.heap.size + 1, j * 3 + 1, none⟩) (by show w.heap.size + 1 < g; omega)).trans s1)
  have B0 := Lib.hid ((hAl.cell (p := ⟨w.heap.size, 0, none⟩) (by show w.heap.size < g; omega)).trans b0)
  have B1 := Lib.hid ((hAl.cell (p := ⟨w.heap.size, 1, none⟩) (by show w.heap.size < g; omega)).trans b1)
  have BZ := Lib.hid (fun o => (hAl.frozen (p := ⟨w.heap.size, o, none⟩) (by show w.heap.size < g; omega)).trans (bz o))
  have HW := Lib.hid (hB2.trans (hAl.mono (by omega)))
  have HSZ := Lib.hid hsz
  have hpg : p < g ∧ w.heap.size + 1 < g := by omega
  clear s1 b0 b1 bz hz2 hC2 hB2 hg hAl hsz hgw hA
  go_loopg [] A (fun m wr => ∃ V vs st', m + vs.length = A ∧ wr.cell? ⟨g, 0, none⟩ = some (.int .i64 j) ∧ wr.cell? ⟨g, 1, none⟩ = some V ∧ (∀ o, wr.frozen? ⟨g, o, none⟩ = false) ∧ OwnInts (g + 1) V vs wr ∧ (∀ z ∈ vs, -4 ≤ z ∧ z ≤ 4) ∧ CurS wr p cv code st' ∧ Hid (Chg (fun q => q = p ∨ q = g) W wr))
  case atStart => exact ⟨_, [], _, rfl, y0, y1, yz, OwnInts.nil _ _, (fun z hz => by cases hz), hCW, Lib.hid (Chg.refl _ _)⟩
  case round =>
    clear y0 y1 yz hCW
    obtain ⟨V, vs, st', hm, y0, y1, yz, hO, hvs, hCr, HC⟩ := hrel
    obtain ⟨P4, c4, rfl, hl4, hm4, -⟩ := hO.at_
    have hC' := HC.out
    have ar : wr.cell? ⟨w.heap.size + 1, j * 3 + 1, none⟩ = some (.int .i64 A) := (hC'.cell (show w.heap.size + 1 < _ by rw [HSZ.out]; omega) (by omega)).trans S1.out
    have HO := Lib.hid hO
    have HV := Lib.hid hvs
    clear hO hC' hvs
    unfold maxLen at hm4
    have HM := Lib.hid hm
    by_cases hlt : vs.length < A
    · have e0 : decide (vs.length < A) = true := decide_eq_true hlt
      have e1 : decide ((vs.length : Int) < (A : Int)) = true := decide_eq_true (by omega)
      clear hm
      go_wp2_with fail
      go_quiet (fail)
      go_wp2_with fail
      refine (l1Once_r p cv code _ 14 _ (Cur.drewN hCr _)).mono ?_; rintro e w3 ⟨rfl, hC3, hg3⟩
      have hbd := belowR_bd code
      generalize onceR code st' 14 = b at *
      obtain ⟨bb, st3⟩ := b
      dsimp only at *
      have hg3' : wr.grownBy w3 (some p) := ⟨hg3.os, hg3.tape, hg3.output, hg3.size, hg3.block⟩
      have hz3 := hg3'.size
      have hgr : g + 1 ≤ wr.heap.size := by have h1 := HC.out.size; rw [HSZ.out] at h1; exact h1
      replace y0 := grown_cell hg3' y0 (by omega)
      replace y1 := grown_cell hg3' y1 (by omega)
      replace yz := fun o => grown_frozen hg3' hgr (by omega) (yz o)
      replace HO := Lib.hid (HO.out.grown hg3' (by omega))
      have HG3 := Lib.hid hg3'
      clear hg3 hg3' ar
      have hS : Holds [(⟨g, 1, none⟩, .slice P4 vs.length c4)] w3 := by
        intro q hq
        simp only [List.mem_cons, List.not_mem_nil, or_false] at hq
        subst hq
        exact y1
      have hSb : ∀ q ∈ [((⟨g, 1, none⟩ : Addr), Value.slice P4 vs.length c4)], q.1.block = g := by
        intro q hq
        simp only [List.mem_cons, List.not_mem_nil, or_false] at hq
        subst hq
        rfl
      have HSb := Lib.hid hSb
      clear hSb
      have hgr3 : g + 1 ≤ w3.heap.size := by omega
      have g0 := Keep.cell (h0 := hS) (a := ⟨g, 1, none⟩) (v := .slice P4 vs.length c4) (by simp)
      cases bb with
      | true =>
        go_wp2_with fail
        refine wp_region_planL (C := fun w' => ∃ u : Keep _ w3 hS, w' = u.now) (.still 0 (.still 1 (.still 2 (.move true 3 (.still 4 (.move true 5 (.move true 6 (.still 7 (.move false 8 .done .none)) .none) .none)) .none)))) (by kernel_rfl) (by kernel_rfl) (by kernel_rfl) (fun _ => ⟨⟨w3.drew, hS⟩, rfl⟩) ?_
        iterate 3
          refine plan_look _ rfl rfl ?_
          go_big_quiet_step (fail)
          refine wpQuiet_nil ?_
        refine plan_call _ 22 _ _ _ _ _ rfl _ Tryd.func22 (by kernel_rfl) (by kernel_rfl) ?_ True.intro
        refine (l1Below_r p cv code st3 3 _ (Cur.drewN hC3 1)).mono ?_
        rintro _ w2 ⟨rfl, hC2, hg2⟩
        have hbz := hbd st3 3
        have hbz2 := hbz.2 (by omega)
        have hbz1 := hbz.1
        generalize belowR code st3 3 = b at *
        obtain ⟨zz0, st2⟩ := b
        dsimp only at *
        clear hbz
        have hg' : w3.grownBy w2 (some p) := ⟨hg2.os, hg2.tape, hg2.output, hg2.size, hg2.block⟩
        refine ⟨_, rfl, fun _ => ⟨⟨_, hS.grown hg' (fun q hq => ⟨by rw [HSb.out q hq]; exact hgr3, by rw [HSb.out q hq]; intro e; injection e; omega⟩)⟩, rfl⟩, ?_⟩
        have hK2 := hS.grown hg' (fun q hq => ⟨by rw [HSb.out q hq]; exact hgr3, by rw [HSb.out q hq]; intro e; injection e; omega⟩)
        refine plan_put ?_ (by simp only [Act.put, List.setIfInBounds_toArray, List.set_cons_succ, List.set_cons_zero]; rfl)
        refine plan_look _ rfl rfl ?_
        go_big_quiet_step (fail)
        refine wpQuiet_nil ?_
        obtain ⟨z, hz⟩ : ∃ z, z = -1 - zz0 := ⟨_, rfl⟩
        have hz12 : -4 ≤ z ∧ z ≤ 4 := by omega
        rw [← hz]
        clear hz hbz1 hbz2
        have hz2' := hg'.size
        have hAl := (Below.refl (g + 1) w2).alloc (by omega) (.cells #[.int .i64 z] 3)
        refine plan_value (u := .slice (some ⟨w2.heap.size, 0, none⟩) 1 1) (w' := w2.alloc (.cells #[.int .i64 z] 3)) _ rfl rfl rfl (by simp [go_sem]) (fun _ => ⟨⟨_, hK2.below hAl (fun q hq => by rw [HSb.out q hq]; omega)⟩, rfl⟩) ?_ True.intro
        refine plan_put ?_ (by simp only [Act.put, List.setIfInBounds_toArray, List.set_cons_succ, List.set_cons_zero]; rfl)
        have hO3 := (HO.out.grown hg' (by omega)).grown (World.grownBy_alloc w2 (.cells #[.int .i64 z] 3) (some p)) (by omega)
        unfold OwnInts at hO3
        rw [← flat_int] at hO3
        have hr : SliceAt intCell (w2.alloc (.cells #[.int .i64 z] 3)) (w2.heap.size + 1) (.slice (some ⟨w2.heap.size, 0, none⟩) [z].length 1) [z] := by
          refine ⟨_, _, rfl, Nat.le_refl _, by simp [maxLen], fun _ => ⟨_, _, rfl, by omega, ?_⟩, fun h => by cases h⟩
          intro i u hu
          rw [Nat.zero_add, box_cell]
          simpa [intCell] using hu
        refine plan_app intCell 1 8 (r := [z]) (fun x _ u hu => by simp [intCell] at hu; subst hu; rfl) (fun _ => rfl) _ rfl rfl Tryd.underlying56 infoInt rfl (by decide) hO3 _ _ rfl rfl ⟨w2.heap.size, 0, none⟩ 1 1 rfl rfl hr (by simp; omega) (by simp; omega) (by simp; omega) ?_ True.intro
        intro v4 w4 hO4 hB4 _ _
        have hb4 := hAl.trans hB4
        have hO5 : OwnInts (g + 1) v4 (vs ++ [z]) w4 := by
          have := hO4
          rw [flat_int] at this
          simpa [OwnInts] using this
        obtain ⟨P5, c5, rfl, -⟩ := hO5.at_
        have z0 := (hb4.cell (p := ⟨g, 0, none⟩) (Nat.lt_succ_self _)).trans (grown_cell hg' y0 (by omega))
        have z1 := (hb4.cell (p := ⟨g, 1, none⟩) (Nat.lt_succ_self _)).trans (grown_cell hg' y1 (by omega))
        have zz := fun o => (hb4.frozen (p := ⟨g, o, none⟩) (Nat.lt_succ_self _)).trans (grown_frozen hg' hgr3 (by omega) (yz o))
        have HO5 := Lib.hid hO5
        have HB4 := Lib.hid hb4
        have HC2 := Lib.hid hC2
        have HG' := Lib.hid hg'
        refine ⟨fun _ => ⟨⟨_, hK2.below hb4 (fun q hq => by rw [HSb.out q hq]; omega)⟩, rfl⟩, ?_⟩
        clear hO5 hb4 hC2 hg' hO4 hB4 hr hO3 hAl hK2 y0 y1 yz hg2
        refine plan_put ?_ (by simp only [Act.put, List.setIfInBounds_toArray, List.set_cons_succ, List.set_cons_zero]; rfl)
        refine plan_look _ rfl rfl ?_
        go_big_quiet_step (fail)
        refine wpQuiet_nil ?_
        refine plan_skip (w' := w4.setCell ⟨g, 1, none⟩ (.slice P5 (vs ++ [z]).length c5)) _ rfl rfl rfl (by simp [go_sem, z1, zz]) (fun e => by cases e) ?_ True.intro
        refine plan_put ?_ (by simp only [Act.put]; rfl)
        refine plan_done ?_
        go_wp2
        go_roundg (gk - 1)
        case measure => have := HM.out; omega
        case rel =>
          have hM := HM.out
          have hch : Chg (fun q => q = p ∨ q = g) wr w2 := by
            have h3 := HG3.out.trans HG'.out
            exact ⟨h3.os, h3.tape, h3.output, h3.size, fun k hk hn => h3.block k hk (by intro e; injection e with e; exact hn (.inl e))⟩
          have hbf : Below w.heap.size w2 (w4.setCell ⟨g, 1, none⟩ (.slice P5 (vs ++ [z]).length c5)) := (HB4.out.mono (by omega)).setCell (p := ⟨g, 1, none⟩) (by show w.heap.size ≤ g; omega) _
          refine ⟨.slice P5 (vs ++ [z]).length c5, vs ++ [z], st2, by simp; omega, by simp [go_sem, z0], by simp [go_sem, z1], fun o => by simp [zz], ?_, ?_, Cur.below hC HC2.out hbf, Lib.hid (((HC.out.trans hch).then_below (by rw [HSZ.out]; exact HB4.out)).setCell (p := ⟨g, 1, none⟩) (.inr rfl) _)⟩
          · exact HO5.out.chg ((Chg.refl (fun q => q = g) w4).setCell (p := ⟨g, 1, none⟩) rfl _) (fun q hq e => by have := (HO5.out.lt q hq).1; omega)
          · intro y hy
            rcases List.mem_append.1 hy with h | h
            · exact HV.out y h
            · rw [List.mem_singleton.1 h]; exact hz12
      | false =>
        go_wp2_with fail
        refine wp_region_planL (C := fun w' => ∃ u : Keep _ w3 hS, w' = u.now) (.still 0 (.still 1 (.still 2 (.still 3 (.move true 4 (.move true 5 (.move true 6 (.still 7 (.move false 8 .done .none)) .none) .none) .none))))) (by kernel_rfl) (by kernel_rfl) (by kernel_rfl) (fun _ => ⟨⟨w3.drew, hS⟩, rfl⟩) ?_
        iterate 4
          refine plan_look _ rfl rfl ?_
          go_big_quiet_step (fail)
          refine wpQuiet_nil ?_
        refine plan_call _ 22 _ _ _ _ _ rfl _ Tryd.func22 (by kernel_rfl) (by kernel_rfl) ?_ True.intro
        refine (l1Below_r p cv code st3 n _ (Cur.drewN hC3 1)).mono ?_
        rintro _ w2 ⟨rfl, hC2, hg2⟩
        have hbz := hbd st3 n
        have hbz2 := hbz.2 (by omega)
        have hbz1 := hbz.1
        generalize belowR code st3 n = b at *
        obtain ⟨zz0, st2⟩ := b
        dsimp only at *
        clear hbz
        have hg' : w3.grownBy w2 (some p) := ⟨hg2.os, hg2.tape, hg2.output, hg2.size, hg2.block⟩
        refine ⟨_, rfl, fun _ => ⟨⟨_, hS.grown hg' (fun q hq => ⟨by rw [HSb.out q hq]; exact hgr3, by rw [HSb.out q hq]; intro e; injection e; omega⟩)⟩, rfl⟩, ?_⟩
        have hK2 := hS.grown hg' (fun q hq => ⟨by rw [HSb.out q hq]; exact hgr3, by rw [HSb.out q hq]; intro e; injection e; omega⟩)
        refine plan_put ?_ (by simp only [Act.put, List.setIfInBounds_toArray, List.set_cons_succ, List.set_cons_zero]; rfl)
        obtain ⟨z, hz⟩ : ∃ z, z = zz0 := ⟨_, rfl⟩
        have hz12 : -4 ≤ z ∧ z ≤ 4 := by omega
        rw [← hz]
        clear hz hbz1 hbz2
        have hz2' := hg'.size
        have hAl := (Below.refl (g + 1) w2).alloc (by omega) (.cells #[.int .i64 z] 3)
        refine plan_value (u := .slice (some ⟨w2.heap.size, 0, none⟩) 1 1) (w' := w2.alloc (.cells #[.int .i64 z] 3)) _ rfl rfl rfl (by simp [go_sem]) (fun _ => ⟨⟨_, hK2.below hAl (fun q hq => by rw [HSb.out q hq]; omega)⟩, rfl⟩) ?_ True.intro
        refine plan_put ?_ (by simp only [Act.put, List.setIfInBounds_toArray, List.set_cons_succ, List.set_cons_zero]; rfl)
        have hO3 := (HO.out.grown hg' (by omega)).grown (World.grownBy_alloc w2 (.cells #[.int .i64 z] 3) (some p)) (by omega)
        unfold OwnInts at hO3
        rw [← flat_int] at hO3
        have hr : SliceAt intCell (w2.alloc (.cells #[.int .i64 z] 3)) (w2.heap.size + 1) (.slice (some ⟨w2.heap.size, 0, none⟩) [z].length 1) [z] := by
          refine ⟨_, _, rfl, Nat.le_refl _, by simp [maxLen], fun _ => ⟨_, _, rfl, by omega, ?_⟩, fun h => by cases h⟩
          intro i u hu
          rw [Nat.zero_add, box_cell]
          simpa [intCell] using hu
        refine plan_app intCell 1 8 (r := [z]) (fun x _ u hu => by simp [intCell] at hu; subst hu; rfl) (fun _ => rfl) _ rfl rfl Tryd.underlying56 infoInt rfl (by decide) hO3 _ _ rfl rfl ⟨w2.heap.size, 0, none⟩ 1 1 rfl rfl hr (by simp; omega) (by simp; omega) (by simp; omega) ?_ True.intro
        intro v4 w4 hO4 hB4 _ _
        have hb4 := hAl.trans hB4
        have hO5 : OwnInts (g + 1) v4 (vs ++ [z]) w4 := by
          have := hO4
          rw [flat_int] at this
          simpa [OwnInts] using this
        obtain ⟨P5, c5, rfl, -⟩ := hO5.at_
        have z0 := (hb4.cell (p := ⟨g, 0, none⟩) (Nat.lt_succ_self _)).trans (grown_cell hg' y0 (by omega))
        have z1 := (hb4.cell (p := ⟨g, 1, none⟩) (Nat.lt_succ_self _)).trans (grown_cell hg' y1 (by omega))
        have zz := fun o => (hb4.frozen (p := ⟨g, o, none⟩) (Nat.lt_succ_self _)).trans (grown_frozen hg' hgr3 (by omega) (yz o))
        have HO5 := Lib.hid hO5
        have HB4 := Lib.hid hb4
        have HC2 := Lib.hid hC2
        have HG' := Lib.hid hg'
        refine ⟨fun _ => ⟨⟨_, hK2.below hb4 (fun q hq => by rw [HSb.out q hq]; omega)⟩, rfl⟩, ?_⟩
        clear hO5 hb4 hC2 hg' hO4 hB4 hr hO3 hAl hK2 y0 y1 yz hg2
        refine plan_put ?_ (by simp only [Act.put, List.setIfInBounds_toArray, List.set_cons_succ, List.set_cons_zero]; rfl)
        refine plan_look _ rfl rfl ?_
        go_big_quiet_step (fail)
        refine wpQuiet_nil ?_
        refine plan_skip (w' := w4.setCell ⟨g, 1, none⟩ (.slice P5 (vs ++ [z]).length c5)) _ rfl rfl rfl (by simp [go_sem, z1, zz]) (fun e => by cases e) ?_ True.intro
        refine plan_put ?_ (by simp only [Act.put]; rfl)
        refine plan_done ?_
        go_wp2
        go_roundg (gk - 1)
        case measure => have := HM.out; omega
        case rel =>
          have hM := HM.out
          have hch : Chg (fun q => q = p ∨ q = g) wr w2 := by
            have h3 := HG3.out.trans HG'.out
            exact ⟨h3.os, h3.tape, h3.output, h3.size, fun k hk hn => h3.block k hk (by intro e; injection e with e; exact hn (.inl e))⟩
          have hbf : Below w.heap.size w2 (w4.setCell ⟨g, 1, none⟩ (.slice P5 (vs ++ [z]).length c5)) := (HB4.out.mono (by omega)).setCell (p := ⟨g, 1, none⟩) (by show w.heap.size ≤ g; omega) _
          refine ⟨.slice P5 (vs ++ [z]).length c5, vs ++ [z], st2, by simp; omega, by simp [go_sem, z0], by simp [go_sem, z1], fun o => by simp [zz], ?_, ?_, Cur.below hC HC2.out hbf, Lib.hid (((HC.out.trans hch).then_below (by rw [HSZ.out]; exact HB4.out)).setCell (p := ⟨g, 1, none⟩) (.inr rfl) _)⟩
          · exact HO5.out.chg ((Chg.refl (fun q => q = g) w4).setCell (p := ⟨g, 1, none⟩) rfl _) (fun q hq e => by have := (HO5.out.lt q hq).1; omega)
          · intro y hy
            rcases List.mem_append.1 hy with h | h
            · exact HV.out y h
            · rw [List.mem_singleton.1 h]; exact hz12
    · have e0 : decide (vs.length < A) = false := decide_eq_false hlt
      have e1 : decide ((vs.length : Int) < (A : Int)) = false := decide_eq_false (by omega)
      clear hm
      go_wp2_with fail
      go_quiet (fail)
      have hC' := HC.out
      have m0 : wr.cell? ⟨w.heap.size, 0, none⟩ = some (.int .i64 0) := (hC'.cell (show w.heap.size < _ by rw [HSZ.out]; omega) (by omega)).trans B0.out
      have m1 : wr.cell? ⟨w.heap.size, 1, none⟩ = some (.slice none 0 0) := (hC'.cell (show w.heap.size < _ by rw [HSZ.out]; omega) (by omega)).trans B1.out
      have mz : ∀ o, wr.frozen? ⟨w.heap.size, o, none⟩ = false := fun o => (hC'.frozen (show w.heap.size < _ by rw [HSZ.out]; omega) (by omega)).trans (BZ.out o)
      have HG : Hid (w.grownBy wr (some p)) := by
        have h1 := HW.out
        refine ⟨hC'.os.trans h1.os, hC'.tape.trans h1.tape, hC'.output.trans h1.output, Nat.le_trans h1.size hC'.size, fun k hk hne => (hC'.block k (Nat.lt_of_lt_of_le hk h1.size) ?_).trans (h1.block k hk)⟩
        have := hGW.out
        have h3 : k ≠ p := fun e => hne (by rw [e])
        omega
      clear hC'
      go_wp2_with fail
      have hbw : Below w.heap.size wr (((wr.drewN nq).setCell ⟨w.heap.size, 0, none⟩ (.int .i64 j)).setCell ⟨w.heap.size, 1, none⟩ (.slice P4 vs.length c4)) := ((show Below w.heap.size wr (wr.drewN nq) from ⟨rfl, rfl, rfl, Nat.le_refl _, fun _ _ => rfl⟩).setCell (p := ⟨w.heap.size, 0, none⟩) (Nat.le_refl _) _).setCell (p := ⟨w.heap.size, 1, none⟩) (Nat.le_refl _) _
      have hcw : Chg (fun q => q = w.heap.size) wr (((wr.drewN nq).setCell ⟨w.heap.size, 0, none⟩ (.int .i64 j)).setCell ⟨w.heap.size, 1, none⟩ (.slice P4 vs.length c4)) := ((show Chg (fun q => q = w.heap.size) wr (wr.drewN nq) from ⟨rfl, rfl, rfl, Nat.le_refl _, fun _ _ _ => rfl⟩).setCell (p := ⟨w.heap.size, 0, none⟩) rfl _).setCell (p := ⟨w.heap.size, 1, none⟩) rfl _
      refine bodyPost_ret (v := .agg #[.int .i64 j, .slice P4 vs.length c4]) (by simp [results, Tryd.results52, go_sem, m0, m1]) rfl ⟨_, vs, rfl, ?_, ?_, ?_, HV.out, ⟨_, Cur.below hC hCr hbw⟩, grown_of_below HG.out hbw⟩
      · exact (HO.out.chg hcw (fun q hq e => by have := (HO.out.lt q hq).1; omega)).mono (by omega)
      · have := HM.out; omega
      · have := HM.out; omega

end Go.Proofs.YtakflmaeclneiaaDoor
