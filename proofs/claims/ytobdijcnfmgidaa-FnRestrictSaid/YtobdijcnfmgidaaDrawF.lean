/-
  Walks and plain lemmas for the laws of this seat: what single Go functions return, for every argument.
-/
import Derived.Deep.LoopGhost
import Derived.Test.YtobdijcnfmgidaaInts
import Derived.Test.YtobdijcnfmgidaaDraw
import Derived.Test.YtobdijcnfmgidaaDrawR
import Derived.Test.YtobdijcnfmgidaaNum
import Derived.Test.YtobdijcnfmgidaaPlan
import Derived.Test.YtobdijcnfmgidaaAft
import Derived.Test.YtobdijcnfmgidaaTyInst
namespace Go.Proofs.Ytobdijcnfmgidaa
open Go.RowKit

set_option maxHeartbeats 800000 in
set_option maxRecDepth 100000 in
theorem l4Value_c (p : Nat) (cv : Value) (code : List UInt8) (st : DrawSt) (n : Int) (h1 : 0 ≤ n) (h2 : n ≤ 40) (w : World) (hC : CurS w p cv code st) :
    Calls Try.prog 144 #[.pointer (some ⟨p, 0, none⟩), .int .i64 n] w fun e w' => ∃ z, -41 ≤ z ∧ z ≤ 9 ∧ Drawn w p cv code (.int .i64 z) e w' := by
  have hb := belowR_bd code
  by_cases hn0 : n = 0
  · subst hn0
    have e0 : decide ((0 : Int) < 0) = false := rfl
    go_enter Try.func144, Try.ntmps144
    go_wp2_with fail
    have j1 := hb st 3
    have j2 := j1.2 (by omega)
    have j1 := j1.1
    refine (l1Below_r _ cv code _ _ _ hC).mono ?_; rintro e w2 ⟨rfl, hC2, hg2⟩
    generalize belowR code st 3 = b at *
    go_wp2_with fail
    go_ret
    exact ⟨_, by omega, by omega, rfl, ⟨_, hC2⟩, hg2⟩
  replace h1 : 1 ≤ n := by omega
  have e0 : decide (0 < n) = true := decide_eq_true (by omega)
  go_enter Try.func144, Try.ntmps144
  go_wp2_with fail
  refine (l1Once_r p cv code _ _ _ hC).mono ?_; rintro e w1 ⟨rfl, hC1, hg1⟩
  generalize onceR code st 2 = cst at *
  obtain ⟨c, st1⟩ := cst
  dsimp only at *
  cases c with
  | true =>
    go_wp2_with fail
    have j1 := hb st1 n
    have j2 := j1.2 h1
    have j1 := j1.1
    refine (l1Below_r _ cv code _ _ _ hC1).mono ?_; rintro e w2 ⟨rfl, hC2, hg2⟩
    generalize belowR code st1 n = b at *
    go_wp2_with fail
    refine (specNullValue_any _ _ (by omega) (by omega)).mono ?_; rintro e w3 ⟨rfl, rfl⟩
    go_wp2_with fail
    go_ret
    exact ⟨_, by omega, by omega, rfl, ⟨_, hC2⟩, hg1.trans hg2⟩
  | false =>
    go_wp2_with fail
    have j1 := hb st1 3
    have j2 := j1.2 (by omega)
    have j1 := j1.1
    refine (l1Below_r _ cv code _ _ _ hC1).mono ?_; rintro e w2 ⟨rfl, hC2, hg2⟩
    generalize belowR code st1 3 = b at *
    go_wp2_with fail
    go_ret
    exact ⟨_, by omega, by omega, rfl, ⟨_, hC2⟩, hg1.trans hg2⟩

theorem sigs5_ar (j : Nat) (h : j < sigs5.length) : 1 ≤ sigs5[j].arity ∧ sigs5[j].arity ≤ 2 := by
  have h5 : ∀ i : Fin sigs5.length, 1 ≤ (sigs5.get i).arity ∧ (sigs5.get i).arity ≤ 2 := by decide
  exact h5 ⟨j, h⟩
set_option maxHeartbeats 1600000 in
set_option maxRecDepth 100000 in
theorem l4Fact_c (p : Nat) (cv : Value) (code : List UInt8) (st : DrawSt) (j : Nat) (hj : j < 5) (n : Int) (h1 : 0 ≤ n) (h2 : n ≤ 40) (w : World) (hC : CurS w p cv code st) :
    Calls Try.prog 112 #[.pointer (some ⟨p, 0, none⟩), .int .i64 j, .int .i64 n] w fun e w' => ∃ V vs, e = .returned (.agg #[.int .i64 j, V]) ∧ OwnInts w.heap.size V vs w' ∧ 1 ≤ vs.length ∧ vs.length ≤ 2 ∧ (∀ z ∈ vs, -41 ≤ z ∧ z ≤ 9) ∧ (∃ st', CurS w' p cv code st') ∧ w.grownBy w' (some p) := by
  have hp := Cur.lt hC
  have har := sigs5_ar j hj
  go_enter Try.func112, Try.ntmps112
  go_wp2_with fail
  refine (l3Sigs_c _).mono ?_; rintro e w2 ⟨rfl, hw2⟩
  have hO2 := sigs5_own (w.alloc (.cells #[.int .i64 0, .slice none 0 0] 44))
  rw [← hw2] at hO2
  go_wp2_with fail
  have hG : (w.alloc (.cells #[.int .i64 0, .slice none 0 0] 44)).heap.size = w.heap.size + 1 := by simp
  obtain ⟨-, s1, -⟩ := hO2.cells rfl j hj
  rw [hG] at s1
  have b0 : w2.cell? ⟨w.heap.size, 0, none⟩ = some (.int .i64 0) := by rw [hw2]; simp [go_sem]
  have b1 : w2.cell? ⟨w.heap.size, 1, none⟩ = some (.slice none 0 0) := by rw [hw2]; simp [go_sem]
  have bz : ∀ o, w2.frozen? ⟨w.heap.size, o, none⟩ = false := by intro o; rw [hw2]; simp [go_sem]
  have hz2 : w2.heap.size = w.heap.size + 2 := by rw [hw2]; simp
  have hC2 : CurS w2 p cv code st := by rw [hw2]; exact Cur.alloc (Cur.alloc hC _) _
  have hB2 : Below w.heap.size w w2 := by rw [hw2]; exact below_more (below_more (Below.refl _ _) _) _
  clear hO2 hG
  rw [← hw2]
  clear hw2
  obtain ⟨g, hg⟩ : ∃ g, g = w2.heap.size := ⟨_, rfl⟩
  have y0 : (w2.alloc (.cells #[.int .i64 j, .slice none 0 0] 44)).cell? ⟨g, 0, none⟩ = some (.int .i64 j) := by rw [hg]; simp [go_sem]
  have y1 : (w2.alloc (.cells #[.int .i64 j, .slice none 0 0] 44)).cell? ⟨g, 1, none⟩ = some (.slice none 0 0) := by rw [hg]; simp [go_sem]
  have yz : ∀ o, (w2.alloc (.cells #[.int .i64 j, .slice none 0 0] 44)).frozen? ⟨g, o, none⟩ = false := by intro o; rw [hg]; simp [go_sem]
  have hsz : (w2.alloc (.cells #[.int .i64 j, .slice none 0 0] 44)).heap.size = g + 1 := by rw [hg]; simp
  have hAl : Below g w2 (w2.alloc (.cells #[.int .i64 j, .slice none 0 0] 44)) := (Below.refl _ _).alloc (by omega) _
  have hCW : CurS (w2.alloc (.cells #[.int .i64 j, .slice none 0 0] 44)) p cv code st := Cur.alloc hC2 _
  have hgw : g = w.heap.size + 2 := hg.trans hz2
  have hGW := Lib.hid hgw
  rw [show w.heap.size + 1 + 1 = g from hgw.symm]
  generalize w2.alloc (.cells #[.int .i64 j, .slice none 0 0] 44) = W at y0 y1 yz hsz hAl hCW ⊢
  obtain ⟨A, hA⟩ : ∃ A : Nat, sigs5[j].arity = A := ⟨sigs5[j].arity.toNat, by omega⟩
  rw [hA] at s1 har
  have S1 := Lib.hid ((hAl.cell (p := ⟨w.heap.size + 1, j * 3 + 1, none⟩) (by show w.heap.size + 1 < g; omega)).trans s1)
  have B0 := Lib.hid ((hAl.cell (p := ⟨w.heap.size, 0, none⟩) (by show w.heap.size < g; omega)).trans b0)
  have B1 := Lib.hid ((hAl.cell (p := ⟨w.heap.size, 1, none⟩) (by show w.heap.size < g; omega)).trans b1)
  have BZ := Lib.hid (fun o => (hAl.frozen (p := ⟨w.heap.size, o, none⟩) (by show w.heap.size < g; omega)).trans (bz o))
  have HW := Lib.hid (hB2.trans (hAl.mono (by omega)))
  have HSZ := Lib.hid hsz
  have hpg : p < g ∧ w.heap.size + 1 < g := by omega
  clear s1 b0 b1 bz hz2 hC2 hB2 hg hAl hsz hgw hA
  go_loopg [] A (fun m wr => ∃ V vs st', m + vs.length = A ∧ wr.cell? ⟨g, 0, none⟩ = some (.int .i64 j) ∧ wr.cell? ⟨g, 1, none⟩ = some V ∧ (∀ o, wr.frozen? ⟨g, o, none⟩ = false) ∧ OwnInts (g + 1) V vs wr ∧ (∀ z ∈ vs, -41 ≤ z ∧ z ≤ 9) ∧ CurS wr p cv code st' ∧ Hid (Chg (fun q => q = p ∨ q = g) W wr))
  case atStart => exact ⟨_, [], _, rfl, y0, y1, yz, OwnInts.nil _ _, (fun z hz => by cases hz), hCW, Lib.hid (Chg.refl _ _)⟩
  case round =>
    clear y0 y1 yz hCW
    obtain ⟨V, vs, st', hm, y0, y1, yz, hO, hvs, hCr, HC⟩ := hrel
    obtain ⟨P4, c4, rfl, hl4, hm4, -⟩ := hO.at_
    have hC' := HC.out
    have ar : wr.cell? ⟨w.heap.size + 1, j * 3 + 1, none⟩ = some (.int .i64 A) := (hC'.cell (show w.heap.size + 1 < _ by rw [HSZ.out]; omega) (by omega)).trans S1.out
    have HO := Lib.hid hO
    have HV := Lib.hid hvs
    clear hO hC' hvs
    unfold maxLen at hm4
    have HM := Lib.hid hm
    by_cases hlt : vs.length < A
    · have e0 : decide (vs.length < A) = true := decide_eq_true hlt
      have e1 : decide ((vs.length : Int) < (A : Int)) = true := decide_eq_true (by omega)
      clear hm
      go_wp2_with fail
      go_quiet (fail)
      go_wp2_with fail
      have hS : Holds [(⟨g, 1, none⟩, .slice P4 vs.length c4)] wr := by
        intro q hq
        simp only [List.mem_cons, List.not_mem_nil, or_false] at hq
        subst hq
        exact y1
      have hSb : ∀ q ∈ [((⟨g, 1, none⟩ : Addr), Value.slice P4 vs.length c4)], q.1.block = g := by
        intro q hq
        simp only [List.mem_cons, List.not_mem_nil, or_false] at hq
        subst hq
        rfl
      have HSb := Lib.hid hSb
      clear hSb
      have hgr : g + 1 ≤ wr.heap.size := by have h1 := HC.out.size; rw [HSZ.out] at h1; exact h1
      have g0 := Keep.cell (h0 := hS) (a := ⟨g, 1, none⟩) (v := .slice P4 vs.length c4) (by simp)
      refine wp_region_plan (C := fun w' => ∃ u : Keep _ wr hS, w' = u.now) (.still 0 (.still 1 (.still 2 (.still 3 (.move true 4 (.move true 5 (.move true 6 (.still 7 (.move false 8 .done .none)) .none) .none) .none))))) (by kernel_rfl) (by kernel_rfl) (by kernel_rfl) (fun _ => ⟨⟨(wr.drewN nq).drew, hS⟩, rfl⟩) ?_
      iterate 4
        refine plan_look _ rfl rfl ?_
        go_big_quiet_step (fail)
        refine wpQuiet_nil ?_
      refine plan_call _ 144 _ _ _ _ _ rfl _ Try.func144 (by kernel_rfl) (by kernel_rfl) ?_ True.intro
      refine (l4Value_c p cv code st' n h1 h2 _ (Cur.drewN (Cur.drewN hCr _) 1)).mono ?_
      rintro _ w2 ⟨z, hz1, hz2, rfl, ⟨st2, hC2⟩, hg2⟩
      have hg' : wr.grownBy w2 (some p) := ⟨hg2.os, hg2.tape, hg2.output, hg2.size, hg2.block⟩
      refine ⟨_, rfl, fun _ => ⟨⟨_, hS.grown hg' (fun q hq => ⟨by rw [HSb.out q hq]; exact hgr, by rw [HSb.out q hq]; intro e; injection e; omega⟩)⟩, rfl⟩, ?_⟩
      have hK2 := hS.grown hg' (fun q hq => ⟨by rw [HSb.out q hq]; exact hgr, by rw [HSb.out q hq]; intro e; injection e; omega⟩)
      refine plan_put ?_ (by simp only [Act.put, List.setIfInBounds_toArray, List.set_cons_succ, List.set_cons_zero]; rfl)
      have hz2' := hg'.size
      have hAl := (Below.refl (g + 1) w2).alloc (by omega) (.cells #[.int .i64 z] 3)
      refine plan_value (u := .slice (some ⟨w2.heap.size, 0, none⟩) 1 1) (w' := w2.alloc (.cells #[.int .i64 z] 3)) _ rfl rfl rfl (by simp [go_sem]) (fun _ => ⟨⟨_, hK2.below hAl (fun q hq => by rw [HSb.out q hq]; omega)⟩, rfl⟩) ?_ True.intro
      refine plan_put ?_ (by simp only [Act.put, List.setIfInBounds_toArray, List.set_cons_succ, List.set_cons_zero]; rfl)
      have hO3 := (HO.out.grown hg' (by omega)).grown (World.grownBy_alloc w2 (.cells #[.int .i64 z] 3) (some p)) (by omega)
      unfold OwnInts at hO3
      rw [← flat_int] at hO3
      have hr : SliceAt intCell (w2.alloc (.cells #[.int .i64 z] 3)) (w2.heap.size + 1) (.slice (some ⟨w2.heap.size, 0, none⟩) [z].length 1) [z] := by
        refine ⟨_, _, rfl, Nat.le_refl _, by simp [maxLen], fun _ => ⟨_, _, rfl, by omega, ?_⟩, fun h => by cases h⟩
        intro i u hu
        rw [Nat.zero_add, box_cell]
        simpa [intCell] using hu
      refine plan_app intCell 1 8 (r := [z]) (fun x _ u hu => by simp [intCell] at hu; subst hu; rfl) (fun _ => rfl) _ rfl rfl Try.underlying30 infoInt rfl (by decide) hO3 _ _ rfl rfl ⟨w2.heap.size, 0, none⟩ 1 1 rfl rfl hr (by simp; omega) (by simp; omega) (by simp; omega) ?_ True.intro
      intro v4 w4 hO4 hB4 _ _
      have hb4 := hAl.trans hB4
      have hO5 : OwnInts (g + 1) v4 (vs ++ [z]) w4 := by
        have := hO4
        rw [flat_int] at this
        simpa [OwnInts] using this
      obtain ⟨P5, c5, rfl, -⟩ := hO5.at_
      have z0 := (hb4.cell (p := ⟨g, 0, none⟩) (Nat.lt_succ_self _)).trans (grown_cell hg' y0 (by omega))
      have z1 := (hb4.cell (p := ⟨g, 1, none⟩) (Nat.lt_succ_self _)).trans (grown_cell hg' y1 (by omega))
      have zz := fun o => (hb4.frozen (p := ⟨g, o, none⟩) (Nat.lt_succ_self _)).trans (grown_frozen hg' hgr (by omega) (yz o))
      have HO5 := Lib.hid hO5
      have HB4 := Lib.hid hb4
      have HC2 := Lib.hid hC2
      have HG' := Lib.hid hg'
      refine ⟨fun _ => ⟨⟨_, hK2.below hb4 (fun q hq => by rw [HSb.out q hq]; omega)⟩, rfl⟩, ?_⟩
      clear hO5 hb4 hC2 hg' hO4 hB4 hr hO3 hAl hK2 y0 y1 yz hg2 ar
      refine plan_put ?_ (by simp only [Act.put, List.setIfInBounds_toArray, List.set_cons_succ, List.set_cons_zero]; rfl)
      refine plan_look _ rfl rfl ?_
      go_big_quiet_step (fail)
      refine wpQuiet_nil ?_
      refine plan_skip (w' := w4.setCell ⟨g, 1, none⟩ (.slice P5 (vs ++ [z]).length c5)) _ rfl rfl rfl (by simp [go_sem, z1, zz]) (fun e => by cases e) ?_ True.intro
      refine plan_put ?_ (by simp only [Act.put]; rfl)
      refine plan_done ?_
      go_wp2
      go_roundg (gk - 1)
      case measure => have := HM.out; omega
      case rel =>
        have hM := HM.out
        have hch : Chg (fun q => q = p ∨ q = g) wr w2 := ⟨HG'.out.os, HG'.out.tape, HG'.out.output, HG'.out.size, fun k hk hn => HG'.out.block k hk (by intro e; injection e with e; exact hn (.inl e))⟩
        have hbf : Below w.heap.size w2 (w4.setCell ⟨g, 1, none⟩ (.slice P5 (vs ++ [z]).length c5)) := (HB4.out.mono (by omega)).setCell (p := ⟨g, 1, none⟩) (by show w.heap.size ≤ g; omega) _
        refine ⟨.slice P5 (vs ++ [z]).length c5, vs ++ [z], st2, by simp; omega, by simp [go_sem, z0], by simp [go_sem, z1], fun o => by simp [zz], ?_, ?_, Cur.below hC HC2.out hbf, Lib.hid (((HC.out.trans hch).then_below (by rw [HSZ.out]; exact HB4.out)).setCell (p := ⟨g, 1, none⟩) (.inr rfl) _)⟩
        · exact HO5.out.chg ((Chg.refl (fun q => q = g) w4).setCell (p := ⟨g, 1, none⟩) rfl _) (fun q hq e => by have := (HO5.out.lt q hq).1; omega)
        · intro y hy
          rcases List.mem_append.1 hy with h | h
          · exact HV.out y h
          · rw [List.mem_singleton.1 h]; exact ⟨hz1, hz2⟩
    · have e0 : decide (vs.length < A) = false := decide_eq_false hlt
      have e1 : decide ((vs.length : Int) < (A : Int)) = false := decide_eq_false (by omega)
      clear hm
      go_wp2_with fail
      go_quiet (fail)
      have hC' := HC.out
      have m0 : wr.cell? ⟨w.heap.size, 0, none⟩ = some (.int .i64 0) := (hC'.cell (show w.heap.size < _ by rw [HSZ.out]; omega) (by omega)).trans B0.out
      have m1 : wr.cell? ⟨w.heap.size, 1, none⟩ = some (.slice none 0 0) := (hC'.cell (show w.heap.size < _ by rw [HSZ.out]; omega) (by omega)).trans B1.out
      have mz : ∀ o, wr.frozen? ⟨w.heap.size, o, none⟩ = false := fun o => (hC'.frozen (show w.heap.size < _ by rw [HSZ.out]; omega) (by omega)).trans (BZ.out o)
      have HG : Hid (w.grownBy wr (some p)) := by
        have h1 := HW.out
        refine ⟨hC'.os.trans h1.os, hC'.tape.trans h1.tape, hC'.output.trans h1.output, Nat.le_trans h1.size hC'.size, fun k hk hne => (hC'.block k (Nat.lt_of_lt_of_le hk h1.size) ?_).trans (h1.block k hk)⟩
        have := hGW.out
        have h3 : k ≠ p := fun e => hne (by rw [e])
        omega
      clear hC'
      go_wp2_with fail
      have hbw : Below w.heap.size wr (((wr.drewN nq).setCell ⟨w.heap.size, 0, none⟩ (.int .i64 j)).setCell ⟨w.heap.size, 1, none⟩ (.slice P4 vs.length c4)) := ((show Below w.heap.size wr (wr.drewN nq) from ⟨rfl, rfl, rfl, Nat.le_refl _, fun _ _ => rfl⟩).setCell (p := ⟨w.heap.size, 0, none⟩) (Nat.le_refl _) _).setCell (p := ⟨w.heap.size, 1, none⟩) (Nat.le_refl _) _
      have hcw : Chg (fun q => q = w.heap.size) wr (((wr.drewN nq).setCell ⟨w.heap.size, 0, none⟩ (.int .i64 j)).setCell ⟨w.heap.size, 1, none⟩ (.slice P4 vs.length c4)) := ((show Chg (fun q => q = w.heap.size) wr (wr.drewN nq) from ⟨rfl, rfl, rfl, Nat.le_refl _, fun _ _ _ => rfl⟩).setCell (p := ⟨w.heap.size, 0, none⟩) rfl _).setCell (p := ⟨w.heap.size, 1, none⟩) rfl _
      refine bodyPost_ret (v := .agg #[.int .i64 j, .slice P4 vs.length c4]) (by simp [results, Try.results112, go_sem, m0, m1]) rfl ⟨_, vs, rfl, ?_, ?_, ?_, HV.out, ⟨_, Cur.below hC hCr hbw⟩, grown_of_below HG.out hbw⟩
      · exact (HO.out.chg hcw (fun q hq e => by have := (HO.out.lt q hq).1; omega)).mono (by omega)
      · have := HM.out; omega
      · have := HM.out; omega

end Go.Proofs.Ytobdijcnfmgidaa
