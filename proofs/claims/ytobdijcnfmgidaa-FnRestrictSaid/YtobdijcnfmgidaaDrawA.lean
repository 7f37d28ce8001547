/-
  Walks and plain lemmas for the laws of this seat: what single Go functions return, for every argument.
-/
import Derived.Test.YtobdijcnfmgidaaInts
import Derived.Test.YtobdijcnfmgidaaDraw
import Derived.Test.YtobdijcnfmgidaaTyInst
import Derived.Test.YtobdijcnfmgidaaDrawF
namespace Go.Proofs.Ytobdijcnfmgidaa
open Go.RowKit

def FctSmall (x : Fct) : Prop := (-1 ≤ x.rel ∧ x.rel ≤ 5) ∧ x.vals.length ≤ 3 ∧ ∀ z ∈ x.vals, -41 ≤ z ∧ z ≤ 10

theorem any_end {w w4 : World} {p : Nat} {cv : Value} {code : List UInt8} {st st4 : DrawSt} {V : Value} {vs : List Int} (hC : CurS w p cv code st) (hC4 : CurS w4 p cv code st4) (hg : w.grownBy w4 (some p)) (hO : OwnInts (w.heap.size + 1) V vs w4) (u0 u1 : Value) :
    OwnInts w.heap.size V vs ((w4.setCell ⟨w.heap.size, 0, none⟩ u0).setCell ⟨w.heap.size, 1, none⟩ u1) ∧ (∃ st', CurS ((w4.setCell ⟨w.heap.size, 0, none⟩ u0).setCell ⟨w.heap.size, 1, none⟩ u1) p cv code st') ∧ w.grownBy ((w4.setCell ⟨w.heap.size, 0, none⟩ u0).setCell ⟨w.heap.size, 1, none⟩ u1) (some p) := by
  have hbw : Below w.heap.size w4 ((w4.setCell ⟨w.heap.size, 0, none⟩ u0).setCell ⟨w.heap.size, 1, none⟩ u1) := ((Below.refl _ _).setCell (p := ⟨w.heap.size, 0, none⟩) (Nat.le_refl _) _).setCell (p := ⟨w.heap.size, 1, none⟩) (Nat.le_refl _) _
  have hcw : Chg (fun q => q = w.heap.size) w4 ((w4.setCell ⟨w.heap.size, 0, none⟩ u0).setCell ⟨w.heap.size, 1, none⟩ u1) := ((Chg.refl (fun q => q = w.heap.size) _).setCell (p := ⟨w.heap.size, 0, none⟩) rfl _).setCell (p := ⟨w.heap.size, 1, none⟩) rfl _
  exact ⟨(hO.chg hcw (fun q hq e => by have := (hO.lt q hq).1; omega)).mono (by omega), ⟨_, Cur.below hC hC4 hbw⟩, grown_of_below hg hbw⟩
set_option maxHeartbeats 1600000 in
set_option maxRecDepth 100000 in
theorem l4Any_c (p : Nat) (cv : Value) (code : List UInt8) (st : DrawSt) (w : World) (hC : CurS w p cv code st) :
    Calls Try.prog 75 #[.pointer (some ⟨p, 0, none⟩)] w fun e w' => ∃ r V vs, e = .returned (.agg #[.int .i64 r, V]) ∧ (-1 ≤ r ∧ r ≤ 5) ∧ OwnInts w.heap.size V vs w' ∧ vs.length ≤ 3 ∧ (∀ z ∈ vs, -41 ≤ z ∧ z ≤ 10) ∧ (∃ st', CurS w' p cv code st') ∧ w.grownBy w' (some p) := by
  have hp := Cur.lt hC
  have hb := belowR_bd code
  go_enter Try.func75, Try.ntmps75
  go_wp2_with fail
  have j1 := hb st 5
  have j2 := j1.2 (by omega)
  have j1 := j1.1
  refine (l1Below_r _ cv code _ _ _ (Cur.alloc hC _)).mono ?_; rintro e w1 ⟨rfl, hC1, hg1⟩
  generalize belowR code st 5 = b at *
  obtain ⟨j, hj⟩ := Int.eq_ofNat_of_zero_le j1
  rw [hj]
  have hj5 : j < 5 := by omega
  have HJ := Lib.hid hj
  clear hj j1 j2
  go_wp2_with fail
  refine (l4Fact_c p cv code _ j hj5 4 (by decide) (by decide) _ hC1).mono ?_
  rintro e w2 ⟨V, vs, rfl, hO, hl1, hl2, hvs, ⟨st2, hC2⟩, hg2⟩
  obtain ⟨q, c4, rfl, hq1, hq2, hl4, hm4⟩ := hO.form hl1
  unfold maxLen at hm4
  have a0 := fun o => box_cell w #[.int .i64 0, .slice none 0 0] 44 o
  have hs1 : w.heap.size + 1 ≤ w1.heap.size := by have := hg1.size; simpa using this
  have hg2' := hg1.trans hg2
  have HO := Lib.hid (hO.mono hs1)
  have hz2 := hg2'.size
  have hz2 : w.heap.size + 1 ≤ w2.heap.size := by simpa using hz2
  have hne : w.heap.size ≠ p := by omega
  have HB0 := Lib.hid (grown_cell hg2' ((a0 0).trans rfl) hne)
  have HB1 := Lib.hid (grown_cell hg2' ((a0 1).trans rfl) hne)
  have HBZ := Lib.hid (fun o => grown_frozen hg2' (o := o) (by simp) hne (World.frozen?_alloc_at _ _ _ _ rfl))
  have HG := Lib.hid ((World.grownBy_alloc w _ (some p)).trans hg2')
  have HV := Lib.hid hvs
  clear a0 hg2' hO hg1 hg2 hvs hC1
  obtain ⟨g, hg⟩ : ∃ g, g = w2.heap.size := ⟨_, rfl⟩
  have y0 : (w2.alloc (.cells #[.int .i64 j, .slice (some ⟨q, 0, none⟩) vs.length c4] 44)).cell? ⟨g, 0, none⟩ = some (.int .i64 j) := by rw [hg]; simp [go_sem]
  have y1 : (w2.alloc (.cells #[.int .i64 j, .slice (some ⟨q, 0, none⟩) vs.length c4] 44)).cell? ⟨g, 1, none⟩ = some (.slice (some ⟨q, 0, none⟩) vs.length c4) := by rw [hg]; simp [go_sem]
  have yz : ∀ o, (w2.alloc (.cells #[.int .i64 j, .slice (some ⟨q, 0, none⟩) vs.length c4] 44)).frozen? ⟨g, o, none⟩ = false := by intro o; rw [hg]; simp [go_sem]
  have hAl : Below g w2 (w2.alloc (.cells #[.int .i64 j, .slice (some ⟨q, 0, none⟩) vs.length c4] 44)) := (Below.refl _ _).alloc (by omega) _
  have hgA := World.grownBy_alloc w2 (.cells #[.int .i64 j, .slice (some ⟨q, 0, none⟩) vs.length c4] 44) (some p)
  have hC3 := Cur.alloc hC2 (.cells #[.int .i64 j, .slice (some ⟨q, 0, none⟩) vs.length c4] 44)
  have hsz : (w2.alloc (.cells #[.int .i64 j, .slice (some ⟨q, 0, none⟩) vs.length c4] 44)).heap.size = g + 1 := by rw [hg]; simp
  go_wp2_with fail
  rw [← hg]
  have HHg := Lib.hid hg
  generalize w2.alloc (.cells #[.int .i64 j, .slice (some ⟨q, 0, none⟩) vs.length c4] 44) = W at y0 y1 yz hAl hgA hC3 hsz ⊢
  have k1 := hb st2 10
  have k2 := k1.2 (by omega)
  have k1 := k1.1
  refine (l1Below_r _ cv code _ _ _ hC3).mono ?_; rintro e w3 ⟨rfl, hC4, hg3⟩
  generalize belowR code st2 10 = d at *
  obtain ⟨n, st4⟩ := d
  dsimp only at *
  have hsW : g + 1 ≤ w3.heap.size := by have := hg3.size; omega
  have hgp : g ≠ p := by omega
  have y0 := grown_cell hg3 y0 hgp
  have y1 := grown_cell hg3 y1 hgp
  have yz := fun o => grown_frozen hg3 (o := o) (by omega) hgp (yz o)
  have hg4 := hgA.trans hg3
  have m0 : w3.cell? ⟨w.heap.size, 0, none⟩ = some (.int .i64 0) := grown_cell hg4 HB0.out hne
  have m1 : w3.cell? ⟨w.heap.size, 1, none⟩ = some (.slice none 0 0) := grown_cell hg4 HB1.out hne
  have mz : ∀ o, w3.frozen? ⟨w.heap.size, o, none⟩ = false := fun o => grown_frozen hg4 (by omega) hne (HBZ.out o)
  have HO3 := Lib.hid (HO.out.grown hg4 (by omega))
  have HG3 := Lib.hid (HG.out.trans hg4)
  have hqg : w.heap.size + 1 ≤ q ∧ q < g := by have := HHg.out; omega
  have hwg : w.heap.size < g := by omega
  clear HB0 HB1 HBZ HO HG hg4 hg3 hgA hAl hC3 hC2 hsz hq1 hq2 hz2 hg
  have hn : n = 0 ∨ n = 1 ∨ n = 2 ∨ 3 ≤ n := by omega
  have hne2 : w.heap.size ≠ g := by omega
  rcases hn with rfl | rfl | rfl | hn
  · go_wp2_with fail
    have u1 := hb st4 7
    have u2 := u1.2 (by omega)
    have u1 := u1.1
    refine (l1Below_r _ cv code _ _ _ hC4).mono ?_; rintro e w4 ⟨rfl, hC5, hg5⟩
    generalize belowR code st4 7 = f at *
    obtain ⟨n7, st5⟩ := f
    dsimp only at *
    have y0 := grown_cell hg5 y0 hgp
    have y1 := grown_cell hg5 y1 hgp
    have yz := fun o => grown_frozen hg5 (o := o) (by omega) hgp (yz o)
    have m0 := grown_cell hg5 m0 hne
    have m1 := grown_cell hg5 m1 hne
    have mz := fun o => grown_frozen hg5 (o := o) (by omega) hne (mz o)
    have HO4 := Lib.hid (HO3.out.grown hg5 (by omega))
    have HG4 := Lib.hid (HG3.out.trans hg5)
    have HW := Lib.hid hb
    clear hg5 hb
    go_wp2_with fail
    have hbf : Below w.heap.size w4 (w4.setCell ⟨g, 0, none⟩ (.int .i64 (n7 - 1))) := (Below.refl _ _).setCell (p := ⟨g, 0, none⟩) (by show w.heap.size ≤ g; omega) _
    have hcf : Chg (fun x => x = g) w4 (w4.setCell ⟨g, 0, none⟩ (.int .i64 (n7 - 1))) := (Chg.refl (fun x => x = g) _).setCell (p := ⟨g, 0, none⟩) rfl _
    have HE := any_end hC (Cur.below hC hC5 hbf) (grown_of_below HG4.out hbf) (HO4.out.chg hcf (fun x hx e => (fun (h1 : q = x) => by omega) (by simpa [Value.ownBlock] using hx))) (.int .i64 (n7 - 1)) (.slice (some ⟨q, 0, none⟩) vs.length c4)
    refine bodyPost_ret (v := .agg #[.int .i64 (n7 - 1), .slice (some ⟨q, 0, none⟩) vs.length c4]) (by simp [results, Try.results75, go_sem, m0, m1]) rfl ⟨n7 - 1, .slice (some ⟨q, 0, none⟩) vs.length c4, vs, rfl, by omega, HE.1, by omega, fun z hz => ?_, HE.2⟩
    have := HV.out z hz; omega
  · have HS3 := Lib.hid hsW
    have Y0 := Lib.hid y0
    have YZ := Lib.hid yz
    have M0 := Lib.hid m0
    have M1 := Lib.hid m1
    have MZ := Lib.hid mz
    have Y1 := Lib.hid y1
    have HB := Lib.hid hb
    clear y0 yz m0 m1 mz hb
    go_wp2_with (at_builtin; refine ints_app1 HO3.out rfl _ _ rfl rfl 1 _ _ rfl rfl (by omega) (by omega) ?_; intro v5 w5 hO5 hB5 hG5; clear y1; obtain ⟨q5, c5, rfl, hq5, -, -, -⟩ := hO5.form (by simp); have z0 := grown_cell (p := q) hG5 Y0.out (by omega); have z1 := grown_cell (p := q) hG5 Y1.out (by omega); have zz := fun o => grown_frozen (p := q) hG5 (by have := HS3.out; omega) (by omega) (YZ.out o); have n0 := grown_cell (p := q) hG5 M0.out (by omega); have n1 := grown_cell (p := q) hG5 M1.out (by omega); have nz := fun o => grown_frozen (p := q) hG5 (by have := HS3.out; omega) (by omega) (MZ.out o))
    have hqg5 : q5 ≠ g := by
      intro e
      subst e
      have h := hO5.cell rfl 1 (by simp; omega)
      rw [z1] at h
      cases h
    have hbf : Below w.heap.size w3 (w5.setCell ⟨g, 1, none⟩ (.slice (some ⟨q5, 0, none⟩) (vs.length + 1) c5)) := (hB5.mono (by omega)).setCell (p := ⟨g, 1, none⟩) (by show w.heap.size ≤ g; omega) _
    have hcf : Chg (fun x => x = g) w5 (w5.setCell ⟨g, 1, none⟩ (.slice (some ⟨q5, 0, none⟩) (vs.length + 1) c5)) := (Chg.refl (fun x => x = g) _).setCell (p := ⟨g, 1, none⟩) rfl _
    have HE := any_end hC (Cur.below hC hC4 hbf) (grown_of_below HG3.out hbf) (hO5.chg hcf (fun x hx e => (fun (h1 : q5 = x) => by omega) (by simpa [Value.ownBlock] using hx))) (.int .i64 j) (.slice (some ⟨q5, 0, none⟩) (vs.length + 1) c5)
    refine bodyPost_ret (v := .agg #[.int .i64 j, .slice (some ⟨q5, 0, none⟩) (vs.length + 1) c5]) (by simp [results, Try.results75, go_sem, n0, n1]) rfl ⟨(j : Int), .slice (some ⟨q5, 0, none⟩) (vs.length + 1) c5, vs ++ [1], rfl, by omega, ?_, by simp; omega, fun z hz => ?_, HE.2⟩
    · have h := HE.1
      rw [List.length_append] at h
      exact h
    · rcases List.mem_append.1 hz with h | h
      · have := HV.out z h; omega
      · rw [List.mem_singleton.1 h]; decide
  · go_wp2_with fail
    have hS : Holds [(⟨g, 1, none⟩, .slice (some ⟨q, 0, none⟩) vs.length c4)] w3 := by
      intro x hx
      simp only [List.mem_cons, List.not_mem_nil, or_false] at hx
      subst hx
      exact y1
    have HSb : Hid (∀ x ∈ [((⟨g, 1, none⟩ : Addr), Value.slice (some ⟨q, 0, none⟩) vs.length c4)], x.1.block = g) := by
      intro x hx
      simp only [List.mem_cons, List.not_mem_nil, or_false] at hx
      subst hx
      rfl
    have g0 := Keep.cell (h0 := hS) (a := ⟨g, 1, none⟩) (v := .slice (some ⟨q, 0, none⟩) vs.length c4) (by simp)
    have hl0 : 0 < vs.length := by omega
    refine wp_region_plan (C := fun w' => ∃ u : Keep _ w3 hS, w' = u.now) (.still 0 (.still 1 (.still 2 (.move true 3 (.move true 4 (.still 5 (.move false 6 .done .none)) .none) .none)))) (by kernel_rfl) (by kernel_rfl) (by kernel_rfl) (fun _ => ⟨⟨w3.drew, hS⟩, rfl⟩) ?_
    iterate 3
      refine plan_look _ rfl rfl ?_
      go_big_quiet_step (fail)
      refine wpQuiet_nil ?_
    have hAl3 := (Below.refl (g + 1) w3).drew.alloc hsW (.cells #[.int .i64 10, .int .i64 (-41), .int .i64 9] 3)
    have hK3 := hS.below hAl3 (fun x hx => by rw [HSb.out x hx]; omega)
    refine plan_value (u := .slice (some ⟨w3.heap.size, 0, none⟩) 3 3) (w' := w3.drew.alloc (.cells #[.int .i64 10, .int .i64 (-41), .int .i64 9] 3)) _ rfl rfl rfl (by simp [go_sem]) (fun _ => ⟨⟨_, hK3⟩, rfl⟩) ?_ True.intro
    refine plan_put ?_ (by simp only [Act.put, List.setIfInBounds_toArray, List.set_cons_succ, List.set_cons_zero]; rfl)
    refine plan_call _ 104 _ _ _ _ _ rfl _ Try.func104 (by kernel_rfl) (by kernel_rfl) ?_ True.intro
    refine (l1PickInt_d p cv code _ [10, -41, 9] (-41) 10 (by decide) (by simp) w3.drew _ (by decide) (by decide) (Cur.lt (Cur.drewN hC4 1)) _ rfl _ _ rfl _ rfl (Cur.alloc (Cur.drewN hC4 1) _)).mono ?_
    rintro _ w5 ⟨z, hz1, hz2, rfl, ⟨st5, hC5⟩, hg5⟩
    have hgd := (World.grownBy_alloc w3.drew _ (some p)).trans hg5
    have hgw : w3.grownBy w5 (some p) := ⟨hgd.os, hgd.tape, hgd.output, hgd.size, hgd.block⟩
    clear hgd
    have hK5 := hS.grown hgw (fun x hx => ⟨by rw [HSb.out x hx]; omega, by rw [HSb.out x hx]; intro e; injection e with e; exact hgp e⟩)
    refine ⟨_, rfl, fun _ => ⟨⟨_, hK5⟩, rfl⟩, ?_⟩
    refine plan_put ?_ (by simp only [Act.put, List.setIfInBounds_toArray, List.set_cons_succ, List.set_cons_zero]; rfl)
    have hO5 := HO3.out.grown hgw (by omega)
    have q0 := hO5.cell rfl 0 hl0
    have qz := hO5.frozen rfl 0
    have y0 := grown_cell hgw y0 hgp
    have y1 := grown_cell hgw y1 hgp
    have m0 := grown_cell hgw m0 hne
    have m1 := grown_cell hgw m1 hne
    have mz := fun o => grown_frozen hgw (o := o) (by omega) hne (mz o)
    have HS5 := Lib.hid (hO5.set rfl 0 z)
    have HG5 := Lib.hid (HG3.out.trans hgw)
    have HC5 := Lib.hid hC5
    clear hO5 hK3 hK5 hAl3 hg5 hgw hC5 yz
    refine plan_look _ rfl rfl ?_
    go_big_quiet_step (fail)
    refine wpQuiet_nil ?_
    refine plan_skip (w' := w5.setCell ⟨q, 0, none⟩ (.int .i64 z)) _ rfl rfl rfl (by simp [go_sem, q0, qz]) (fun e => by cases e) ?_ True.intro
    refine plan_put ?_ (by simp only [Act.put]; rfl)
    refine plan_done ?_
    have hwq : w.heap.size ≠ q := by omega
    have hgq : g ≠ q := by omega
    go_wp2_with fail
    have hbf : Below w.heap.size w5 (w5.setCell ⟨q, 0, none⟩ (.int .i64 z)) := (Below.refl _ _).setCell (p := ⟨q, 0, none⟩) (by show w.heap.size ≤ q; omega) _
    have HE := any_end hC (Cur.below hC HC5.out hbf) (grown_of_below HG5.out hbf) HS5.out (.int .i64 j) (.slice (some ⟨q, 0, none⟩) vs.length c4)
    refine bodyPost_ret (v := .agg #[.int .i64 j, .slice (some ⟨q, 0, none⟩) vs.length c4]) (by simp [results, Try.results75, go_sem, m0, m1]) rfl ⟨(j : Int), .slice (some ⟨q, 0, none⟩) vs.length c4, vs.set 0 z, rfl, by omega, HE.1, by simp; omega, fun y hy => ?_, HE.2⟩
    rcases List.mem_or_eq_of_mem_set hy with h | rfl
    · have := HV.out y h; omega
    · omega
  · have e0 : (n == 0) = false := beq_eq_false_iff_ne.2 (by omega)
    have e1 : (n == 1) = false := beq_eq_false_iff_ne.2 (by omega)
    have e2 : (n == 2) = false := beq_eq_false_iff_ne.2 (by omega)
    go_wp2_with fail
    have HE := any_end hC hC4 HG3.out HO3.out (.int .i64 j) (.slice (some ⟨q, 0, none⟩) vs.length c4)
    refine bodyPost_ret (v := .agg #[.int .i64 j, .slice (some ⟨q, 0, none⟩) vs.length c4]) (by simp [results, Try.results75, go_sem, m0, m1]) rfl ⟨(j : Int), .slice (some ⟨q, 0, none⟩) vs.length c4, vs, rfl, by omega, HE.1, by omega, fun z hz => ?_, HE.2⟩
    have := HV.out z hz; omega

end Go.Proofs.Ytobdijcnfmgidaa
