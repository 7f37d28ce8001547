/-
  Walks and plain lemmas for the laws of this seat: what single Go functions return, for every argument.
-/
import Derived.Deep.Quiet
import Derived.Test.YtchlelkhpahakaaPlan
import Derived.Test.YtchlelkhpahakaaInts
import Derived.Test.YtchlelkhpahakaaDraw
import Derived.Test.YtchlelkhpahakaaDrawF
import Derived.Test.YtchlelkhpahakaaDrawA
namespace Go.Proofs.Ytchlelkhpahakaa
open Go.RowKit

/-- two facts, drawn -/
def GivesTwoFct (w : World) (e : Ending) (w' : World) : Prop :=
  ∃ U f V g, e = .returned (.tuple #[.agg #[.int .i64 f.rel, U], .agg #[.int .i64 g.rel, V]]) ∧ OwnInts w.heap.size U f.vals w' ∧ OwnInts w.heap.size V g.vals w' ∧ FctSmall f ∧ FctSmall g ∧ Below w.heap.size w w'
set_option maxHeartbeats 3200000 in
set_option maxRecDepth 100000 in
theorem drawCompare_c (cv : Value) (code : List UInt8) (w : World) (hc : CodeAt w w.heap.size cv code) (hlen : code.length ≤ 1048576) :
    Calls Try.prog 36 #[cv] w (GivesTwoFct w) := by
  have hb := belowR_bd code
  obtain ⟨E, hEq⟩ : ∃ E, E = (w.alloc (.cells #[.int .i64 0, .slice none 0 0] 31)).alloc (.cells #[.int .i64 0, .slice none 0 0] 31) := ⟨_, rfl⟩
  have hE : Below w.heap.size w E := by rw [hEq]; exact below_more (below_more (Below.refl _ _) _) _
  have HEz := Lib.hid (show w.heap.size + 2 = E.heap.size by rw [hEq]; simp)
  have q0 := Lib.hid (show E.cell? ⟨w.heap.size, 0, none⟩ = some (.int .i64 0) by rw [hEq]; simp [go_sem])
  have q1 := Lib.hid (show E.cell? ⟨w.heap.size, 1, none⟩ = some (.slice none 0 0) by rw [hEq]; simp [go_sem])
  have qz := Lib.hid (show ∀ o, E.frozen? ⟨w.heap.size, o, none⟩ = false from fun o => by rw [hEq]; simp [go_sem])
  have r0 := Lib.hid (show E.cell? ⟨w.heap.size + 1, 0, none⟩ = some (.int .i64 0) by rw [hEq]; simp [go_sem])
  have r1 := Lib.hid (show E.cell? ⟨w.heap.size + 1, 1, none⟩ = some (.slice none 0 0) by rw [hEq]; simp [go_sem])
  have rz := Lib.hid (show ∀ o, E.frozen? ⟨w.heap.size + 1, o, none⟩ = false from fun o => by rw [hEq]; simp [go_sem])
  go_enter Try.func36, Try.ntmps36
  go_wp2_with fail
  rw [← hEq]
  clear hEq
  refine (l1New_c cv code _ (hc.later hE) hlen).mono ?_; rintro e w3 ⟨rfl, hb3, hC3⟩
  have hp3 := Cur.lt hC3
  have HB3 := Lib.hid hb3
  have hz3 := hb3.size
  clear hb3
  obtain ⟨p, hp⟩ : ∃ p, p = E.heap.size := ⟨_, rfl⟩
  rw [← hp] at hC3 hp3 ⊢
  have hpw : w.heap.size + 2 ≤ p := by have := HEz.out; omega
  have HP := Lib.hid hp
  clear hp
  go_wp2_with fail
  generalize hst0 : st0 code = s0 at *
  clear hst0
  have j1 := hb s0 5
  have j2 := j1.2 (by omega)
  have j1 := j1.1
  refine (l1Below_r p cv code _ _ _ hC3).mono ?_; rintro e w4 ⟨rfl, hC4, hg4⟩
  generalize belowR code s0 5 = b at *
  obtain ⟨b1, st4⟩ := b
  dsimp only at *
  obtain ⟨j, hj⟩ := Int.eq_ofNat_of_zero_le j1
  rw [hj]
  have hj5 : j < 5 := by omega
  have HJ := Lib.hid hj
  clear hj j1 j2
  go_wp2_with fail
  refine (l4Fact_c p cv code _ j hj5 2 (by decide) (by decide) w4 hC4).mono ?_
  rintro e w5 ⟨V, vs, rfl, hO, hl1, hl2, hvs, ⟨st5, hC5⟩, hg5⟩
  obtain ⟨PV, cV, rfl, -⟩ := hO.at_
  have hz4 := hg4.size
  have hz5 := hg5.size
  obtain ⟨y, hy⟩ : ∃ y, y = w5.heap.size := ⟨_, rfl⟩
  go_wp2_with fail
  have y0 : (w5.alloc (.cells #[.int .i64 j, .slice PV vs.length cV] 31)).cell? ⟨y, 0, none⟩ = some (.int .i64 j) := by rw [hy]; simp [go_sem]
  have y1 : (w5.alloc (.cells #[.int .i64 j, .slice PV vs.length cV] 31)).cell? ⟨y, 1, none⟩ = some (.slice PV vs.length cV) := by rw [hy]; simp [go_sem]
  have hAl : Below y w5 (w5.alloc (.cells #[.int .i64 j, .slice PV vs.length cV] 31)) := (Below.refl _ _).alloc (by omega) _
  have hC6 : CurS (w5.alloc (.cells #[.int .i64 j, .slice PV vs.length cV] 31)) p cv code st5 := Cur.alloc hC5 _
  have hG6 : w3.grownBy (w5.alloc (.cells #[.int .i64 j, .slice PV vs.length cV] 31)) (some p) := (hg4.trans hg5).trans (World.grownBy_alloc _ _ _)
  have hyz : y < (w5.alloc (.cells #[.int .i64 j, .slice PV vs.length cV] 31)).heap.size := by rw [hy]; simp
  have hO6 := hO.below hAl (by omega)
  rw [← hy]
  have hy4 : w4.heap.size ≤ y := by omega
  clear hy
  generalize w5.alloc (.cells #[.int .i64 j, .slice PV vs.length cV] 31) = w6 at *
  have hz6 := hG6.size
  have hS : Holds [(⟨y, 0, none⟩, .int .i64 j), (⟨y, 1, none⟩, .slice PV vs.length cV)] w6 := by
    intro q hq
    simp only [List.mem_cons, List.not_mem_nil, or_false] at hq
    rcases hq with rfl | rfl
    · exact y0
    · exact y1
  have hSb : ∀ q ∈ [((⟨y, 0, none⟩ : Addr), Value.int .i64 j), (⟨y, 1, none⟩, .slice PV vs.length cV)], q.1.block = y := by
    intro q hq
    simp only [List.mem_cons, List.not_mem_nil, or_false] at hq
    rcases hq with rfl | rfl <;> rfl
  have g0 := Keep.cell (h0 := hS) (a := ⟨y, 0, none⟩) (v := .int .i64 j) (by simp)
  have g1 := Keep.cell (h0 := hS) (a := ⟨y, 1, none⟩) (v := .slice PV vs.length cV) (by simp)
  have HO := Lib.hid hO6
  have HSb := Lib.hid hSb
  have HG6 := Lib.hid hG6
  have HC6 := Lib.hid hC6
  have HV := Lib.hid hvs
  have i1 := hb st5 5
  have i2 := i1.2 (by omega)
  have i1 := i1.1
  clear hO hO6 hAl hC4 hC5 hg4 hg5 hSb y0 y1 hG6 hC6 hvs
  refine wp_region_planL (C := fun w' => ∃ u : Keep _ w6 hS, w' = u.now) (.still 0 (.still 1 (.still 2 (.move true 3 (.move true 4 (.move false 5 (.move false 6 .done .none) .none) .none) .none)))) (by kernel_rfl) (by kernel_rfl) (by kernel_rfl) (fun _ => ⟨⟨w6.drew, hS⟩, rfl⟩) ?_
  iterate 3
    refine plan_look _ rfl rfl ?_
    go_big_quiet_step (fail)
    refine wpQuiet_nil ?_
  refine plan_call _ 79 _ _ _ _ _ rfl _ Try.func79 (by kernel_rfl) (by kernel_rfl) ?_ True.intro
  refine (l1Below_r p cv code st5 5 _ (Cur.drewN HC6.out 1)).mono ?_
  rintro _ w7 ⟨rfl, hC7, hg7⟩
  generalize belowR code st5 5 = b at *
  obtain ⟨b2, st7⟩ := b
  dsimp only at *
  have hg7' : w6.grownBy w7 (some p) := ⟨hg7.os, hg7.tape, hg7.output, hg7.size, hg7.block⟩
  have hS7 := hS.grown hg7' (fun q hq => ⟨by rw [HSb.out q hq]; exact hyz, by rw [HSb.out q hq]; intro e; injection e; omega⟩)
  refine ⟨_, rfl, fun _ => ⟨⟨_, hS7⟩, rfl⟩, ?_⟩
  refine plan_put ?_ (by simp only [Act.put, List.setIfInBounds_toArray, List.set_cons_succ, List.set_cons_zero]; rfl)
  obtain ⟨k, hk⟩ := Int.eq_ofNat_of_zero_le i1
  rw [hk]
  have hk5 : k < 5 := by omega
  have HK := Lib.hid hk
  clear hk i1 i2
  refine plan_call _ 78 _ _ _ _ _ rfl _ Try.func78 (by kernel_rfl) (by kernel_rfl) ?_ True.intro
  refine (l4Fact_c p cv code _ k hk5 2 (by decide) (by decide) w7 hC7).mono ?_
  rintro _ w8 ⟨U, us, rfl, hO8, hm1, hm2, hus, ⟨st8, hC8⟩, hg8⟩
  obtain ⟨PU, cU, rfl, -⟩ := hO8.at_
  have hg8' : w6.grownBy w8 (some p) := hg7'.trans hg8
  have hS8 := hS.grown hg8' (fun q hq => ⟨by rw [HSb.out q hq]; exact hyz, by rw [HSb.out q hq]; intro e; injection e; omega⟩)
  refine ⟨_, rfl, fun _ => ⟨⟨_, hS8⟩, rfl⟩, ?_⟩
  refine plan_put ?_ (by simp only [Act.put, List.setIfInBounds_toArray, List.set_cons_succ, List.set_cons_zero]; rfl)
  have hz7 := hg7'.size
  have hz8 := hg8.size
  have hB8 : Below p E w8 := by
    have h1 : Below p E w3 := HB3.out.mono (by have := HP.out; omega)
    exact h1.grown (HG6.out.trans hg8') (by have := HP.out; omega) (fun k hk => by injection hk with hk; omega)
  have z0 := (hB8.cell (p := ⟨w.heap.size, 0, none⟩) (by show w.heap.size < p; omega)).trans q0.out
  have z1 := (hB8.cell (p := ⟨w.heap.size, 1, none⟩) (by show w.heap.size < p; omega)).trans q1.out
  have zz := fun o => (hB8.frozen (p := ⟨w.heap.size, o, none⟩) (by show w.heap.size < p; omega)).trans (qz.out o)
  have u0 := (hB8.cell (p := ⟨w.heap.size + 1, 0, none⟩) (by show w.heap.size + 1 < p; omega)).trans r0.out
  have u1 := (hB8.cell (p := ⟨w.heap.size + 1, 1, none⟩) (by show w.heap.size + 1 < p; omega)).trans r1.out
  have uz := fun o => (hB8.frozen (p := ⟨w.heap.size + 1, o, none⟩) (by show w.heap.size + 1 < p; omega)).trans (rz.out o)
  have HO1 := Lib.hid (HO.out.grown hg8' (by omega))
  have HO2 := Lib.hid hO8
  have HB := Lib.hid (hE.trans (hB8.mono (by omega)))
  have HU := Lib.hid hus
  clear hO8 hC8 hg8 hg8' hg7 hg7' hS8 hS7 g0 g1 hus hC7 hB8
  refine plan_skip (w' := (w8.setCell ⟨w.heap.size, 0, none⟩ (.int .i64 j)).setCell ⟨w.heap.size, 1, none⟩ (.slice PV vs.length cV)) _ rfl rfl rfl (by simp [go_sem, z0, z1, zz]) (fun e => by cases e) ?_ True.intro
  refine plan_put ?_ (by simp only [Act.put]; rfl)
  refine plan_skip (w' := (((w8.setCell ⟨w.heap.size, 0, none⟩ (.int .i64 j)).setCell ⟨w.heap.size, 1, none⟩ (.slice PV vs.length cV)).setCell ⟨w.heap.size + 1, 0, none⟩ (.int .i64 k)).setCell ⟨w.heap.size + 1, 1, none⟩ (.slice PU us.length cU)) _ rfl rfl rfl (by simp [go_sem, u0, u1, uz]) (fun e => by cases e) ?_ True.intro
  refine plan_put ?_ (by simp only [Act.put]; rfl)
  refine plan_done ?_
  go_wp2
  have hst : Chg (Mid w.heap.size (w.heap.size + 2)) w8 ((((w8.setCell ⟨w.heap.size, 0, none⟩ (.int .i64 j)).setCell ⟨w.heap.size, 1, none⟩ (.slice PV vs.length cV)).setCell ⟨w.heap.size + 1, 0, none⟩ (.int .i64 k)).setCell ⟨w.heap.size + 1, 1, none⟩ (.slice PU us.length cU)) :=
    ((((Chg.refl (Mid w.heap.size (w.heap.size + 2)) _).setCell (p := ⟨w.heap.size, 0, none⟩) ⟨Nat.le_refl _, by show w.heap.size < w.heap.size + 2; omega⟩ _).setCell (p := ⟨w.heap.size, 1, none⟩) ⟨Nat.le_refl _, by show w.heap.size < w.heap.size + 2; omega⟩ _).setCell (p := ⟨w.heap.size + 1, 0, none⟩) ⟨by show w.heap.size ≤ w.heap.size + 1; omega, by show w.heap.size + 1 < w.heap.size + 2; omega⟩ _).setCell (p := ⟨w.heap.size + 1, 1, none⟩) ⟨by show w.heap.size ≤ w.heap.size + 1; omega, by show w.heap.size + 1 < w.heap.size + 2; omega⟩ _
  refine bodyPost_ret (v := .tuple #[.agg #[.int .i64 j, .slice PV vs.length cV], .agg #[.int .i64 k, .slice PU us.length cU]]) (by simp [results, Try.results36, go_sem, z0, z1, u0, u1]) rfl ⟨_, ⟨j, vs⟩, _, ⟨k, us⟩, rfl, ?_, ?_, ?_, ?_, ?_⟩
  · exact (HO1.out.chg hst (fun q hq e => by have := (HO1.out.lt q hq).1; have := e.2; omega)).mono (by omega)
  · exact (HO2.out.chg hst (fun q hq e => by have := (HO2.out.lt q hq).1; have := e.2; omega)).mono (by omega)
  · exact ⟨⟨by show (-1 : Int) ≤ (j : Nat); omega, by show ((j : Nat) : Int) ≤ 5; omega⟩, by show vs.length ≤ 3; omega, fun z hz => by have := HV.out z hz; omega⟩
  · exact ⟨⟨by show (-1 : Int) ≤ (k : Nat); omega, by show ((k : Nat) : Int) ≤ 5; omega⟩, by show us.length ≤ 3; omega, fun z hz => by have := HU.out z hz; omega⟩
  · exact HB.out.trans (hst.below (fun k h => h.1) (by omega))

end Go.Proofs.Ytchlelkhpahakaa
