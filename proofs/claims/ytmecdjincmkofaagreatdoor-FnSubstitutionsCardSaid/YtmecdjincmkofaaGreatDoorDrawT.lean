/-
  Walks and plain lemmas for the laws of this seat: what single Go functions return, for every argument.
-/
import Derived.Deep.Quiet
import Derived.Test.YtmecdjincmkofaaGreatDoorDraw
import Derived.Test.YtmecdjincmkofaaGreatDoorTyInst
import Derived.Test.YtmecdjincmkofaaGreatDoorDrawS
import Derived.Test.YtmecdjincmkofaaGreatDoorDrawJ
namespace Go.Proofs.YtmecdjincmkofaaGreatDoor
open Go.RowKit

/-- a substitution and an instance, drawn -/
def GivesSubInst (w : World) (e : Ending) (w' : World) : Prop :=
  ∃ V s U x, e = .returned (.tuple #[V, U]) ∧ Substitution_at w' w'.heap.size V s ∧ SbSmall s ∧ Instance_lo w.heap.size w' w'.heap.size U x ∧ InstSmall 9 x ∧ Below w.heap.size w w'
set_option maxHeartbeats 3200000 in
set_option maxRecDepth 100000 in
theorem drawApplyInst_c (cv : Value) (code : List UInt8) (w : World) (hc : CodeAt w w.heap.size cv code) (hlen : code.length ≤ 1048576) :
    Calls Tryz.prog 59 #[cv] w (GivesSubInst w) := by
  obtain ⟨E, hEq⟩ : ∃ E, E = (w.alloc (.cells #[.slice none 0 0, .slice none 0 0] 81)).alloc (.cells #[.slice none 0 0, .slice none 0 0] 40) := ⟨_, rfl⟩
  have hE : Below w.heap.size w E := by rw [hEq]; exact below_more (below_more (Below.refl _ _) _) _
  have HEz := Lib.hid (show w.heap.size + 2 = E.heap.size by rw [hEq]; simp)
  have Q0 := Lib.hid (show E.cell? ⟨w.heap.size, 0, none⟩ = some (.slice none 0 0) by rw [hEq]; simp [go_sem])
  have Q1 := Lib.hid (show E.cell? ⟨w.heap.size, 1, none⟩ = some (.slice none 0 0) by rw [hEq]; simp [go_sem])
  have QZ := Lib.hid (show ∀ o, E.frozen? ⟨w.heap.size, o, none⟩ = false from fun o => by rw [hEq]; simp [go_sem])
  have R0 := Lib.hid (show E.cell? ⟨w.heap.size + 1, 0, none⟩ = some (.slice none 0 0) by rw [hEq]; simp [go_sem])
  have R1 := Lib.hid (show E.cell? ⟨w.heap.size + 1, 1, none⟩ = some (.slice none 0 0) by rw [hEq]; simp [go_sem])
  have RZ := Lib.hid (show ∀ o, E.frozen? ⟨w.heap.size + 1, o, none⟩ = false from fun o => by rw [hEq]; simp [go_sem])
  go_enter Tryz.func59, Tryz.ntmps59
  go_wp2_with fail
  rw [← hEq]
  clear hEq
  refine (l1New_c cv code _ (hc.later hE) hlen).mono ?_; rintro e w3 ⟨rfl, hb3, hC3⟩
  have hp3 := Cur.lt hC3
  have HB3 := Lib.hid hb3
  have hz3 := hb3.size
  clear hb3
  obtain ⟨p, hp⟩ : ∃ p, p = E.heap.size := ⟨_, rfl⟩
  rw [← hp] at hC3 hp3 ⊢
  have hpw : w.heap.size + 2 ≤ p := by have := HEz.out; omega
  have HP := Lib.hid hp
  clear hp
  go_wp2_with fail
  refine (l6Sub_c p cv code _ 3 (by decide) _ hC3).mono ?_
  rintro e w4 ⟨V, s, rfl, hO4, hs, ⟨st4, hC4⟩, hg4⟩
  obtain ⟨P, c, Q, d, rfl⟩ := Substitution_form (hO4.at_ (Nat.le_refl _))
  have hz4 := hg4.size
  go_wp2_with fail
  refine (l5Any_c p cv code _ _ hC4).mono ?_
  rintro e w5 ⟨U, x, rfl, hlo, hx, -, hg5⟩
  obtain ⟨P', c', Q', d', rfl⟩ := Instance_form hlo.at_
  have hz5 := hg5.size
  have hch5 : Chg (Mid p (p + 1)) w4 w5 := chg_of_grown hg5
  have hO5 := hO4.chg hch5 (.inr (by omega))
  have hB5 : Below p E w5 := (HB3.out.mono (by have := HP.out; omega)).grown (hg4.trans hg5) (by have := HP.out; omega) (fun k hk => by injection hk with hk; omega)
  have z0 := (hB5.cell (p := ⟨w.heap.size, 0, none⟩) (by show w.heap.size < p; omega)).trans Q0.out
  have z1 := (hB5.cell (p := ⟨w.heap.size, 1, none⟩) (by show w.heap.size < p; omega)).trans Q1.out
  have zz := fun o => (hB5.frozen (p := ⟨w.heap.size, o, none⟩) (by show w.heap.size < p; omega)).trans (QZ.out o)
  have u0 := (hB5.cell (p := ⟨w.heap.size + 1, 0, none⟩) (by show w.heap.size + 1 < p; omega)).trans R0.out
  have u1 := (hB5.cell (p := ⟨w.heap.size + 1, 1, none⟩) (by show w.heap.size + 1 < p; omega)).trans R1.out
  have uz := fun o => (hB5.frozen (p := ⟨w.heap.size + 1, o, none⟩) (by show w.heap.size + 1 < p; omega)).trans (RZ.out o)
  have HO := Lib.hid hO5
  have HL := Lib.hid hlo
  have HS := Lib.hid hs
  have HX := Lib.hid hx
  have HB := Lib.hid (hE.trans (hB5.mono (by omega)))
  clear hO4 hO5 hlo hs hx hB5 hch5 hg4 hg5
  go_wp2
  have hst : ∀ a0 a1 b0 b1, Chg (Mid w.heap.size (w.heap.size + 2)) w5 ((((w5.setCell ⟨w.heap.size, 0, none⟩ a0).setCell ⟨w.heap.size, 1, none⟩ a1).setCell ⟨w.heap.size + 1, 0, none⟩ b0).setCell ⟨w.heap.size + 1, 1, none⟩ b1) := fun a0 a1 b0 b1 =>
    ((((Chg.refl (Mid w.heap.size (w.heap.size + 2)) _).setCell (p := ⟨w.heap.size, 0, none⟩) ⟨Nat.le_refl _, by show w.heap.size < w.heap.size + 2; omega⟩ _).setCell (p := ⟨w.heap.size, 1, none⟩) ⟨Nat.le_refl _, by show w.heap.size < w.heap.size + 2; omega⟩ _).setCell (p := ⟨w.heap.size + 1, 0, none⟩) ⟨by show w.heap.size ≤ w.heap.size + 1; omega, by show w.heap.size + 1 < w.heap.size + 2; omega⟩ _).setCell (p := ⟨w.heap.size + 1, 1, none⟩) ⟨by show w.heap.size ≤ w.heap.size + 1; omega, by show w.heap.size + 1 < w.heap.size + 2; omega⟩ _
  refine bodyPost_ret (v := .tuple #[.agg #[.slice P s.nulls.length c, .slice Q s.vals.length d], .agg #[.slice P' x.rels.length c', .slice Q' x.facts.length d']]) (by simp [results, Tryz.results59, go_sem, z0, z1, u0, u1]) rfl ⟨_, s, _, x, rfl, ?_, HS.out, ?_, HX.out, ?_⟩
  · exact (HO.out.chg (hst _ _ _ _) (.inr (by omega))).at_ (by simp [World.setCell]; omega)
  · exact (HL.out.chg (hst _ _ _ _) (fun k h => by have := h.2; omega)).less (by omega)
  · exact HB.out.trans ((hst _ _ _ _).below (fun k h => h.1) (by omega))
/-- two substitutions, drawn -/
def GivesSub2 (w : World) (e : Ending) (w' : World) : Prop :=
  ∃ V s U t, e = .returned (.tuple #[V, U]) ∧ Substitution_at w' w'.heap.size V s ∧ SbSmall s ∧ Substitution_at w' w'.heap.size U t ∧ SbSmall t ∧ Below w.heap.size w w'
set_option maxHeartbeats 3200000 in
set_option maxRecDepth 100000 in
theorem drawCompose_c (cv : Value) (code : List UInt8) (w : World) (hc : CodeAt w w.heap.size cv code) (hlen : code.length ≤ 1048576) :
    Calls Tryz.prog 60 #[cv] w (GivesSub2 w) := by
  obtain ⟨E, hEq⟩ : ∃ E, E = (w.alloc (.cells #[.slice none 0 0, .slice none 0 0] 81)).alloc (.cells #[.slice none 0 0, .slice none 0 0] 81) := ⟨_, rfl⟩
  have hE : Below w.heap.size w E := by rw [hEq]; exact below_more (below_more (Below.refl _ _) _) _
  have HEz := Lib.hid (show w.heap.size + 2 = E.heap.size by rw [hEq]; simp)
  have Q0 := Lib.hid (show E.cell? ⟨w.heap.size, 0, none⟩ = some (.slice none 0 0) by rw [hEq]; simp [go_sem])
  have Q1 := Lib.hid (show E.cell? ⟨w.heap.size, 1, none⟩ = some (.slice none 0 0) by rw [hEq]; simp [go_sem])
  have QZ := Lib.hid (show ∀ o, E.frozen? ⟨w.heap.size, o, none⟩ = false from fun o => by rw [hEq]; simp [go_sem])
  have R0 := Lib.hid (show E.cell? ⟨w.heap.size + 1, 0, none⟩ = some (.slice none 0 0) by rw [hEq]; simp [go_sem])
  have R1 := Lib.hid (show E.cell? ⟨w.heap.size + 1, 1, none⟩ = some (.slice none 0 0) by rw [hEq]; simp [go_sem])
  have RZ := Lib.hid (show ∀ o, E.frozen? ⟨w.heap.size + 1, o, none⟩ = false from fun o => by rw [hEq]; simp [go_sem])
  go_enter Tryz.func60, Tryz.ntmps60
  go_wp2_with fail
  rw [← hEq]
  clear hEq
  refine (l1New_c cv code _ (hc.later hE) hlen).mono ?_; rintro e w3 ⟨rfl, hb3, hC3⟩
  have hp3 := Cur.lt hC3
  have HB3 := Lib.hid hb3
  have hz3 := hb3.size
  clear hb3
  obtain ⟨p, hp⟩ : ∃ p, p = E.heap.size := ⟨_, rfl⟩
  rw [← hp] at hC3 hp3 ⊢
  have hpw : w.heap.size + 2 ≤ p := by have := HEz.out; omega
  have HP := Lib.hid hp
  clear hp
  go_wp2_with fail
  refine (l6Sub_c p cv code _ 4 (by decide) _ hC3).mono ?_
  rintro e w4 ⟨V, s, rfl, hO4, hs, ⟨st4, hC4⟩, hg4⟩
  obtain ⟨P, c, Q, d, rfl⟩ := Substitution_form (hO4.at_ (Nat.le_refl _))
  have hz4 := hg4.size
  obtain ⟨y, hy⟩ : ∃ y, y = w4.heap.size := ⟨_, rfl⟩
  go_wp2_with fail
  have y0 : (w4.alloc (.cells #[.slice P s.nulls.length c, .slice Q s.vals.length d] 81)).cell? ⟨y, 0, none⟩ = some (.slice P s.nulls.length c) := by rw [hy]; simp [go_sem]
  have y1 : (w4.alloc (.cells #[.slice P s.nulls.length c, .slice Q s.vals.length d] 81)).cell? ⟨y, 1, none⟩ = some (.slice Q s.vals.length d) := by rw [hy]; simp [go_sem]
  have hAl : Below y w4 (w4.alloc (.cells #[.slice P s.nulls.length c, .slice Q s.vals.length d] 81)) := (Below.refl _ _).alloc (by omega) _
  have hC5 : CurS (w4.alloc (.cells #[.slice P s.nulls.length c, .slice Q s.vals.length d] 81)) p cv code st4 := Cur.alloc hC4 _
  have hG5 : w3.grownBy (w4.alloc (.cells #[.slice P s.nulls.length c, .slice Q s.vals.length d] 81)) (some p) := hg4.trans (World.grownBy_alloc _ _ _)
  have hyz : y < (w4.alloc (.cells #[.slice P s.nulls.length c, .slice Q s.vals.length d] 81)).heap.size := by rw [hy]; simp
  have hO5 := hO4.below hAl (by omega)
  have hwy : w4.heap.size ≤ y := by omega
  rw [← hy]
  clear hy
  generalize w4.alloc (.cells #[.slice P s.nulls.length c, .slice Q s.vals.length d] 81) = w5 at *
  have hS : Holds [(⟨y, 0, none⟩, .slice P s.nulls.length c), (⟨y, 1, none⟩, .slice Q s.vals.length d)] w5 := by
    intro q hq
    simp only [List.mem_cons, List.not_mem_nil, or_false] at hq
    rcases hq with rfl | rfl
    · exact y0
    · exact y1
  have hSb : ∀ q ∈ [((⟨y, 0, none⟩ : Addr), Value.slice P s.nulls.length c), (⟨y, 1, none⟩, .slice Q s.vals.length d)], q.1.block = y := by
    intro q hq
    simp only [List.mem_cons, List.not_mem_nil, or_false] at hq
    rcases hq with rfl | rfl <;> rfl
  have g0 := Keep.cell (h0 := hS) (a := ⟨y, 0, none⟩) (v := .slice P s.nulls.length c) (by simp)
  have g1 := Keep.cell (h0 := hS) (a := ⟨y, 1, none⟩) (v := .slice Q s.vals.length d) (by simp)
  have HO := Lib.hid hO5
  have HSb := Lib.hid hSb
  have HS := Lib.hid hs
  have HG5 := Lib.hid hG5
  have HC5 := Lib.hid hC5
  have hz5 := hG5.size
  clear hO4 hO5 hAl hC4 hC5 hg4 hSb y0 y1 hG5 hs
  refine wp_region_planL (C := fun w' => ∃ u : Keep _ w5 hS, w' = u.now) (.still 0 (.still 1 (.move true 2 (.move false 3 (.move false 4 .done .none) .none) .none))) (by kernel_rfl) (by kernel_rfl) (by kernel_rfl) (fun _ => ⟨⟨w5.drew, hS⟩, rfl⟩) ?_
  iterate 2
    refine plan_look _ rfl rfl ?_
    go_big_quiet_step (fail)
    refine wpQuiet_nil ?_
  refine plan_call _ 134 _ _ _ _ _ rfl _ Tryz.func134 (by kernel_rfl) (by kernel_rfl) ?_ True.intro
  refine (l6Sub_c p cv code _ 4 (by decide) _ (Cur.drewN HC5.out 1)).mono ?_
  rintro _ w7 ⟨U, t, rfl, hO7, ht, -, hg7⟩
  have hg7' : w5.grownBy w7 (some p) := ⟨hg7.os, hg7.tape, hg7.output, hg7.size, hg7.block⟩
  have hS7 := hS.grown hg7' (fun q hq => ⟨by rw [HSb.out q hq]; exact hyz, by rw [HSb.out q hq]; intro e; injection e; omega⟩)
  refine ⟨_, rfl, fun _ => ⟨⟨_, hS7⟩, rfl⟩, ?_⟩
  refine plan_put ?_ (by simp only [Act.put, List.setIfInBounds_toArray, List.set_cons_succ, List.set_cons_zero]; rfl)
  obtain ⟨PU, cU, QU, dU, rfl⟩ := Substitution_form (hO7.at_ (Nat.le_refl _))
  have hz7 := hg7'.size
  have hB7 : Below p E w7 := (HB3.out.mono (by have := HP.out; omega)).grown (HG5.out.trans hg7') (by have := HP.out; omega) (fun k hk => by injection hk with hk; omega)
  have z0 := (hB7.cell (p := ⟨w.heap.size, 0, none⟩) (by show w.heap.size < p; omega)).trans Q0.out
  have z1 := (hB7.cell (p := ⟨w.heap.size, 1, none⟩) (by show w.heap.size < p; omega)).trans Q1.out
  have zz := fun o => (hB7.frozen (p := ⟨w.heap.size, o, none⟩) (by show w.heap.size < p; omega)).trans (QZ.out o)
  have u0 := (hB7.cell (p := ⟨w.heap.size + 1, 0, none⟩) (by show w.heap.size + 1 < p; omega)).trans R0.out
  have u1 := (hB7.cell (p := ⟨w.heap.size + 1, 1, none⟩) (by show w.heap.size + 1 < p; omega)).trans R1.out
  have uz := fun o => (hB7.frozen (p := ⟨w.heap.size + 1, o, none⟩) (by show w.heap.size + 1 < p; omega)).trans (RZ.out o)
  have HO1 := Lib.hid (HO.out.chg (chg_of_grown hg7') (.inr (by omega)))
  have HO2 := Lib.hid hO7
  have HT := Lib.hid ht
  have HB := Lib.hid (hE.trans (hB7.mono (by omega)))
  clear hO7 ht hB7 hS7 g0 g1 hg7
  refine plan_skip (w' := (w7.setCell ⟨w.heap.size, 0, none⟩ (.slice P s.nulls.length c)).setCell ⟨w.heap.size, 1, none⟩ (.slice Q s.vals.length d)) _ rfl rfl rfl (by simp [go_sem, z0, z1, zz]) (fun e => by cases e) ?_ True.intro
  refine plan_put ?_ (by simp only [Act.put]; rfl)
  refine plan_skip (w' := (((w7.setCell ⟨w.heap.size, 0, none⟩ (.slice P s.nulls.length c)).setCell ⟨w.heap.size, 1, none⟩ (.slice Q s.vals.length d)).setCell ⟨w.heap.size + 1, 0, none⟩ (.slice PU t.nulls.length cU)).setCell ⟨w.heap.size + 1, 1, none⟩ (.slice QU t.vals.length dU)) _ rfl rfl rfl (by simp [go_sem, u0, u1, uz]) (fun e => by cases e) ?_ True.intro
  refine plan_put ?_ (by simp only [Act.put]; rfl)
  refine plan_done ?_
  go_wp2
  have hst : Chg (Mid w.heap.size (w.heap.size + 2)) w7 ((((w7.setCell ⟨w.heap.size, 0, none⟩ (.slice P s.nulls.length c)).setCell ⟨w.heap.size, 1, none⟩ (.slice Q s.vals.length d)).setCell ⟨w.heap.size + 1, 0, none⟩ (.slice PU t.nulls.length cU)).setCell ⟨w.heap.size + 1, 1, none⟩ (.slice QU t.vals.length dU)) :=
    ((((Chg.refl (Mid w.heap.size (w.heap.size + 2)) _).setCell (p := ⟨w.heap.size, 0, none⟩) ⟨Nat.le_refl _, by show w.heap.size < w.heap.size + 2; omega⟩ _).setCell (p := ⟨w.heap.size, 1, none⟩) ⟨Nat.le_refl _, by show w.heap.size < w.heap.size + 2; omega⟩ _).setCell (p := ⟨w.heap.size + 1, 0, none⟩) ⟨by show w.heap.size ≤ w.heap.size + 1; omega, by show w.heap.size + 1 < w.heap.size + 2; omega⟩ _).setCell (p := ⟨w.heap.size + 1, 1, none⟩) ⟨by show w.heap.size ≤ w.heap.size + 1; omega, by show w.heap.size + 1 < w.heap.size + 2; omega⟩ _
  refine bodyPost_ret (v := .tuple #[.agg #[.slice P s.nulls.length c, .slice Q s.vals.length d], .agg #[.slice PU t.nulls.length cU, .slice QU t.vals.length dU]]) (by simp [results, Tryz.results60, go_sem, z0, z1, u0, u1]) rfl ⟨_, s, _, t, rfl, ?_, HS.out, ?_, HT.out, ?_⟩
  · exact (HO1.out.chg hst (.inr (by omega))).at_ (by simp [World.setCell]; omega)
  · exact (HO2.out.chg hst (.inr (by have : (w5.drewN 1).heap.size = w5.heap.size := rfl; have : w5.drew.heap.size = w5.heap.size := rfl; first | omega | (show w.heap.size + 2 ≤ w5.heap.size; omega)))).at_ (by simp [World.setCell])
  · exact HB.out.trans (hst.below (fun k h => h.1) (by omega))

end Go.Proofs.YtmecdjincmkofaaGreatDoor
