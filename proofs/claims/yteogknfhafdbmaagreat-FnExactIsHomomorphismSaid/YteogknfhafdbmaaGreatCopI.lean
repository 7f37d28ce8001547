/-
  Walks and plain lemmas for the laws of this seat: what single Go functions return, for every argument.
-/
import Derived.Lib.SliceRun
import Derived.Shelf.Abstract
import Derived.Test.YteogknfhafdbmaaGreatPlan
import Derived.Test.YteogknfhafdbmaaGreatInts
import Derived.Test.YteogknfhafdbmaaGreatRels
import Derived.Test.YteogknfhafdbmaaGreatTyInst
namespace Go.Proofs.YteogknfhafdbmaaGreat
open Go.RowKit

set_option maxHeartbeats 800000 in
theorem implCloneInts_any (v : Value) (l : List Int) (w : World) (hl : IntsAt w w.heap.size v l) (hn : l.length ≤ 1048576) :
    Calls Tryz.prog 94 #[v] w fun e w' => ∃ u, e = .returned u ∧ IntS_own w.heap.size w'.heap.size u l w' ∧ Below w.heap.size w w' := by
  have HL := Lib.hid hl
  obtain ⟨A, c, rfl, hlc, hcm, hel, hA⟩ := hl
  unfold maxLen at hcm
  have q0 : ∀ (w : World) (a : Option Addr) (n c n' c' : Nat), (binOp .eql 26 (.slice a n c) (.slice none n' c')).run Tryz.prog w = .ok (.bool a.isNone) w := fun w a n c n' c' => Lib.run_eql_slice_nil w _ _ a n c n' c' Tryz.underlying26
  cases A with
  | none =>
    obtain rfl := hA rfl
    obtain rfl : l = [] := List.eq_nil_of_length_eq_zero (by omega)
    clear hel hA
    go_enter Tryz.func94, Tryz.ntmps94
    go_wp2
    go_ret
    exact ⟨_, rfl, ⟨OwnInts.nil _ _, fun g hg => by cases hg⟩, Below.refl _ _⟩
  | some a =>
    have HLE := Lib.hid ((HL.out.below ((Below.refl w.heap.size w).alloc (Nat.le_refl _) (.cells #[] 3)) (Nat.le_refl _)))
    have HOE := Lib.hid (OwnInts.empty w w.heap.size (Nat.le_refl _))
    clear hel hA
    go_enter Tryz.func94, Tryz.ntmps94
    go_wp2_with (at_builtin; refine ints_apps (r := l) HOE.out rfl _ _ rfl (by simp [go_sem]) (some a) l.length c rfl rfl HLE.out (fun e => by cases e) (by simp; omega) (by simp) ?_; intro v1 w1 hO1 hW1 _ _)
    go_ret
    rw [List.nil_append] at hO1
    exact ⟨_, rfl, IntsO.of hO1, ((Below.refl _ _).alloc (Nat.le_refl _) _).trans hW1⟩

set_option maxHeartbeats 800000 in
theorem implCloneRels_any (v : Value) (l : List Rel) (w : World) (hl : RelsAt w w.heap.size v l) (hn : l.length ≤ 1048576) :
    Calls Tryz.prog 51 #[v] w fun e w' => ∃ u, e = .returned u ∧ RelationS_own w.heap.size w'.heap.size u l w' ∧ Below w.heap.size w w' := by
  have HL := Lib.hid hl
  obtain ⟨A, c, rfl, hlc, hcm, hel, hA⟩ := hl
  unfold maxLen at hcm
  have q0 : ∀ (w : World) (a : Option Addr) (n c n' c' : Nat), (binOp .eql 32 (.slice a n c) (.slice none n' c')).run Tryz.prog w = .ok (.bool a.isNone) w := fun w a n c n' c' => Lib.run_eql_slice_nil w _ _ a n c n' c' Tryz.underlying32
  cases A with
  | none =>
    obtain rfl := hA rfl
    obtain rfl : l = [] := List.eq_nil_of_length_eq_zero (by omega)
    clear hel hA
    go_enter Tryz.func51, Tryz.ntmps51
    go_wp2
    go_ret
    exact ⟨_, rfl, ⟨OwnRels.nil _ _, fun g hg => by cases hg⟩, Below.refl _ _⟩
  | some a =>
    have HLE := Lib.hid ((HL.out.below ((Below.refl w.heap.size w).alloc (Nat.le_refl _) (.cells #[] 68)) (Nat.le_refl _)))
    have HOE := Lib.hid (OwnRels.empty w w.heap.size (Nat.le_refl _))
    clear hel hA
    go_enter Tryz.func51, Tryz.ntmps51
    go_wp2_with (at_builtin; refine rels_apps (r := l) HOE.out rfl _ _ rfl (by simp [go_sem]) (some a) l.length c rfl rfl HLE.out (fun e => by cases e) (by simp; omega) (by simp) ?_; intro v1 w1 hO1 hW1 _ _)
    go_ret
    rw [List.nil_append] at hO1
    exact ⟨_, rfl, RelationS_own.of hO1, ((Below.refl _ _).alloc (Nat.le_refl _) _).trans hW1⟩
set_option maxHeartbeats 1600000 in
set_option maxRecDepth 100000 in
theorem implCopyFact_any (v : Value) (x : Fct) (w : World) (h : Fact_at w w.heap.size v x) (hn : Fact_sz x ≤ 1048576) :
    Calls Tryz.prog 70 #[v] w fun e w' => ∃ u, e = .returned u ∧ Fact_own w.heap.size w'.heap.size u x w' ∧ Below w.heap.size w w' := by
  obtain ⟨P, c, rfl⟩ := Fact_form h
  obtain ⟨V, hv, hI⟩ := h
  simp only [Value.agg.injEq, Array.mk.injEq, List.cons.injEq, and_true, true_and] at hv
  subst hv
  unfold Fact_sz at hn
  obtain ⟨E, hEq⟩ : ∃ E, E = ((w.alloc (.cells #[.int .i64 x.rel, .slice P x.vals.length c] 52)).alloc (.cells #[.int .i64 0, .slice none 0 0] 52)) := ⟨_, rfl⟩
  have hE : Below w.heap.size w E := by rw [hEq]; exact below_more (below_more (Below.refl _ _) _) _
  have HE := Lib.hid (show w.heap.size + 2 = E.heap.size by rw [hEq]; simp)
  have G0 := Aft.cell (B := E.heap.size) (w := E) (b := w.heap.size) (o := 0) (x := some (.int .i64 x.rel)) (by have := HE.out; omega) (by rw [hEq]; simp [go_sem])
  have G1 := Aft.cell (B := E.heap.size) (w := E) (b := w.heap.size) (o := 1) (x := some (.slice P x.vals.length c)) (by have := HE.out; omega) (by rw [hEq]; simp [go_sem])
  have M0 := Lib.hid (show E.cell? ⟨w.heap.size + 1, 0, none⟩ = some (.int .i64 0) by rw [hEq]; simp [go_sem])
  have M1 := Lib.hid (show E.cell? ⟨w.heap.size + 1, 1, none⟩ = some (.slice none 0 0) by rw [hEq]; simp [go_sem])
  have MZ := fun o => Lib.hid (show E.frozen? ⟨w.heap.size + 1, o, none⟩ = false by rw [hEq]; simp [go_sem])
  have hED : Below w.heap.size w E.drew := hE.drew
  have hcl := implCloneInts_any (.slice P x.vals.length c) x.vals E.drew ((SliceAt.below hI hED (Nat.le_refl _)).more hED.size) hn
  go_enter Tryz.func70, Tryz.ntmps70
  go_wp2
  rw [← hEq]
  clear hEq hI
  refine wp_region_plan (C := fun w' => ∃ u : Aft E.heap.size E, w' = u.now) (.still 0 (.still 1 (.still 2 (.still 3 (.move true 4 (.still 5 (.move false 6 .done .none)) .none))))) (by kernel_rfl) (by kernel_rfl) (by kernel_rfl) (fun _ => ⟨⟨_, (Below.refl _ _).drew⟩, rfl⟩) ?_
  iterate 4
    refine plan_look _ rfl rfl ?_
    go_big_quiet_step (fail)
    refine wpQuiet_nil ?_
  refine plan_call _ 94 _ _ _ _ _ rfl _ Tryz.func94 (by kernel_rfl) (by kernel_rfl) ?_ True.intro
  refine hcl.mono ?_
  rintro _ w2 ⟨u, rfl, hU, hb2⟩
  have hb2' : Below E.heap.size E w2 := (Below.refl _ _).drew.trans hb2
  obtain ⟨P2, c2, rfl, -⟩ := id hU.1.at_
  have m0 := (hb2'.cell (p := ⟨w.heap.size + 1, 0, none⟩) (by show w.heap.size + 1 < _; have := HE.out; omega)).trans M0.out
  have m1 := (hb2'.cell (p := ⟨w.heap.size + 1, 1, none⟩) (by show w.heap.size + 1 < _; have := HE.out; omega)).trans M1.out
  have mz := fun o => (hb2'.frozen (p := ⟨w.heap.size + 1, o, none⟩) (by show w.heap.size + 1 < _; have := HE.out; omega)).trans (MZ o).out
  have HU := Lib.hid (show IntS_own E.heap.size w2.heap.size (.slice P2 x.vals.length c2) x.vals w2 from hU)
  have HB2 := Lib.hid hb2'
  refine ⟨_, rfl, fun _ => ⟨⟨_, hb2'⟩, rfl⟩, ?_⟩
  clear hU hb2 hb2' G0 G1 hcl
  refine plan_put ?_ (by simp only [Act.put, List.setIfInBounds_toArray, List.set_cons_succ, List.set_cons_zero]; rfl)
  refine plan_look _ rfl rfl ?_
  go_big_quiet_step (fail)
  refine wpQuiet_nil ?_
  refine plan_skip (w' := (w2.setCell ⟨w.heap.size + 1, 0, none⟩ (.int .i64 x.rel)).setCell ⟨w.heap.size + 1, 1, none⟩ (.slice P2 x.vals.length c2)) _ rfl rfl rfl (by simp [go_sem, m0, m1, mz]) (fun e => by cases e) ?_ True.intro
  refine plan_put ?_ (by simp only [Act.put]; rfl)
  refine plan_done ?_
  go_wp2
  refine bodyPost_ret (v := .agg #[.int .i64 x.rel, .slice P2 x.vals.length c2]) (by simp [results, Tryz.results70, go_sem, m0, m1]) rfl ⟨_, rfl, ⟨_, rfl, ?_⟩, ?_⟩
  · exact (HU.out.chg (B' := w.heap.size + 1) (C' := w.heap.size + 2) (((Chg.refl _ w2).setCell (p := ⟨w.heap.size + 1, 0, none⟩) ⟨Nat.le_refl _, Nat.lt_succ_self _⟩ _).setCell (p := ⟨w.heap.size + 1, 1, none⟩) ⟨Nat.le_refl _, Nat.lt_succ_self _⟩ _) (.inr (by have := HE.out; omega))).mono hE.size (by simp [World.setCell])
  · exact ((hE.trans (HB2.out.mono hE.size)).setCell (p := ⟨w.heap.size + 1, 0, none⟩) (by show w.heap.size ≤ w.heap.size + 1; omega) _).setCell (p := ⟨w.heap.size + 1, 1, none⟩) (by show w.heap.size ≤ w.heap.size + 1; omega) _

end Go.Proofs.YteogknfhafdbmaaGreat
