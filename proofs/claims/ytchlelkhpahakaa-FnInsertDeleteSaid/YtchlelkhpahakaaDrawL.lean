/-
  Walks and plain lemmas for the laws of this seat: what single Go functions return, for every argument.
-/
import Derived.Deep.Quiet
import Derived.Test.YtchlelkhpahakaaDraw
import Derived.Test.YtchlelkhpahakaaDrawK
namespace Go.Proofs.Ytchlelkhpahakaa
open Go.RowKit

/-- an instance and a fact, drawn -/
def GivesInstFct (w : World) (e : Ending) (w' : World) : Prop :=
  ∃ V x U f, e = .returned (.tuple #[V, .agg #[.int .i64 f.rel, U]]) ∧ Instance_lo w.heap.size w' w'.heap.size V x ∧ InstSmall 9 x ∧ IntS_at w' w'.heap.size U f.vals ∧ lowB w.heap.size U ∧ FctSmall f ∧ Below w.heap.size w w'
theorem IntS_at.loChg {A : Nat} {S : Nat → Prop} {w w' : World} {U : Value} {l : List Int} (h : IntS_at w w.heap.size U l) (hl : lowB A U) (hc : Chg S w w') (hS : ∀ k, S k → k < A) : IntS_at w' w'.heap.size U l := by
  obtain ⟨P2, c2, h1, h2, h3, h4, h5⟩ := h
  refine ⟨_, _, h1, h2, h3, fun h0 => ?_, h5⟩
  obtain ⟨b2, o2, hP, hb2, hc2⟩ := h4 h0
  subst h1 hP
  have hAb : A ≤ b2 := hl b2 rfl
  exact ⟨b2, o2, rfl, Nat.lt_of_lt_of_le hb2 hc.size, fun j u hu => (hc.cell hb2 (fun e => by have := hS _ e; omega)).trans (hc2 j u hu)⟩
set_option maxHeartbeats 3200000 in
set_option maxRecDepth 100000 in
theorem drawContains_c (cv : Value) (code : List UInt8) (w : World) (hc : CodeAt w w.heap.size cv code) (hlen : code.length ≤ 1048576) :
    Calls Try.prog 76 #[cv] w (GivesInstFct w) := by
  obtain ⟨E, hEq⟩ : ∃ E, E = (w.alloc (.cells #[.slice none 0 0, .slice none 0 0] 43)).alloc (.cells #[.int .i64 0, .slice none 0 0] 31) := ⟨_, rfl⟩
  have hE : Below w.heap.size w E := by rw [hEq]; exact below_more (below_more (Below.refl _ _) _) _
  have HEz := Lib.hid (show w.heap.size + 2 = E.heap.size by rw [hEq]; simp)
  have q0 : E.cell? ⟨w.heap.size, 0, none⟩ = some (.slice none 0 0) := by rw [hEq]; simp [go_sem]
  have q1 : E.cell? ⟨w.heap.size, 1, none⟩ = some (.slice none 0 0) := by rw [hEq]; simp [go_sem]
  have qz : ∀ o, E.frozen? ⟨w.heap.size, o, none⟩ = false := fun o => by rw [hEq]; simp [go_sem]
  have r0 : E.cell? ⟨w.heap.size + 1, 0, none⟩ = some (.int .i64 0) := by rw [hEq]; simp [go_sem]
  have r1 : E.cell? ⟨w.heap.size + 1, 1, none⟩ = some (.slice none 0 0) := by rw [hEq]; simp [go_sem]
  have rz : ∀ o, E.frozen? ⟨w.heap.size + 1, o, none⟩ = false := fun o => by rw [hEq]; simp [go_sem]
  have Q0 := Lib.hid q0
  have Q1 := Lib.hid q1
  have QZ := Lib.hid qz
  have R0 := Lib.hid r0
  have R1 := Lib.hid r1
  have RZ := Lib.hid rz
  clear q0 q1 qz r0 r1 rz
  go_enter Try.func76, Try.ntmps76
  go_wp2_with fail
  rw [← hEq]
  clear hEq
  refine (l1New_c cv code _ (hc.later hE) hlen).mono ?_; rintro e w3 ⟨rfl, hb3, hC3⟩
  have hp3 := Cur.lt hC3
  have HB3 := Lib.hid hb3
  have hz3 := hb3.size
  clear hb3
  obtain ⟨p, hp⟩ : ∃ p, p = E.heap.size := ⟨_, rfl⟩
  rw [← hp] at hC3 hp3 ⊢
  have hpw : w.heap.size + 2 ≤ p := by have := HEz.out; omega
  have HP := Lib.hid hp
  clear hp
  go_wp2_with fail
  refine (l5Any_c p cv code _ _ hC3).mono ?_
  rintro e w4 ⟨V, x, rfl, hlo, hs, ⟨st4, hC4⟩, hg4⟩
  obtain ⟨P, c, Q, d, rfl⟩ := Instance_form hlo.at_
  have hz4 := hg4.size
  obtain ⟨y, hy⟩ : ∃ y, y = w4.heap.size := ⟨_, rfl⟩
  have hxs := hs.2.1
  go_wp2_with fail
  have y0 : (w4.alloc (.cells #[.slice P x.rels.length c, .slice Q x.facts.length d] 43)).cell? ⟨y, 0, none⟩ = some (.slice P x.rels.length c) := by rw [hy]; simp [go_sem]
  have y1 : (w4.alloc (.cells #[.slice P x.rels.length c, .slice Q x.facts.length d] 43)).cell? ⟨y, 1, none⟩ = some (.slice Q x.facts.length d) := by rw [hy]; simp [go_sem]
  have hAl : Below y w4 (w4.alloc (.cells #[.slice P x.rels.length c, .slice Q x.facts.length d] 43)) := (Below.refl _ _).alloc (by omega) _
  have hC5 : CurS (w4.alloc (.cells #[.slice P x.rels.length c, .slice Q x.facts.length d] 43)) p cv code st4 := Cur.alloc hC4 _
  have hG5 : w3.grownBy (w4.alloc (.cells #[.slice P x.rels.length c, .slice Q x.facts.length d] 43)) (some p) := hg4.trans (World.grownBy_alloc _ _ _)
  have hyz : y < (w4.alloc (.cells #[.slice P x.rels.length c, .slice Q x.facts.length d] 43)).heap.size := by rw [hy]; simp
  have hlo5 := (hlo.below hAl (by omega)).more (B' := (w4.alloc (.cells #[.slice P x.rels.length c, .slice Q x.facts.length d] 43)).heap.size) (by omega)
  rw [← hy]
  have hy4 : w3.heap.size ≤ y := by omega
  clear hy
  generalize w4.alloc (.cells #[.slice P x.rels.length c, .slice Q x.facts.length d] 43) = w5 at *
  have hz5 := hG5.size
  have hS : Holds [(⟨y, 0, none⟩, .slice P x.rels.length c), (⟨y, 1, none⟩, .slice Q x.facts.length d)] w5 := by
    intro q hq
    simp only [List.mem_cons, List.not_mem_nil, or_false] at hq
    rcases hq with rfl | rfl
    · exact y0
    · exact y1
  have hSb : ∀ q ∈ [((⟨y, 0, none⟩ : Addr), Value.slice P x.rels.length c), (⟨y, 1, none⟩, .slice Q x.facts.length d)], q.1.block = y := by
    intro q hq
    simp only [List.mem_cons, List.not_mem_nil, or_false] at hq
    rcases hq with rfl | rfl <;> rfl
  have g0 := Keep.cell (h0 := hS) (a := ⟨y, 0, none⟩) (v := .slice P x.rels.length c) (by simp)
  have g1 := Keep.cell (h0 := hS) (a := ⟨y, 1, none⟩) (v := .slice Q x.facts.length d) (by simp)
  have HLO := Lib.hid hlo5
  have HSb := Lib.hid hSb
  have HS := Lib.hid hs
  have HG5 := Lib.hid hG5
  have HC5 := Lib.hid hC5
  clear hlo hlo5 hAl hC4 hg4 hSb y0 y1 hG5 hC5 hs
  refine wp_region_planL (C := fun w' => ∃ u : Keep _ w5 hS, w' = u.now) (.still 0 (.still 1 (.still 2 (.move true 3 (.move false 4 (.move false 5 .done .none) .none) .none)))) (by kernel_rfl) (by kernel_rfl) (by kernel_rfl) (fun _ => ⟨⟨w5.drew, hS⟩, rfl⟩) ?_
  iterate 3
    refine plan_look _ rfl rfl ?_
    go_big_quiet_step (fail)
    refine wpQuiet_nil ?_
  refine plan_call _ 103 _ _ _ _ _ rfl _ Try.func103 (by kernel_rfl) (by kernel_rfl) ?_ True.intro
  refine (l5One_c p cv code st4 w3.heap.size _ x w5.drew (Cur.drewN HC5.out 1) hp3 hz5 (HLO.out.later (Below.refl _ _).drew) HS.out).mono ?_
  rintro _ w6 ⟨U, f, rfl, hU, hUl, hf, ⟨st6, hC6⟩, hg6⟩
  have hg6' : w5.grownBy w6 (some p) := ⟨hg6.os, hg6.tape, hg6.output, hg6.size, hg6.block⟩
  have hS6 := hS.grown hg6' (fun q hq => ⟨by rw [HSb.out q hq]; exact hyz, by rw [HSb.out q hq]; intro e; injection e; omega⟩)
  refine ⟨_, rfl, fun _ => ⟨⟨_, hS6⟩, rfl⟩, ?_⟩
  refine plan_put ?_ (by simp only [Act.put, List.setIfInBounds_toArray, List.set_cons_succ, List.set_cons_zero]; rfl)
  obtain ⟨PU, cU, rfl, -⟩ := id hU
  have hz6 := hg6'.size
  have hG6 := HG5.out.trans hg6'
  have hB6 : Below p E w6 := by
    have h1 : Below p E w3 := HB3.out.mono (by have := HP.out; omega)
    exact h1.grown hG6 (by have := HP.out; omega) (fun k hk => by injection hk with hk; omega)
  have z0 := (hB6.cell (p := ⟨w.heap.size, 0, none⟩) (by show w.heap.size < p; omega)).trans Q0.out
  have z1 := (hB6.cell (p := ⟨w.heap.size, 1, none⟩) (by show w.heap.size < p; omega)).trans Q1.out
  have zz := fun o => (hB6.frozen (p := ⟨w.heap.size, o, none⟩) (by show w.heap.size < p; omega)).trans (QZ.out o)
  have u0 := (hB6.cell (p := ⟨w.heap.size + 1, 0, none⟩) (by show w.heap.size + 1 < p; omega)).trans R0.out
  have u1 := (hB6.cell (p := ⟨w.heap.size + 1, 1, none⟩) (by show w.heap.size + 1 < p; omega)).trans R1.out
  have uz := fun o => (hB6.frozen (p := ⟨w.heap.size + 1, o, none⟩) (by show w.heap.size + 1 < p; omega)).trans (RZ.out o)
  have hch6 : Chg (fun k => k = p) w5 w6 := ⟨hg6'.os, hg6'.tape, hg6'.output, hg6'.size, fun k hk hn => hg6'.block k hk (by intro e; injection e with e; exact hn e)⟩
  have HLO6 := Lib.hid (HLO.out.chg hch6 (fun k hk => by subst hk; exact hp3))
  have HU := Lib.hid hU
  have HUL := Lib.hid hUl
  have HF := Lib.hid hf
  have HB := Lib.hid ((hE.trans ((hB6.mono (by omega)))))
  have hz36 : w3.heap.size ≤ w6.heap.size := by omega
  clear hU hUl hf hC6 hg6 hg6' hG6 hB6 hch6 hS6 g0 g1
  refine plan_skip (w' := (w6.setCell ⟨w.heap.size, 0, none⟩ (.slice P x.rels.length c)).setCell ⟨w.heap.size, 1, none⟩ (.slice Q x.facts.length d)) _ rfl rfl rfl (by simp [go_sem, z0, z1, zz]) (fun e => by cases e) ?_ True.intro
  refine plan_put ?_ (by simp only [Act.put]; rfl)
  refine plan_skip (w' := (((w6.setCell ⟨w.heap.size, 0, none⟩ (.slice P x.rels.length c)).setCell ⟨w.heap.size, 1, none⟩ (.slice Q x.facts.length d)).setCell ⟨w.heap.size + 1, 0, none⟩ (.int .i64 f.rel)).setCell ⟨w.heap.size + 1, 1, none⟩ (.slice PU f.vals.length cU)) _ rfl rfl rfl (by simp [go_sem, u0, u1, uz]) (fun e => by cases e) ?_ True.intro
  refine plan_put ?_ (by simp only [Act.put]; rfl)
  refine plan_done ?_
  go_wp2
  have hst : Chg (Mid w.heap.size (w.heap.size + 2)) w6 ((((w6.setCell ⟨w.heap.size, 0, none⟩ (.slice P x.rels.length c)).setCell ⟨w.heap.size, 1, none⟩ (.slice Q x.facts.length d)).setCell ⟨w.heap.size + 1, 0, none⟩ (.int .i64 f.rel)).setCell ⟨w.heap.size + 1, 1, none⟩ (.slice PU f.vals.length cU)) :=
    ((((Chg.refl (Mid w.heap.size (w.heap.size + 2)) _).setCell (p := ⟨w.heap.size, 0, none⟩) ⟨Nat.le_refl _, by show w.heap.size < w.heap.size + 2; omega⟩ _).setCell (p := ⟨w.heap.size, 1, none⟩) ⟨Nat.le_refl _, by show w.heap.size < w.heap.size + 2; omega⟩ _).setCell (p := ⟨w.heap.size + 1, 0, none⟩) ⟨by show w.heap.size ≤ w.heap.size + 1; omega, by show w.heap.size + 1 < w.heap.size + 2; omega⟩ _).setCell (p := ⟨w.heap.size + 1, 1, none⟩) ⟨by show w.heap.size ≤ w.heap.size + 1; omega, by show w.heap.size + 1 < w.heap.size + 2; omega⟩ _
  have hw3 : w.heap.size + 2 ≤ w3.heap.size := by omega
  refine bodyPost_ret (v := .tuple #[.agg #[.slice P x.rels.length c, .slice Q x.facts.length d], .agg #[.int .i64 f.rel, .slice PU f.vals.length cU]]) (by simp [results, Try.results76, go_sem, z0, z1, u0, u1]) rfl ⟨_, x, _, f, rfl, ?_, HS.out, ?_, ?_, HF.out, ?_⟩
  · exact (HLO6.out.chg hst (fun k h => by have := h.2; omega)).less (by omega)
  · exact HU.out.loChg HUL.out hst (fun k h => by have := h.2; omega)
  · exact fun g hg => by have := HUL.out g hg; omega
  · exact HB.out.trans (hst.below (fun k h => h.1) (by omega))
set_option maxHeartbeats 1600000 in
set_option maxRecDepth 100000 in
theorem drawInsert_c (cv : Value) (code : List UInt8) (w : World) (hc : CodeAt w w.heap.size cv code) (hlen : code.length ≤ 1048576) :
    Calls Try.prog 35 #[cv] w (GivesInstFct w) := by
  obtain ⟨E, hEq⟩ : ∃ E, E = (w.alloc (.cells #[.slice none 0 0, .slice none 0 0] 43)).alloc (.cells #[.int .i64 0, .slice none 0 0] 31) := ⟨_, rfl⟩
  have hE : Below w.heap.size w E := by rw [hEq]; exact below_more (below_more (Below.refl _ _) _) _
  have HEz := Lib.hid (show w.heap.size + 2 = E.heap.size by rw [hEq]; simp)
  have q0 : E.cell? ⟨w.heap.size, 0, none⟩ = some (.slice none 0 0) := by rw [hEq]; simp [go_sem]
  have q1 : E.cell? ⟨w.heap.size, 1, none⟩ = some (.slice none 0 0) := by rw [hEq]; simp [go_sem]
  have qz : ∀ o, E.frozen? ⟨w.heap.size, o, none⟩ = false := fun o => by rw [hEq]; simp [go_sem]
  have r0 : E.cell? ⟨w.heap.size + 1, 0, none⟩ = some (.int .i64 0) := by rw [hEq]; simp [go_sem]
  have r1 : E.cell? ⟨w.heap.size + 1, 1, none⟩ = some (.slice none 0 0) := by rw [hEq]; simp [go_sem]
  have rz : ∀ o, E.frozen? ⟨w.heap.size + 1, o, none⟩ = false := fun o => by rw [hEq]; simp [go_sem]
  have hcon := drawContains_c cv code E (hc.later hE) hlen
  have hCD := Lib.hid (And.intro q0 (And.intro q1 (And.intro qz (And.intro r0 (And.intro r1 rz)))))
  clear q0 q1 qz r0 r1 rz
  go_enter Try.func35, Try.ntmps35
  go_wp2_with fail
  rw [← hEq]
  clear hEq
  refine hcon.mono ?_
  rintro e w6 ⟨V, x, U, f, rfl, hlo, hs, hU, hUl, hf, hb⟩
  obtain ⟨P, c, Q, d, rfl⟩ := Instance_form hlo.at_
  obtain ⟨PU, cU, rfl, -⟩ := id hU
  obtain ⟨q0, q1, qz, r0, r1, rz⟩ := hCD.out
  have hwE : w.heap.size + 2 ≤ E.heap.size := by have := HEz.out; omega
  have z0 := (hb.cell (p := ⟨w.heap.size, 0, none⟩) (by show w.heap.size < _; omega)).trans q0
  have z1 := (hb.cell (p := ⟨w.heap.size, 1, none⟩) (by show w.heap.size < _; omega)).trans q1
  have zz := fun o => (hb.frozen (p := ⟨w.heap.size, o, none⟩) (by show w.heap.size < _; omega)).trans (qz o)
  have u0 := (hb.cell (p := ⟨w.heap.size + 1, 0, none⟩) (by show w.heap.size + 1 < _; omega)).trans r0
  have u1 := (hb.cell (p := ⟨w.heap.size + 1, 1, none⟩) (by show w.heap.size + 1 < _; omega)).trans r1
  have uz := fun o => (hb.frozen (p := ⟨w.heap.size + 1, o, none⟩) (by show w.heap.size + 1 < _; omega)).trans (rz o)
  have HL := Lib.hid hlo
  have HS := Lib.hid hs
  have HU := Lib.hid hU
  have HUL := Lib.hid hUl
  have HF := Lib.hid hf
  have hsz := hb.size
  have HB := Lib.hid (hE.trans (hb.mono (by omega)))
  clear hlo hs hU hUl hf hb q0 q1 qz r0 r1 rz hcon
  go_wp2
  have hst : Chg (Mid w.heap.size (w.heap.size + 2)) w6 ((((w6.setCell ⟨w.heap.size, 0, none⟩ (.slice P x.rels.length c)).setCell ⟨w.heap.size, 1, none⟩ (.slice Q x.facts.length d)).setCell ⟨w.heap.size + 1, 0, none⟩ (.int .i64 f.rel)).setCell ⟨w.heap.size + 1, 1, none⟩ (.slice PU f.vals.length cU)) :=
    ((((Chg.refl (Mid w.heap.size (w.heap.size + 2)) _).setCell (p := ⟨w.heap.size, 0, none⟩) ⟨Nat.le_refl _, by show w.heap.size < w.heap.size + 2; omega⟩ _).setCell (p := ⟨w.heap.size, 1, none⟩) ⟨Nat.le_refl _, by show w.heap.size < w.heap.size + 2; omega⟩ _).setCell (p := ⟨w.heap.size + 1, 0, none⟩) ⟨by show w.heap.size ≤ w.heap.size + 1; omega, by show w.heap.size + 1 < w.heap.size + 2; omega⟩ _).setCell (p := ⟨w.heap.size + 1, 1, none⟩) ⟨by show w.heap.size ≤ w.heap.size + 1; omega, by show w.heap.size + 1 < w.heap.size + 2; omega⟩ _
  refine bodyPost_ret (v := .tuple #[.agg #[.slice P x.rels.length c, .slice Q x.facts.length d], .agg #[.int .i64 f.rel, .slice PU f.vals.length cU]]) (by simp [results, Try.results35, go_sem, z0, z1, u0, u1]) rfl ⟨_, x, _, f, rfl, ?_, HS.out, ?_, ?_, HF.out, ?_⟩
  · exact (HL.out.chg hst (fun k h => by have := h.2; omega)).less (by omega)
  · exact HU.out.loChg HUL.out hst (fun k h => by have := h.2; omega)
  · exact fun g hg => by have := HUL.out g hg; omega
  · exact HB.out.trans (hst.below (fun k h => h.1) (by omega))

end Go.Proofs.Ytchlelkhpahakaa
