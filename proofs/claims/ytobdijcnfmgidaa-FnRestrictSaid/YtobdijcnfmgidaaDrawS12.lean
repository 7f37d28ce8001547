/-
  Walks and plain lemmas for the laws of this seat: what single Go functions return, for every argument.
-/
import Derived.Deep.Quiet
import Derived.Test.YtobdijcnfmgidaaDraw
import Derived.Test.YtobdijcnfmgidaaPlan
import Derived.Test.YtobdijcnfmgidaaInstCp
import Derived.Test.YtobdijcnfmgidaaMInst
import Derived.Test.YtobdijcnfmgidaaDrawI
import Derived.Test.YtobdijcnfmgidaaDrawGi
import Derived.Test.YtobdijcnfmgidaaDrawJ
namespace Go.Proofs.Ytobdijcnfmgidaa
open Go.RowKit

set_option maxHeartbeats 1600000 in
set_option maxRecDepth 100000 in
theorem drawIvi_c (cv : Value) (code : List UInt8) (w : World) (hc : CodeAt w w.heap.size cv code) (hlen : code.length ≤ 1048576) :
    Calls Try.prog 7 #[cv] w (GivesInst1 w) := by
  obtain ⟨E, hEq⟩ : ∃ E, E = w.alloc (.cells #[.slice none 0 0, .slice none 0 0] 27) := ⟨_, rfl⟩
  have hE : Below w.heap.size w E := by rw [hEq]; exact below_more (Below.refl _ _) _
  have HEz := Lib.hid (show w.heap.size + 1 = E.heap.size by rw [hEq]; simp)
  have Q0 := Lib.hid (show E.cell? ⟨w.heap.size, 0, none⟩ = some (.slice none 0 0) by rw [hEq]; simp [go_sem])
  have Q1 := Lib.hid (show E.cell? ⟨w.heap.size, 1, none⟩ = some (.slice none 0 0) by rw [hEq]; simp [go_sem])
  have QZ := Lib.hid (show ∀ o, E.frozen? ⟨w.heap.size, o, none⟩ = false from fun o => by rw [hEq]; simp [go_sem])
  go_enter Try.func7, Try.ntmps7
  go_wp2_with fail
  rw [← hEq]
  clear hEq
  refine (l1New_c cv code _ (hc.later hE) hlen).mono ?_; rintro e w3 ⟨rfl, hb3, hC3⟩
  have hp3 := Cur.lt hC3
  have HB3 := Lib.hid hb3
  have hz3 := hb3.size
  clear hb3
  obtain ⟨p, hp⟩ : ∃ p, p = E.heap.size := ⟨_, rfl⟩
  rw [← hp] at hC3 hp3 ⊢
  have hpw : w.heap.size + 1 ≤ p := by have := HEz.out; omega
  have HP := Lib.hid hp
  clear hp
  go_wp2_with fail
  refine (l5Any_c p cv code _ _ hC3).mono ?_
  rintro e w4 ⟨V, x, rfl, hlo, hs, -, hg4⟩
  obtain ⟨P, c, Q, d, rfl⟩ := Instance_form hlo.at_
  have hz4 := hg4.size
  have hB4 : Below p E w4 := (HB3.out.mono (by have := HP.out; omega)).grown hg4 (by have := HP.out; omega) (fun k hk => by injection hk with hk; omega)
  have z0 := (hB4.cell (p := ⟨w.heap.size, 0, none⟩) (by show w.heap.size < p; omega)).trans Q0.out
  have z1 := (hB4.cell (p := ⟨w.heap.size, 1, none⟩) (by show w.heap.size < p; omega)).trans Q1.out
  have zz := fun o => (hB4.frozen (p := ⟨w.heap.size, o, none⟩) (by show w.heap.size < p; omega)).trans (QZ.out o)
  have HL := Lib.hid hlo
  have HS := Lib.hid hs
  have HB := Lib.hid (hE.trans (hB4.mono (by omega)))
  clear hlo hs hB4 hg4
  go_wp2
  have hst : ∀ u0 u1, Chg (fun k => k = w.heap.size) w4 ((w4.setCell ⟨w.heap.size, 0, none⟩ u0).setCell ⟨w.heap.size, 1, none⟩ u1) := fun u0 u1 => ((Chg.refl (fun k => k = w.heap.size) _).setCell (p := ⟨w.heap.size, 0, none⟩) rfl _).setCell (p := ⟨w.heap.size, 1, none⟩) rfl _
  refine bodyPost_ret (v := .agg #[.slice P x.rels.length c, .slice Q x.facts.length d]) (by simp [results, Try.results7, go_sem, z0, z1]) rfl ⟨_, x, rfl, ?_, HS.out, ?_⟩
  · exact (HL.out.chg (hst _ _) (fun k h => by subst h; omega)).less (by omega)
  · exact HB.out.trans ((hst _ _).below (fun k h => by subst h; omega) (by omega))
theorem Instance_lo.dropF {A B d : Nat} {w : World} {V1 : Value} {Q : Option Addr} {x : Inst} (h : Instance_lo A w B (.agg #[V1, .slice Q x.facts.length d]) x) (h0 : 0 < x.facts.length) :
    ∃ q off, Q = some ⟨q, off, none⟩ ∧ Instance_lo A w B (.agg #[V1, .slice (if d = 1 then some ⟨q, off, none⟩ else some ⟨q, off + 2, none⟩) (x.facts.length - 1) (d - 1)]) ⟨x.rels, x.facts.drop 1⟩ := by
  obtain ⟨U1, U2, Vs, hv, h1, l1, l2, h2, h3, h4, l3⟩ := h
  simp only [Value.agg.injEq, Array.mk.injEq, List.cons.injEq, and_true] at hv
  obtain ⟨rfl, rfl⟩ := hv
  have hp := pairs_len h2
  obtain ⟨A', c', hv2, hlc, -, hc, -⟩ := id h3
  injection hv2 with e1 _ e2
  subst e1 e2
  obtain ⟨q, off, rfl, -, -⟩ := hc (by omega)
  have h3' : SliceAt pairCells w B (.slice (some ⟨q, off, none⟩) (pairs x.facts Vs).length d) (pairs x.facts Vs) := by rw [hp]; exact h3
  have hd := SliceAt.drop pairCells_len h3' 1 (by omega)
  rw [pairs_drop] at hd
  have hl : (Vs.drop 1).length = (x.facts.drop 1).length := by rw [List.length_drop, List.length_drop, h2]
  have hpl := pairs_len hl
  have hdl : (x.facts.drop 1).length = x.facts.length - 1 := List.length_drop ..
  rw [hpl, hdl] at hd
  refine ⟨q, off, rfl, V1, _, Vs.drop 1, rfl, h1, l1, fun g hg => ?_, hl, ?_, fun i h h' => by
    rw [List.getElem_drop, show (x.facts.drop 1)[i] = x.facts[1 + i]'(by rw [List.length_drop] at h; omega) from List.getElem_drop ..]
    exact h4 (1 + i) _ _, fun V hV => l3 V (List.mem_of_mem_drop hV)⟩
  · split at hg <;> exact l2 g hg
  · show SliceAt pairCells w B _ (pairs (x.facts.drop 1) (Vs.drop 1))
    split
    · rename_i h5
      obtain ⟨A2, c2, hv3, k1, k2, -, -⟩ := hd
      injection hv3 with _ e4 e5
      subst e5
      refine ⟨_, _, by rw [e4], k1, k2, fun h6 => absurd h6 (by omega), fun e => by cases e⟩
    · exact hd
theorem InstSmall.dropF {n : Nat} {x : Inst} (h : InstSmall n x) : InstSmall n ⟨x.rels, x.facts.drop 1⟩ := ⟨h.1, by show (x.facts.drop 1).length ≤ n; rw [List.length_drop]; have := h.2.1; omega, fun f hf => h.2.2 f (List.mem_of_mem_drop hf)⟩
set_option maxHeartbeats 6400000 in
set_option maxRecDepth 100000 in
theorem drawSub_c (cv : Value) (code : List UInt8) (w : World) (hc : CodeAt w w.heap.size cv code) (hlen : code.length ≤ 1048576) :
    Calls Try.prog 15 #[cv] w (GivesInst2 w) := by
  obtain ⟨E, hEq⟩ : ∃ E, E = (w.alloc (.cells #[.slice none 0 0, .slice none 0 0] 27)).alloc (.cells #[.slice none 0 0, .slice none 0 0] 27) := ⟨_, rfl⟩
  have hE : Below w.heap.size w E := by rw [hEq]; exact below_more (below_more (Below.refl _ _) _) _
  have HEz := Lib.hid (show w.heap.size + 2 = E.heap.size by rw [hEq]; simp)
  have Q0 := Lib.hid (show E.cell? ⟨w.heap.size, 0, none⟩ = some (.slice none 0 0) by rw [hEq]; simp [go_sem])
  have Q1 := Lib.hid (show E.cell? ⟨w.heap.size, 1, none⟩ = some (.slice none 0 0) by rw [hEq]; simp [go_sem])
  have QZ := Lib.hid (show ∀ o, E.frozen? ⟨w.heap.size, o, none⟩ = false from fun o => by rw [hEq]; simp [go_sem])
  have R0 := Lib.hid (show E.cell? ⟨w.heap.size + 1, 0, none⟩ = some (.slice none 0 0) by rw [hEq]; simp [go_sem])
  have R1 := Lib.hid (show E.cell? ⟨w.heap.size + 1, 1, none⟩ = some (.slice none 0 0) by rw [hEq]; simp [go_sem])
  have RZ := Lib.hid (show ∀ o, E.frozen? ⟨w.heap.size + 1, o, none⟩ = false from fun o => by rw [hEq]; simp [go_sem])
  go_enter Try.func15, Try.ntmps15
  go_wp2_with fail
  rw [← hEq]
  clear hEq
  refine (l1New_c cv code _ (hc.later hE) hlen).mono ?_; rintro e w3 ⟨rfl, hb3, hC3⟩
  have hp3 := Cur.lt hC3
  have HB3 := Lib.hid hb3
  have hz3 := hb3.size
  clear hb3
  obtain ⟨p, hp⟩ : ∃ p, p = E.heap.size := ⟨_, rfl⟩
  rw [← hp] at hC3 hp3 ⊢
  have hpw : w.heap.size + 2 ≤ p := by have := HEz.out; omega
  have HP := Lib.hid hp
  clear hp
  go_wp2_with fail
  refine (l5Any_c p cv code _ _ hC3).mono ?_
  rintro e w4 ⟨V, x, rfl, hlo, hs, ⟨st4, hC4⟩, hg4⟩
  obtain ⟨P, c, Q, d, rfl⟩ := Instance_form hlo.at_
  have hz4 := hg4.size
  obtain ⟨y, hy⟩ : ∃ y, y = w4.heap.size := ⟨_, rfl⟩
  obtain ⟨W5, hW5⟩ : ∃ W, W = w4.alloc (.cells #[.slice P x.rels.length c, .slice Q x.facts.length d] 27) := ⟨_, rfl⟩
  have hAl : Below y w4 W5 := by rw [hW5]; exact (Below.refl _ _).alloc (by omega) _
  have hz5 : W5.heap.size = y + 1 := by rw [hW5, hy]; simp
  have y0 : W5.cell? ⟨y, 0, none⟩ = some (.slice P x.rels.length c) := by rw [hW5, hy]; simp [go_sem]
  have y1 : W5.cell? ⟨y, 1, none⟩ = some (.slice Q x.facts.length d) := by rw [hW5, hy]; simp [go_sem]
  have hC5 : CurS W5 p cv code st4 := by rw [hW5]; exact Cur.alloc hC4 _
  have hG5 : w3.grownBy W5 (some p) := by rw [hW5]; exact hg4.trans (World.grownBy_alloc _ _ _)
  have HL5 := Lib.hid ((hlo.below hAl (by omega)).more (B' := W5.heap.size) (by omega))
  have HS := Lib.hid hs
  have hpy : p < y := by omega
  have hy4 : w3.heap.size ≤ y := by omega
  go_upto_region 3 with fail
  rw [← hW5, ← hy]
  clear hlo hs hC4 hg4 hAl hW5 hy
  go_wp2_with fail
  refine (specL5Copy_any _ x W5 HL5.out.at_ (by have := HS.out.sz (by decide); omega)).mono ?_
  rintro e w6 ⟨U, rfl, hO6, hb6⟩
  obtain ⟨PU, cU, QU, dU, rfl⟩ := Instance_form (hO6.at_ (Nat.le_refl _))
  have hQU := hO6
  obtain ⟨y2, hy2⟩ : ∃ y, y = w6.heap.size := ⟨_, rfl⟩
  obtain ⟨W7, hW7⟩ : ∃ W, W = w6.alloc (.cells #[.slice PU x.rels.length cU, .slice QU x.facts.length dU] 27) := ⟨_, rfl⟩
  have hAl7 : Below y2 w6 W7 := by rw [hW7]; exact (Below.refl _ _).alloc (by omega) _
  have hz7 : W7.heap.size = y2 + 1 := by rw [hW7, hy2]; simp
  have hz56 := hb6.size
  have hyy : y < y2 := by omega
  have v0 : W7.cell? ⟨y2, 0, none⟩ = some (.slice PU x.rels.length cU) := by rw [hW7, hy2]; simp [go_sem]
  have v1 : W7.cell? ⟨y2, 1, none⟩ = some (.slice QU x.facts.length dU) := by rw [hW7, hy2]; simp [go_sem]
  have vz : ∀ o, W7.frozen? ⟨y2, o, none⟩ = false := fun o => by rw [hW7, hy2]; simp [go_sem]
  have hB57 : Below W5.heap.size W5 W7 := hb6.trans (hAl7.mono (by omega))
  have hC7 : CurS W7 p cv code st4 := by rw [hW7]; exact Cur.alloc (Cur.below (by first | exact hC5 | exact hc) hC5 hb6) _
  have HL7 := Lib.hid ((HL5.out.below hB57 (Nat.le_refl _)).more (B' := y2) (by omega))
  have HO7 := Lib.hid (((Instance_own.lo hO6 (Nat.le_refl _)).less (show w3.heap.size ≤ W5.heap.size by omega)).below hAl7 (by omega) |>.more (B' := y2) (by omega))
  have hG7 : w3.grownBy W7 (some p) := grown_of_below hG5 (hB57.mono (show w3.heap.size ≤ W5.heap.size by omega))
  have y0 := (hB57.cell (p := ⟨y, 0, none⟩) (by show y < _; omega)).trans y0
  have y1 := (hB57.cell (p := ⟨y, 1, none⟩) (by show y < _; omega)).trans y1
  have hfm : x.facts.length ≤ dU ∧ dU ≤ maxLen := by
    obtain ⟨V1, V2, hv, -, hF⟩ := hO6.at_ (Nat.le_refl _)
    simp only [Value.agg.injEq, Array.mk.injEq, List.cons.injEq, and_true] at hv
    obtain ⟨rfl, rfl⟩ := hv
    obtain ⟨_, _, hv2, h1, h2⟩ := hF.form
    injection hv2 with e1 _ e2
    subst e1 e2
    exact ⟨h1, h2⟩
  unfold maxLen at hfm
  go_upto_region 4 with fail
  rw [← hW7, ← hy2]
  clear hO6 hQU hb6 hAl7 hW7 hy2 hB57 hC5 hG5 HL5 hz56
  by_cases h0 : x.facts.length = 0
  · have hd0 : decide ((0 : Int) < (x.facts.length : Int)) = false := decide_eq_false (by omega)
    have hd0' : decide (0 < x.facts.length) = false := decide_eq_false (by omega)
    clear h0
    have hzG := hG7.size
    have hB7 : Below p E W7 := (HB3.out.mono (by have := HP.out; omega)).grown hG7 (by have := HP.out; omega) (fun k hk => by injection hk with hk; omega)
    have z0 := (hB7.cell (p := ⟨w.heap.size, 0, none⟩) (by show w.heap.size < p; omega)).trans Q0.out
    have z1 := (hB7.cell (p := ⟨w.heap.size, 1, none⟩) (by show w.heap.size < p; omega)).trans Q1.out
    have zz := fun o => (hB7.frozen (p := ⟨w.heap.size, o, none⟩) (by show w.heap.size < p; omega)).trans (QZ.out o)
    have u0 := (hB7.cell (p := ⟨w.heap.size + 1, 0, none⟩) (by show w.heap.size + 1 < p; omega)).trans R0.out
    have u1 := (hB7.cell (p := ⟨w.heap.size + 1, 1, none⟩) (by show w.heap.size + 1 < p; omega)).trans R1.out
    have uz := fun o => (hB7.frozen (p := ⟨w.heap.size + 1, o, none⟩) (by show w.heap.size + 1 < p; omega)).trans (RZ.out o)
    have HB9 := Lib.hid (hE.trans (hB7.mono (by omega)))
    have HL9 := Lib.hid (HL7.out.more (B' := W7.heap.size) (by omega))
    have HZ9 := Lib.hid (HO7.out.more (B' := W7.heap.size) (by omega))
    go_upto_region 6 with fail
    obtain ⟨W9, rfl⟩ : ∃ W, W = W7 := ⟨_, rfl⟩
    have hS : Holds [(⟨y, 0, none⟩, .slice P x.rels.length c), (⟨y, 1, none⟩, .slice Q x.facts.length d), (⟨y2, 0, none⟩, .slice PU x.rels.length cU), (⟨y2, 1, none⟩, .slice QU x.facts.length dU)] W9.drew := by
      intro q hq
      simp only [List.mem_cons, List.not_mem_nil, or_false] at hq
      rcases hq with rfl | rfl | rfl | rfl
      · exact y0
      · exact y1
      · exact v0
      · exact v1
    have hS1 : Holds [(⟨y, 0, none⟩, .slice P x.rels.length c), (⟨y, 1, none⟩, .slice Q x.facts.length d), (⟨y2, 0, none⟩, .slice PU x.rels.length cU), (⟨y2, 1, none⟩, .slice QU x.facts.length dU)] ((W9.drew.setCell ⟨w.heap.size, 0, none⟩ (.slice PU x.rels.length cU)).setCell ⟨w.heap.size, 1, none⟩ (.slice QU x.facts.length dU)) := by
      intro q hq
      have hk := hS q hq
      have hch1 : Chg (fun k => k = w.heap.size) W9.drew ((W9.drew.setCell ⟨w.heap.size, 0, none⟩ (.slice PU x.rels.length cU)).setCell ⟨w.heap.size, 1, none⟩ (.slice QU x.facts.length dU)) := ((Chg.refl (fun k => k = w.heap.size) _).setCell (p := ⟨w.heap.size, 0, none⟩) rfl _).setCell (p := ⟨w.heap.size, 1, none⟩) rfl _
      simp only [List.mem_cons, List.not_mem_nil, or_false] at hq
      rcases hq with rfl | rfl | rfl | rfl <;> exact (hch1.cell (by first | (show y < W9.heap.size; omega) | (show y2 < W9.heap.size; omega)) (by omega)).trans hk
    have g0 := Keep.cell (h0 := hS) (a := ⟨y, 0, none⟩) (v := .slice P x.rels.length c) (by simp)
    have g1 := Keep.cell (h0 := hS) (a := ⟨y, 1, none⟩) (v := .slice Q x.facts.length d) (by simp)
    have g2 := Keep.cell (h0 := hS) (a := ⟨y2, 0, none⟩) (v := .slice PU x.rels.length cU) (by simp)
    have g3 := Keep.cell (h0 := hS) (a := ⟨y2, 1, none⟩) (v := .slice QU x.facts.length dU) (by simp)
    have hst : Chg (Mid w.heap.size (w.heap.size + 2)) W9.drew ((((W9.drew.setCell ⟨w.heap.size, 0, none⟩ (.slice PU x.rels.length cU)).setCell ⟨w.heap.size, 1, none⟩ (.slice QU x.facts.length dU)).setCell ⟨w.heap.size + 1, 0, none⟩ (.slice P x.rels.length c)).setCell ⟨w.heap.size + 1, 1, none⟩ (.slice Q x.facts.length d)) := ((((Chg.refl (Mid w.heap.size (w.heap.size + 2)) W9.drew).setCell (p := ⟨w.heap.size, 0, none⟩) ⟨Nat.le_refl _, by show w.heap.size < w.heap.size + 2; omega⟩ _).setCell (p := ⟨w.heap.size, 1, none⟩) ⟨Nat.le_refl _, by show w.heap.size < w.heap.size + 2; omega⟩ _).setCell (p := ⟨w.heap.size + 1, 0, none⟩) ⟨Nat.le_succ _, by show w.heap.size + 1 < w.heap.size + 2; omega⟩ _).setCell (p := ⟨w.heap.size + 1, 1, none⟩) ⟨Nat.le_succ _, by show w.heap.size + 1 < w.heap.size + 2; omega⟩ _
    have HF : Hid (GivesInst2 w (.returned (.tuple #[.agg #[.slice PU x.rels.length cU, .slice QU x.facts.length dU], .agg #[.slice P x.rels.length c, .slice Q x.facts.length d]])) ((((W9.drew.setCell ⟨w.heap.size, 0, none⟩ (.slice PU x.rels.length cU)).setCell ⟨w.heap.size, 1, none⟩ (.slice QU x.facts.length dU)).setCell ⟨w.heap.size + 1, 0, none⟩ (.slice P x.rels.length c)).setCell ⟨w.heap.size + 1, 1, none⟩ (.slice Q x.facts.length d))) := Lib.hid (by
      have hdr : Below W9.heap.size W9 W9.drew := (Below.refl _ _).drew
      exact ⟨_, x, _, x, rfl, ((HZ9.out.later hdr).chg hst (fun k h => by have := h.2; omega)).less (by omega), HS.out, ((HL9.out.later hdr).chg hst (fun k h => by have := h.2; omega)).less (by omega), HS.out, (HB9.out.trans (hdr.mono HB9.out.size)).trans (hst.below (fun k h => h.1) (by have := HB9.out.size; show w.heap.size ≤ W9.heap.size; exact this))⟩)
    clear y0 y1 v0 v1 hst HL9 HZ9 HB9
    refine wp_region_planL (C := fun w' => ∃ u : Keep _ W9.drew hS, w' = u.now) (.still 0 (.still 1 (.move true 2 (.move false 3 .done .none) .none))) (by kernel_rfl) (by kernel_rfl) (by kernel_rfl) (fun _ => ⟨⟨W9.drew, hS⟩, rfl⟩) ?_
    iterate 2
      refine plan_look _ rfl rfl ?_
      go_big_quiet_step (fail)
      refine wpQuiet_nil ?_
    refine plan_skip (w' := ((W9.drew.setCell ⟨w.heap.size, 0, none⟩ (.slice PU x.rels.length cU)).setCell ⟨w.heap.size, 1, none⟩ (.slice QU x.facts.length dU))) _ rfl rfl rfl (by simp [go_sem, z0, z1, zz]) (fun _ => ⟨⟨_, hS1⟩, rfl⟩) ?_ True.intro
    refine plan_put ?_ (by simp only [Act.put]; rfl)
    refine plan_skip (w' := ((((W9.drew.setCell ⟨w.heap.size, 0, none⟩ (.slice PU x.rels.length cU)).setCell ⟨w.heap.size, 1, none⟩ (.slice QU x.facts.length dU)).setCell ⟨w.heap.size + 1, 0, none⟩ (.slice P x.rels.length c)).setCell ⟨w.heap.size + 1, 1, none⟩ (.slice Q x.facts.length d))) _ rfl rfl rfl (by simp [go_sem, u0, u1, uz]) (fun e => by cases e) ?_ True.intro
    refine plan_put ?_ (by simp only [Act.put]; rfl)
    refine plan_done ?_
    go_wp2
    refine bodyPost_ret (v := .tuple #[.agg #[.slice PU x.rels.length cU, .slice QU x.facts.length dU], .agg #[.slice P x.rels.length c, .slice Q x.facts.length d]]) (by simp [results, Try.results15, go_sem, z0, z1, u0, u1]) rfl HF.out
  · have hd0 : decide ((0 : Int) < (x.facts.length : Int)) = true := decide_eq_true (by omega)
    go_wp2_with fail
    refine (l1Once_r p cv code _ _ _ hC7).mono ?_
    rintro e w8 ⟨rfl, -, hg8⟩
    generalize onceR code st4 2 = bo at *
    obtain ⟨bo, st8⟩ := bo
    dsimp only at *
    have hG8 := hG7.trans hg8
    have hch8 : Chg (fun k => k = p) W7 w8 := ⟨hg8.os, hg8.tape, hg8.output, hg8.size, fun k hk hn => hg8.block k hk (by intro e; injection e with e; exact hn e)⟩
    have y0 := grown_cell hg8 y0 (by omega)
    have y1 := grown_cell hg8 y1 (by omega)
    have v0 := grown_cell hg8 v0 (by omega)
    have v1 := grown_cell hg8 v1 (by omega)
    have vz := fun o => grown_frozen hg8 (b := y2) (o := o) (by omega) (by omega) (vz o)
    have HL8 := Lib.hid (HL7.out.keep (w' := w8) (fun b o h1 h2 => hch8.cell (by omega) (by omega)))
    have HO8 := Lib.hid (HO7.out.keep (w' := w8) (fun b o h1 h2 => hch8.cell (by omega) (by omega)))
    have hz8 := hg8.size
    have hzG := hG8.size
    have hB8 : Below p E w8 := (HB3.out.mono (by have := HP.out; omega)).grown hG8 (by have := HP.out; omega) (fun k hk => by injection hk with hk; omega)
    have HB8 := Lib.hid (hE.trans (hB8.mono (by omega)))
    have z0 := (hB8.cell (p := ⟨w.heap.size, 0, none⟩) (by show w.heap.size < p; omega)).trans Q0.out
    have z1 := (hB8.cell (p := ⟨w.heap.size, 1, none⟩) (by show w.heap.size < p; omega)).trans Q1.out
    have zz := fun o => (hB8.frozen (p := ⟨w.heap.size, o, none⟩) (by show w.heap.size < p; omega)).trans (QZ.out o)
    have u0 := (hB8.cell (p := ⟨w.heap.size + 1, 0, none⟩) (by show w.heap.size + 1 < p; omega)).trans R0.out
    have u1 := (hB8.cell (p := ⟨w.heap.size + 1, 1, none⟩) (by show w.heap.size + 1 < p; omega)).trans R1.out
    have uz := fun o => (hB8.frozen (p := ⟨w.heap.size + 1, o, none⟩) (by show w.heap.size + 1 < p; omega)).trans (RZ.out o)
    clear hC7 hG7 hg8 hG8 hch8 HL7 HO7 hB8
    cases bo with
    | false =>
      have HB9 := HB8
      have HL9 := Lib.hid (HL8.out.more (B' := w8.heap.size) (by omega))
      have HZ9 := Lib.hid (HO8.out.more (B' := w8.heap.size) (by omega))
      go_upto_region 6 with fail
      obtain ⟨W9, rfl⟩ : ∃ W, W = w8 := ⟨_, rfl⟩
      have hS : Holds [(⟨y, 0, none⟩, .slice P x.rels.length c), (⟨y, 1, none⟩, .slice Q x.facts.length d), (⟨y2, 0, none⟩, .slice PU x.rels.length cU), (⟨y2, 1, none⟩, .slice QU x.facts.length dU)] W9.drew := by
        intro q hq
        simp only [List.mem_cons, List.not_mem_nil, or_false] at hq
        rcases hq with rfl | rfl | rfl | rfl
        · exact y0
        · exact y1
        · exact v0
        · exact v1
      have hS1 : Holds [(⟨y, 0, none⟩, .slice P x.rels.length c), (⟨y, 1, none⟩, .slice Q x.facts.length d), (⟨y2, 0, none⟩, .slice PU x.rels.length cU), (⟨y2, 1, none⟩, .slice QU x.facts.length dU)] ((W9.drew.setCell ⟨w.heap.size, 0, none⟩ (.slice PU x.rels.length cU)).setCell ⟨w.heap.size, 1, none⟩ (.slice QU x.facts.length dU)) := by
        intro q hq
        have hk := hS q hq
        have hch1 : Chg (fun k => k = w.heap.size) W9.drew ((W9.drew.setCell ⟨w.heap.size, 0, none⟩ (.slice PU x.rels.length cU)).setCell ⟨w.heap.size, 1, none⟩ (.slice QU x.facts.length dU)) := ((Chg.refl (fun k => k = w.heap.size) _).setCell (p := ⟨w.heap.size, 0, none⟩) rfl _).setCell (p := ⟨w.heap.size, 1, none⟩) rfl _
        simp only [List.mem_cons, List.not_mem_nil, or_false] at hq
        rcases hq with rfl | rfl | rfl | rfl <;> exact (hch1.cell (by first | (show y < W9.heap.size; omega) | (show y2 < W9.heap.size; omega)) (by omega)).trans hk
      have g0 := Keep.cell (h0 := hS) (a := ⟨y, 0, none⟩) (v := .slice P x.rels.length c) (by simp)
      have g1 := Keep.cell (h0 := hS) (a := ⟨y, 1, none⟩) (v := .slice Q x.facts.length d) (by simp)
      have g2 := Keep.cell (h0 := hS) (a := ⟨y2, 0, none⟩) (v := .slice PU x.rels.length cU) (by simp)
      have g3 := Keep.cell (h0 := hS) (a := ⟨y2, 1, none⟩) (v := .slice QU x.facts.length dU) (by simp)
      have hst : Chg (Mid w.heap.size (w.heap.size + 2)) W9.drew ((((W9.drew.setCell ⟨w.heap.size, 0, none⟩ (.slice PU x.rels.length cU)).setCell ⟨w.heap.size, 1, none⟩ (.slice QU x.facts.length dU)).setCell ⟨w.heap.size + 1, 0, none⟩ (.slice P x.rels.length c)).setCell ⟨w.heap.size + 1, 1, none⟩ (.slice Q x.facts.length d)) := ((((Chg.refl (Mid w.heap.size (w.heap.size + 2)) W9.drew).setCell (p := ⟨w.heap.size, 0, none⟩) ⟨Nat.le_refl _, by show w.heap.size < w.heap.size + 2; omega⟩ _).setCell (p := ⟨w.heap.size, 1, none⟩) ⟨Nat.le_refl _, by show w.heap.size < w.heap.size + 2; omega⟩ _).setCell (p := ⟨w.heap.size + 1, 0, none⟩) ⟨Nat.le_succ _, by show w.heap.size + 1 < w.heap.size + 2; omega⟩ _).setCell (p := ⟨w.heap.size + 1, 1, none⟩) ⟨Nat.le_succ _, by show w.heap.size + 1 < w.heap.size + 2; omega⟩ _
      have HF : Hid (GivesInst2 w (.returned (.tuple #[.agg #[.slice PU x.rels.length cU, .slice QU x.facts.length dU], .agg #[.slice P x.rels.length c, .slice Q x.facts.length d]])) ((((W9.drew.setCell ⟨w.heap.size, 0, none⟩ (.slice PU x.rels.length cU)).setCell ⟨w.heap.size, 1, none⟩ (.slice QU x.facts.length dU)).setCell ⟨w.heap.size + 1, 0, none⟩ (.slice P x.rels.length c)).setCell ⟨w.heap.size + 1, 1, none⟩ (.slice Q x.facts.length d))) := Lib.hid (by
        have hdr : Below W9.heap.size W9 W9.drew := (Below.refl _ _).drew
        exact ⟨_, x, _, x, rfl, ((HZ9.out.later hdr).chg hst (fun k h => by have := h.2; omega)).less (by omega), HS.out, ((HL9.out.later hdr).chg hst (fun k h => by have := h.2; omega)).less (by omega), HS.out, (HB9.out.trans (hdr.mono HB9.out.size)).trans (hst.below (fun k h => h.1) (by have := HB9.out.size; show w.heap.size ≤ W9.heap.size; exact this))⟩)
      clear y0 y1 v0 v1 hst HL9 HZ9 HB9
      refine wp_region_planL (C := fun w' => ∃ u : Keep _ W9.drew hS, w' = u.now) (.still 0 (.still 1 (.move true 2 (.move false 3 .done .none) .none))) (by kernel_rfl) (by kernel_rfl) (by kernel_rfl) (fun _ => ⟨⟨W9.drew, hS⟩, rfl⟩) ?_
      iterate 2
        refine plan_look _ rfl rfl ?_
        go_big_quiet_step (fail)
        refine wpQuiet_nil ?_
      refine plan_skip (w' := ((W9.drew.setCell ⟨w.heap.size, 0, none⟩ (.slice PU x.rels.length cU)).setCell ⟨w.heap.size, 1, none⟩ (.slice QU x.facts.length dU))) _ rfl rfl rfl (by simp [go_sem, z0, z1, zz]) (fun _ => ⟨⟨_, hS1⟩, rfl⟩) ?_ True.intro
      refine plan_put ?_ (by simp only [Act.put]; rfl)
      refine plan_skip (w' := ((((W9.drew.setCell ⟨w.heap.size, 0, none⟩ (.slice PU x.rels.length cU)).setCell ⟨w.heap.size, 1, none⟩ (.slice QU x.facts.length dU)).setCell ⟨w.heap.size + 1, 0, none⟩ (.slice P x.rels.length c)).setCell ⟨w.heap.size + 1, 1, none⟩ (.slice Q x.facts.length d))) _ rfl rfl rfl (by simp [go_sem, u0, u1, uz]) (fun e => by cases e) ?_ True.intro
      refine plan_put ?_ (by simp only [Act.put]; rfl)
      refine plan_done ?_
      go_wp2
      refine bodyPost_ret (v := .tuple #[.agg #[.slice PU x.rels.length cU, .slice QU x.facts.length dU], .agg #[.slice P x.rels.length c, .slice Q x.facts.length d]]) (by simp [results, Try.results15, go_sem, z0, z1, u0, u1]) rfl HF.out
    | true =>
      obtain ⟨q9, of9, rfl, hO9⟩ := HO8.out.dropF (by omega)
      have hd1 : decide ((1 : Int) ≤ (x.facts.length : Int)) = true := decide_eq_true (by omega)
      have hdl : (x.facts.drop 1).length = x.facts.length - 1 := List.length_drop ..
      obtain ⟨A9, hA9⟩ : ∃ A, A = (if dU = 1 then some (⟨q9, of9, none⟩ : Addr) else some ⟨q9, of9 + 2, none⟩) := ⟨_, rfl⟩
      rw [← hA9, ← hdl] at hO9
      obtain ⟨W9, hW9⟩ : ∃ W, W = w8.setCell ⟨y2, 1, none⟩ (.slice A9 (x.facts.drop 1).length (dU - 1)) := ⟨_, rfl⟩
      have hy28 : y2 < w8.heap.size := by omega
      have hc9 : Chg (fun k => k = y2) w8 W9 := by rw [hW9]; exact (Chg.refl (fun k => k = y2) _).setCell (p := ⟨y2, 1, none⟩) rfl _
      have hz9 : W9.heap.size = w8.heap.size := by rw [hW9]; simp [World.setCell]
      go_upto_region 6 with fail
      rw [← hA9, ← hdl, ← hW9]
      have y0 := (hc9.cell (b := y) (o := 0) (by omega) (by omega)).trans y0
      have y1 := (hc9.cell (b := y) (o := 1) (by omega) (by omega)).trans y1
      have v0 : W9.cell? ⟨y2, 0, none⟩ = some (.slice PU x.rels.length cU) := by rw [hW9]; simp [go_sem, v0]
      have v1 : W9.cell? ⟨y2, 1, none⟩ = some (.slice A9 (x.facts.drop 1).length (dU - 1)) := by rw [hW9]; simp [go_sem, v1]
      have z0 := (hc9.cell (b := w.heap.size) (o := 0) (by omega) (by omega)).trans z0
      have z1 := (hc9.cell (b := w.heap.size) (o := 1) (by omega) (by omega)).trans z1
      have zz := fun o => (hc9.frozen (b := w.heap.size) (o := o) (by omega) (by omega)).trans (zz o)
      have u0 := (hc9.cell (b := w.heap.size + 1) (o := 0) (by omega) (by omega)).trans u0
      have u1 := (hc9.cell (b := w.heap.size + 1) (o := 1) (by omega) (by omega)).trans u1
      have uz := fun o => (hc9.frozen (b := w.heap.size + 1) (o := o) (by omega) (by omega)).trans (uz o)
      have HL9 := Lib.hid ((HL8.out.keep (w' := W9) (fun b o h1 h2 => hc9.cell (by omega) (by omega))).more (B' := W9.heap.size) (by omega))
      have HZ9 := Lib.hid ((hO9.keep (w' := W9) (fun b o h1 h2 => hc9.cell (by omega) (by omega))).more (B' := W9.heap.size) (by omega))
      have HB9 := Lib.hid (HB8.out.trans (hc9.below (fun k h => by omega) (by have := HB8.out.size; omega)))
      clear hW9 hc9 hA9 hd1 h0 hd0
      have hS : Holds [(⟨y, 0, none⟩, .slice P x.rels.length c), (⟨y, 1, none⟩, .slice Q x.facts.length d), (⟨y2, 0, none⟩, .slice PU x.rels.length cU), (⟨y2, 1, none⟩, .slice A9 (x.facts.drop 1).length (dU - 1))] W9.drew := by
        intro q hq
        simp only [List.mem_cons, List.not_mem_nil, or_false] at hq
        rcases hq with rfl | rfl | rfl | rfl
        · exact y0
        · exact y1
        · exact v0
        · exact v1
      have hS1 : Holds [(⟨y, 0, none⟩, .slice P x.rels.length c), (⟨y, 1, none⟩, .slice Q x.facts.length d), (⟨y2, 0, none⟩, .slice PU x.rels.length cU), (⟨y2, 1, none⟩, .slice A9 (x.facts.drop 1).length (dU - 1))] ((W9.drew.setCell ⟨w.heap.size, 0, none⟩ (.slice PU x.rels.length cU)).setCell ⟨w.heap.size, 1, none⟩ (.slice A9 (x.facts.drop 1).length (dU - 1))) := by
        intro q hq
        have hk := hS q hq
        have hch1 : Chg (fun k => k = w.heap.size) W9.drew ((W9.drew.setCell ⟨w.heap.size, 0, none⟩ (.slice PU x.rels.length cU)).setCell ⟨w.heap.size, 1, none⟩ (.slice A9 (x.facts.drop 1).length (dU - 1))) := ((Chg.refl (fun k => k = w.heap.size) _).setCell (p := ⟨w.heap.size, 0, none⟩) rfl _).setCell (p := ⟨w.heap.size, 1, none⟩) rfl _
        simp only [List.mem_cons, List.not_mem_nil, or_false] at hq
        rcases hq with rfl | rfl | rfl | rfl <;> exact (hch1.cell (by first | (show y < W9.heap.size; omega) | (show y2 < W9.heap.size; omega)) (by omega)).trans hk
      have g0 := Keep.cell (h0 := hS) (a := ⟨y, 0, none⟩) (v := .slice P x.rels.length c) (by simp)
      have g1 := Keep.cell (h0 := hS) (a := ⟨y, 1, none⟩) (v := .slice Q x.facts.length d) (by simp)
      have g2 := Keep.cell (h0 := hS) (a := ⟨y2, 0, none⟩) (v := .slice PU x.rels.length cU) (by simp)
      have g3 := Keep.cell (h0 := hS) (a := ⟨y2, 1, none⟩) (v := .slice A9 (x.facts.drop 1).length (dU - 1)) (by simp)
      have hst : Chg (Mid w.heap.size (w.heap.size + 2)) W9.drew ((((W9.drew.setCell ⟨w.heap.size, 0, none⟩ (.slice PU x.rels.length cU)).setCell ⟨w.heap.size, 1, none⟩ (.slice A9 (x.facts.drop 1).length (dU - 1))).setCell ⟨w.heap.size + 1, 0, none⟩ (.slice P x.rels.length c)).setCell ⟨w.heap.size + 1, 1, none⟩ (.slice Q x.facts.length d)) := ((((Chg.refl (Mid w.heap.size (w.heap.size + 2)) W9.drew).setCell (p := ⟨w.heap.size, 0, none⟩) ⟨Nat.le_refl _, by show w.heap.size < w.heap.size + 2; omega⟩ _).setCell (p := ⟨w.heap.size, 1, none⟩) ⟨Nat.le_refl _, by show w.heap.size < w.heap.size + 2; omega⟩ _).setCell (p := ⟨w.heap.size + 1, 0, none⟩) ⟨Nat.le_succ _, by show w.heap.size + 1 < w.heap.size + 2; omega⟩ _).setCell (p := ⟨w.heap.size + 1, 1, none⟩) ⟨Nat.le_succ _, by show w.heap.size + 1 < w.heap.size + 2; omega⟩ _
      have HF : Hid (GivesInst2 w (.returned (.tuple #[.agg #[.slice PU x.rels.length cU, .slice A9 (x.facts.drop 1).length (dU - 1)], .agg #[.slice P x.rels.length c, .slice Q x.facts.length d]])) ((((W9.drew.setCell ⟨w.heap.size, 0, none⟩ (.slice PU x.rels.length cU)).setCell ⟨w.heap.size, 1, none⟩ (.slice A9 (x.facts.drop 1).length (dU - 1))).setCell ⟨w.heap.size + 1, 0, none⟩ (.slice P x.rels.length c)).setCell ⟨w.heap.size + 1, 1, none⟩ (.slice Q x.facts.length d))) := Lib.hid (by
        have hdr : Below W9.heap.size W9 W9.drew := (Below.refl _ _).drew
        exact ⟨_, ⟨x.rels, x.facts.drop 1⟩, _, x, rfl, ((HZ9.out.later hdr).chg hst (fun k h => by have := h.2; omega)).less (by omega), HS.out.dropF, ((HL9.out.later hdr).chg hst (fun k h => by have := h.2; omega)).less (by omega), HS.out, (HB9.out.trans (hdr.mono HB9.out.size)).trans (hst.below (fun k h => h.1) (by have := HB9.out.size; show w.heap.size ≤ W9.heap.size; exact this))⟩)
      clear y0 y1 v0 v1 hst HL9 HZ9 HB9
      refine wp_region_planL (C := fun w' => ∃ u : Keep _ W9.drew hS, w' = u.now) (.still 0 (.still 1 (.move true 2 (.move false 3 .done .none) .none))) (by kernel_rfl) (by kernel_rfl) (by kernel_rfl) (fun _ => ⟨⟨W9.drew, hS⟩, rfl⟩) ?_
      iterate 2
        refine plan_look _ rfl rfl ?_
        go_big_quiet_step (fail)
        refine wpQuiet_nil ?_
      refine plan_skip (w' := ((W9.drew.setCell ⟨w.heap.size, 0, none⟩ (.slice PU x.rels.length cU)).setCell ⟨w.heap.size, 1, none⟩ (.slice A9 (x.facts.drop 1).length (dU - 1)))) _ rfl rfl rfl (by simp [go_sem, z0, z1, zz]) (fun _ => ⟨⟨_, hS1⟩, rfl⟩) ?_ True.intro
      refine plan_put ?_ (by simp only [Act.put]; rfl)
      refine plan_skip (w' := ((((W9.drew.setCell ⟨w.heap.size, 0, none⟩ (.slice PU x.rels.length cU)).setCell ⟨w.heap.size, 1, none⟩ (.slice A9 (x.facts.drop 1).length (dU - 1))).setCell ⟨w.heap.size + 1, 0, none⟩ (.slice P x.rels.length c)).setCell ⟨w.heap.size + 1, 1, none⟩ (.slice Q x.facts.length d))) _ rfl rfl rfl (by simp [go_sem, u0, u1, uz]) (fun e => by cases e) ?_ True.intro
      refine plan_put ?_ (by simp only [Act.put]; rfl)
      refine plan_done ?_
      go_wp2
      refine bodyPost_ret (v := .tuple #[.agg #[.slice PU x.rels.length cU, .slice A9 (x.facts.drop 1).length (dU - 1)], .agg #[.slice P x.rels.length c, .slice Q x.facts.length d]]) (by simp [results, Try.results15, go_sem, z0, z1, u0, u1]) rfl HF.out

end Go.Proofs.Ytobdijcnfmgidaa
