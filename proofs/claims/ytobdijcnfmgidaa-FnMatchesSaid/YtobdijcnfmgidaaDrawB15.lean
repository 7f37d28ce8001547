/-
  Walks and plain lemmas for the laws of this seat: what single Go functions return, for every argument.
-/
import Derived.Test.YtobdijcnfmgidaaDrawB11
namespace Go.Proofs.Ytobdijcnfmgidaa
open Go.RowKit

def GivesMatch (w : World) (e : Ending) (w' : World) : Prop :=
  ∃ V x U l, e = .returned (.tuple #[V, U]) ∧ Instance_lo w.heap.size w' w'.heap.size V x ∧ InstSmall 9 x ∧ AtomS_at w' w'.heap.size U l ∧ (1 ≤ l.length ∧ l.length ≤ 2) ∧ (∀ a ∈ l, AtmSmall a) ∧ Below w.heap.size w w'
set_option maxHeartbeats 12800000 in
set_option maxRecDepth 100000 in
theorem drawFind_c (cv : Value) (code : List UInt8) (w : World) (hc : CodeAt w w.heap.size cv code) (hlen : code.length ≤ 1048576) :
    Calls Try.prog 18 #[cv] w (GivesMatch w) := by
  obtain ⟨E, hEq⟩ : ∃ E, E = w.alloc (.cells #[.slice none 0 0, .slice none 0 0] 27) := ⟨_, rfl⟩
  have hEz : E.heap.size = w.heap.size + 1 := by rw [hEq]; simp
  have hBE : Below w.heap.size w E := by rw [hEq]; exact (Below.refl _ _).alloc (Nat.le_refl _) _
  obtain ⟨b, hb⟩ : ∃ b, b = w.heap.size := ⟨_, rfl⟩
  have r0 : E.cell? ⟨b, 0, none⟩ = some (.slice none 0 0) := by rw [hEq, hb]; simp [go_sem]
  have r1 : E.cell? ⟨b, 1, none⟩ = some (.slice none 0 0) := by rw [hEq, hb]; simp [go_sem]
  have rz : ∀ o, E.frozen? ⟨b, o, none⟩ = false := fun o => by rw [hEq, hb]; simp [go_sem]
  have hcE := hc.later hBE
  have HBq := Lib.hid hb
  clear hb
  go_enter Try.func18, Try.ntmps18
  go_wp2_with fail
  rw [← hEq]
  clear hEq
  refine (l11Both_c cv code E hcE hlen).mono ?_
  rintro e w2 ⟨V, x, X, d, rfl, hI, hIs, hX, hXs, ⟨st2, hC2⟩, hb2⟩
  rw [← HBq.out]
  rw [← HBq.out] at hEz
  obtain ⟨P, c, Q, d1, rfl⟩ := Instance_form hI.at_
  obtain ⟨Y1, u1, Y2, u2, hv1, hv2⟩ := hX.two
  unfold DVal9
  rw [hv1, hv2]
  have hz2 := hb2.size
  have r0 := (hb2.cell (p := ⟨b, 0, none⟩) (by show b < _; omega)).trans r0
  have r1 := (hb2.cell (p := ⟨b, 1, none⟩) (by show b < _; omega)).trans r1
  have rz := fun o => (hb2.frozen (p := ⟨b, o, none⟩) (by show b < _; omega)).trans (rz o)
  have HB2 := Lib.hid (hBE.trans (hb2.mono (by have := HBq.out; omega)))
  rw [← HBq.out] at HB2
  have HI2 := Lib.hid (hI.less (show b + 1 ≤ E.heap.size + 3 by omega))
  have HA2 := Lib.hid ((hX.1.mono (show b + 1 ≤ E.heap.size + 3 by omega) (Nat.le_refl _)))
  rw [hv1] at HA2
  obtain ⟨g, hg⟩ : ∃ g, g = w2.heap.size := ⟨_, rfl⟩
  have hbg : b < g := by omega
  obtain ⟨W3, hW3⟩ : ∃ W, W = (w2.alloc (.cells #[.slice P x.rels.length c, .slice Q x.facts.length d1] 27)).alloc (.cells #[.slice Y1 d.body.length u1, .slice Y2 d.head.length u2, .bool d.egd, .int .i64 d.left, .int .i64 d.right] 82) := ⟨_, rfl⟩
  have hAl : Below g w2 W3 := by rw [hW3, hg]; exact ((Below.refl _ _).alloc (Nat.le_refl _) _).alloc (by simp) _
  have hz3 : W3.heap.size = g + 2 := by rw [hW3, hg]; simp
  have y0 : W3.cell? ⟨g, 0, none⟩ = some (.slice P x.rels.length c) := by rw [hW3, hg]; simp [go_sem]
  have y1 : W3.cell? ⟨g, 1, none⟩ = some (.slice Q x.facts.length d1) := by rw [hW3, hg]; simp [go_sem]
  have q0 : W3.cell? ⟨g + 1, 0, none⟩ = some (.slice Y1 d.body.length u1) := by rw [hW3, hg]; simp [go_sem]
  have r0 := (hAl.cell (p := ⟨b, 0, none⟩) (by show b < _; omega)).trans r0
  have r1 := (hAl.cell (p := ⟨b, 1, none⟩) (by show b < _; omega)).trans r1
  have rz := fun o => (hAl.frozen (p := ⟨b, o, none⟩) (by show b < _; omega)).trans (rz o)
  have hAl2 : Below w2.heap.size w2 W3 := hg ▸ hAl
  have HI3 := Lib.hid (HI2.out.later hAl2)
  have HA3 := Lib.hid ((HA2.out.below hAl2 (Nat.le_refl _)).mono (Nat.le_refl _) hAl2.size)
  have HB3 := Lib.hid (HB2.out.trans (hAl.mono (by omega)))
  have HIS := Lib.hid hIs
  have HXS := Lib.hid hXs
  clear hEz
  go_upto_region 2 with fail
  rw [← hW3, ← hg]
  clear hW3 hg hAl hAl2 HI2 HA2 HB2 hI hX hIs hXs hv1 hv2 hz2 hb2 hC2 hcE hBE
  have hS : Holds [(⟨g, 0, none⟩, .slice P x.rels.length c), (⟨g, 1, none⟩, .slice Q x.facts.length d1), (⟨g + 1, 0, none⟩, .slice Y1 d.body.length u1)] W3.drew := by
    intro t ht
    simp only [List.mem_cons, List.not_mem_nil, or_false] at ht
    rcases ht with rfl | rfl | rfl
    · exact y0
    · exact y1
    · exact q0
  have hS1 : Holds [(⟨g, 0, none⟩, .slice P x.rels.length c), (⟨g, 1, none⟩, .slice Q x.facts.length d1), (⟨g + 1, 0, none⟩, .slice Y1 d.body.length u1)] ((W3.drew.setCell ⟨b, 0, none⟩ (.slice P x.rels.length c)).setCell ⟨b, 1, none⟩ (.slice Q x.facts.length d1)) := by
    intro t ht
    have hk := hS t ht
    have hch1 : Chg (fun k => k = b) W3.drew ((W3.drew.setCell ⟨b, 0, none⟩ (.slice P x.rels.length c)).setCell ⟨b, 1, none⟩ (.slice Q x.facts.length d1)) := ((Chg.refl (fun k => k = b) _).setCell (p := ⟨b, 0, none⟩) rfl _).setCell (p := ⟨b, 1, none⟩) rfl _
    simp only [List.mem_cons, List.not_mem_nil, or_false] at ht
    rcases ht with rfl | rfl | rfl <;> exact (hch1.cell (by first | (show g < W3.heap.size; omega) | (show g + 1 < W3.heap.size; omega)) (by omega)).trans hk
  have g0 := Keep.cell (h0 := hS) (a := ⟨g, 0, none⟩) (v := .slice P x.rels.length c) (by simp)
  have g1 := Keep.cell (h0 := hS) (a := ⟨g, 1, none⟩) (v := .slice Q x.facts.length d1) (by simp)
  have g2 := Keep.cell (h0 := hS) (a := ⟨g + 1, 0, none⟩) (v := .slice Y1 d.body.length u1) (by simp)
  have hch : Chg (Mid b (b + 1)) W3.drew ((W3.drew.setCell ⟨b, 0, none⟩ (.slice P x.rels.length c)).setCell ⟨b, 1, none⟩ (.slice Q x.facts.length d1)) := ((Chg.refl (Mid b (b + 1)) W3.drew).setCell (p := ⟨b, 0, none⟩) ⟨Nat.le_refl _, Nat.lt_succ_self _⟩ _).setCell (p := ⟨b, 1, none⟩) ⟨Nat.le_refl _, Nat.lt_succ_self _⟩ _
  have HF : Hid (GivesMatch w (.returned (.tuple #[.agg #[.slice P x.rels.length c, .slice Q x.facts.length d1], .slice Y1 d.body.length u1])) ((W3.drew.setCell ⟨b, 0, none⟩ (.slice P x.rels.length c)).setCell ⟨b, 1, none⟩ (.slice Q x.facts.length d1))) := Lib.hid (by
    have hq := HBq.out
    have hd := HB3.out.trans (Below.refl _ _).drew
    exact ⟨_, x, _, d.body, rfl, ((HI3.out.later (Below.refl _ _).drew).chg hch (fun k h => by have := h.2; omega)).less (by omega), HIS.out, ((HA3.out.below (Below.refl _ _).drew (Nat.le_refl _)).chg hch (.inr (Nat.le_refl _))).at_ hch.size, ⟨HXS.out.1.1, HXS.out.1.2.1⟩, HXS.out.1.2.2, hq ▸ hd.trans (hch.below (fun k h => h.1) (by have := hd.size; show b ≤ W3.drew.heap.size; show b ≤ W3.heap.size; omega))⟩)
  clear y0 y1 q0 hch HI3 HA3 HB3
  refine wp_region_planL (C := fun w' => ∃ u : Keep _ W3.drew hS, w' = u.now) (.still 0 (.still 1 (.still 2 (.move true 3 (.still 4 .done) .none)))) (by kernel_rfl) (by kernel_rfl) (by kernel_rfl) (fun _ => ⟨⟨_, hS⟩, rfl⟩) ?_
  iterate 3
    refine plan_look _ rfl rfl ?_
    go_big_quiet_step (fail)
    refine wpQuiet_nil ?_
  refine plan_skip (w' := (W3.drew.setCell ⟨b, 0, none⟩ (.slice P x.rels.length c)).setCell ⟨b, 1, none⟩ (.slice Q x.facts.length d1)) _ rfl rfl rfl (by simp [go_sem, r0, r1, rz]) (fun _ => ⟨⟨_, hS1⟩, rfl⟩) ?_ True.intro
  refine plan_put ?_ (by simp only [Act.put]; rfl)
  refine plan_look _ rfl rfl ?_
  go_big_quiet_step (fail)
  refine wpQuiet_nil ?_
  refine plan_done ?_
  go_wp2
  refine bodyPost_ret (v := .tuple #[.agg #[.slice P x.rels.length c, .slice Q x.facts.length d1], .slice Y1 d.body.length u1]) (by simp [results, Try.results18, go_sem, r0, r1]) rfl HF.out

end Go.Proofs.Ytobdijcnfmgidaa
