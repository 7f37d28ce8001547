/- Walks and plain lemmas for the laws of this seat. -/
import Derived.Deep.Quiet
import Derived.Test.YtobdijcnfmgidaaGreatDraw
import Derived.Test.YtobdijcnfmgidaaGreatPlan
import Derived.Test.YtobdijcnfmgidaaGreatAft
import Derived.Test.YtobdijcnfmgidaaGreatDrawI
import Derived.Test.YtobdijcnfmgidaaGreatDrawV9
import Derived.Test.YtobdijcnfmgidaaGreatInstR
namespace Go.Proofs.YtobdijcnfmgidaaGreat
open Go.RowKit
def GivesFV (w : World) (e : Ending) (w' : World) : Prop :=
 ∃ V x U xs,e = .returned (.tuple #[V,U]) ∧ Instance_lo w.heap.size w' w'.heap.size V x ∧ InstSmall 9 x ∧ DependencyS_at w' w'.heap.size U xs ∧ xs.length ≤ 5 ∧ (∀ y ∈ xs,DepSmall 3 y) ∧ Below w.heap.size w w'
def GivesSol (w : World) (e : Ending) (w' : World) : Prop :=
 ∃ S s V x U xs,e = .returned (.tuple #[S,V,U]) ∧ Instance_lo w.heap.size w' w'.heap.size S s ∧ InstSmall 9 s ∧ Instance_lo w.heap.size w' w'.heap.size V x ∧ InstSmall 9 x ∧ DependencyS_at w' w'.heap.size U xs ∧ xs.length ≤ 5 ∧ (∀ y ∈ xs,DepSmall 3 y) ∧ Below w.heap.size w w'
set_option maxHeartbeats 6400000 in
set_option maxRecDepth 100000 in
theorem drawFV_c (cv : Value) (code : List UInt8) (w : World) (hc : CodeAt w w.heap.size cv code) (hlen : code.length ≤ 1048576) :
 Calls Tryz.prog 8 #[cv] w (GivesFV w) := by
 obtain ⟨E,hEq⟩ : ∃ E,E = w.alloc (.cells #[.slice none 0 0,.slice none 0 0] 27) := ⟨_,rfl⟩
 have hEz : E.heap.size = w.heap.size + 1 := by rw [hEq]; simp
 have hBE : Below w.heap.size w E := by rw [hEq]; exact (Below.refl _ _).alloc (Nat.le_refl _) _
 obtain ⟨b,hb⟩ : ∃ b,b = w.heap.size := ⟨_,rfl⟩
 have r0 : E.cell? ⟨b,0,none⟩ = some (.slice none 0 0) := by rw [hEq,hb]; simp [go_sem]
 have r1 : E.cell? ⟨b,1,none⟩ = some (.slice none 0 0) := by rw [hEq,hb]; simp [go_sem]
 have rz : ∀ o,E.frozen? ⟨b,o,none⟩ = false := fun o => by rw [hEq,hb]; simp [go_sem]
 have hcE := hc.later hBE
 have HBq := Lib.hid hb
 clear hb
 go_enter Tryz.func8,Tryz.ntmps8
 go_wp2_with fail
 rw [← hEq]
 clear hEq
 refine (l12Draw_c cv code E hcE hlen).mono ?_
 rintro e w2 ⟨V,x,U,Xs,xs,rfl,hI,hIs,hX,hl,hXs,-,hb2⟩
 rw [← HBq.out]
 rw [← HBq.out] at hEz
 obtain ⟨P,c,Q,d1,rfl⟩ := Instance_form hI.at_
 obtain ⟨R,rc,rfl,-,-⟩ := (hX.at_ (Nat.le_refl _)).form
 have hz2 := hb2.size
 have r0 := (hb2.cell (p := ⟨b,0,none⟩) (by show b < _; omega)).trans r0
 have r1 := (hb2.cell (p := ⟨b,1,none⟩) (by show b < _; omega)).trans r1
 have rz := fun o => (hb2.frozen (p := ⟨b,o,none⟩) (by show b < _; omega)).trans (rz o)
 obtain ⟨g,hg⟩ : ∃ g,g = w2.heap.size := ⟨_,rfl⟩
 have hbg : b < g := by omega
 obtain ⟨W3,hW3⟩ : ∃ W,W = w2.alloc (.cells #[.slice P x.rels.length c,.slice Q x.facts.length d1] 27) := ⟨_,rfl⟩
 have hAl : Below w2.heap.size w2 W3 := by rw [hW3]; exact (Below.refl _ _).alloc (Nat.le_refl _) _
 have hz3 : W3.heap.size = g + 1 := by rw [hW3,hg]; simp
 have y0 : W3.cell? ⟨g,0,none⟩ = some (.slice P x.rels.length c) := by rw [hW3,hg]; simp [go_sem]
 have y1 : W3.cell? ⟨g,1,none⟩ = some (.slice Q x.facts.length d1) := by rw [hW3,hg]; simp [go_sem]
 have r0 := (hAl.cell (p := ⟨b,0,none⟩) (by show b < _; omega)).trans r0
 have r1 := (hAl.cell (p := ⟨b,1,none⟩) (by show b < _; omega)).trans r1
 have rz := fun o => (hAl.frozen (p := ⟨b,o,none⟩) (by show b < _; omega)).trans (rz o)
 have HI := Lib.hid ((hI.later hAl).less (show b + 1 ≤ E.heap.size + 2 by omega))
 have HX := Lib.hid (((hX.below hAl (Nat.le_refl _)).mono (show b + 1 ≤ E.heap.size + 2 by omega) hAl.size))
 have HB := Lib.hid ((hBE.trans (hb2.mono (by have := HBq.out; omega))).trans (hAl.mono (by have := HBq.out; omega)))
 have hch : Chg (Mid b (b + 1)) W3 ((W3.setCell ⟨b,0,none⟩ (.slice P x.rels.length c)).setCell ⟨b,1,none⟩ (.slice Q x.facts.length d1)) := ((Chg.refl (Mid b (b + 1)) W3).setCell (p := ⟨b,0,none⟩) ⟨Nat.le_refl _,Nat.lt_succ_self _⟩ _).setCell (p := ⟨b,1,none⟩) ⟨Nat.le_refl _,Nat.lt_succ_self _⟩ _
 have HF : Hid (GivesFV w (.returned (.tuple #[.agg #[.slice P x.rels.length c,.slice Q x.facts.length d1],.slice R xs.length rc])) ((W3.setCell ⟨b,0,none⟩ (.slice P x.rels.length c)).setCell ⟨b,1,none⟩ (.slice Q x.facts.length d1))) := Lib.hid (by
  have hq := HBq.out
  exact ⟨_,x,_,xs,rfl,(HI.out.chg hch (fun k h => by have := h.2; omega)).less (by omega),hIs,(HX.out.chg hch (.inr (Nat.le_refl _))).at_ hch.size,hl,hXs,HB.out.trans (hch.below (fun k h => by have := h.1; omega) HB.out.size)⟩)
 go_upto_region 2 with fail
 rw [← hW3,← hg]
 clear hW3 hg hAl hI hX hIs hXs hb2 hBE hch hEz hcE HI HX HB
 go_wp2
 refine bodyPost_ret (v := .tuple #[.agg #[.slice P x.rels.length c,.slice Q x.facts.length d1],.slice R xs.length rc]) (by simp [results,Tryz.results8,go_sem,r0,r1]) rfl HF.out
set_option maxHeartbeats 12800000 in
set_option maxRecDepth 100000 in
theorem drawSol_c (cv : Value) (code : List UInt8) (w : World) (hc : CodeAt w w.heap.size cv code) (hlen : code.length ≤ 1048576) :
 Calls Tryz.prog 17 #[cv] w (GivesSol w) := by
 obtain ⟨E,hEq⟩ : ∃ E,E = (w.alloc (.cells #[.slice none 0 0,.slice none 0 0] 27)).alloc (.cells #[.slice none 0 0,.slice none 0 0] 27) := ⟨_,rfl⟩
 have hEz : E.heap.size = w.heap.size + 2 := by rw [hEq]; simp
 have hBE : Below w.heap.size w E := by rw [hEq]; exact ((Below.refl _ _).alloc (Nat.le_refl _) _).alloc (by simp) _
 obtain ⟨b,hb⟩ : ∃ b,b = w.heap.size := ⟨_,rfl⟩
 have r0 : E.cell? ⟨b,0,none⟩ = some (.slice none 0 0) := by rw [hEq,hb]; simp [go_sem]
 have r1 : E.cell? ⟨b,1,none⟩ = some (.slice none 0 0) := by rw [hEq,hb]; simp [go_sem]
 have rz : ∀ o,E.frozen? ⟨b,o,none⟩ = false := fun o => by rw [hEq,hb]; simp [go_sem]
 have z0 : E.cell? ⟨b + 1,0,none⟩ = some (.slice none 0 0) := by rw [hEq,hb]; simp [go_sem]
 have z1 : E.cell? ⟨b + 1,1,none⟩ = some (.slice none 0 0) := by rw [hEq,hb]; simp [go_sem]
 have zz : ∀ o,E.frozen? ⟨b + 1,o,none⟩ = false := fun o => by rw [hEq,hb]; simp [go_sem]
 have hcE := hc.later hBE
 have HBq := Lib.hid hb
 clear hb
 go_enter Tryz.func17,Tryz.ntmps17
 go_wp2_with fail
 rw [← hEq]
 clear hEq
 refine (l12Draw_c cv code E hcE hlen).mono ?_
 rintro e w2 ⟨V,x,U,Xs,xs,rfl,hI,hIs,hX,hl,hXs,⟨st2,hC2⟩,hb2⟩
 rw [← HBq.out]
 rw [← HBq.out] at hEz
 obtain ⟨p,hp⟩ : ∃ p,p = E.heap.size + 1 := ⟨_,rfl⟩
 rw [← hp] at hC2 ⊢
 obtain ⟨P,c,Q,d1,rfl⟩ := Instance_form hI.at_
 obtain ⟨R,rc,rfl,-,-⟩ := (hX.at_ (Nat.le_refl _)).form
 have hz2 := hb2.size
 have hp2 := Cur.lt hC2
 have r0 := (hb2.cell (p := ⟨b,0,none⟩) (by show b < _; omega)).trans r0
 have r1 := (hb2.cell (p := ⟨b,1,none⟩) (by show b < _; omega)).trans r1
 have rz := fun o => (hb2.frozen (p := ⟨b,o,none⟩) (by show b < _; omega)).trans (rz o)
 have z0 := (hb2.cell (p := ⟨b + 1,0,none⟩) (by show b + 1 < _; omega)).trans z0
 have z1 := (hb2.cell (p := ⟨b + 1,1,none⟩) (by show b + 1 < _; omega)).trans z1
 have zz := fun o => (hb2.frozen (p := ⟨b + 1,o,none⟩) (by show b + 1 < _; omega)).trans (zz o)
 obtain ⟨g,hg⟩ : ∃ g,g = w2.heap.size := ⟨_,rfl⟩
 have hpg : p < g := by omega
 have hbp : b + 1 < p := by omega
 obtain ⟨W3,hW3⟩ : ∃ W,W = w2.alloc (.cells #[.slice P x.rels.length c,.slice Q x.facts.length d1] 27) := ⟨_,rfl⟩
 have hAl : Below w2.heap.size w2 W3 := by rw [hW3]; exact (Below.refl _ _).alloc (Nat.le_refl _) _
 have hz3 : W3.heap.size = g + 1 := by rw [hW3,hg]; simp
 have y0 : W3.cell? ⟨g,0,none⟩ = some (.slice P x.rels.length c) := by rw [hW3,hg]; simp [go_sem]
 have y1 : W3.cell? ⟨g,1,none⟩ = some (.slice Q x.facts.length d1) := by rw [hW3,hg]; simp [go_sem]
 have hC3 : CurS W3 p cv code st2 := by rw [hW3]; exact Cur.alloc hC2 _
 have r0 := (hAl.cell (p := ⟨b,0,none⟩) (by show b < _; omega)).trans r0
 have r1 := (hAl.cell (p := ⟨b,1,none⟩) (by show b < _; omega)).trans r1
 have rz := fun o => (hAl.frozen (p := ⟨b,o,none⟩) (by show b < _; omega)).trans (rz o)
 have z0 := (hAl.cell (p := ⟨b + 1,0,none⟩) (by show b + 1 < _; omega)).trans z0
 have z1 := (hAl.cell (p := ⟨b + 1,1,none⟩) (by show b + 1 < _; omega)).trans z1
 have zz := fun o => (hAl.frozen (p := ⟨b + 1,o,none⟩) (by show b + 1 < _; omega)).trans (zz o)
 have HI3 := Lib.hid ((hI.below hAl (Nat.le_refl _)).less (show p + 1 ≤ E.heap.size + 2 by omega))
 have HX3 := Lib.hid ((hX.below hAl (Nat.le_refl _)).mono (show p + 1 ≤ E.heap.size + 2 by omega) (Nat.le_refl _))
 have HB3 := Lib.hid ((hBE.trans (hb2.mono (by have := HBq.out; omega))).trans (hAl.mono (by have := HBq.out; omega)))
 have HIS := Lib.hid hIs
 have HXS := Lib.hid (And.intro hl hXs)
 have hrs := specRestrict_any (.agg #[.slice P x.rels.length c,.slice Q x.facts.length d1]) x true W3 (hI.later hAl).at_ hIs.wf (by have := hIs.sz (by decide); omega)
 have hcW3 := Lib.hid (hc.later HB3.out)
 clear hEz hp
 go_upto_region 2 with fail
 rw [← hW3,← hg]
 rw [← hg] at HI3 HX3
 have hwb : w.heap.size = b := HBq.out.symm
 clear hW3 hg hAl hI hX hIs hXs hl hb2 hBE hcE hC2 hp2 hz2
 go_wp2_with fail
 refine hrs.mono ?_
 rintro e w4 ⟨S,rfl,hO,hb4⟩
 obtain ⟨PS,cS,QS,dS,rfl⟩ := Instance_form (hO.at_ (Nat.le_refl _))
 have hz4 := hb4.size
 obtain ⟨h,hh⟩ : ∃ h,h = w4.heap.size := ⟨_,rfl⟩
 have hgh : g < h := by omega
 obtain ⟨W5,hW5⟩ : ∃ W,W = w4.alloc (.cells #[.slice PS (restrictI x true).rels.length cS,.slice QS (restrictI x true).facts.length dS] 27) := ⟨_,rfl⟩
 have hAl5 : Below w4.heap.size w4 W5 := by rw [hW5]; exact (Below.refl _ _).alloc (Nat.le_refl _) _
 have hz5 : W5.heap.size = h + 1 := by rw [hW5,hh]; simp
 have hB35 := hb4.trans (hAl5.mono hb4.size)
 have v0 : W5.cell? ⟨h,0,none⟩ = some (.slice PS (restrictI x true).rels.length cS) := by rw [hW5,hh]; simp [go_sem]
 have v1 : W5.cell? ⟨h,1,none⟩ = some (.slice QS (restrictI x true).facts.length dS) := by rw [hW5,hh]; simp [go_sem]
 have vz : ∀ o,W5.frozen? ⟨h,o,none⟩ = false := fun o => by rw [hW5,hh]; simp [go_sem]
 have y0 := (hB35.cell (p := ⟨g,0,none⟩) (by show g < _; omega)).trans y0
 have y1 := (hB35.cell (p := ⟨g,1,none⟩) (by show g < _; omega)).trans y1
 have r0 := (hB35.cell (p := ⟨b,0,none⟩) (by show b < _; omega)).trans r0
 have r1 := (hB35.cell (p := ⟨b,1,none⟩) (by show b < _; omega)).trans r1
 have rz := fun o => (hB35.frozen (p := ⟨b,o,none⟩) (by show b < _; omega)).trans (rz o)
 have z0 := (hB35.cell (p := ⟨b + 1,0,none⟩) (by show b + 1 < _; omega)).trans z0
 have z1 := (hB35.cell (p := ⟨b + 1,1,none⟩) (by show b + 1 < _; omega)).trans z1
 have zz := fun o => (hB35.frozen (p := ⟨b + 1,o,none⟩) (by show b + 1 < _; omega)).trans (zz o)
 have hC5 : CurS W5 p cv code st2 := by rw [hW5]; exact Cur.alloc (Cur.chgC (w := W3) hcW3.out hC3 (Chg.of_below' hb4) (fun k h => h) (Nat.le_refl _) (fun h => by have h1 : W3.heap.size ≤ p := h; omega)) _
 have HI5 := Lib.hid (HI3.out.below hB35 (by omega))
 have HX5 := Lib.hid (HX3.out.below hB35 (by omega))
 have HS5 := Lib.hid ((((Instance_own.lo hO (Nat.le_refl _)).below hAl5 (Nat.le_refl _)).less (show p + 1 ≤ W3.heap.size by omega)))
 have HB5 := Lib.hid (HB3.out.trans (hB35.mono HB3.out.size))
 go_upto_region 3 with fail
 rw [← hW5,← hh]
 rw [← hh] at HS5
 clear hW5 hh hAl5 hO hb4 hB35 hC3 HI3 HX3 HB3 hrs hz4
 go_wp2_with fail
 refine (l1Once_r p cv code _ _ _ hC5).mono ?_
 rintro e w6 ⟨rfl,hC6,hg6⟩
 generalize onceR code st2 5 = bo at *
 obtain ⟨bo,st6⟩ := bo
 dsimp only at *
 have hz6 := hg6.size
 have y0 := grown_cell hg6 y0 (by omega)
 have y1 := grown_cell hg6 y1 (by omega)
 have v0 := grown_cell hg6 v0 (by omega)
 have v1 := grown_cell hg6 v1 (by omega)
 have vz := fun o => grown_frozen hg6 (b := h) (o := o) (by omega) (by omega) (vz o)
 have r0 := grown_cell hg6 r0 (by omega)
 have r1 := grown_cell hg6 r1 (by omega)
 have rz := fun o => grown_frozen hg6 (b := b) (o := o) (by omega) (by omega) (rz o)
 have z0 := grown_cell hg6 z0 (by omega)
 have z1 := grown_cell hg6 z1 (by omega)
 have zz := fun o => grown_frozen hg6 (b := b + 1) (o := o) (by omega) (by omega) (zz o)
 have hc6 := chg_of_grown hg6
 have HI6 := Lib.hid (HI5.out.keep (w' := w6) (fun k o h1 h2 => hc6.cell (by omega) (fun h => by have := h.2; omega)))
 have HX6 := Lib.hid (HX5.out.chg hc6 (.inr (by omega)))
 have HS6 := Lib.hid (HS5.out.keep (w' := w6) (fun k o h1 h2 => hc6.cell (by omega) (fun h => by have := h.2; omega)))
 have HB6 := Lib.hid (HB5.out.grown hg6 (by omega) (fun k hk => by injection hk with hk; omega))
 clear hg6 hc6 HI5 HX5 HS5 HB5 hC5
 cases bo with
 | false =>
   have HS9 := Lib.hid (HS6.out.more (B' := w6.heap.size) (by omega))
   have HI9 := Lib.hid (HI6.out.more (B' := w6.heap.size) (by omega))
   have HX9 := Lib.hid (HX6.out.mono (Nat.le_refl _) (show g ≤ w6.heap.size by omega))
   have HB9 := HB6
   clear HS6 HI6 HX6 HB6 hC6
   go_upto_region 5 with fail
   have hS : Holds [(⟨g,0,none⟩,.slice P x.rels.length c),(⟨g,1,none⟩,.slice Q x.facts.length d1),(⟨h,0,none⟩,.slice PS (restrictI x true).rels.length cS),(⟨h,1,none⟩,.slice QS (restrictI x true).facts.length dS)] w6.drew := by
    intro t ht
    simp only [List.mem_cons,List.not_mem_nil,or_false] at ht
    rcases ht with rfl | rfl | rfl | rfl
    · exact y0
    · exact y1
    · exact v0
    · exact v1
   have hS1 : Holds [(⟨g,0,none⟩,.slice P x.rels.length c),(⟨g,1,none⟩,.slice Q x.facts.length d1),(⟨h,0,none⟩,.slice PS (restrictI x true).rels.length cS),(⟨h,1,none⟩,.slice QS (restrictI x true).facts.length dS)] ((w6.drew.setCell ⟨b,0,none⟩ (.slice PS (restrictI x true).rels.length cS)).setCell ⟨b,1,none⟩ (.slice QS (restrictI x true).facts.length dS)) := by
    intro t ht
    have hk := hS t ht
    have hch1 : Chg (fun k => k = b) w6.drew ((w6.drew.setCell ⟨b,0,none⟩ (.slice PS (restrictI x true).rels.length cS)).setCell ⟨b,1,none⟩ (.slice QS (restrictI x true).facts.length dS)) := ((Chg.refl (fun k => k = b) _).setCell (p := ⟨b,0,none⟩) rfl _).setCell (p := ⟨b,1,none⟩) rfl _
    simp only [List.mem_cons,List.not_mem_nil,or_false] at ht
    rcases ht with rfl | rfl | rfl | rfl <;> exact (hch1.cell (by first | (show g < w6.heap.size; omega) | (show h < w6.heap.size; omega)) (by omega)).trans hk
   have g0 := Keep.cell (h0 := hS) (a := ⟨g,0,none⟩) (v := .slice P x.rels.length c) (by simp)
   have g1 := Keep.cell (h0 := hS) (a := ⟨g,1,none⟩) (v := .slice Q x.facts.length d1) (by simp)
   have g2 := Keep.cell (h0 := hS) (a := ⟨h,0,none⟩) (v := .slice PS (restrictI x true).rels.length cS) (by simp)
   have g3 := Keep.cell (h0 := hS) (a := ⟨h,1,none⟩) (v := .slice QS (restrictI x true).facts.length dS) (by simp)
   have hst : Chg (Mid b (b + 2)) w6.drew ((((w6.drew.setCell ⟨b,0,none⟩ (.slice PS (restrictI x true).rels.length cS)).setCell ⟨b,1,none⟩ (.slice QS (restrictI x true).facts.length dS)).setCell ⟨b + 1,0,none⟩ (.slice P x.rels.length c)).setCell ⟨b + 1,1,none⟩ (.slice Q x.facts.length d1)) := ((((Chg.refl (Mid b (b + 2)) w6.drew).setCell (p := ⟨b,0,none⟩) ⟨Nat.le_refl _,by show b < b + 2; omega⟩ _).setCell (p := ⟨b,1,none⟩) ⟨Nat.le_refl _,by show b < b + 2; omega⟩ _).setCell (p := ⟨b + 1,0,none⟩) ⟨Nat.le_succ _,by show b + 1 < b + 2; omega⟩ _).setCell (p := ⟨b + 1,1,none⟩) ⟨Nat.le_succ _,by show b + 1 < b + 2; omega⟩ _
   have HF : Hid (GivesSol w (.returned (.tuple #[.agg #[.slice PS (restrictI x true).rels.length cS,.slice QS (restrictI x true).facts.length dS],.agg #[.slice P x.rels.length c,.slice Q x.facts.length d1],.slice R xs.length rc])) ((((w6.drew.setCell ⟨b,0,none⟩ (.slice PS (restrictI x true).rels.length cS)).setCell ⟨b,1,none⟩ (.slice QS (restrictI x true).facts.length dS)).setCell ⟨b + 1,0,none⟩ (.slice P x.rels.length c)).setCell ⟨b + 1,1,none⟩ (.slice Q x.facts.length d1))) := Lib.hid (by
    have hq := HBq.out
    have hdr : Below w6.heap.size w6 w6.drew := (Below.refl _ _).drew
    exact ⟨_,(restrictI x true),_,x,_,xs,rfl,((HS9.out.later hdr).chg hst (fun k h => by have := h.2; omega)).less (by omega),(rest_small HIS.out true),((HI9.out.later hdr).chg hst (fun k h => by have := h.2; omega)).less (by omega),HIS.out,((HX9.out.below hdr (Nat.le_refl _)).chg hst (.inr (by omega))).at_ hst.size,HXS.out.1,HXS.out.2,(HB9.out.trans (hdr.mono HB9.out.size)).trans (hst.below (fun k h => by have := h.1; omega) (by have := HB9.out.size; show w.heap.size ≤ w6.heap.size; exact this))⟩)
   clear y0 y1 v0 v1 hst HS9 HI9 HX9 HB9
   refine wp_region_planL (C := fun w' => ∃ u : Keep _ w6.drew hS,w' = u.now) (.still 0 (.still 1 (.still 2 (.move true 3 (.move false 4 (.still 5 .done) .none) .none)))) (by kernel_rfl) (by kernel_rfl) (by kernel_rfl) (fun _ => ⟨⟨_,hS⟩,rfl⟩) ?_
   iterate 3
    refine plan_look _ rfl rfl ?_
    go_big_quiet_step (fail)
    refine wpQuiet_nil ?_
   refine plan_skip (w' := ((w6.drew.setCell ⟨b,0,none⟩ (.slice PS (restrictI x true).rels.length cS)).setCell ⟨b,1,none⟩ (.slice QS (restrictI x true).facts.length dS))) _ rfl rfl rfl (by simp [go_sem,r0,r1,rz]) (fun _ => ⟨⟨_,hS1⟩,rfl⟩) ?_ True.intro
   refine plan_put ?_ (by simp only [Act.put]; rfl)
   refine plan_skip (w' := ((((w6.drew.setCell ⟨b,0,none⟩ (.slice PS (restrictI x true).rels.length cS)).setCell ⟨b,1,none⟩ (.slice QS (restrictI x true).facts.length dS)).setCell ⟨b + 1,0,none⟩ (.slice P x.rels.length c)).setCell ⟨b + 1,1,none⟩ (.slice Q x.facts.length d1))) _ rfl rfl rfl (by simp [go_sem,z0,z1,zz]) (fun e => by cases e) ?_ True.intro
   refine plan_put ?_ (by simp only [Act.put]; rfl)
   refine plan_look _ rfl rfl ?_
   go_big_quiet_step (fail)
   refine wpQuiet_nil ?_
   refine plan_done ?_
   go_wp2
   refine bodyPost_ret (v := .tuple #[.agg #[.slice PS (restrictI x true).rels.length cS,.slice QS (restrictI x true).facts.length dS],.agg #[.slice P x.rels.length c,.slice Q x.facts.length d1],.slice R xs.length rc]) (by simp [results,Tryz.results17,go_sem,r0,r1,z0,z1]) rfl HF.out
 | true =>
   go_wp2_with fail
   refine (l5Source_c p cv code _ 3 (by decide) _ hC6).mono ?_
   rintro e w7 ⟨V',s,rfl,hO7,hs7,-,-,hg7⟩
   obtain ⟨P7,c7,Q7,d7,rfl⟩ := Instance_form (hO7.at_ (Nat.le_refl _))
   have hz7 := hg7.size
   have y0 := grown_cell hg7 y0 (by omega)
   have y1 := grown_cell hg7 y1 (by omega)
   have v0 := grown_cell hg7 v0 (by omega)
   have v1 := grown_cell hg7 v1 (by omega)
   have vz := fun o => grown_frozen hg7 (b := h) (o := o) (by omega) (by omega) (vz o)
   have r0 := grown_cell hg7 r0 (by omega)
   have r1 := grown_cell hg7 r1 (by omega)
   have rz := fun o => grown_frozen hg7 (b := b) (o := o) (by omega) (by omega) (rz o)
   have z0 := grown_cell hg7 z0 (by omega)
   have z1 := grown_cell hg7 z1 (by omega)
   have zz := fun o => grown_frozen hg7 (b := b + 1) (o := o) (by omega) (by omega) (zz o)
   have hc7 := chg_of_grown hg7
   have HI7 := Lib.hid (HI6.out.keep (w' := w7) (fun k o h1 h2 => hc7.cell (by omega) (fun h => by have := h.2; omega)))
   have HX7 := Lib.hid (HX6.out.chg hc7 (.inr (by omega)))
   have HB7 := Lib.hid (HB6.out.grown hg7 (by omega) (fun k hk => by injection hk with hk; omega))
   obtain ⟨W9,hW9⟩ : ∃ W,W = (w7.setCell ⟨h,0,none⟩ (.slice P7 s.rels.length c7)).setCell ⟨h,1,none⟩ (.slice Q7 s.facts.length d7) := ⟨_,rfl⟩
   have hch : Chg (Mid h (h + 1)) w7 W9 := by rw [hW9]; exact ((Chg.refl (Mid h (h + 1)) w7).setCell (p := ⟨h,0,none⟩) ⟨Nat.le_refl _,Nat.lt_succ_self _⟩ _).setCell (p := ⟨h,1,none⟩) ⟨Nat.le_refl _,Nat.lt_succ_self _⟩ _
   have hz9 : W9.heap.size = w7.heap.size := by rw [hW9]; simp [World.setCell]
   have HS9 := Lib.hid (((Instance_own.lo hO7 (Nat.le_refl _)).chg hch (fun k h => by have := h.2; omega)).less (show p + 1 ≤ w6.heap.size by omega))
   have HI9 := Lib.hid ((HI7.out.keep (w' := W9) (fun k o h1 h2 => hch.cell (by omega) (fun h => by have := h.1; omega))).more (B' := W9.heap.size) (by omega))
   have HX9 := Lib.hid ((HX7.out.chg hch (.inl (by omega))).mono (Nat.le_refl _) (show g ≤ W9.heap.size by omega))
   have HB9 := Lib.hid (HB7.out.trans (hch.below (fun k h => by have := h.1; omega) (by omega)))
   have y0 := (hch.cell (b := g) (o := 0) (by omega) (fun h => by have := h.1; omega)).trans y0
   have y1 := (hch.cell (b := g) (o := 1) (by omega) (fun h => by have := h.1; omega)).trans y1
   have v0 : W9.cell? ⟨h,0,none⟩ = some (.slice P7 s.rels.length c7) := by rw [hW9]; simp [go_sem,v0]
   have v1 : W9.cell? ⟨h,1,none⟩ = some (.slice Q7 s.facts.length d7) := by rw [hW9]; simp [go_sem,v1]
   have r0 := (hch.cell (b := b) (o := 0) (by omega) (fun h => by have := h.1; omega)).trans r0
   have r1 := (hch.cell (b := b) (o := 1) (by omega) (fun h => by have := h.1; omega)).trans r1
   have rz := fun o => (hch.frozen (b := b) (o := o) (by omega) (fun h => by have := h.1; omega)).trans (rz o)
   have z0 := (hch.cell (b := b + 1) (o := 0) (by omega) (fun h => by have := h.1; omega)).trans z0
   have z1 := (hch.cell (b := b + 1) (o := 1) (by omega) (fun h => by have := h.1; omega)).trans z1
   have zz := fun o => (hch.frozen (b := b + 1) (o := o) (by omega) (fun h => by have := h.1; omega)).trans (zz o)
   have HS7 := Lib.hid hs7
   go_upto_region 5 with fail
   rw [← hW9]
   clear hW9 hch hO7 hs7 hg7 hc7 HI7 HX7 HB7 HS6 HI6 HX6 HB6 hC6
   have hS : Holds [(⟨g,0,none⟩,.slice P x.rels.length c),(⟨g,1,none⟩,.slice Q x.facts.length d1),(⟨h,0,none⟩,.slice P7 s.rels.length c7),(⟨h,1,none⟩,.slice Q7 s.facts.length d7)] W9.drew := by
    intro t ht
    simp only [List.mem_cons,List.not_mem_nil,or_false] at ht
    rcases ht with rfl | rfl | rfl | rfl
    · exact y0
    · exact y1
    · exact v0
    · exact v1
   have hS1 : Holds [(⟨g,0,none⟩,.slice P x.rels.length c),(⟨g,1,none⟩,.slice Q x.facts.length d1),(⟨h,0,none⟩,.slice P7 s.rels.length c7),(⟨h,1,none⟩,.slice Q7 s.facts.length d7)] ((W9.drew.setCell ⟨b,0,none⟩ (.slice P7 s.rels.length c7)).setCell ⟨b,1,none⟩ (.slice Q7 s.facts.length d7)) := by
    intro t ht
    have hk := hS t ht
    have hch1 : Chg (fun k => k = b) W9.drew ((W9.drew.setCell ⟨b,0,none⟩ (.slice P7 s.rels.length c7)).setCell ⟨b,1,none⟩ (.slice Q7 s.facts.length d7)) := ((Chg.refl (fun k => k = b) _).setCell (p := ⟨b,0,none⟩) rfl _).setCell (p := ⟨b,1,none⟩) rfl _
    simp only [List.mem_cons,List.not_mem_nil,or_false] at ht
    rcases ht with rfl | rfl | rfl | rfl <;> exact (hch1.cell (by first | (show g < W9.heap.size; omega) | (show h < W9.heap.size; omega)) (by omega)).trans hk
   have g0 := Keep.cell (h0 := hS) (a := ⟨g,0,none⟩) (v := .slice P x.rels.length c) (by simp)
   have g1 := Keep.cell (h0 := hS) (a := ⟨g,1,none⟩) (v := .slice Q x.facts.length d1) (by simp)
   have g2 := Keep.cell (h0 := hS) (a := ⟨h,0,none⟩) (v := .slice P7 s.rels.length c7) (by simp)
   have g3 := Keep.cell (h0 := hS) (a := ⟨h,1,none⟩) (v := .slice Q7 s.facts.length d7) (by simp)
   have hst : Chg (Mid b (b + 2)) W9.drew ((((W9.drew.setCell ⟨b,0,none⟩ (.slice P7 s.rels.length c7)).setCell ⟨b,1,none⟩ (.slice Q7 s.facts.length d7)).setCell ⟨b + 1,0,none⟩ (.slice P x.rels.length c)).setCell ⟨b + 1,1,none⟩ (.slice Q x.facts.length d1)) := ((((Chg.refl (Mid b (b + 2)) W9.drew).setCell (p := ⟨b,0,none⟩) ⟨Nat.le_refl _,by show b < b + 2; omega⟩ _).setCell (p := ⟨b,1,none⟩) ⟨Nat.le_refl _,by show b < b + 2; omega⟩ _).setCell (p := ⟨b + 1,0,none⟩) ⟨Nat.le_succ _,by show b + 1 < b + 2; omega⟩ _).setCell (p := ⟨b + 1,1,none⟩) ⟨Nat.le_succ _,by show b + 1 < b + 2; omega⟩ _
   have HF : Hid (GivesSol w (.returned (.tuple #[.agg #[.slice P7 s.rels.length c7,.slice Q7 s.facts.length d7],.agg #[.slice P x.rels.length c,.slice Q x.facts.length d1],.slice R xs.length rc])) ((((W9.drew.setCell ⟨b,0,none⟩ (.slice P7 s.rels.length c7)).setCell ⟨b,1,none⟩ (.slice Q7 s.facts.length d7)).setCell ⟨b + 1,0,none⟩ (.slice P x.rels.length c)).setCell ⟨b + 1,1,none⟩ (.slice Q x.facts.length d1))) := Lib.hid (by
    have hq := HBq.out
    have hdr : Below W9.heap.size W9 W9.drew := (Below.refl _ _).drew
    exact ⟨_,s,_,x,_,xs,rfl,((HS9.out.later hdr).chg hst (fun k h => by have := h.2; omega)).less (by omega),(HS7.out.more (by decide)),((HI9.out.later hdr).chg hst (fun k h => by have := h.2; omega)).less (by omega),HIS.out,((HX9.out.below hdr (Nat.le_refl _)).chg hst (.inr (by omega))).at_ hst.size,HXS.out.1,HXS.out.2,(HB9.out.trans (hdr.mono HB9.out.size)).trans (hst.below (fun k h => by have := h.1; omega) (by have := HB9.out.size; show w.heap.size ≤ W9.heap.size; exact this))⟩)
   clear y0 y1 v0 v1 hst HS9 HI9 HX9 HB9
   refine wp_region_planL (C := fun w' => ∃ u : Keep _ W9.drew hS,w' = u.now) (.still 0 (.still 1 (.still 2 (.move true 3 (.move false 4 (.still 5 .done) .none) .none)))) (by kernel_rfl) (by kernel_rfl) (by kernel_rfl) (fun _ => ⟨⟨_,hS⟩,rfl⟩) ?_
   iterate 3
    refine plan_look _ rfl rfl ?_
    go_big_quiet_step (fail)
    refine wpQuiet_nil ?_
   refine plan_skip (w' := ((W9.drew.setCell ⟨b,0,none⟩ (.slice P7 s.rels.length c7)).setCell ⟨b,1,none⟩ (.slice Q7 s.facts.length d7))) _ rfl rfl rfl (by simp [go_sem,r0,r1,rz]) (fun _ => ⟨⟨_,hS1⟩,rfl⟩) ?_ True.intro
   refine plan_put ?_ (by simp only [Act.put]; rfl)
   refine plan_skip (w' := ((((W9.drew.setCell ⟨b,0,none⟩ (.slice P7 s.rels.length c7)).setCell ⟨b,1,none⟩ (.slice Q7 s.facts.length d7)).setCell ⟨b + 1,0,none⟩ (.slice P x.rels.length c)).setCell ⟨b + 1,1,none⟩ (.slice Q x.facts.length d1))) _ rfl rfl rfl (by simp [go_sem,z0,z1,zz]) (fun e => by cases e) ?_ True.intro
   refine plan_put ?_ (by simp only [Act.put]; rfl)
   refine plan_look _ rfl rfl ?_
   go_big_quiet_step (fail)
   refine wpQuiet_nil ?_
   refine plan_done ?_
   go_wp2
   refine bodyPost_ret (v := .tuple #[.agg #[.slice P7 s.rels.length c7,.slice Q7 s.facts.length d7],.agg #[.slice P x.rels.length c,.slice Q x.facts.length d1],.slice R xs.length rc]) (by simp [results,Tryz.results17,go_sem,r0,r1,z0,z1]) rfl HF.out
end Go.Proofs.YtobdijcnfmgidaaGreat
