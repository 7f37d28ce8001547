/- Walks and plain lemmas for the laws of this seat. -/
import Derived.Deep.Quiet
import Derived.Test.YtobdijcnfmgidaaGreatInts
import Derived.Test.YtobdijcnfmgidaaGreatDraw
import Derived.Test.YtobdijcnfmgidaaGreatDrawR
import Derived.Test.YtobdijcnfmgidaaGreatAft
import Derived.Test.YtobdijcnfmgidaaGreatTyAtom
import Derived.Test.YtobdijcnfmgidaaGreatDrawA9
import Derived.Test.YtobdijcnfmgidaaGreatMInst
import Derived.Test.YtobdijcnfmgidaaGreatFactV
import Derived.Test.YtobdijcnfmgidaaGreatDrawI
import Derived.Test.YtobdijcnfmgidaaGreatDrawJ
namespace Go.Proofs.YtobdijcnfmgidaaGreat
open Go.RowKit
set_option maxHeartbeats 12800000 in
set_option maxRecDepth 100000 in
theorem l11Inst_c (p : Nat) (cv : Value) (code : List UInt8) (st : DrawSt) (w : World) (hC : CurS w p cv code st) :
 Calls Tryz.prog 64 #[.pointer (some ⟨p,0,none⟩)] w (GivesAny 7 w p cv code) := by
 have hp := Cur.lt hC
 have a0 := fun o => box_cell w #[.slice none 0 0,.slice none 0 0] 27 o
 go_enter Tryz.func64,Tryz.ntmps64
 go_wp2_with fail
 refine (l5Source_c p cv code _ 3 (by decide) _ (Cur.alloc hC _)).mono ?_
 rintro e w1 ⟨V1,x1,rfl,hO1,hI1,hR1,⟨st1,hC1⟩,hg1⟩
 obtain ⟨rl,L⟩ := x1
 dsimp only at hR1
 subst hR1
 obtain ⟨P,c,Q,d,rfl⟩ := Inst5_form (hO1.at_ (Nat.le_refl _))
 have hs1 : w.heap.size + 1 ≤ w1.heap.size := by have := hg1.size; simpa using this
 have hsA : (w.alloc (.cells #[.slice none 0 0,.slice none 0 0] 27)).heap.size = w.heap.size + 1 := by simp
 rw [hsA] at hO1
 have hne : w.heap.size ≠ p := by omega
 have R0 : w1.cell? ⟨w.heap.size,0,none⟩ = some (.slice none 0 0) := grown_cell hg1 ((a0 0).trans rfl) hne
 have R1 : w1.cell? ⟨w.heap.size,1,none⟩ = some (.slice none 0 0) := grown_cell hg1 ((a0 1).trans rfl) hne
 have RZ := fun o => grown_frozen hg1 (o := o) (by simp) hne (World.frozen?_alloc_at _ _ _ _ rfl)
 have hG1 : w.grownBy w1 (some p) := (World.grownBy_alloc w _ (some p)).trans hg1
 clear a0 hg1
 obtain ⟨g,hg⟩ : ∃ g,g = w1.heap.size := ⟨_,rfl⟩
 go_wp2_with fail
 have y0 : (w1.alloc (.cells #[.slice P 5 c,.slice Q L.length d] 27)).cell? ⟨g,0,none⟩ = some (.slice P 5 c) := by rw [hg]; simp [go_sem]
 have y1 : (w1.alloc (.cells #[.slice P 5 c,.slice Q L.length d] 27)).cell? ⟨g,1,none⟩ = some (.slice Q L.length d) := by rw [hg]; simp [go_sem]
 have yz : ∀ o,(w1.alloc (.cells #[.slice P 5 c,.slice Q L.length d] 27)).frozen? ⟨g,o,none⟩ = false := by intro o; rw [hg]; simp [go_sem]
 have yA : AllSl (w1.alloc (.cells #[.slice P 5 c,.slice Q L.length d] 27)) g := by
  intro o u hu
  rw [hg,box_cell] at hu
  match o,hu with
  | 0,hu => simp at hu; subst hu; exact ⟨_,_,_,rfl⟩
  | 1,hu => simp at hu; subst hu; exact ⟨_,_,_,rfl⟩
  | o + 2,hu => simp at hu
 have hsz : (w1.alloc (.cells #[.slice P 5 c,.slice Q L.length d] 27)).heap.size = g + 1 := by rw [hg]; simp
 have hAl : Below g w1 (w1.alloc (.cells #[.slice P 5 c,.slice Q L.length d] 27)) := (Below.refl _ _).alloc (by omega) _
 have hC2 : CurS (w1.alloc (.cells #[.slice P 5 c,.slice Q L.length d] 27)) p cv code st1 := Cur.alloc hC1 _
 have hG2 : w.grownBy (w1.alloc (.cells #[.slice P 5 c,.slice Q L.length d] 27)) (some p) := hG1.trans (World.grownBy_alloc _ _ _)
 rw [← hg] at hO1 ⊢
 have hgl : w.heap.size < g := by omega
 generalize w1.alloc (.cells #[.slice P 5 c,.slice Q L.length d] 27) = W at y0 y1 yz yA hsz hAl hC2 hG2 ⊢
 have R0 := (hAl.cell (p := ⟨w.heap.size,0,none⟩) (by show w.heap.size < g; omega)).trans R0
 have R1 := (hAl.cell (p := ⟨w.heap.size,1,none⟩) (by show w.heap.size < g; omega)).trans R1
 have RZ := fun o => (hAl.frozen (p := ⟨w.heap.size,o,none⟩) (by show w.heap.size < g; omega)).trans (RZ o)
 have hO2 := hO1.below hAl (Nat.le_refl _)
 clear hO1 hAl hC1 hG1 hg hsA
 have hC3 := hC2
 have hO3 := hO2
 have hG3 := hG2
 have x0 := y0
 have x1 := y1
 have xz := yz
 have xA := yA
 have hgs : g < W.heap.size := by omega
 clear hC2 hO2 hG2 y0 y1 yz yA
 refine (l5Target_c p cv code _ 4 (by decide) 3 (by decide) (by decide) _ hC3).mono ?_
 rintro e w4 ⟨V2,x2,rfl,hO4,hI2,-,⟨st4,hC4⟩,hg4⟩
 obtain ⟨rl2,M⟩ := x2
 obtain ⟨P2,c2,Q2,d2,rfl⟩ := Instance_form (hO4.at_ (Nat.le_refl _))
 dsimp only at hI2 ⊢
 have hch4 := chg_of_grown hg4
 have hO3 := hO3.chg hch4 (.inr (by omega))
 have hG4 := hG3.trans hg4
 have x0 := grown_cell hg4 x0 (by omega)
 have x1 := grown_cell hg4 x1 (by omega)
 have xz := fun o => grown_frozen hg4 (b := g) (o := o) (by omega) (by omega) (xz o)
 have xA : AllSl w4 g := xA.cells fun o => hch4.cell (by omega) (fun h => by have := h.1; have := h.2; omega)
 have R0 := grown_cell hg4 R0 hne
 have R1 := grown_cell hg4 R1 hne
 have RZ := fun o => grown_frozen hg4 (o := o) (by omega) hne (RZ o)
 have hs4 := hg4.size
 obtain ⟨y,hy⟩ : ∃ y,y = w4.heap.size := ⟨_,rfl⟩
 go_wp2_with fail
 have hAl : Below y w4 (w4.alloc (.cells #[.slice P2 rl2.length c2,.slice Q2 M.length d2] 27)) := (Below.refl _ _).alloc (by omega) _
 have yy : (w4.alloc (.cells #[.slice P2 rl2.length c2,.slice Q2 M.length d2] 27)).cell? ⟨y,1,none⟩ = some (.slice Q2 M.length d2) := by rw [hy]; simp [go_sem]
 have hCW : CurS (w4.alloc (.cells #[.slice P2 rl2.length c2,.slice Q2 M.length d2] 27)) p cv code st4 := Cur.alloc hC4 _
 have hGW : w.grownBy (w4.alloc (.cells #[.slice P2 rl2.length c2,.slice Q2 M.length d2] 27)) (some p) := hG4.trans (World.grownBy_alloc _ _ _)
 have hszW : (w4.alloc (.cells #[.slice P2 rl2.length c2,.slice Q2 M.length d2] 27)).heap.size = y + 1 := by rw [hy]; simp
 rw [← hy]
 generalize w4.alloc (.cells #[.slice P2 rl2.length c2,.slice Q2 M.length d2] 27) = W2 at hAl yy hCW hGW hszW ⊢
 have hgy : g < y := by omega
 have hy4 : w4.heap.size ≤ y := by omega
 have z0 := (hAl.cell (p := ⟨g,0,none⟩) (by show g < _; omega)).trans x0
 have z1 := (hAl.cell (p := ⟨g,1,none⟩) (by show g < _; omega)).trans x1
 have zz := fun o => (hAl.frozen (p := ⟨g,o,none⟩) (by show g < _; omega)).trans (xz o)
 have zA : AllSl W2 g := xA.cells fun o => hAl.cell (p := ⟨g,o,none⟩) (by show g < _; omega)
 have R0 := Lib.hid ((hAl.cell (p := ⟨w.heap.size,0,none⟩) (by show w.heap.size < _; omega)).trans R0)
 have R1 := Lib.hid ((hAl.cell (p := ⟨w.heap.size,1,none⟩) (by show w.heap.size < _; omega)).trans R1)
 have RZ := Lib.hid (fun o => (hAl.frozen (p := ⟨w.heap.size,o,none⟩) (by show w.heap.size < _; omega)).trans (RZ o))
 have hO5 := hO3.below hAl (by omega)
 have hO4' := hO4.below hAl (by first | exact Nat.le_refl _ | omega)
 have HLO := Lib.hid (hO5.at_ (D := W2.heap.size) (by omega))
 have HP := Lib.hid (Putable.own hO5)
 obtain ⟨_,_,hv,-,hF⟩ := hO4'
 simp only [Value.agg.injEq,Array.mk.injEq,List.cons.injEq,and_true] at hv
 obtain ⟨-,rfl⟩ := hv
 have HF := Lib.hid hF
 have YY := Lib.hid yy
 have HG := Lib.hid hGW
 have HCW := Lib.hid hCW
 have HS := Lib.hid hszW
 have hMd := hF.at_ (D := W2.heap.size) (by omega)
 obtain ⟨_,_,hv2,hd1,hd2⟩ := hMd.form
 injection hv2 with e1 _ e2
 subst e1 e2
 unfold maxLen at hd2
 have hM3 := hI2.2.1
 dsimp only at hM3
 have HI2 := Lib.hid hI2
 have HI1 := Lib.hid hI1
 clear hy hsz hF hO4 hO5 hO3 hC3 hC4 hG3 hG4 hg4 hch4 x0 x1 xz xA hAl hMd hI2 hI1 yy hCW hGW
 go_wp2_with fail
 go_loopw [5] (fun i wr => ∃ (k : Nat) (K : List Fct) (P : Option Addr) (c : Nat) (Q : Option Addr) (d : Nat),k ≤ M.length ∧ i = .int .i64 (k : Nat) ∧ Hid (InstSmall (3 + k) ⟨sigs5,K⟩) ∧ wr.cell? ⟨g,0,none⟩ = some (.slice P 5 c) ∧ wr.cell? ⟨g,1,none⟩ = some (.slice Q K.length d) ∧ (∀ o,wr.frozen? ⟨g,o,none⟩ = false) ∧ Hid (AllSl wr g) ∧ Hid (Instance_at wr wr.heap.size (.agg #[.slice P 5 c,.slice Q K.length d]) ⟨sigs5,K⟩) ∧ Hid (Putable (.agg #[.slice P 5 c,.slice Q K.length d]) ⟨sigs5,K⟩) ∧ Hid (Chg (Mid g (g + 1)) W2 wr)) (fun i _ => M.length - (intOf i).toNat)
 case atStart => exact ⟨0,L,P,c,Q,d,by omega,rfl,HI1,z0,z1,zz,Lib.hid zA,HLO,HP,Lib.hid (Chg.refl _ _)⟩
 case round =>
  clear z0 z1 zz zA HLO HP HI1
  obtain ⟨k,K,P,c,Q,d,hk,rfl,HI,x0,x1,xz,HA,HLO,HP,HC⟩ := hrel
  have hC' := HC.out
  have hWz := hC'.size
  rw [HS.out] at hWz
  have yw : wr.cell? ⟨y,1,none⟩ = some (.slice Q2 M.length d2) := (hC'.cell (show y < _ by rw [HS.out]; omega) (fun h => by have := h.2; omega)).trans YY.out
  have hFr := (HF.out.chg hC' (.inr (by omega))).at_ (D := wr.heap.size) (by omega)
  have hKl : K.length ≤ 100 := Nat.le_trans HI.out.2.1 (by omega)
  have hcap : K.length ≤ d ∧ d ≤ maxLen := by
   obtain ⟨_,_,hv,_,hF⟩ := HLO.out
   simp only [Value.agg.injEq,Array.mk.injEq,List.cons.injEq,and_true] at hv
   obtain ⟨-,rfl⟩ := hv
   obtain ⟨_,_,hv2,h1,h2⟩ := hF.form
   injection hv2 with e1 _ e2
   subst e1 e2
   exact ⟨h1,h2⟩
  unfold maxLen at hcap
  by_cases hlt : k < M.length
  · obtain ⟨bq,off,U,rfl,hbq,c0,c1,hU⟩ := FactS_at.elem hFr k hlt
    obtain ⟨PU,cU,rfl,-⟩ := id hU
    have hfs : FctSmall M[k] := HI2.out.2.2 _ (List.getElem_mem hlt)
    have HFS := Lib.hid hfs
    have hput := fun wq (hq : Below wr.heap.size wr wq) => specL5Put_z 0 (.agg #[.slice P 5 c,.slice Q K.length d]) (.agg #[.int .i64 M[k].rel,.slice PU M[k].vals.length cU]) ⟨sigs5,K⟩ M[k] wq (Nat.zero_le _) ((HLO.out.lo).later hq) HP.out (by show K.length ≤ _; omega) ⟨_,rfl,IntS_at.later hU hq⟩ (by have := HFS.out.2.1; unfold Fact_sz; omega)
    have hS : Holds [(⟨g,0,none⟩,.slice P 5 c),(⟨g,1,none⟩,.slice Q K.length d),(⟨y,1,none⟩,.slice (some ⟨bq,off,none⟩) M.length d2),(⟨bq,off + k * 2,none⟩,.int .i64 M[k].rel),(⟨bq,off + k * 2 + 1,none⟩,.slice PU M[k].vals.length cU)] wr.drew := by
     intro q hq
     simp only [List.mem_cons,List.not_mem_nil,or_false] at hq
     rcases hq with rfl | rfl | rfl | rfl | rfl
     · exact x0
     · exact x1
     · exact yw
     · exact c0
     · exact c1
    have hSb : ∀ q ∈ [((⟨g,0,none⟩ : Addr),Value.slice P 5 c),(⟨g,1,none⟩,.slice Q K.length d),(⟨y,1,none⟩,.slice (some ⟨bq,off,none⟩) M.length d2),(⟨bq,off + k * 2,none⟩,.int .i64 M[k].rel),(⟨bq,off + k * 2 + 1,none⟩,.slice PU M[k].vals.length cU)],q.1.block < wr.heap.size := by
     intro q hq
     simp only [List.mem_cons,List.not_mem_nil,or_false] at hq
     rcases hq with rfl | rfl | rfl | rfl | rfl <;> simp <;> omega
    have g0 := Keep.cell (h0 := hS) (a := ⟨g,0,none⟩) (v := .slice P 5 c) (by simp)
    have g1 := Keep.cell (h0 := hS) (a := ⟨g,1,none⟩) (v := .slice Q K.length d) (by simp)
    have g2 := Keep.cell (h0 := hS) (a := ⟨y,1,none⟩) (v := .slice (some ⟨bq,off,none⟩) M.length d2) (by simp)
    have g3 := Keep.cell (h0 := hS) (a := ⟨bq,off + k * 2,none⟩) (v := .int .i64 M[k].rel) (by simp)
    have g4 := Keep.cell (h0 := hS) (a := ⟨bq,off + k * 2 + 1,none⟩) (v := .slice PU M[k].vals.length cU) (by simp)
    have HPt := Lib.hid hput
    have HPp := Lib.hid (HI.out.put hfs)
    clear hput hU hfs hFr hC'
    generalize M[k] = G at *
    go_wp2_with fail
    refine wp_region_planL (C := fun w' => ∃ u : Keep _ wr.drew hS,w' = u.now) (.still 0 (.still 1 (.still 2 (.still 3 (.still 4 (.still 5 (.move true 6 (.move false 7 .done .none) .none))))))) (by kernel_rfl) (by kernel_rfl) (by kernel_rfl) (fun _ => ⟨⟨_,hS⟩,rfl⟩) ?_
    iterate 6
     refine plan_look _ rfl rfl ?_
     go_big_quiet_step (fail)
     refine wpQuiet_nil ?_
    refine plan_call _ 94 _ _ _ _ _ rfl _ Tryz.func94 (by kernel_rfl) (by kernel_rfl) ?_ True.intro
    refine (HPt.out wr.drew (Below.refl _ _).drew).mono ?_
    rintro _ w6 ⟨r6,rfl,hr6,hb6⟩
    have hb6' : Below wr.heap.size wr w6 := (Below.refl _ _).drew.trans hb6
    have hr6 := hr6.at_
    obtain ⟨P6,c6,Q6,d6,rfl⟩ := Inst5_form hr6
    have z0 := (hb6'.cell (p := ⟨g,0,none⟩) (by show g < _; omega)).trans x0
    have z1 := (hb6'.cell (p := ⟨g,1,none⟩) (by show g < _; omega)).trans x1
    have zz := fun o => (hb6'.frozen (p := ⟨g,o,none⟩) (by show g < _; omega)).trans (xz o)
    have zA : AllSl w6 g := HA.out.cells fun o => hb6'.cell (p := ⟨g,o,none⟩) (by show g < _; omega)
    have hst := (hr6.off zA 0 (.slice P6 5 c6)).off (zA.set 0 P6 5 c6 _ z0) 1 (.slice Q6 (putF K G).length d6)
    have HST := Lib.hid hst
    have HZA := Lib.hid ((zA.set 0 P6 5 c6 _ z0).set 1 Q6 (putF K G).length d6 (.slice Q K.length d) (by simp [go_sem,z1]))
    have HB6 := Lib.hid hb6'
    refine ⟨_,rfl,fun _ => ⟨⟨_,hS.below hb6 hSb⟩,rfl⟩,?_⟩
    clear hst zA hr6 hb6 hb6' g0 g1 g2 g3 g4 x0 x1 xz c0 c1 yw
    refine plan_put ?_ (by simp only [Act.put,putA,putB,putC]; rfl)
    refine plan_skip (w' := (w6.setCell ⟨g,0,none⟩ (.slice P6 5 c6)).setCell ⟨g,1,none⟩ (.slice Q6 (putF K G).length d6)) _ rfl rfl rfl (by simp [go_sem,z0,z1,zz]) (fun e => by cases e) ?_ True.intro
    refine plan_put ?_ (by simp only [Act.put]; rfl)
    refine plan_done ?_
    go_wp2
    go_roundw
    case measure => simp [intOf]; omega
    case rel =>
     refine ⟨k + 1,putF K G,P6,c6,Q6,d6,by omega,by go_num,HPp,by simp [go_sem,z0],by simp [go_sem,z1],fun o => by simp [zz],HZA,Lib.hid (HST.out.more (by simp [World.setCell])),Lib.hid (Putable.pos (putF_pos1 _ _)),Lib.hid (((HC.out.then_below (HB6.out.mono (by rw [HS.out]; omega))).setCell (p := ⟨g,0,none⟩) ⟨Nat.le_refl _,Nat.lt_succ_self _⟩ _).setCell (p := ⟨g,1,none⟩) ⟨Nat.le_refl _,Nat.lt_succ_self _⟩ _)⟩
  · obtain rfl : k = M.length := by omega
    have hcp := specL5Copy_any _ ⟨sigs5,K⟩ wr HLO.out (by have := HI.out.sz (by omega); omega)
    have r0 := (hC'.cell (b := w.heap.size) (o := 0) (by rw [HS.out]; omega) (fun h => by have := h.1; omega)).trans R0.out
    have r1 := (hC'.cell (b := w.heap.size) (o := 1) (by rw [HS.out]; omega) (fun h => by have := h.1; omega)).trans R1.out
    have rz := fun o => (hC'.frozen (b := w.heap.size) (o := o) (by rw [HS.out]; omega) (fun h => by have := h.1; omega)).trans (RZ.out o)
    have hbW : Below w.heap.size W2 wr := hC'.below (fun k h => by have := h.1; omega) (by rw [HS.out]; omega)
    have HBW := Lib.hid hbW
    clear hC' hFr hbW
    go_wp2_with fail
    refine hcp.mono ?_
    rintro e w6 ⟨r6,rfl,hO6,hb6⟩
    obtain ⟨P6,c6,Q6,d6,rfl⟩ := Inst5_form (hO6.at_ (Nat.le_refl _))
    have hz6 := hb6.size
    have q0 := (hb6.cell (p := ⟨g,0,none⟩) (by show g < _; omega)).trans x0
    have q1 := (hb6.cell (p := ⟨g,1,none⟩) (by show g < _; omega)).trans x1
    have qz := fun o => (hb6.frozen (p := ⟨g,o,none⟩) (by show g < _; omega)).trans (xz o)
    have r0 := (hb6.cell (p := ⟨w.heap.size,0,none⟩) (by show w.heap.size < _; omega)).trans r0
    have r1 := (hb6.cell (p := ⟨w.heap.size,1,none⟩) (by show w.heap.size < _; omega)).trans r1
    have rz := fun o => (hb6.frozen (p := ⟨w.heap.size,o,none⟩) (by show w.heap.size < _; omega)).trans (rz o)
    have hbw := (HBW.out.trans (hb6.mono (show w.heap.size ≤ wr.heap.size by omega)))
    have HI3 := Lib.hid (HI.out.more (show 3 + M.length ≤ 7 by omega))
    have HA6 := Lib.hid (show AllSl w6 g from HA.out.cells fun o => hb6.cell (p := ⟨g,o,none⟩) (by show g < _; omega))
    clear x0 x1 xz hcp HLO HP HA HC HI HBW hb6 HI2
    dsimp only at *
    have hst2 : Chg (Mid w.heap.size (w.heap.size + 1)) w6 ((w6.setCell ⟨w.heap.size,0,none⟩ (.slice P6 5 c6)).setCell ⟨w.heap.size,1,none⟩ (.slice Q6 K.length d6)) := ((Chg.refl _ _).setCell (p := ⟨w.heap.size,0,none⟩) ⟨Nat.le_refl _,Nat.lt_succ_self _⟩ _).setCell (p := ⟨w.heap.size,1,none⟩) ⟨Nat.le_refl _,Nat.lt_succ_self _⟩ _
    have hbF := hbw.trans (hst2.below (B := w.heap.size) (fun k h => h.1) (by omega))
    have HBF := Lib.hid hbF
    have HS2 := Lib.hid hst2
    have HO6 := Lib.hid hO6
    clear hbF hst2 hO6 q0 q1 qz hbw
    go_wp2
    refine bodyPost_ret (v := .agg #[.slice P6 5 c6,.slice Q6 K.length d6]) (by simp [results,Tryz.results64,go_sem,r0,r1]) rfl ⟨_,⟨sigs5,K⟩,rfl,?_,HI3.out,⟨_,Cur.below hC HCW.out HBF.out⟩,grown_of_below HG.out HBF.out⟩
    exact Instance_own.lo (Instance_own.mono (HO6.out.chg HS2.out (.inr (by omega))) (by omega) (by simp [World.setCell])) (Nat.le_refl _)
def posOf (vs : List Int) : List Int := vs.filter fun t => decide (0 ≤ t)
def vposOf (l : List Atm) : List Int := l.flatMap fun a => posOf a.vals
theorem posOf_take (vs : List Int) (k : Nat) (h : k < vs.length) : posOf (vs.take (k + 1)) = posOf (vs.take k) ++ (if 0 ≤ vs[k] then [vs[k]] else []) := by
 unfold posOf
 rw [List.take_succ_eq_append_getElem h,List.filter_append]
 congr 1
 by_cases hp : 0 ≤ vs[k] <;> simp [hp]
theorem posOf_len (vs : List Int) : (posOf vs).length ≤ vs.length := List.length_filter_le _ _
theorem vposOf_take (l : List Atm) (k : Nat) (h : k < l.length) : vposOf (l.take (k + 1)) = vposOf (l.take k) ++ posOf l[k].vals := by
 unfold vposOf; rw [List.take_succ_eq_append_getElem h,List.flatMap_append]; simp
theorem vposOf_len (l : List Atm) : (vposOf l).length ≤ avalsLen l := by
 induction l with
 | nil => simp [vposOf]
 | cons a t ih =>
   have h1 := posOf_len a.vals
   unfold vposOf at ih ⊢
   rw [List.flatMap_cons,List.length_append]
   simp only [avalsLen]; omega
theorem addTerms_mem (vs out : List Int) (x : Int) : x ∈ addTerms out vs ↔ x ∈ out ∨ x ∈ posOf vs := by
 induction vs generalizing out with
 | nil => simp [addTerms,posOf]
 | cons a t ih =>
   have h := ih (addVar out a)
   unfold addTerms at h ⊢
   rw [List.foldl_cons,h]
   unfold addVar posOf
   rw [List.filter_cons]
   by_cases hp : 0 ≤ a
   · rw [if_pos hp,decide_eq_true hp,if_pos rfl,putI_mem,List.mem_cons]
     constructor
     · rintro ((h | h) | h)
       · exact .inr (.inl h)
       · exact .inl h
       · exact .inr (.inr h)
     · rintro (h | h | h)
       · exact .inl (.inr h)
       · exact .inl (.inl h)
       · exact .inr h
   · rw [if_neg hp,decide_eq_false hp]; simp
theorem varsFold_mem (l : List Atm) (out : List Int) (x : Int) : x ∈ l.foldl (fun o a => addTerms o a.vals) out ↔ x ∈ out ∨ x ∈ vposOf l := by
 induction l generalizing out with
 | nil => simp [vposOf]
 | cons a t ih =>
   rw [List.foldl_cons,ih,addTerms_mem]
   unfold vposOf
   rw [List.flatMap_cons,List.mem_append,or_assoc]
theorem varsOf_mem (l : List Atm) (x : Int) : x ∈ varsOf l ↔ x ∈ vposOf l := by
 unfold varsOf; rw [varsFold_mem]; simp
theorem addTerms_asc (vs out : List Int) (h : out.Pairwise (· < ·)) : (addTerms out vs).Pairwise (· < ·) := by
 induction vs generalizing out with
 | nil => exact h
 | cons a t ih =>
   unfold addTerms
   rw [List.foldl_cons]
   refine ih _ ?_
   unfold addVar
   split
   · exact putI_asc out a h
   · exact h
theorem varsOf_asc (l : List Atm) : (varsOf l).Pairwise (· < ·) := by
 have : ∀ (l : List Atm) (out : List Int),out.Pairwise (· < ·) → (l.foldl (fun o a => addTerms o a.vals) out).Pairwise (· < ·) := by
  intro l
  induction l with
  | nil => intro out h; exact h
  | cons a t ih => intro out h; rw [List.foldl_cons]; exact ih _ (addTerms_asc a.vals out h)
 exact this l [] List.Pairwise.nil
theorem compact_vars (l : List Atm) : Lib.compact ((vposOf l).mergeSort fun x y => decide (x ≤ y)) = varsOf l := by
 have hs : ((vposOf l).mergeSort fun x y => decide (x ≤ y)).Pairwise (· ≤ ·) := by
  have := List.pairwise_mergeSort (le := fun (x y : Int) => decide (x ≤ y)) (by intro a b c; simp; omega) (by intro a b; simp; omega) (vposOf l)
  exact this.imp (fun h => by simpa using h)
 obtain ⟨h1,h2⟩ := compact_upTo _ hs _ (Nat.le_refl _)
 refine asc_eq _ _ h1 (varsOf_asc l) (fun x => ?_)
 unfold Lib.compact
 rw [h2,List.take_of_length_le (Nat.le_refl _),List.mem_mergeSort,varsOf_mem]
structure BoxD (D : Nat) (V0 V1 : Value) (w : World) : Prop where
 c0 : w.cell? ⟨D,0,none⟩ = some V0
 c1 : w.cell? ⟨D,1,none⟩ = some V1
 c2 : w.cell? ⟨D,2,none⟩ = some (.bool false)
 c3 : w.cell? ⟨D,3,none⟩ = some (.int .i64 0)
 c4 : w.cell? ⟨D,4,none⟩ = some (.int .i64 0)
 fz : ∀ o,w.frozen? ⟨D,o,none⟩ = false
theorem BoxD.same {D : Nat} {V0 V1 : Value} {w w' : World} (h : BoxD D V0 V1 w) (hc : ∀ o, w'.cell? ⟨D, o, none⟩ = w.cell? ⟨D, o, none⟩) (hf : ∀ o, w'.frozen? ⟨D, o, none⟩ = w.frozen? ⟨D, o, none⟩) : BoxD D V0 V1 w' :=
 ⟨(hc 0).trans h.c0,(hc 1).trans h.c1,(hc 2).trans h.c2,(hc 3).trans h.c3,(hc 4).trans h.c4,fun o => (hf o).trans (h.fz o)⟩
theorem BoxD.below {D B : Nat} {V0 V1 : Value} {w w' : World} (h : BoxD D V0 V1 w) (hb : Below B w w') (hD : D < B) : BoxD D V0 V1 w' :=
 h.same (fun o => hb.cell (p := ⟨D,o,none⟩) hD) (fun o => hb.frozen (p := ⟨D,o,none⟩) hD)
theorem BoxD.grown {D p : Nat} {V0 V1 : Value} {w w' : World} (h : BoxD D V0 V1 w) (hg : w.grownBy w' (some p)) (hD : D < w.heap.size) (hp : D ≠ p) : BoxD D V0 V1 w' :=
 ⟨grown_cell hg h.c0 hp,grown_cell hg h.c1 hp,grown_cell hg h.c2 hp,grown_cell hg h.c3 hp,grown_cell hg h.c4 hp,fun o => grown_frozen hg hD hp (h.fz o)⟩
theorem BoxD.set0 {D : Nat} {V0 V1 : Value} {w : World} (h : BoxD D V0 V1 w) (U : Value) : BoxD D U V1 (w.setCell ⟨D, 0, none⟩ U) := by
 obtain ⟨c0,c1,c2,c3,c4,fz⟩ := h
 exact ⟨by simp [go_sem,c0],by simp [go_sem,c1],by simp [go_sem,c2],by simp [go_sem,c3],by simp [go_sem,c4],fun o => by simp [fz]⟩
theorem BoxD.set1 {D : Nat} {V0 V1 : Value} {w : World} (h : BoxD D V0 V1 w) (U : Value) : BoxD D V0 U (w.setCell ⟨D, 1, none⟩ U) := by
 obtain ⟨c0,c1,c2,c3,c4,fz⟩ := h
 exact ⟨by simp [go_sem,c0],by simp [go_sem,c1],by simp [go_sem,c2],by simp [go_sem,c3],by simp [go_sem,c4],fun o => by simp [fz]⟩
theorem AtomSO.grown {e : TypeId} {B C p : Nat} {v : Value} {Vs : List Value} {l : List Atm} {w w' : World} (h : AtomSO e B C v Vs l w) (hg : w.grownBy w' (some p)) (hp : p < B) : AtomSO e B C v Vs l w' :=
 h.kept hg (fun q hq e1 => by injection e1 with e1; have := (h.foot q hq).1; omega)
theorem vars_bd {l : List Atm} (h : ∀ a ∈ l, AtmSmall a) : ∀ t ∈ varsOf l, -11 ≤ t ∧ t ≤ 5 := by
 intro t ht
 have h1 := (varsOf_mem l t).1 ht
 unfold vposOf at h1
 obtain ⟨a,ha,h2⟩ := List.mem_flatMap.1 h1
 unfold posOf at h2
 exact (h a ha).2.2 t (List.mem_filter.1 h2).1
theorem AtmSmall.sz {l : List Atm} (h : ∀ a ∈ l, AtmSmall a) : AtomS_sz l ≤ 3 * l.length := by
 induction l with
 | nil => exact Nat.le_refl _
 | cons a t ih =>
   have h1 := (h a (by simp)).2.1.2
   have h2 := ih (fun b hb => h b (by simp [hb]))
   unfold AtomS_sz at h2 ⊢
   show (a :: t).length + (a.vals.length + avalsLen t) ≤ _
   simp only [List.length_cons]; omega
theorem chg_grown {p D : Nat} {w w5 wr : World} (hg : w.grownBy w5 (some p)) (hc : Chg (fun q => q = p ∨ q = D) w5 wr) (hD : w.heap.size ≤ D) : w.grownBy wr (some p) :=
 ⟨hc.os.trans hg.os,hc.tape.trans hg.tape,hc.output.trans hg.output,Nat.le_trans hg.size hc.size,fun k hk hne => (hc.block k (Nat.lt_of_lt_of_le hk hg.size) (fun e => by
  rcases e with e | e
  · exact hne (by rw [e])
  · omega)).trans (hg.block k hk hne)⟩
theorem rule_fin {n p : Nat} {cv : Value} {code : List UInt8} {st st2 : DrawSt} {w wl : World} {X : DepX} {x : Dep} {V0 V1 : Value} (hC : CurS w p cv code st) (hC2 : CurS wl p cv code st2) (hg : w.grownBy wl (some p)) (hX : DepOwn (w.heap.size + 1) wl.heap.size X x wl) (hs : DepSmall n x) (h0 : X.1.1 = V0) (h1 : X.2.1 = V1) :
 GivesDep9 n p cv code w (.returned (.agg #[V0,V1,.bool x.egd,.int .i64 x.left,.int .i64 x.right])) (((((wl.setCell ⟨w.heap.size,0,none⟩ V0).setCell ⟨w.heap.size,1,none⟩ V1).setCell ⟨w.heap.size,2,none⟩ (.bool x.egd)).setCell ⟨w.heap.size,3,none⟩ (.int .i64 x.left)).setCell ⟨w.heap.size,4,none⟩ (.int .i64 x.right)) := by
 subst h0 h1
 have hbW : Below w.heap.size wl (((((wl.setCell ⟨w.heap.size,0,none⟩ X.1.1).setCell ⟨w.heap.size,1,none⟩ X.2.1).setCell ⟨w.heap.size,2,none⟩ (.bool x.egd)).setCell ⟨w.heap.size,3,none⟩ (.int .i64 x.left)).setCell ⟨w.heap.size,4,none⟩ (.int .i64 x.right)) := (((((Below.refl w.heap.size wl).setCell (p := ⟨w.heap.size,0,none⟩) (Nat.le_refl _) _).setCell (p := ⟨w.heap.size,1,none⟩) (Nat.le_refl _) _).setCell (p := ⟨w.heap.size,2,none⟩) (Nat.le_refl _) _).setCell (p := ⟨w.heap.size,3,none⟩) (Nat.le_refl _) _).setCell (p := ⟨w.heap.size,4,none⟩) (Nat.le_refl _) _
 have hch : Chg (fun g => g < w.heap.size + 1) wl (((((wl.setCell ⟨w.heap.size,0,none⟩ X.1.1).setCell ⟨w.heap.size,1,none⟩ X.2.1).setCell ⟨w.heap.size,2,none⟩ (.bool x.egd)).setCell ⟨w.heap.size,3,none⟩ (.int .i64 x.left)).setCell ⟨w.heap.size,4,none⟩ (.int .i64 x.right)) := ((((((Chg.refl (fun g => g < w.heap.size + 1) wl).setCell (p := ⟨w.heap.size,0,none⟩) (Nat.lt_succ_self w.heap.size) X.1.1).setCell (p := ⟨w.heap.size,1,none⟩) (Nat.lt_succ_self w.heap.size) X.2.1).setCell (p := ⟨w.heap.size,2,none⟩) (Nat.lt_succ_self w.heap.size) (.bool x.egd)).setCell (p := ⟨w.heap.size,3,none⟩) (Nat.lt_succ_self w.heap.size) (.int .i64 x.left)).setCell (p := ⟨w.heap.size,4,none⟩) (Nat.lt_succ_self w.heap.size) (.int .i64 x.right))
 refine ⟨X,x,rfl,?_,hs,⟨_,Cur.below hC hC2 hbW⟩,grown_of_below hg hbW⟩
 exact (hX.chgS hch (fun g hg e => by have := (hX.foot g hg).1; omega)).mono (Nat.le_succ _) (by simp only [World.size_setCell]; exact Nat.le_refl _)
structure BoxX (D : Nat) (V0 V1 : Value) (q : Bool) (l r : Int) (w : World) : Prop where
 c0 : w.cell? ⟨D,0,none⟩ = some V0
 c1 : w.cell? ⟨D,1,none⟩ = some V1
 c2 : w.cell? ⟨D,2,none⟩ = some (.bool q)
 c3 : w.cell? ⟨D,3,none⟩ = some (.int .i64 l)
 c4 : w.cell? ⟨D,4,none⟩ = some (.int .i64 r)
 fz : ∀ o,w.frozen? ⟨D,o,none⟩ = false
theorem BoxX.same {D : Nat} {V0 V1 : Value} {q : Bool} {l r : Int} {w w' : World} (h : BoxX D V0 V1 q l r w) (hc : ∀ o, w'.cell? ⟨D, o, none⟩ = w.cell? ⟨D, o, none⟩) (hf : ∀ o, w'.frozen? ⟨D, o, none⟩ = w.frozen? ⟨D, o, none⟩) : BoxX D V0 V1 q l r w' :=
 ⟨(hc 0).trans h.c0,(hc 1).trans h.c1,(hc 2).trans h.c2,(hc 3).trans h.c3,(hc 4).trans h.c4,fun o => (hf o).trans (h.fz o)⟩
theorem BoxX.below {D B : Nat} {V0 V1 : Value} {q : Bool} {l r : Int} {w w' : World} (h : BoxX D V0 V1 q l r w) (hb : Below B w w') (hD : D < B) : BoxX D V0 V1 q l r w' :=
 h.same (fun o => hb.cell (p := ⟨D,o,none⟩) hD) (fun o => hb.frozen (p := ⟨D,o,none⟩) hD)
theorem BoxX.grown {D : Nat} {row : Option Nat} {V0 V1 : Value} {q : Bool} {l r : Int} {w w' : World} (h : BoxX D V0 V1 q l r w) (hg : w.grownBy w' row) (hD : D < w.heap.size) (hp : some D ≠ row) : BoxX D V0 V1 q l r w' :=
 h.same (fun o => hg.cell_far ⟨D,o,none⟩ hD hp) (fun o => hg.frozen_far ⟨D,o,none⟩ hD hp)
theorem BoxD.grownR {D : Nat} {row : Option Nat} {V0 V1 : Value} {w w' : World} (h : BoxD D V0 V1 w) (hg : w.grownBy w' row) (hD : D < w.heap.size) (hp : some D ≠ row) : BoxD D V0 V1 w' :=
 h.same (fun o => hg.cell_far ⟨D,o,none⟩ hD hp) (fun o => hg.frozen_far ⟨D,o,none⟩ hD hp)
theorem DepOwn.grown {B C p : Nat} {X : DepX} {x : Dep} {w w' : World} (h : DepOwn B C X x w) (hg : w.grownBy w' (some p)) (hp : p < B) : DepOwn B C X x w' :=
 h.kept hg (fun q hq e1 => by injection e1 with e1; have := (h.foot q hq).1; omega)
theorem DepOwn.store {B C D : Nat} {X : DepX} {b hd : List Atm} {q q' : Bool} {l l' r r' : Int} {w w' : World} (h : DepOwn B C X ⟨b, hd, q, l, r⟩ w) (hc : Chg (fun g => g = D) w w') (hD : C ≤ D) : DepOwn B C X ⟨b, hd, q', l', r'⟩ w' := by
 have h2 := h.chgS hc (fun g hg e => by have := (h.foot g hg).2; omega)
 exact ⟨h2.1,h2.2.1,h2.2.2⟩
theorem AtomSO.block {e : TypeId} {B C : Nat} {v : Value} {Vs : List Value} {l : List Atm} {w : World} (h : AtomSO e B C v Vs l w) (hl : 0 < l.length) : ∃ g cap, v = .slice (some ⟨g, 0, none⟩) l.length cap ∧ B ≤ g ∧ g < C := by
 have hp := apairs_len h.len
 have hr := h.row
 rw [hp] at hr
 obtain ⟨g,cap,rfl,h1,h2⟩ := World.ownsRow.form hr hl
 exact ⟨g,cap,rfl,h1,h.ins g rfl⟩
set_option maxHeartbeats 3200000 in
set_option maxRecDepth 100000 in
theorem specVariables_any (v : Value) (l : List Atm) (w : World) (h : AtomS_at w w.heap.size v l) (hs : AtomS_sz l ≤ 1048576) :
 Calls Tryz.prog 81 #[v] w fun e w' => ∃ u,e = .returned u ∧ OwnInts w.heap.size u (varsOf l) w' ∧ Below w.heap.size w w' := by
 obtain ⟨P,c,rfl,hc1,hc2⟩ := h.form
 unfold maxLen at hc2
 have HL := Lib.hid h
 clear h
 go_enter Tryz.func81,Tryz.ntmps81
 go_wp2
 go_loopw [3,4,5] (fun o i _ wr => ∃ k g cap : Nat,k ≤ l.length ∧ i = .int .i64 k ∧ o = .slice (some ⟨g,0,none⟩) (varsOf (l.take k)).length cap ∧ OwnInts w.heap.size o (varsOf (l.take k)) wr ∧ Below w.heap.size w wr) (fun _ i _ _ => l.length - (intOf i).toNat)
 case atStart => exact ⟨0,_,_,by omega,rfl,rfl,by simpa [varsOf] using OwnInts.empty w w.heap.size (Nat.le_refl _),(Below.refl _ _).alloc (Nat.le_refl _) _⟩
 case round =>
  obtain ⟨k,g,cap,hk,rfl,rfl,hO,hW⟩ := hrel
  have hz := hW.size
  by_cases hlt : k < l.length
  · obtain ⟨b,off,V,rfl,hb,c0,c1,hV⟩ := AtomS_at.elem HL.out k hlt
    obtain ⟨P',c',rfl,hp1,hp2,_⟩ := id hV
    unfold maxLen at hp2
    have HV := Lib.hid (show IntsAt w w.heap.size (.slice P' l[k].vals.length c') l[k].vals from hV)
    have K1 := Lib.hid c1
    have HN := Lib.hid (varsOf_take l k hlt)
    have HO := Lib.hid hO
    have hl1 := varsOf_len (l.take k)
    have hl2 := avalsLen_take l k hlt
    have hl3 := avalsLen_le l (k + 1)
    have hlb : (varsOf (l.take k)).length + l[k].vals.length ≤ 1048576 := by unfold AtomS_sz at hs; omega
    clear hV c0 c1 hO hl1 hl2 hl3
    generalize l[k].vals = L at *
    generalize hS : varsOf (l.take k) = S at *
    go_wp2
    go_loopw [3,5] (fun o i wq => ∃ m g2 cap2 : Nat,m ≤ L.length ∧ i = .int .i64 m ∧ o = .slice (some ⟨g2,0,none⟩) (addTerms S (L.take m)).length cap2 ∧ OwnInts w.heap.size o (addTerms S (L.take m)) wq ∧ Below w.heap.size w wq) (fun _ i _ => L.length - (intOf i).toNat)
    case atStart => exact ⟨0,g,cap,by omega,rfl,rfl,HO.out,hW⟩
    case round =>
     obtain ⟨m,g2,cap2,hm,rfl,rfl,hO2,hW2⟩ := hrel
     have hz2 := hW2.size
     have c1 := (hW2.cell (p := ⟨b,off + k * 2 + 1,none⟩) hb).trans K1.out
     by_cases hlm : m < L.length
     · obtain ⟨b',off',rfl,hb',d0⟩ := IntsAt.elem HV.out m hlm
       replace d0 := (hW2.cell (p := ⟨b',off' + m,none⟩) hb').trans d0
       have HP := Lib.hid (addTerms_take S L m hlm)
       have hal := addTerms_len S (L.take m)
       rw [List.length_take] at hal
       by_cases hp : 0 ≤ L[m]
       · have HA := Lib.hid (HP.out.trans (show addVar _ _ = putI _ _ from if_pos hp))
         have hput := specPut_any w.heap.size g2 cap2 (addTerms S (L.take m)) L[m] wr hO2 (by omega) (by omega)
         rw [← HA.out] at hput
         have hd : decide (L[m] ≥ 0) = true := decide_eq_true hp
         clear hO2 hal
         go_wp2_with (go_at_call 78; refine hput.mono ?_; rintro e w3 ⟨g3,cap3,rfl,hO3,hb3⟩)
         go_roundw
         case rel => exact ⟨m + 1,g3,cap3,by omega,by go_num,rfl,hO3,hW2.trans (hb3.mono hz2)⟩
         case measure => simp [intOf]; omega
       · have HA := Lib.hid (HP.out.trans (show addVar _ _ = _ from if_neg hp))
         have HO2 := Lib.hid hO2
         clear hO2 hal
         go_wp2
         go_roundw
         case rel => exact ⟨m + 1,g2,cap2,by omega,by go_num,by rw [HA.out],by rw [HA.out]; exact HO2.out,hW2⟩
         case measure => simp [intOf]; omega
     · obtain rfl : m = L.length := by omega
       have he : addTerms S (L.take L.length) = varsOf (l.take (k + 1)) := by
        rw [List.take_of_length_le (Nat.le_refl _),HN.out]
       go_wp2
       go_roundw
       case rel => exact ⟨k + 1,g2,cap2,by omega,by go_num,by rw [← he],by rw [← he]; exact hO2,hW2⟩
       case measure => simp [intOf]; omega
  · obtain rfl : k = l.length := by omega
    have he : varsOf (l.take l.length) = varsOf l := by rw [List.take_of_length_le (Nat.le_refl _)]
    rw [he] at hO
    have HO := Lib.hid hO
    clear hO
    go_wp2
    go_ret
    exact ⟨_,by rw [he]; rfl,HO.out,hW⟩
set_option maxHeartbeats 3200000 in
set_option maxRecDepth 100000 in
theorem specIsValidAtom_any (v : Value) (l : List Rel) (r : Int) (V : Value) (vs : List Int) (w : World) (hl : RelsAt w w.heap.size v l) (hn : l.length ≤ 1048576) (hV : IntsAt w w.heap.size V vs) (_ : IntsWf vs) :
 Calls Tryz.prog 80 #[v,.agg #[.int .i64 r,V]] w fun e w' => e = .returned (.bool (atomOk l r vs)) ∧ Below w.heap.size w w' := by
 have HL := Lib.hid hl
 have HV := Lib.hid hV
 obtain ⟨A,c,rfl,hlc,hcm,-⟩ := hl
 obtain ⟨A',c',rfl,hlc',hcm',-⟩ := hV
 unfold maxLen at hcm hcm'
 have hE : Below w.heap.size w (w.alloc (.cells #[.int .i64 r,.slice A' vs.length c'] 111)) := (Below.refl _ _).alloc (Nat.le_refl _) _
 have hEz : w.heap.size + 1 ≤ (w.alloc (.cells #[.int .i64 r,.slice A' vs.length c'] 111)).heap.size := by simp
 have k0 : (w.alloc (.cells #[.int .i64 r,.slice A' vs.length c'] 111)).cell? ⟨w.heap.size,0,none⟩ = some (.int .i64 r) := by simp [go_sem]
 have k1 : (w.alloc (.cells #[.int .i64 r,.slice A' vs.length c'] 111)).cell? ⟨w.heap.size,1,none⟩ = some (.slice A' vs.length c') := by simp [go_sem]
 have G0 := Aft.cell hEz k0
 have G1 := Aft.cell hEz k1
 have K1 := Lib.hid k1
 have hcon := fun b h (u : Aft (w.alloc (.cells #[.int .i64 r,.slice A' vs.length c'] 111)).heap.size (w.alloc (.cells #[.int .i64 r,.slice A' vs.length c'] 111))) => specAreValid_at2 l b h (.slice A l.length c) u.now ((HL.out.below (hE.trans (u.is.mono hE.size)) (Nat.le_refl _)).more (hE.trans (u.is.mono hE.size)).size)
 clear k0 k1
 cases hr : validRels l with
 | false =>
   have HF := Lib.hid (atomOk_rels (r := r) (vs := vs) hr)
   replace hcon := hcon false hr
   clear hr
   go_enter Tryz.func80,Tryz.ntmps80
   go_wp2
   refine wp_region_aft (Below.refl (w.alloc (.cells #[.int .i64 r,.slice A' vs.length c'] 111)).heap.size (w.alloc (.cells #[.int .i64 r,.slice A' vs.length c'] 111))) (by kernel_rfl) (by kernel_rfl) ?_
   repeat (go_big_quiet_step (((go_at_call 38; exact calls_aft (Nat.le_refl _) (hcon _)))))
   refine wpQuiet_nil ?_
   refine aft_end ?_
   intro w1 hh
   go_wp2
   go_ret
   exact ⟨ret_bool HF.out.symm,hE.trans (hh.mono hE.size)⟩
 | true =>
   have HR := Lib.hid hr
   replace hcon := hcon true hr
   clear hr
   by_cases hin : 0 ≤ r ∧ r < l.length
   · obtain ⟨k,rfl⟩ : ∃ k : Nat,r = (k : Int) := ⟨r.toNat,by omega⟩
     have hk : k < l.length := by omega
     have HIN := Lib.hid hin
     have hin' := fun w => l1In_at (k : Int) 0 ((l.length : Int) - 1) true (inB_true (by omega)) w
     obtain ⟨b,off,rfl,hb,-,c1,-⟩ := RelsAt.elem HL.out k hk
     have C1 := Aft.cell (B := (w.alloc (.cells #[.int .i64 (k : Int),.slice A' vs.length c'] 111)).heap.size) (w := (w.alloc (.cells #[.int .i64 (k : Int),.slice A' vs.length c'] 111))) (by omega) ((hE.cell (p := ⟨b,off + k * 3 + 1,none⟩) hb).trans c1)
     have ha : Hid (l[k].arity = arityAt l (k : Int)) := Lib.hid (by rw [arityAt_in (by omega)]; rfl)
     clear c1 hin
     by_cases hlen : (vs.length : Int) = l[k].arity
     · have HLEN := Lib.hid (hlen.trans ha.out)
       have hbn : ((vs.length : Int) != l[k].arity) = false := by rw [hlen]; simp
       clear hlen
       generalize l[k].arity = q at *
       go_enter Tryz.func80,Tryz.ntmps80
       go_wp2
       refine wp_region_aft (Below.refl (w.alloc (.cells #[.int .i64 (k : Int),.slice A' vs.length c'] 111)).heap.size (w.alloc (.cells #[.int .i64 (k : Int),.slice A' vs.length c'] 111))) (by kernel_rfl) (by kernel_rfl) ?_
       repeat (go_big_quiet_step (first | ((go_at_call 38; exact calls_aft (Nat.le_refl _) (hcon _))) | ((go_at_call 74; exact calls_aft_same (hin' _)))))
       refine wpQuiet_nil ?_
       refine aft_end ?_
       intro w1 hh
       clear hcon hin' C1 G0 G1
       go_wp2
       go_loopw [5] (fun i wr => ∃ j : Nat,j ≤ vs.length ∧ i = .int .i64 j ∧ Hid (TermsTo vs j) ∧ Below (w.alloc (.cells #[.int .i64 (k : Int),.slice A' vs.length c'] 111)).heap.size (w.alloc (.cells #[.int .i64 (k : Int),.slice A' vs.length c'] 111)) wr) (fun i _ => vs.length - (intOf i).toNat)
       case atStart => exact ⟨0,by omega,rfl,Lib.hid (TermsTo.zero vs),hh⟩
       case round =>
        obtain ⟨j,hj,rfl,HT,hW⟩ := hrel
        have f1 := (hW.cell (p := ⟨w.heap.size,1,none⟩) hEz).trans K1.out
        by_cases hlt : j < vs.length
        · obtain ⟨b',off',rfl,hb',d0⟩ := IntsAt.elem HV.out j hlt
          replace d0 := ((hE.trans (hW.mono hE.size)).cell (p := ⟨b',off' + j,none⟩) hb').trans d0
          cases hv : validT vs[j] with
          | false =>
            have hvc := l1In_at vs[j] (-10) 4 false hv wr
            have HF := Lib.hid (atomOk_val (l := l) (r := (k : Int)) j hlt hv)
            clear hv
            go_wp2_with (go_at_call 74; refine hvc.mono ?_; rintro e w2 ⟨rfl,rfl⟩)
            go_ret
            exact ⟨ret_bool HF.out.symm,hE.trans (hW.mono hE.size)⟩
          | true =>
            have hvc := l1In_at vs[j] (-10) 4 true hv wr
            have HN := Lib.hid (HT.out.next hlt hv)
            clear hv
            go_wp2_with (go_at_call 74; refine hvc.mono ?_; rintro e w2 ⟨rfl,rfl⟩)
            go_roundw
            case rel => exact ⟨j + 1,by omega,by go_num,HN,hW⟩
            case measure => simp [intOf]; omega
        · obtain rfl : j = vs.length := by omega
          have HF := Lib.hid (atomOk_yes HR.out HIN.out HLEN.out HT.out)
          go_wp2
          go_ret
          exact ⟨ret_bool HF.out.symm,hE.trans (hW.mono hE.size)⟩
     · have HF := Lib.hid (atomOk_len (l := l) (r := (k : Int)) (vs := vs) (fun e => hlen (e.trans ha.out.symm)))
       have hbn : ((vs.length : Int) != l[k].arity) = true := bne_iff_ne.2 hlen
       clear hlen
       generalize l[k].arity = q at *
       go_enter Tryz.func80,Tryz.ntmps80
       go_wp2
       refine wp_region_aft (Below.refl (w.alloc (.cells #[.int .i64 (k : Int),.slice A' vs.length c'] 111)).heap.size (w.alloc (.cells #[.int .i64 (k : Int),.slice A' vs.length c'] 111))) (by kernel_rfl) (by kernel_rfl) ?_
       repeat (go_big_quiet_step (first | ((go_at_call 38; exact calls_aft (Nat.le_refl _) (hcon _))) | ((go_at_call 74; exact calls_aft_same (hin' _)))))
       refine wpQuiet_nil ?_
       refine aft_end ?_
       intro w1 hh
       go_wp2
       go_ret
       exact ⟨ret_bool HF.out.symm,hE.trans (hh.mono hE.size)⟩
   · have HF := Lib.hid (atomOk_idx (l := l) (r := r) (vs := vs) hin)
     have hin' := fun w => l1In_at r 0 ((l.length : Int) - 1) false (inB_false (by omega)) w
     clear hin
     go_enter Tryz.func80,Tryz.ntmps80
     go_wp2
     refine wp_region_aft (Below.refl (w.alloc (.cells #[.int .i64 r,.slice A' vs.length c'] 111)).heap.size (w.alloc (.cells #[.int .i64 r,.slice A' vs.length c'] 111))) (by kernel_rfl) (by kernel_rfl) ?_
     repeat (go_big_quiet_step (first | ((go_at_call 38; exact calls_aft (Nat.le_refl _) (hcon _))) | ((go_at_call 74; exact calls_aft_same (hin' _)))))
     refine wpQuiet_nil ?_
     refine aft_end ?_
     intro w1 hh
     go_wp2
     go_ret
     exact ⟨ret_bool HF.out.symm,hE.trans (hh.mono hE.size)⟩
theorem specIsValidAtom_at (v : Value) (l : List Rel) (r : Int) (V : Value) (vs : List Int) (b : Bool) (h : atomOk l r vs = b) (w : World) (hl : RelsAt w w.heap.size v l) (hn : l.length ≤ 1048576) (hV : IntsAt w w.heap.size V vs) (hw : IntsWf vs) :
 Calls Tryz.prog 80 #[v,.agg #[.int .i64 r,V]] w fun e w' => e = .returned (.bool b) ∧ Below w.heap.size w w' := by
 subst h; exact specIsValidAtom_any v l r V vs w hl hn hV hw
end Go.Proofs.YtobdijcnfmgidaaGreat
