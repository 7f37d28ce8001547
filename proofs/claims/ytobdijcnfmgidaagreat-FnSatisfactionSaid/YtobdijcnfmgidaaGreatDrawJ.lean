/- Walks and plain lemmas for the laws of this seat. -/
import Derived.Deep.Quiet
import Derived.Test.YtobdijcnfmgidaaGreatInts
import Derived.Test.YtobdijcnfmgidaaGreatDrawR
import Derived.Test.YtobdijcnfmgidaaGreatAft
import Derived.Test.YtobdijcnfmgidaaGreatDrawF
import Derived.Test.YtobdijcnfmgidaaGreatDrawI
namespace Go.Proofs.YtobdijcnfmgidaaGreat
open Go.RowKit
def GivesAny (n : Nat) (w : World) (p : Nat) (cv : Value) (code : List UInt8) (e : Ending) (w' : World) : Prop :=
 ∃ V x,e = .returned V ∧ Instance_lo w.heap.size w' w'.heap.size V x ∧ InstSmall n x ∧ (∃ st',CurS w' p cv code st') ∧ w.grownBy w' (some p)
set_option maxHeartbeats 12800000 in
set_option maxRecDepth 100000 in
theorem l5Any_c (p : Nat) (cv : Value) (code : List UInt8) (st : DrawSt) (w : World) (hC : CurS w p cv code st) :
 Calls Tryz.prog 67 #[.pointer (some ⟨p,0,none⟩)] w (GivesAny 9 w p cv code) := by
 have hp := Cur.lt hC
 have hb := belowR_bd code
 have a0 := fun o => box_cell w #[.slice none 0 0,.slice none 0 0] 27 o
 go_enter Tryz.func67,Tryz.ntmps67
 go_wp2_with fail
 refine (l5Target_c p cv code _ 5 (by decide) 3 (by decide) (by decide) _ (Cur.alloc hC _)).mono ?_
 rintro e w1 ⟨V1,x1,rfl,hO1,hI1,hR1,⟨st1,hC1⟩,hg1⟩
 obtain ⟨rl,L⟩ := x1
 dsimp only at hR1
 subst hR1
 obtain ⟨P,c,Q,d,rfl⟩ := Inst5_form (hO1.at_ (Nat.le_refl _))
 have hs1 : w.heap.size + 1 ≤ w1.heap.size := by have := hg1.size; simpa using this
 have hsA : (w.alloc (.cells #[.slice none 0 0,.slice none 0 0] 27)).heap.size = w.heap.size + 1 := by simp
 rw [hsA] at hO1
 have hne : w.heap.size ≠ p := by omega
 have R0 : w1.cell? ⟨w.heap.size,0,none⟩ = some (.slice none 0 0) := grown_cell hg1 ((a0 0).trans rfl) hne
 have R1 : w1.cell? ⟨w.heap.size,1,none⟩ = some (.slice none 0 0) := grown_cell hg1 ((a0 1).trans rfl) hne
 have RZ := fun o => grown_frozen hg1 (o := o) (by simp) hne (World.frozen?_alloc_at _ _ _ _ rfl)
 have hG1 : w.grownBy w1 (some p) := (World.grownBy_alloc w _ (some p)).trans hg1
 clear a0 hg1
 obtain ⟨g,hg⟩ : ∃ g,g = w1.heap.size := ⟨_,rfl⟩
 go_wp2_with fail
 have y0 : (w1.alloc (.cells #[.slice P 5 c,.slice Q L.length d] 27)).cell? ⟨g,0,none⟩ = some (.slice P 5 c) := by rw [hg]; simp [go_sem]
 have y1 : (w1.alloc (.cells #[.slice P 5 c,.slice Q L.length d] 27)).cell? ⟨g,1,none⟩ = some (.slice Q L.length d) := by rw [hg]; simp [go_sem]
 have yz : ∀ o,(w1.alloc (.cells #[.slice P 5 c,.slice Q L.length d] 27)).frozen? ⟨g,o,none⟩ = false := by intro o; rw [hg]; simp [go_sem]
 have yA : AllSl (w1.alloc (.cells #[.slice P 5 c,.slice Q L.length d] 27)) g := by
  intro o u hu
  rw [hg,box_cell] at hu
  match o,hu with
  | 0,hu => simp at hu; subst hu; exact ⟨_,_,_,rfl⟩
  | 1,hu => simp at hu; subst hu; exact ⟨_,_,_,rfl⟩
  | o + 2,hu => simp at hu
 have hsz : (w1.alloc (.cells #[.slice P 5 c,.slice Q L.length d] 27)).heap.size = g + 1 := by rw [hg]; simp
 have hAl : Below g w1 (w1.alloc (.cells #[.slice P 5 c,.slice Q L.length d] 27)) := (Below.refl _ _).alloc (by omega) _
 have hC2 : CurS (w1.alloc (.cells #[.slice P 5 c,.slice Q L.length d] 27)) p cv code st1 := Cur.alloc hC1 _
 have hG2 : w.grownBy (w1.alloc (.cells #[.slice P 5 c,.slice Q L.length d] 27)) (some p) := hG1.trans (World.grownBy_alloc _ _ _)
 rw [← hg] at hO1 ⊢
 have hgl : w.heap.size < g := by omega
 generalize w1.alloc (.cells #[.slice P 5 c,.slice Q L.length d] 27) = W at y0 y1 yz yA hsz hAl hC2 hG2 ⊢
 have R0 := (hAl.cell (p := ⟨w.heap.size,0,none⟩) (by show w.heap.size < g; omega)).trans R0
 have R1 := (hAl.cell (p := ⟨w.heap.size,1,none⟩) (by show w.heap.size < g; omega)).trans R1
 have RZ := fun o => (hAl.frozen (p := ⟨w.heap.size,o,none⟩) (by show w.heap.size < g; omega)).trans (RZ o)
 have hO2 := hO1.below hAl (Nat.le_refl _)
 clear hO1 hAl hC1 hG1 hg hsA
 refine (l1Once_r p cv code _ _ _ hC2).mono ?_; rintro e w3 ⟨rfl,hC3,hg3⟩
 generalize onceR code st1 2 = b at *
 obtain ⟨bb,st3⟩ := b
 dsimp only at *
 have hch := chg_of_grown hg3
 have hO3 := hO2.chg hch (.inr (by omega))
 have hG3 := hG2.trans hg3
 have x0 := grown_cell hg3 y0 (by omega)
 have x1 := grown_cell hg3 y1 (by omega)
 have xz := fun o => grown_frozen hg3 (b := g) (o := o) (by omega) (by omega) (yz o)
 have xA : AllSl w3 g := yA.cells fun o => hch.cell (by omega) (fun h => by have := h.1; have := h.2; omega)
 have R0 := grown_cell hg3 R0 hne
 have R1 := grown_cell hg3 R1 hne
 have RZ := fun o => grown_frozen hg3 (o := o) (by omega) hne (RZ o)
 have hs3 := hg3.size
 have hgs : g < w3.heap.size := by omega
 have HI := Lib.hid (hI1.more (show 5 ≤ 8 by decide))
 clear hO2 hC2 hG2 hg3 hch y0 y1 yz yA hs1
 cases bb with
 | false =>
  obtain ⟨BB,CC,hBC,hBB,hB1,hCC,hO⟩ : ∃ BB CC,(CC ≤ g ∨ g + 1 ≤ BB) ∧ BB ≤ CC ∧ w.heap.size < BB ∧ CC ≤ w3.heap.size ∧ Instance_own BB CC (.agg #[.slice P 5 c,.slice Q L.length d]) ⟨sigs5,L⟩ w3 := ⟨_,_,.inl (Nat.le_refl _),by omega,Nat.lt_succ_self _,by omega,hO3⟩
  have XA := xA
  clear hO3 hI1 xA hsz hs3
  generalize hW5 : w3 = w5 at *
  clear hW5
  go_wp2_with fail
  have HRO := Lib.hid R0
  have HR1 := Lib.hid R1
  have HRZ := Lib.hid RZ
  clear R0 R1 RZ
  have j1 := hb st3 14
  have j2 := j1.2 (by omega)
  have j1 := j1.1
  refine (l1Below_r p cv code _ _ _ hC3).mono ?_; rintro e w7 ⟨rfl,hC7,hg7⟩
  generalize belowR code st3 14 = bn at *
  obtain ⟨nn,st7⟩ := bn
  dsimp only at *
  have hch7 := chg_of_grown hg7
  have hO7 := hO.chg hch7 (.inr (by omega))
  have hG7 := hG3.trans hg7
  have y0 := grown_cell hg7 x0 (by omega)
  have y1 := grown_cell hg7 x1 (by omega)
  have yz := fun o => grown_frozen hg7 (b := g) (o := o) hgs (by omega) (xz o)
  have R0 := grown_cell hg7 HRO.out hne
  have R1 := grown_cell hg7 HR1.out hne
  have RZ := fun o => grown_frozen hg7 (o := o) (by omega) hne (HRZ.out o)
  have yA : AllSl w7 g := XA.cells fun o => hch7.cell (b := g) (o := o) hgs (fun h => by have := h.1; have := h.2; omega)
  have YA := Lib.hid yA
  have hs7 := hg7.size
  clear XA yA
  have hgs7 : g < w7.heap.size := by omega
  obtain ⟨_,_,hv,hOR,hOF⟩ := hO7
  simp only [Value.agg.injEq,Array.mk.injEq,List.cons.injEq,and_true] at hv
  obtain ⟨rfl,rfl⟩ := hv
  have hRf : ∃ q,P = some ⟨q,0,none⟩ := by
   rcases hOR.1.2 with ⟨h0,h1⟩ | ⟨q,cap,cur,h0,_⟩
   ·
    cases h1
   ·
    injection h0 with h0 _ _; exact ⟨q,h0⟩
  obtain ⟨q,rfl⟩ := hRf
  have hfd := (hOF.at_ (D := w7.heap.size) (by omega)).form
  obtain ⟨_,_,hv2,hd1,hd2⟩ := hfd
  injection hv2 with e1 _ e2
  subst e1 e2
  unfold maxLen at hd2
  have hRd := (hOR.at_ (D := w7.heap.size) (by omega)).form
  obtain ⟨_,_,hv2,hr1,hr2⟩ := hRd
  injection hv2 with e1 e3 e2
  clear e3
  subst e1 e2
  replace hr1 : 5 ≤ c := hr1
  unfold maxLen at hr2
  have HOR := Lib.hid hOR
  have HOF := Lib.hid hOF
  have HG7 := Lib.hid hG7
  have HC7 := Lib.hid hC7
  have hLl : L.length ≤ 8 := HI.out.2.1
  clear hO hOR hOF hG7 hch7 hg7 x0 x1 xz hC3 hG3 HRO HR1 HRZ
  have hn : nn = 0 ∨ nn = 1 ∨ nn = 2 ∨ 3 ≤ nn := by omega
  rcases hn with rfl | rfl | rfl | hn
  ·
   have hS : Holds [(⟨g,1,none⟩,.slice Q L.length d)] w7 := by
    intro q hq
    simp only [List.mem_cons,List.not_mem_nil,or_false] at hq
    subst hq
    exact y1
   have hSb : ∀ q ∈ [((⟨g,1,none⟩ : Addr),Value.slice Q L.length d)],q.1.block = g := by
    intro q hq
    simp only [List.mem_cons,List.not_mem_nil,or_false] at hq
    subst hq
    rfl
   have HSb := Lib.hid hSb
   clear hSb
   have g1 := Keep.cell (h0 := hS) (a := ⟨g,1,none⟩) (v := .slice Q L.length d) (by simp)
   go_wp2_with fail
   refine wp_region_planL (C := fun w' => ∃ u : Keep _ w7 hS,w' = u.now) (.still 0 (.still 1 (.still 2 (.move true 3 (.move true 4 (.move true 5 (.still 6 (.move false 7 .done .none)) .none) .none) .none)))) (by kernel_rfl) (by kernel_rfl) (by kernel_rfl) (fun _ => ⟨⟨w7.drew,hS⟩,rfl⟩) ?_
   iterate 3
    refine plan_look _ rfl rfl ?_
    go_big_quiet_step (fail)
    refine wpQuiet_nil ?_
   refine plan_call _ 117 _ _ _ _ _ rfl _ Tryz.func117 (by kernel_rfl) (by kernel_rfl) ?_ True.intro
   refine (l4Any_c p cv code _ _ (Cur.drewN HC7.out 1)).mono ?_
   rintro _ w8 ⟨r,V8,vs,rfl,hr,hO8,hl8,hvs,⟨st8,hC8⟩,hg8⟩
   have hg8' : w7.grownBy w8 (some p) := ⟨hg8.os,hg8.tape,hg8.output,hg8.size,hg8.block⟩
   have hS8 := hS.grown hg8' (fun q hq => ⟨by rw [HSb.out q hq]; exact hgs7,by rw [HSb.out q hq]; intro e; injection e; omega⟩)
   refine ⟨_,rfl,fun _ => ⟨⟨_,hS8⟩,rfl⟩,?_⟩
   refine plan_put ?_ (by simp only [Act.put,putA,putB,putC]; rfl)
   obtain ⟨PU,cu,rfl,-⟩ := hO8.at_
   have hz8 := hg8'.size
   have hch8 := chg_of_grown hg8'
   have hAl8 := (Below.refl w8.heap.size w8).alloc (Nat.le_refl _) (.cells #[.int .i64 r,.slice PU vs.length cu] 66)
   refine plan_value (u := .slice (some ⟨w8.heap.size,0,none⟩) 1 1) (w' := w8.alloc (.cells #[.int .i64 r,.slice PU vs.length cu] 66)) _ rfl rfl rfl (by simp [go_sem]) (fun _ => ⟨⟨_,hS8.below hAl8 (fun q hq => by rw [HSb.out q hq]; omega)⟩,rfl⟩) ?_ True.intro
   refine plan_put ?_ (by simp only [Act.put,putA,putB,putC]; rfl)
   obtain ⟨Vs,hF⟩ := HOF.out
   have HF8 := Lib.hid ((hF.chg hch8 (.inr (by omega))).below hAl8 (by omega))
   have hVl := hF.len
   have hr' : SliceAt pairCells (w8.alloc (.cells #[.int .i64 r,.slice PU vs.length cu] 66)) (w8.heap.size + 1) (.slice (some ⟨w8.heap.size,0,none⟩) [(r,Value.slice PU vs.length cu)].length 1) [(r,Value.slice PU vs.length cu)] := by
    refine ⟨_,_,rfl,Nat.le_refl _,by simp [maxLen],?_,fun h => by cases h⟩
    intro _
    refine ⟨_,_,rfl,by omega,?_⟩
    intro j u hu
    rw [Nat.zero_add,box_cell]
    simpa [pairCells] using hu
   refine plan_app pairCells 2 32 (r := [(r,Value.slice PU vs.length cu)]) (fun p hp u hu => by simp only [List.mem_singleton] at hp; subst hp; simp [pairCells] at hu; rcases hu with rfl | rfl <;> rfl) pairCells_len _ rfl rfl Tryz.underlying25 infoFct rfl (by decide) HF8.out.row _ _ rfl rfl ⟨w8.heap.size,0,none⟩ 1 1 rfl rfl hr' (by have := pairs_len hVl; simp at *; omega) (by have := pairs_len hVl; simp at *; omega) (by simp; omega) ?_ True.intro
   intro v9 w9 hrow hB9 hg9 _
   have hz9 : w8.heap.size + 1 ≤ w9.heap.size := by have := hB9.size; simpa using this
   have hUO : IntS_own BB w9.heap.size (.slice PU vs.length cu) vs (w8.alloc (.cells #[.int .i64 r,.slice PU vs.length cu] 66)) := by
    refine ((IntsO.of hO8).below hAl8 (Nat.le_refl _)).mono ?_ (by omega)
    have : w7.drew.heap.size = w7.heap.size := rfl
    have : (w7.drewN 1).heap.size = w7.heap.size := rfl
    omega
   have hFS := FactSO.snoc (e := 66) (by decide) (x := ⟨r,vs⟩) (C' := w9.heap.size) HF8.out (by omega) hrow hg9 (row_inside hrow (Nat.le_refl _)) hUO (fun i hi g h1 h2 => by
    have q1 : w7.heap.size ≤ g := (hO8.lt g h2).1
    have q2 := (hF.el i (by have := hF.len; omega) hi).2 g h1
    omega)
   obtain ⟨P9,c9,rfl,-⟩ := (hFS.at_ (Nat.le_refl _)).form
   have hAB : Below BB (w8.alloc (.cells #[.int .i64 r,.slice PU vs.length cu] 66)) w9 := hB9
   have hbgB : ∀ o,w9.cell? ⟨g,o,none⟩ = w8.cell? ⟨g,o,none⟩ := fun o => by
    have h1 := World.cell?_of_block (w := w8.alloc (.cells #[.int .i64 r,.slice PU vs.length cu] 66)) (a := ⟨g,o,none⟩) (hg9.block g (by simp; omega) (fun e => by
     have := hF.ins g e.symm
     have h3 := (World.ownsRow.lt hF.row g e.symm).1
     omega))
    exact h1.trans (hAl8.cell (p := ⟨g,o,none⟩) (by show g < _; omega))
   have hbgF : ∀ o,w9.frozen? ⟨g,o,none⟩ = w8.frozen? ⟨g,o,none⟩ := fun o => by
    have h1 := World.frozen?_of_block (w := w8.alloc (.cells #[.int .i64 r,.slice PU vs.length cu] 66)) (a := ⟨g,o,none⟩) (hg9.block g (by simp; omega) (fun e => by
     have := hF.ins g e.symm
     have h3 := (World.ownsRow.lt hF.row g e.symm).1
     omega))
    exact h1.trans (hAl8.frozen (p := ⟨g,o,none⟩) (by show g < _; omega))
   have z0 := (hbgB 0).trans (grown_cell hg8' y0 (by omega))
   have z1 := (hbgB 1).trans (grown_cell hg8' y1 (by omega))
   have zz := fun o => (hbgF o).trans (grown_frozen hg8' hgs7 (by omega) (yz o))
   have hbl : Below (w.heap.size + 1) w8 w9 := (hAl8.mono (by omega)).trans (hB9.mono (by omega))
   have r0 := (hbl.cell (p := ⟨w.heap.size,0,none⟩) (Nat.lt_succ_self _)).trans (grown_cell hg8' R0 hne)
   have r1 := (hbl.cell (p := ⟨w.heap.size,1,none⟩) (Nat.lt_succ_self _)).trans (grown_cell hg8' R1 hne)
   have rz := fun o => (hbl.frozen (p := ⟨w.heap.size,o,none⟩) (Nat.lt_succ_self _)).trans (grown_frozen hg8' (by omega) hne (RZ o))
   have hRel : RelationS_own BB CC (.slice (some ⟨q,0,none⟩) 5 c) sigs5 w9 := by
    refine ⟨World.ownsRow.kept ((HOR.out.chg hch8 (.inr (by omega))).below hAl8 (by omega)).1 hg9 ?_,HOR.out.2⟩
    rcases own_ne ((HOR.out.chg hch8 (.inr (by omega))).below hAl8 (by omega)).1 HF8.out.row (by decide) with h1 | h1
    ·
     exact .inl h1
    ·
     exact .inr h1
   have HREL := Lib.hid hRel
   have HFS := Lib.hid (FactSO.at_ hFS (Nat.le_refl _))
   have HFO := Lib.hid hFS
   have HBL := Lib.hid hbl
   have HC8 := Lib.hid hC8
   have HG8 := Lib.hid (HG7.out.trans hg8')
   have hFl : L.length + 1 = (L ++ [(⟨r,vs⟩ : Fct)]).length := by simp
   have HA9' := Lib.hid (show AllSl w9 g from (YA.out.cells fun o => hch8.cell (b := g) (o := o) hgs7 (fun h => by have := h.1; have := h.2; omega)).cells hbgB)
   have HSM : Hid (InstSmall 9 ⟨sigs5,L ++ [⟨r,vs⟩]⟩) := Lib.hid ⟨HI.out.1,by show (L ++ [(⟨r,vs⟩ : Fct)]).length ≤ 9; simp; omega,fun f hf => by
    rcases List.mem_append.1 hf with h | h
    ·
     exact HI.out.2.2 f h
    ·
     rw [List.mem_singleton.1 h]; exact ⟨hr,hl8,hvs⟩⟩
   refine ⟨fun _ => ⟨⟨w9,fun q hq => by
    simp only [List.mem_cons,List.not_mem_nil,or_false] at hq
    subst hq
    exact z1⟩,rfl⟩,?_⟩
   clear hFS hRel hrow hB9 hg9 hr' hAB hbgB hbgF g1 hbl hC8 hO8 hF hUO hS8 hvs hg8 hg8' hch8 y0 y1 yz R0 R1 RZ hFl hAl8
   refine plan_put ?_ (by simp only [Act.put,putA,putB,putC]; rfl)
   refine plan_look _ rfl rfl ?_
   go_big_quiet_step (fail)
   refine wpQuiet_nil ?_
   refine plan_skip (w' := w9.setCell ⟨g,1,none⟩ (.slice P9 (L ++ [(⟨r,vs⟩ : Fct)]).length c9)) _ rfl rfl rfl (by simp [go_sem,z1,zz]) (fun e => by cases e) ?_ True.intro
   refine plan_put ?_ (by simp only [Act.put]; rfl)
   refine plan_done ?_
   have hA9 : Chg (Mid g (g + 1)) w9 (w9.setCell ⟨g,1,none⟩ (.slice P9 (L ++ [(⟨r,vs⟩ : Fct)]).length c9)) := (Chg.refl _ _).setCell (p := ⟨g,1,none⟩) ⟨Nat.le_refl _,Nat.lt_succ_self _⟩ _
   have u0 : (w9.setCell ⟨g,1,none⟩ (.slice P9 (L ++ [(⟨r,vs⟩ : Fct)]).length c9)).cell? ⟨g,0,none⟩ = some (.slice (some ⟨q,0,none⟩) 5 c) := by simp [go_sem,z0]
   have u1 : (w9.setCell ⟨g,1,none⟩ (.slice P9 (L ++ [(⟨r,vs⟩ : Fct)]).length c9)).cell? ⟨g,1,none⟩ = some (.slice P9 (L ++ [(⟨r,vs⟩ : Fct)]).length c9) := by simp [go_sem,z1]
   have r0 := (hA9.cell (b := w.heap.size) (o := 0) (by omega) (fun h => by have := h.1; omega)).trans r0
   have r1 := (hA9.cell (b := w.heap.size) (o := 1) (by omega) (fun h => by have := h.1; omega)).trans r1
   have rz := fun o => (hA9.frozen (b := w.heap.size) (o := o) (by omega) (fun h => by have := h.1; omega)).trans (rz o)
   have hsz9 : (w9.setCell ⟨g,1,none⟩ (.slice P9 (L ++ [(⟨r,vs⟩ : Fct)]).length c9)).heap.size = w9.heap.size := by simp [World.setCell]
   have hLo9 : Instance_lo (w.heap.size + 1) w9 w9.heap.size (.agg #[.slice (some ⟨q,0,none⟩) 5 c,.slice P9 (L ++ [(⟨r,vs⟩ : Fct)]).length c9]) ⟨sigs5,L ++ [⟨r,vs⟩]⟩ :=
    Instance_own.lo (Instance_own.mono (B' := w.heap.size + 1) (C' := w9.heap.size) ⟨_,_,rfl,HREL.out.mono (Nat.le_refl _) (by omega),⟨_,HFO.out⟩⟩ (by omega) (Nat.le_refl _)) (Nat.le_refl _)
   have HLOA := Lib.hid ((hLo9.off HA9'.out 1 (.slice P9 (L ++ [(⟨r,vs⟩ : Fct)]).length c9)).more (B' := (w9.setCell ⟨g,1,none⟩ (.slice P9 (L ++ [(⟨r,vs⟩ : Fct)]).length c9)).heap.size) (by simp [World.setCell]))
   clear hLo9
   have HA9 := Lib.hid hA9
   have HSZ9 := Lib.hid hsz9
   generalize w9.setCell ⟨g,1,none⟩ (.slice P9 (L ++ [(⟨r,vs⟩ : Fct)]).length c9) = wA at *
   clear hA9 z0 z1 zz hsz9
   go_wp2
   have hst2 : ∀ u0 u1,Chg (Mid w.heap.size (w.heap.size + 1)) wA ((wA.setCell ⟨w.heap.size,0,none⟩ u0).setCell ⟨w.heap.size,1,none⟩ u1) := fun u0 u1 => ((Chg.refl _ _).setCell (p := ⟨w.heap.size,0,none⟩) ⟨Nat.le_refl _,Nat.lt_succ_self _⟩ _).setCell (p := ⟨w.heap.size,1,none⟩) ⟨Nat.le_refl _,Nat.lt_succ_self _⟩ _
   have hlast := fun u0 u1 => ((HBL.out.mono (show w.heap.size ≤ w.heap.size + 1 by omega)).trans (HA9.out.below (B := w.heap.size) (fun k h => by have := h.1; omega) (by omega))).trans ((hst2 u0 u1).below (fun k h => h.1) (by rw [HSZ9.out]; omega))
   refine bodyPost_ret (v := .agg #[.slice (some ⟨q,0,none⟩) 5 c,.slice P9 (L ++ [(⟨r,vs⟩ : Fct)]).length c9]) (by simp [results,Tryz.results67,go_sem,r0,r1]) rfl ⟨_,⟨sigs5,L ++ [⟨r,vs⟩]⟩,rfl,?_,HSM.out,⟨_,Cur.below hC HC8.out (hlast _ _)⟩,grown_of_below HG8.out (hlast _ _)⟩
   exact (HLOA.out.chg (hst2 _ _) (fun k h => h.2)).less (by omega)
  ·
   have hlo : Instance_lo (w.heap.size + 1) w7 w7.heap.size (.agg #[.slice (some ⟨q,0,none⟩) 5 c,.slice Q L.length d]) ⟨sigs5,L⟩ :=
    Instance_own.lo (Instance_own.mono (B' := w.heap.size + 1) (C' := w7.heap.size) ⟨_,_,rfl,HOR.out,HOF.out⟩ (by omega) (by omega)) (Nat.le_refl _)
   have HLO1 := Lib.hid (Instance_lo.dropRel (x := ⟨sigs5,L⟩) hlo 1 (by show 1 ≤ sigs5.length; decide))
   clear hlo
   have hc5 : 5 ≤ c := hr1
   go_upto_region 16 with fail
   have hA9 : Chg (Mid g (g + 1)) w7 (w7.setCell ⟨g,0,none⟩ (.slice (some ⟨q,3,none⟩) 4 (c - 1))) := (Chg.refl _ _).setCell (p := ⟨g,0,none⟩) ⟨Nat.le_refl _,Nat.lt_succ_self _⟩ _
   have HLOA : Hid (Instance_lo (w.heap.size + 1) (w7.setCell ⟨g,0,none⟩ (.slice (some ⟨q,3,none⟩) 4 (c - 1))) (w7.setCell ⟨g,0,none⟩ (.slice (some ⟨q,3,none⟩) 4 (c - 1))).heap.size (.agg #[.slice (some ⟨q,3,none⟩) 4 (c - 1),.slice Q L.length d]) ⟨sigs5.drop 1,L⟩) := Lib.hid ((HLO1.out.off YA.out 0 (.slice (some ⟨q,3,none⟩) 4 (c - 1))).more (by simp [World.setCell]))
   have u0 : (w7.setCell ⟨g,0,none⟩ (.slice (some ⟨q,3,none⟩) 4 (c - 1))).cell? ⟨g,0,none⟩ = some (.slice (some ⟨q,3,none⟩) 4 (c - 1)) := by simp [go_sem,y0]
   have u1 : (w7.setCell ⟨g,0,none⟩ (.slice (some ⟨q,3,none⟩) 4 (c - 1))).cell? ⟨g,1,none⟩ = some (.slice Q L.length d) := by simp [go_sem,y1]
   have r0 := (hA9.cell (b := w.heap.size) (o := 0) (by omega) (fun h => by have := h.1; omega)).trans R0
   have r1 := (hA9.cell (b := w.heap.size) (o := 1) (by omega) (fun h => by have := h.1; omega)).trans R1
   have rz := fun o => (hA9.frozen (b := w.heap.size) (o := o) (by omega) (fun h => by have := h.1; omega)).trans (RZ o)
   have hbA : Below w.heap.size w7 (w7.setCell ⟨g,0,none⟩ (.slice (some ⟨q,3,none⟩) 4 (c - 1))) := hA9.below (fun k h => by have := h.1; omega) (by omega)
   have HBA := Lib.hid hbA
   have HSZ9 := Lib.hid (show w7.heap.size = (w7.setCell ⟨g,0,none⟩ (.slice (some ⟨q,3,none⟩) 4 (c - 1))).heap.size by simp [World.setCell])
   clear y0 y1 yz hA9 hbA R0 R1 RZ
   generalize w7.setCell ⟨g,0,none⟩ (.slice (some ⟨q,3,none⟩) 4 (c - 1)) = wA at *
   go_wp2
   have hst2 : Chg (Mid w.heap.size (w.heap.size + 1)) wA ((wA.setCell ⟨w.heap.size,0,none⟩ (.slice (some ⟨q,3,none⟩) 4 (c - 1))).setCell ⟨w.heap.size,1,none⟩ (.slice Q L.length d)) := ((Chg.refl _ _).setCell (p := ⟨w.heap.size,0,none⟩) ⟨Nat.le_refl _,Nat.lt_succ_self _⟩ _).setCell (p := ⟨w.heap.size,1,none⟩) ⟨Nat.le_refl _,Nat.lt_succ_self _⟩ _
   have hlast := HBA.out.trans (hst2.below (fun k h => h.1) (by have := HSZ9.out; omega))
   have hdr : InstSmall 9 ⟨sigs5.drop 1,L⟩ := ⟨⟨by show (sigs5.drop 1).length ≤ 5; decide,fun r hr => sigs5_small.2 r (List.mem_of_mem_drop hr)⟩,by show L.length ≤ 9; omega,HI.out.2.2⟩
   refine bodyPost_ret (v := .agg #[.slice (some ⟨q,3,none⟩) 4 (c - 1),.slice Q L.length d]) (by simp [results,Tryz.results67,go_sem,r0,r1]) rfl ⟨_,⟨sigs5.drop 1,L⟩,rfl,?_,hdr,⟨_,Cur.below hC HC7.out hlast⟩,grown_of_below HG7.out hlast⟩
   exact (HLOA.out.chg hst2 (fun k h => h.2)).less (by omega)
  ·
   have hS : Holds [(⟨g,0,none⟩,.slice (some ⟨q,0,none⟩) 5 c)] w7 := by
    intro q hq
    simp only [List.mem_cons,List.not_mem_nil,or_false] at hq
    subst hq
    exact y0
   have hSb : ∀ z ∈ [((⟨g,0,none⟩ : Addr),Value.slice (some ⟨q,0,none⟩) 5 c)],z.1.block = g := by
    intro z hz
    simp only [List.mem_cons,List.not_mem_nil,or_false] at hz
    subst hz
    rfl
   have HSb := Lib.hid hSb
   clear hSb
   have g1 := Keep.cell (h0 := hS) (a := ⟨g,0,none⟩) (v := .slice (some ⟨q,0,none⟩) 5 c) (by simp)
   have i1 := hb st7 5
   have i2 := i1.2 (by omega)
   have i1 := i1.1
   have hc5 : 5 ≤ c := hr1
   go_wp2_with fail
   refine wp_region_planL (C := fun w' => ∃ u : Keep _ w7 hS,w' = u.now) (.still 0 (.still 1 (.still 2 (.move true 3 (.still 4 (.move true 5 (.still 6 (.move false 7 .done .none)) .none)) .none)))) (by kernel_rfl) (by kernel_rfl) (by kernel_rfl) (fun _ => ⟨⟨w7.drew,hS⟩,rfl⟩) ?_
   iterate 3
    refine plan_look _ rfl rfl ?_
    go_big_quiet_step (fail)
    refine wpQuiet_nil ?_
   refine plan_call _ 66 _ _ _ _ _ rfl _ Tryz.func66 (by kernel_rfl) (by kernel_rfl) ?_ True.intro
   refine (l1Below_r p cv code _ 5 _ (Cur.drewN HC7.out 1)).mono ?_
   rintro _ w8 ⟨rfl,hC8,hg8⟩
   generalize belowR code st7 5 = b at *
   obtain ⟨b1,st8⟩ := b
   dsimp only at *
   have hg8' : w7.grownBy w8 (some p) := ⟨hg8.os,hg8.tape,hg8.output,hg8.size,hg8.block⟩
   have hS8 := hS.grown hg8' (fun q hq => ⟨by rw [HSb.out q hq]; exact hgs7,by rw [HSb.out q hq]; intro e; injection e; omega⟩)
   refine ⟨_,rfl,fun _ => ⟨⟨_,hS8⟩,rfl⟩,?_⟩
   refine plan_put ?_ (by simp only [Act.put,putA,putB,putC]; rfl)
   obtain ⟨j,hj⟩ := Int.eq_ofNat_of_zero_le i1
   rw [hj]
   have hj5 : j < 5 := by omega
   have HJ := Lib.hid hj
   clear hj i1 i2
   refine plan_look _ rfl rfl ?_
   go_big_quiet_step (fail)
   refine wpQuiet_nil ?_
   refine plan_call _ 118 _ _ _ _ _ rfl _ Tryz.func118 (by kernel_rfl) (by kernel_rfl) ?_ True.intro
   refine (l3One_c p cv code _ w8 hC8).mono ?_
   rintro _ w9 ⟨rx,hrx,rfl,⟨st9,hC9⟩,hg9⟩
   have hg9' : w7.grownBy w9 (some p) := hg8'.trans hg9
   have hS9 := hS.grown hg9' (fun q hq => ⟨by rw [HSb.out q hq]; exact hgs7,by rw [HSb.out q hq]; intro e; injection e; omega⟩)
   refine ⟨_,rfl,fun _ => ⟨⟨_,hS9⟩,rfl⟩,?_⟩
   unfold relV
   refine plan_put ?_ (by simp only [Act.put,putA,putB,putC]; rfl)
   refine plan_look _ rfl rfl ?_
   go_big_quiet_step (fail)
   refine wpQuiet_nil ?_
   have hch9 := chg_of_grown hg9'
   have hOR9 := HOR.out.chg hch9 (.inr (by omega))
   have hOF9 := HOF.out.chg hch9 (.inr (by omega))
   have hs9 := hg9'.size
   obtain ⟨c0,c1,c2⟩ := hOR9.1.cells rfl j hj5
   have cz := hOR9.1.frozen rfl
   have z0 := grown_cell hg9' y0 (by omega)
   have z1 := grown_cell hg9' y1 (by omega)
   have r0 := grown_cell hg9' R0 hne
   have r1 := grown_cell hg9' R1 hne
   have rz := fun o => grown_frozen hg9' (o := o) (by omega) hne (RZ o)
   have hql : BB ≤ q ∧ q < CC := ⟨(OwnRels.lt hOR9.1 q rfl).1,hOR9.2 q rfl⟩
   have hw3 : ∀ u0 u1 u2,Chg (fun k => k = q) w9 (((w9.setCell ⟨q,j * 3,none⟩ u0).setCell ⟨q,j * 3 + 1,none⟩ u1).setCell ⟨q,j * 3 + 2,none⟩ u2) := fun u0 u1 u2 => (((Chg.refl (fun k => k = q) w9).setCell (p := ⟨q,j * 3,none⟩) rfl _).setCell (p := ⟨q,j * 3 + 1,none⟩) rfl _).setCell (p := ⟨q,j * 3 + 2,none⟩) rfl _
   have HF9 := Lib.hid (hOF9.offRel hOR9.1 (hw3 (.string rx.name) (.int .i64 rx.arity) (.bool rx.source)))
   have HS9 := Lib.hid (hOR9.1.set rfl j hj5 rx)
   have HC9 := Lib.hid hC9
   have HG9 := Lib.hid (HG7.out.trans hg9')
   have HSM : Hid (InstSmall 9 ⟨sigs5.set j rx,L⟩) := Lib.hid ⟨⟨by show (sigs5.set j rx).length ≤ 5; rw [List.length_set]; decide,fun r hr => by
    rcases List.mem_or_eq_of_mem_set hr with h | rfl
    ·
     exact sigs5_small.2 r h
    ·
     exact hrx⟩,by show L.length ≤ 9; omega,HI.out.2.2⟩
   have HW3 := Lib.hid hw3
   refine plan_skip (w' := ((w9.setCell ⟨q,j * 3,none⟩ (.string rx.name)).setCell ⟨q,j * 3 + 1,none⟩ (.int .i64 rx.arity)).setCell ⟨q,j * 3 + 2,none⟩ (.bool rx.source)) _ rfl rfl rfl (by simp [go_sem,c0,c1,c2,cz]) (fun e => by cases e) ?_ True.intro
   refine plan_put ?_ (by simp only [Act.put]; rfl)
   refine plan_done ?_
   have hA9 := HW3.out (.string rx.name) (.int .i64 rx.arity) (.bool rx.source)
   have hsz9 : (((w9.setCell ⟨q,j * 3,none⟩ (.string rx.name)).setCell ⟨q,j * 3 + 1,none⟩ (.int .i64 rx.arity)).setCell ⟨q,j * 3 + 2,none⟩ (.bool rx.source)).heap.size = w9.heap.size := by simp [World.setCell]
   have HSZ9 := Lib.hid hsz9
   have hqg : g ≠ q := by omega
   have u0 := (hA9.cell (b := g) (o := 0) (by omega) hqg).trans z0
   have u1 := (hA9.cell (b := g) (o := 1) (by omega) hqg).trans z1
   have r0 := (hA9.cell (b := w.heap.size) (o := 0) (by omega) (by omega)).trans r0
   have r1 := (hA9.cell (b := w.heap.size) (o := 1) (by omega) (by omega)).trans r1
   have rz := fun o => (hA9.frozen (b := w.heap.size) (o := o) (by omega) (by omega)).trans (rz o)
   have HBA := Lib.hid (show Below w.heap.size w9 _ from hA9.below (fun k h => by subst h; omega) (by omega))
   clear hA9 hsz9 z0 z1 c0 c1 c2 cz hOR9 hOF9 hS9 hS8 g1 hch9 hg9 hg9' hg8 hg8' hC9 hC8 hw3 y0 y1 yz R0 R1 RZ
   generalize ((w9.setCell ⟨q,j * 3,none⟩ (.string rx.name)).setCell ⟨q,j * 3 + 1,none⟩ (.int .i64 rx.arity)).setCell ⟨q,j * 3 + 2,none⟩ (.bool rx.source) = wA at *
   go_wp2
   have hst2 : Chg (Mid w.heap.size (w.heap.size + 1)) wA ((wA.setCell ⟨w.heap.size,0,none⟩ (.slice (some ⟨q,0,none⟩) 5 c)).setCell ⟨w.heap.size,1,none⟩ (.slice Q L.length d)) := ((Chg.refl _ _).setCell (p := ⟨w.heap.size,0,none⟩) ⟨Nat.le_refl _,Nat.lt_succ_self _⟩ _).setCell (p := ⟨w.heap.size,1,none⟩) ⟨Nat.le_refl _,Nat.lt_succ_self _⟩ _
   have hlast := HBA.out.trans (hst2.below (fun k h => h.1) (by have := HSZ9.out; omega))
   refine bodyPost_ret (v := .agg #[.slice (some ⟨q,0,none⟩) 5 c,.slice Q L.length d]) (by simp [results,Tryz.results67,go_sem,r0,r1]) rfl ⟨_,⟨sigs5.set j rx,L⟩,rfl,?_,HSM.out,⟨_,Cur.below hC HC9.out hlast⟩,grown_of_below HG9.out hlast⟩
   have hRA : RelationS_own BB CC (.slice (some ⟨q,0,none⟩) 5 c) (sigs5.set j rx) wA := ⟨HS9.out.mono (Nat.le_refl _),fun z hz => by
    have h9 : q = z := Option.some.inj hz
    exact h9 ▸ hql.2⟩
   have hlo : Instance_lo (w.heap.size + 1) wA wA.heap.size (.agg #[.slice (some ⟨q,0,none⟩) 5 c,.slice Q L.length d]) ⟨sigs5.set j rx,L⟩ :=
    Instance_own.lo (Instance_own.mono (B' := w.heap.size + 1) (C' := wA.heap.size) ⟨_,_,rfl,hRA,HF9.out⟩ (by omega) (by have := HSZ9.out; omega)) (Nat.le_refl _)
   exact (hlo.chg hst2 (fun k h => h.2)).less (by omega)
  ·
   have e0 : (nn == 0) = false := beq_eq_false_iff_ne.2 (by omega)
   have e1 : (nn == 1) = false := beq_eq_false_iff_ne.2 (by omega)
   have e2 : (nn == 2) = false := beq_eq_false_iff_ne.2 (by omega)
   go_wp2
   have hst2 : ∀ u0 u1,Chg (Mid w.heap.size (w.heap.size + 1)) w7 ((w7.setCell ⟨w.heap.size,0,none⟩ u0).setCell ⟨w.heap.size,1,none⟩ u1) := fun u0 u1 => ((Chg.refl _ _).setCell (p := ⟨w.heap.size,0,none⟩) ⟨Nat.le_refl _,Nat.lt_succ_self _⟩ _).setCell (p := ⟨w.heap.size,1,none⟩) ⟨Nat.le_refl _,Nat.lt_succ_self _⟩ _
   have hbw : ∀ u0 u1,Below w.heap.size w7 ((w7.setCell ⟨w.heap.size,0,none⟩ u0).setCell ⟨w.heap.size,1,none⟩ u1) := fun u0 u1 => (hst2 u0 u1).below (fun k h => h.1) (by omega)
   refine bodyPost_ret (v := .agg #[.slice (some ⟨q,0,none⟩) 5 c,.slice Q L.length d]) (by simp [results,Tryz.results67,go_sem,R0,R1]) rfl ⟨_,⟨sigs5,L⟩,rfl,?_,HI.out.more (by decide),⟨_,Cur.below hC HC7.out (hbw _ _)⟩,grown_of_below HG7.out (hbw _ _)⟩
   exact Instance_own.lo (Instance_own.mono ⟨_,_,rfl,HOR.out.chg (hst2 _ _) (.inr (by omega)),HOF.out.chg (hst2 _ _) (.inr (by omega))⟩ (by omega) (by simp [World.setCell]; omega)) (Nat.le_refl _)
 | true =>
  go_wp2_with fail
  refine (l5Source_c p cv code _ 3 (by decide) _ hC3).mono ?_
  rintro e w4 ⟨V2,x2,rfl,hO4,hI2,-,⟨st4,hC4⟩,hg4⟩
  obtain ⟨rl2,M⟩ := x2
  obtain ⟨P2,c2,Q2,d2,rfl⟩ := Instance_form (hO4.at_ (Nat.le_refl _))
  dsimp only at hI2 ⊢
  have hch4 := chg_of_grown hg4
  have hO3 := hO3.chg hch4 (.inr (by omega))
  have hG4 := hG3.trans hg4
  have x0 := grown_cell hg4 x0 (by omega)
  have x1 := grown_cell hg4 x1 (by omega)
  have xz := fun o => grown_frozen hg4 (b := g) (o := o) (by omega) (by omega) (xz o)
  have xA : AllSl w4 g := xA.cells fun o => hch4.cell (by omega) (fun h => by have := h.1; have := h.2; omega)
  have R0 := grown_cell hg4 R0 hne
  have R1 := grown_cell hg4 R1 hne
  have RZ := fun o => grown_frozen hg4 (o := o) (by omega) hne (RZ o)
  have hs4 := hg4.size
  obtain ⟨y,hy⟩ : ∃ y,y = w4.heap.size := ⟨_,rfl⟩
  go_wp2_with fail
  have hAl : Below y w4 (w4.alloc (.cells #[.slice P2 rl2.length c2,.slice Q2 M.length d2] 27)) := (Below.refl _ _).alloc (by omega) _
  have yy : (w4.alloc (.cells #[.slice P2 rl2.length c2,.slice Q2 M.length d2] 27)).cell? ⟨y,1,none⟩ = some (.slice Q2 M.length d2) := by rw [hy]; simp [go_sem]
  have hCW : CurS (w4.alloc (.cells #[.slice P2 rl2.length c2,.slice Q2 M.length d2] 27)) p cv code st4 := Cur.alloc hC4 _
  have hGW : w.grownBy (w4.alloc (.cells #[.slice P2 rl2.length c2,.slice Q2 M.length d2] 27)) (some p) := hG4.trans (World.grownBy_alloc _ _ _)
  have hszW : (w4.alloc (.cells #[.slice P2 rl2.length c2,.slice Q2 M.length d2] 27)).heap.size = y + 1 := by rw [hy]; simp
  rw [← hy]
  generalize w4.alloc (.cells #[.slice P2 rl2.length c2,.slice Q2 M.length d2] 27) = W2 at hAl yy hCW hGW hszW ⊢
  have hgy : g < y := by omega
  have hy4 : w4.heap.size ≤ y := by omega
  have z0 := (hAl.cell (p := ⟨g,0,none⟩) (by show g < _; omega)).trans x0
  have z1 := (hAl.cell (p := ⟨g,1,none⟩) (by show g < _; omega)).trans x1
  have zz := fun o => (hAl.frozen (p := ⟨g,o,none⟩) (by show g < _; omega)).trans (xz o)
  have zA : AllSl W2 g := xA.cells fun o => hAl.cell (p := ⟨g,o,none⟩) (by show g < _; omega)
  have R0 := Lib.hid ((hAl.cell (p := ⟨w.heap.size,0,none⟩) (by show w.heap.size < _; omega)).trans R0)
  have R1 := Lib.hid ((hAl.cell (p := ⟨w.heap.size,1,none⟩) (by show w.heap.size < _; omega)).trans R1)
  have RZ := Lib.hid (fun o => (hAl.frozen (p := ⟨w.heap.size,o,none⟩) (by show w.heap.size < _; omega)).trans (RZ o))
  have hO5 := hO3.below hAl (by omega)
  have hO4' := hO4.below hAl (by first | exact Nat.le_refl _ | omega)
  have HLO := Lib.hid (hO5.at_ (D := W2.heap.size) (by omega))
  have HP := Lib.hid (Putable.own hO5)
  obtain ⟨_,_,hv,-,hF⟩ := hO4'
  simp only [Value.agg.injEq,Array.mk.injEq,List.cons.injEq,and_true] at hv
  obtain ⟨-,rfl⟩ := hv
  have HF := Lib.hid hF
  have YY := Lib.hid yy
  have HG := Lib.hid hGW
  have HCW := Lib.hid hCW
  have HS := Lib.hid hszW
  have hMd := hF.at_ (D := W2.heap.size) (by omega)
  obtain ⟨_,_,hv2,hd1,hd2⟩ := hMd.form
  injection hv2 with e1 _ e2
  subst e1 e2
  unfold maxLen at hd2
  have hM3 := hI2.2.1
  dsimp only at hM3
  have HI2 := Lib.hid hI2
  have HI1 := Lib.hid hI1
  clear hy hsz hF hO4 hO5 hO3 hC3 hC4 hG3 hG4 hg4 hch4 x0 x1 xz xA hAl hMd hI2 hI1 yy hCW hGW
  go_wp2_with fail
  go_loopw [5] (fun i wr => ∃ (k : Nat) (K : List Fct) (P : Option Addr) (c : Nat) (Q : Option Addr) (d : Nat),k ≤ M.length ∧ i = .int .i64 (k : Nat) ∧ Hid (InstSmall (5 + k) ⟨sigs5,K⟩) ∧ wr.cell? ⟨g,0,none⟩ = some (.slice P 5 c) ∧ wr.cell? ⟨g,1,none⟩ = some (.slice Q K.length d) ∧ (∀ o,wr.frozen? ⟨g,o,none⟩ = false) ∧ Hid (AllSl wr g) ∧ Hid (Instance_at wr wr.heap.size (.agg #[.slice P 5 c,.slice Q K.length d]) ⟨sigs5,K⟩) ∧ Hid (Putable (.agg #[.slice P 5 c,.slice Q K.length d]) ⟨sigs5,K⟩) ∧ Hid (Chg (Mid g (g + 1)) W2 wr)) (fun i _ => M.length - (intOf i).toNat)
  case atStart => exact ⟨0,L,P,c,Q,d,by omega,rfl,HI1,z0,z1,zz,Lib.hid zA,HLO,HP,Lib.hid (Chg.refl _ _)⟩
  case round =>
   clear z0 z1 zz zA HLO HP HI1 HI
   obtain ⟨k,K,P,c,Q,d,hk,rfl,HI,x0,x1,xz,HA,HLO,HP,HC⟩ := hrel
   have hC' := HC.out
   have hWz := hC'.size
   rw [HS.out] at hWz
   have yw : wr.cell? ⟨y,1,none⟩ = some (.slice Q2 M.length d2) := (hC'.cell (show y < _ by rw [HS.out]; omega) (fun h => by have := h.2; omega)).trans YY.out
   have hFr := (HF.out.chg hC' (.inr (by omega))).at_ (D := wr.heap.size) (by omega)
   have hKl : K.length ≤ 100 := Nat.le_trans HI.out.2.1 (by omega)
   have hcap : K.length ≤ d ∧ d ≤ maxLen := by
    obtain ⟨_,_,hv,_,hF⟩ := HLO.out
    simp only [Value.agg.injEq,Array.mk.injEq,List.cons.injEq,and_true] at hv
    obtain ⟨-,rfl⟩ := hv
    obtain ⟨_,_,hv2,h1,h2⟩ := hF.form
    injection hv2 with e1 _ e2
    subst e1 e2
    exact ⟨h1,h2⟩
   unfold maxLen at hcap
   by_cases hlt : k < M.length
   ·
    obtain ⟨bq,off,U,rfl,hbq,c0,c1,hU⟩ := FactS_at.elem hFr k hlt
    obtain ⟨PU,cU,rfl,-⟩ := id hU
    have hfs : FctSmall M[k] := HI2.out.2.2 _ (List.getElem_mem hlt)
    have HFS := Lib.hid hfs
    have hput := fun wq (hq : Below wr.heap.size wr wq) => specL5Put_z 0 (.agg #[.slice P 5 c,.slice Q K.length d]) (.agg #[.int .i64 M[k].rel,.slice PU M[k].vals.length cU]) ⟨sigs5,K⟩ M[k] wq (Nat.zero_le _) ((HLO.out.lo).later hq) HP.out (by show K.length ≤ _; omega) ⟨_,rfl,IntS_at.later hU hq⟩ (by have := HFS.out.2.1; unfold Fact_sz; omega)
    have hS : Holds [(⟨g,0,none⟩,.slice P 5 c),(⟨g,1,none⟩,.slice Q K.length d),(⟨y,1,none⟩,.slice (some ⟨bq,off,none⟩) M.length d2),(⟨bq,off + k * 2,none⟩,.int .i64 M[k].rel),(⟨bq,off + k * 2 + 1,none⟩,.slice PU M[k].vals.length cU)] wr.drew := by
     intro q hq
     simp only [List.mem_cons,List.not_mem_nil,or_false] at hq
     rcases hq with rfl | rfl | rfl | rfl | rfl
     ·
      exact x0
     ·
      exact x1
     ·
      exact yw
     ·
      exact c0
     ·
      exact c1
    have hSb : ∀ q ∈ [((⟨g,0,none⟩ : Addr),Value.slice P 5 c),(⟨g,1,none⟩,.slice Q K.length d),(⟨y,1,none⟩,.slice (some ⟨bq,off,none⟩) M.length d2),(⟨bq,off + k * 2,none⟩,.int .i64 M[k].rel),(⟨bq,off + k * 2 + 1,none⟩,.slice PU M[k].vals.length cU)],q.1.block < wr.heap.size := by
     intro q hq
     simp only [List.mem_cons,List.not_mem_nil,or_false] at hq
     rcases hq with rfl | rfl | rfl | rfl | rfl <;> simp <;> omega
    have g0 := Keep.cell (h0 := hS) (a := ⟨g,0,none⟩) (v := .slice P 5 c) (by simp)
    have g1 := Keep.cell (h0 := hS) (a := ⟨g,1,none⟩) (v := .slice Q K.length d) (by simp)
    have g2 := Keep.cell (h0 := hS) (a := ⟨y,1,none⟩) (v := .slice (some ⟨bq,off,none⟩) M.length d2) (by simp)
    have g3 := Keep.cell (h0 := hS) (a := ⟨bq,off + k * 2,none⟩) (v := .int .i64 M[k].rel) (by simp)
    have g4 := Keep.cell (h0 := hS) (a := ⟨bq,off + k * 2 + 1,none⟩) (v := .slice PU M[k].vals.length cU) (by simp)
    have HPt := Lib.hid hput
    have HPp := Lib.hid (HI.out.put hfs)
    clear hput hU hfs hFr hC'
    generalize M[k] = G at *
    go_wp2_with fail
    refine wp_region_planL (C := fun w' => ∃ u : Keep _ wr.drew hS,w' = u.now) (.still 0 (.still 1 (.still 2 (.still 3 (.still 4 (.still 5 (.move true 6 (.move false 7 .done .none) .none))))))) (by kernel_rfl) (by kernel_rfl) (by kernel_rfl) (fun _ => ⟨⟨_,hS⟩,rfl⟩) ?_
    iterate 6
     refine plan_look _ rfl rfl ?_
     go_big_quiet_step (fail)
     refine wpQuiet_nil ?_
    refine plan_call _ 94 _ _ _ _ _ rfl _ Tryz.func94 (by kernel_rfl) (by kernel_rfl) ?_ True.intro
    refine (HPt.out wr.drew (Below.refl _ _).drew).mono ?_
    rintro _ w6 ⟨r6,rfl,hr6,hb6⟩
    have hb6' : Below wr.heap.size wr w6 := (Below.refl _ _).drew.trans hb6
    have hr6 := hr6.at_
    obtain ⟨P6,c6,Q6,d6,rfl⟩ := Inst5_form hr6
    have z0 := (hb6'.cell (p := ⟨g,0,none⟩) (by show g < _; omega)).trans x0
    have z1 := (hb6'.cell (p := ⟨g,1,none⟩) (by show g < _; omega)).trans x1
    have zz := fun o => (hb6'.frozen (p := ⟨g,o,none⟩) (by show g < _; omega)).trans (xz o)
    have zA : AllSl w6 g := HA.out.cells fun o => hb6'.cell (p := ⟨g,o,none⟩) (by show g < _; omega)
    have hst := (hr6.off zA 0 (.slice P6 5 c6)).off (zA.set 0 P6 5 c6 _ z0) 1 (.slice Q6 (putF K G).length d6)
    have HST := Lib.hid hst
    have HZA := Lib.hid ((zA.set 0 P6 5 c6 _ z0).set 1 Q6 (putF K G).length d6 (.slice Q K.length d) (by simp [go_sem,z1]))
    have HB6 := Lib.hid hb6'
    refine ⟨_,rfl,fun _ => ⟨⟨_,hS.below hb6 hSb⟩,rfl⟩,?_⟩
    clear hst zA hr6 hb6 hb6' g0 g1 g2 g3 g4 x0 x1 xz c0 c1 yw
    refine plan_put ?_ (by simp only [Act.put,putA,putB,putC]; rfl)
    refine plan_skip (w' := (w6.setCell ⟨g,0,none⟩ (.slice P6 5 c6)).setCell ⟨g,1,none⟩ (.slice Q6 (putF K G).length d6)) _ rfl rfl rfl (by simp [go_sem,z0,z1,zz]) (fun e => by cases e) ?_ True.intro
    refine plan_put ?_ (by simp only [Act.put]; rfl)
    refine plan_done ?_
    go_wp2
    go_roundw
    case measure => simp [intOf]; omega
    case rel =>
     refine ⟨k + 1,putF K G,P6,c6,Q6,d6,by omega,by go_num,HPp,by simp [go_sem,z0],by simp [go_sem,z1],fun o => by simp [zz],HZA,Lib.hid (HST.out.more (by simp [World.setCell])),Lib.hid (Putable.pos (putF_pos1 _ _)),Lib.hid (((HC.out.then_below (HB6.out.mono (by rw [HS.out]; omega))).setCell (p := ⟨g,0,none⟩) ⟨Nat.le_refl _,Nat.lt_succ_self _⟩ _).setCell (p := ⟨g,1,none⟩) ⟨Nat.le_refl _,Nat.lt_succ_self _⟩ _)⟩
   ·
    obtain rfl : k = M.length := by omega
    have hcp := specL5Copy_any _ ⟨sigs5,K⟩ wr HLO.out (by have := HI.out.sz (by omega); omega)
    have r0 := (hC'.cell (b := w.heap.size) (o := 0) (by rw [HS.out]; omega) (fun h => by have := h.1; omega)).trans R0.out
    have r1 := (hC'.cell (b := w.heap.size) (o := 1) (by rw [HS.out]; omega) (fun h => by have := h.1; omega)).trans R1.out
    have rz := fun o => (hC'.frozen (b := w.heap.size) (o := o) (by rw [HS.out]; omega) (fun h => by have := h.1; omega)).trans (RZ.out o)
    have hbW : Below w.heap.size W2 wr := hC'.below (fun k h => by have := h.1; omega) (by rw [HS.out]; omega)
    have HBW := Lib.hid hbW
    clear hC' hFr hbW
    go_wp2_with fail
    refine hcp.mono ?_
    rintro e w6 ⟨r6,rfl,hO6,hb6⟩
    obtain ⟨P6,c6,Q6,d6,rfl⟩ := Inst5_form (hO6.at_ (Nat.le_refl _))
    have hz6 := hb6.size
    have q0 := (hb6.cell (p := ⟨g,0,none⟩) (by show g < _; omega)).trans x0
    have q1 := (hb6.cell (p := ⟨g,1,none⟩) (by show g < _; omega)).trans x1
    have qz := fun o => (hb6.frozen (p := ⟨g,o,none⟩) (by show g < _; omega)).trans (xz o)
    have r0 := (hb6.cell (p := ⟨w.heap.size,0,none⟩) (by show w.heap.size < _; omega)).trans r0
    have r1 := (hb6.cell (p := ⟨w.heap.size,1,none⟩) (by show w.heap.size < _; omega)).trans r1
    have rz := fun o => (hb6.frozen (p := ⟨w.heap.size,o,none⟩) (by show w.heap.size < _; omega)).trans (rz o)
    have hbw := (HBW.out.trans (hb6.mono (show w.heap.size ≤ wr.heap.size by omega)))
    have HI3 := Lib.hid (HI.out.more (show 5 + M.length ≤ 8 by omega))
    have HA6 := Lib.hid (show AllSl w6 g from HA.out.cells fun o => hb6.cell (p := ⟨g,o,none⟩) (by show g < _; omega))
    clear x0 x1 xz hcp HLO HP HA HC HI HBW hb6 HI2
    dsimp only at *
    go_upto_region 9 with fail
    have hfin : ∃ w5,w5 = (w6.setCell ⟨g,0,none⟩ (.slice P6 5 c6)).setCell ⟨g,1,none⟩ (.slice Q6 K.length d6) := ⟨_,rfl⟩
    obtain ⟨w5,hw5⟩ := hfin
    have hch6 : Chg (Mid g (g + 1)) w6 w5 := by rw [hw5]; exact ((Chg.refl _ _).setCell (p := ⟨g,0,none⟩) ⟨Nat.le_refl _,Nat.lt_succ_self _⟩ _).setCell (p := ⟨g,1,none⟩) ⟨Nat.le_refl _,Nat.lt_succ_self _⟩ _
    have hz5 : w5.heap.size = w6.heap.size := by rw [hw5]; simp [World.setCell]
    have x0 : w5.cell? ⟨g,0,none⟩ = some (.slice P6 5 c6) := by rw [hw5]; simp [go_sem,q0]
    have x1 : w5.cell? ⟨g,1,none⟩ = some (.slice Q6 K.length d6) := by rw [hw5]; simp [go_sem,q1]
    have xz : ∀ o,w5.frozen? ⟨g,o,none⟩ = false := fun o => by rw [hw5]; simp [qz]
    have R0 := (hch6.cell (b := w.heap.size) (o := 0) (by omega) (fun h => by have := h.1; omega)).trans r0
    have R1 := (hch6.cell (b := w.heap.size) (o := 1) (by omega) (fun h => by have := h.1; omega)).trans r1
    have RZ := fun o => (hch6.frozen (b := w.heap.size) (o := o) (by omega) (fun h => by have := h.1; omega)).trans (rz o)
    have hb5 : Below w.heap.size W2 w5 := hbw.trans ((hch6.below (fun k h => h.1) (by omega)).mono (by omega))
    have hC3 : CurS w5 p cv code st4 := Cur.below hC HCW.out hb5
    have hG3 : w.grownBy w5 (some p) := grown_of_below HG.out hb5
    have hgs : g < w5.heap.size := by omega
    have XA : AllSl w5 g := by
     have h6 : AllSl w6 g := HA6.out
     rw [hw5]
     exact (h6.set 0 P6 5 c6 _ q0).set 1 Q6 K.length d6 (.slice Q K.length d) (by simp [go_sem,q1])
    obtain ⟨BB,CC,hBC,hBB,hB1,hCC,hO⟩ : ∃ BB CC,(CC ≤ g ∨ g + 1 ≤ BB) ∧ BB ≤ CC ∧ w.heap.size < BB ∧ CC ≤ w5.heap.size ∧ Instance_own BB CC (.agg #[.slice P6 5 c6,.slice Q6 K.length d6]) ⟨sigs5,K⟩ w5 := ⟨wr.heap.size,w6.heap.size,.inr (by omega),by omega,by omega,by omega,hO6.chg hch6 (.inr (by omega))⟩
    have HI := HI3
    clear hO6 HI3 hb5 hbw hch6 q0 q1 qz r0 r1 rz hz6 hz5
    try rw [← hw5]
    clear hw5
    go_wp2_with fail
    have HRO := Lib.hid R0
    have HR1 := Lib.hid R1
    have HRZ := Lib.hid RZ
    clear R0 R1 RZ
    have j1 := hb st4 14
    have j2 := j1.2 (by omega)
    have j1 := j1.1
    refine (l1Below_r p cv code _ _ _ hC3).mono ?_; rintro e w7 ⟨rfl,hC7,hg7⟩
    generalize belowR code st4 14 = bn at *
    obtain ⟨nn,st7⟩ := bn
    dsimp only at *
    have hch7 := chg_of_grown hg7
    have hO7 := hO.chg hch7 (.inr (by omega))
    have hG7 := hG3.trans hg7
    have y0 := grown_cell hg7 x0 (by omega)
    have y1 := grown_cell hg7 x1 (by omega)
    have yz := fun o => grown_frozen hg7 (b := g) (o := o) hgs (by omega) (xz o)
    have R0 := grown_cell hg7 HRO.out hne
    have R1 := grown_cell hg7 HR1.out hne
    have RZ := fun o => grown_frozen hg7 (o := o) (by omega) hne (HRZ.out o)
    have yA : AllSl w7 g := XA.cells fun o => hch7.cell (b := g) (o := o) hgs (fun h => by have := h.1; have := h.2; omega)
    have YA := Lib.hid yA
    have hs7 := hg7.size
    clear XA yA
    have hgs7 : g < w7.heap.size := by omega
    obtain ⟨_,_,hv,hOR,hOF⟩ := hO7
    simp only [Value.agg.injEq,Array.mk.injEq,List.cons.injEq,and_true] at hv
    obtain ⟨rfl,rfl⟩ := hv
    have hRf : ∃ q,P6 = some ⟨q,0,none⟩ := by
     rcases hOR.1.2 with ⟨h0,h1⟩ | ⟨q,cap,cur,h0,_⟩
     ·
      cases h1
     ·
      injection h0 with h0 _ _; exact ⟨q,h0⟩
    obtain ⟨q,rfl⟩ := hRf
    have hfd := (hOF.at_ (D := w7.heap.size) (by omega)).form
    obtain ⟨_,_,hv2,hd1,hd2⟩ := hfd
    injection hv2 with e1 _ e2
    subst e1 e2
    unfold maxLen at hd2
    have hRd := (hOR.at_ (D := w7.heap.size) (by omega)).form
    obtain ⟨_,_,hv2,hr1,hr2⟩ := hRd
    injection hv2 with e1 e3 e2
    clear e3
    subst e1 e2
    replace hr1 : 5 ≤ c6 := hr1
    unfold maxLen at hr2
    have HOR := Lib.hid hOR
    have HOF := Lib.hid hOF
    have HG7 := Lib.hid hG7
    have HC7 := Lib.hid hC7
    have hLl : K.length ≤ 8 := HI.out.2.1
    clear hO hOR hOF hG7 hch7 hg7 x0 x1 xz hC3 hG3 HRO HR1 HRZ
    have hn : nn = 0 ∨ nn = 1 ∨ nn = 2 ∨ 3 ≤ nn := by omega
    rcases hn with rfl | rfl | rfl | hn
    ·
     have hS : Holds [(⟨g,1,none⟩,.slice Q6 K.length d6)] w7 := by
      intro q hq
      simp only [List.mem_cons,List.not_mem_nil,or_false] at hq
      subst hq
      exact y1
     have hSb : ∀ q ∈ [((⟨g,1,none⟩ : Addr),Value.slice Q6 K.length d6)],q.1.block = g := by
      intro q hq
      simp only [List.mem_cons,List.not_mem_nil,or_false] at hq
      subst hq
      rfl
     have HSb := Lib.hid hSb
     clear hSb
     have g1 := Keep.cell (h0 := hS) (a := ⟨g,1,none⟩) (v := .slice Q6 K.length d6) (by simp)
     go_wp2_with fail
     refine wp_region_planL (C := fun w' => ∃ u : Keep _ w7 hS,w' = u.now) (.still 0 (.still 1 (.still 2 (.move true 3 (.move true 4 (.move true 5 (.still 6 (.move false 7 .done .none)) .none) .none) .none)))) (by kernel_rfl) (by kernel_rfl) (by kernel_rfl) (fun _ => ⟨⟨w7.drew,hS⟩,rfl⟩) ?_
     iterate 3
      refine plan_look _ rfl rfl ?_
      go_big_quiet_step (fail)
      refine wpQuiet_nil ?_
     refine plan_call _ 117 _ _ _ _ _ rfl _ Tryz.func117 (by kernel_rfl) (by kernel_rfl) ?_ True.intro
     refine (l4Any_c p cv code _ _ (Cur.drewN HC7.out 1)).mono ?_
     rintro _ w8 ⟨r,V8,vs,rfl,hr,hO8,hl8,hvs,⟨st8,hC8⟩,hg8⟩
     have hg8' : w7.grownBy w8 (some p) := ⟨hg8.os,hg8.tape,hg8.output,hg8.size,hg8.block⟩
     have hS8 := hS.grown hg8' (fun q hq => ⟨by rw [HSb.out q hq]; exact hgs7,by rw [HSb.out q hq]; intro e; injection e; omega⟩)
     refine ⟨_,rfl,fun _ => ⟨⟨_,hS8⟩,rfl⟩,?_⟩
     refine plan_put ?_ (by simp only [Act.put,putA,putB,putC]; rfl)
     obtain ⟨PU,cu,rfl,-⟩ := hO8.at_
     have hz8 := hg8'.size
     have hch8 := chg_of_grown hg8'
     have hAl8 := (Below.refl w8.heap.size w8).alloc (Nat.le_refl _) (.cells #[.int .i64 r,.slice PU vs.length cu] 66)
     refine plan_value (u := .slice (some ⟨w8.heap.size,0,none⟩) 1 1) (w' := w8.alloc (.cells #[.int .i64 r,.slice PU vs.length cu] 66)) _ rfl rfl rfl (by simp [go_sem]) (fun _ => ⟨⟨_,hS8.below hAl8 (fun q hq => by rw [HSb.out q hq]; omega)⟩,rfl⟩) ?_ True.intro
     refine plan_put ?_ (by simp only [Act.put,putA,putB,putC]; rfl)
     obtain ⟨Vs,hF⟩ := HOF.out
     have HF8 := Lib.hid ((hF.chg hch8 (.inr (by omega))).below hAl8 (by omega))
     have hVl := hF.len
     have hr' : SliceAt pairCells (w8.alloc (.cells #[.int .i64 r,.slice PU vs.length cu] 66)) (w8.heap.size + 1) (.slice (some ⟨w8.heap.size,0,none⟩) [(r,Value.slice PU vs.length cu)].length 1) [(r,Value.slice PU vs.length cu)] := by
      refine ⟨_,_,rfl,Nat.le_refl _,by simp [maxLen],?_,fun h => by cases h⟩
      intro _
      refine ⟨_,_,rfl,by omega,?_⟩
      intro j u hu
      rw [Nat.zero_add,box_cell]
      simpa [pairCells] using hu
     refine plan_app pairCells 2 32 (r := [(r,Value.slice PU vs.length cu)]) (fun p hp u hu => by simp only [List.mem_singleton] at hp; subst hp; simp [pairCells] at hu; rcases hu with rfl | rfl <;> rfl) pairCells_len _ rfl rfl Tryz.underlying25 infoFct rfl (by decide) HF8.out.row _ _ rfl rfl ⟨w8.heap.size,0,none⟩ 1 1 rfl rfl hr' (by have := pairs_len hVl; simp at *; omega) (by have := pairs_len hVl; simp at *; omega) (by simp; omega) ?_ True.intro
     intro v9 w9 hrow hB9 hg9 _
     have hz9 : w8.heap.size + 1 ≤ w9.heap.size := by have := hB9.size; simpa using this
     have hUO : IntS_own BB w9.heap.size (.slice PU vs.length cu) vs (w8.alloc (.cells #[.int .i64 r,.slice PU vs.length cu] 66)) := by
      refine ((IntsO.of hO8).below hAl8 (Nat.le_refl _)).mono ?_ (by omega)
      have : w7.drew.heap.size = w7.heap.size := rfl
      have : (w7.drewN 1).heap.size = w7.heap.size := rfl
      omega
     have hFS := FactSO.snoc (e := 66) (by decide) (x := ⟨r,vs⟩) (C' := w9.heap.size) HF8.out (by omega) hrow hg9 (row_inside hrow (Nat.le_refl _)) hUO (fun i hi g h1 h2 => by
      have q1 : w7.heap.size ≤ g := (hO8.lt g h2).1
      have q2 := (hF.el i (by have := hF.len; omega) hi).2 g h1
      omega)
     obtain ⟨P9,c9,rfl,-⟩ := (hFS.at_ (Nat.le_refl _)).form
     have hAB : Below BB (w8.alloc (.cells #[.int .i64 r,.slice PU vs.length cu] 66)) w9 := hB9
     have hbgB : ∀ o,w9.cell? ⟨g,o,none⟩ = w8.cell? ⟨g,o,none⟩ := fun o => by
      have h1 := World.cell?_of_block (w := w8.alloc (.cells #[.int .i64 r,.slice PU vs.length cu] 66)) (a := ⟨g,o,none⟩) (hg9.block g (by simp; omega) (fun e => by
       have := hF.ins g e.symm
       have h3 := (World.ownsRow.lt hF.row g e.symm).1
       omega))
      exact h1.trans (hAl8.cell (p := ⟨g,o,none⟩) (by show g < _; omega))
     have hbgF : ∀ o,w9.frozen? ⟨g,o,none⟩ = w8.frozen? ⟨g,o,none⟩ := fun o => by
      have h1 := World.frozen?_of_block (w := w8.alloc (.cells #[.int .i64 r,.slice PU vs.length cu] 66)) (a := ⟨g,o,none⟩) (hg9.block g (by simp; omega) (fun e => by
       have := hF.ins g e.symm
       have h3 := (World.ownsRow.lt hF.row g e.symm).1
       omega))
      exact h1.trans (hAl8.frozen (p := ⟨g,o,none⟩) (by show g < _; omega))
     have z0 := (hbgB 0).trans (grown_cell hg8' y0 (by omega))
     have z1 := (hbgB 1).trans (grown_cell hg8' y1 (by omega))
     have zz := fun o => (hbgF o).trans (grown_frozen hg8' hgs7 (by omega) (yz o))
     have hbl : Below (w.heap.size + 1) w8 w9 := (hAl8.mono (by omega)).trans (hB9.mono (by omega))
     have r0 := (hbl.cell (p := ⟨w.heap.size,0,none⟩) (Nat.lt_succ_self _)).trans (grown_cell hg8' R0 hne)
     have r1 := (hbl.cell (p := ⟨w.heap.size,1,none⟩) (Nat.lt_succ_self _)).trans (grown_cell hg8' R1 hne)
     have rz := fun o => (hbl.frozen (p := ⟨w.heap.size,o,none⟩) (Nat.lt_succ_self _)).trans (grown_frozen hg8' (by omega) hne (RZ o))
     have hRel : RelationS_own BB CC (.slice (some ⟨q,0,none⟩) 5 c6) sigs5 w9 := by
      refine ⟨World.ownsRow.kept ((HOR.out.chg hch8 (.inr (by omega))).below hAl8 (by omega)).1 hg9 ?_,HOR.out.2⟩
      rcases own_ne ((HOR.out.chg hch8 (.inr (by omega))).below hAl8 (by omega)).1 HF8.out.row (by decide) with h1 | h1
      ·
       exact .inl h1
      ·
       exact .inr h1
     have HREL := Lib.hid hRel
     have HFS := Lib.hid (FactSO.at_ hFS (Nat.le_refl _))
     have HFO := Lib.hid hFS
     have HBL := Lib.hid hbl
     have HC8 := Lib.hid hC8
     have HG8 := Lib.hid (HG7.out.trans hg8')
     have hFl : K.length + 1 = (K ++ [(⟨r,vs⟩ : Fct)]).length := by simp
     have HA9' := Lib.hid (show AllSl w9 g from (YA.out.cells fun o => hch8.cell (b := g) (o := o) hgs7 (fun h => by have := h.1; have := h.2; omega)).cells hbgB)
     have HSM : Hid (InstSmall 9 ⟨sigs5,K ++ [⟨r,vs⟩]⟩) := Lib.hid ⟨HI.out.1,by show (K ++ [(⟨r,vs⟩ : Fct)]).length ≤ 9; simp; omega,fun f hf => by
      rcases List.mem_append.1 hf with h | h
      ·
       exact HI.out.2.2 f h
      ·
       rw [List.mem_singleton.1 h]; exact ⟨hr,hl8,hvs⟩⟩
     refine ⟨fun _ => ⟨⟨w9,fun q hq => by
      simp only [List.mem_cons,List.not_mem_nil,or_false] at hq
      subst hq
      exact z1⟩,rfl⟩,?_⟩
     clear hFS hRel hrow hB9 hg9 hr' hAB hbgB hbgF g1 hbl hC8 hO8 hF hUO hS8 hvs hg8 hg8' hch8 y0 y1 yz R0 R1 RZ hFl hAl8
     refine plan_put ?_ (by simp only [Act.put,putA,putB,putC]; rfl)
     refine plan_look _ rfl rfl ?_
     go_big_quiet_step (fail)
     refine wpQuiet_nil ?_
     refine plan_skip (w' := w9.setCell ⟨g,1,none⟩ (.slice P9 (K ++ [(⟨r,vs⟩ : Fct)]).length c9)) _ rfl rfl rfl (by simp [go_sem,z1,zz]) (fun e => by cases e) ?_ True.intro
     refine plan_put ?_ (by simp only [Act.put]; rfl)
     refine plan_done ?_
     have hA9 : Chg (Mid g (g + 1)) w9 (w9.setCell ⟨g,1,none⟩ (.slice P9 (K ++ [(⟨r,vs⟩ : Fct)]).length c9)) := (Chg.refl _ _).setCell (p := ⟨g,1,none⟩) ⟨Nat.le_refl _,Nat.lt_succ_self _⟩ _
     have u0 : (w9.setCell ⟨g,1,none⟩ (.slice P9 (K ++ [(⟨r,vs⟩ : Fct)]).length c9)).cell? ⟨g,0,none⟩ = some (.slice (some ⟨q,0,none⟩) 5 c6) := by simp [go_sem,z0]
     have u1 : (w9.setCell ⟨g,1,none⟩ (.slice P9 (K ++ [(⟨r,vs⟩ : Fct)]).length c9)).cell? ⟨g,1,none⟩ = some (.slice P9 (K ++ [(⟨r,vs⟩ : Fct)]).length c9) := by simp [go_sem,z1]
     have r0 := (hA9.cell (b := w.heap.size) (o := 0) (by omega) (fun h => by have := h.1; omega)).trans r0
     have r1 := (hA9.cell (b := w.heap.size) (o := 1) (by omega) (fun h => by have := h.1; omega)).trans r1
     have rz := fun o => (hA9.frozen (b := w.heap.size) (o := o) (by omega) (fun h => by have := h.1; omega)).trans (rz o)
     have hsz9 : (w9.setCell ⟨g,1,none⟩ (.slice P9 (K ++ [(⟨r,vs⟩ : Fct)]).length c9)).heap.size = w9.heap.size := by simp [World.setCell]
     have hLo9 : Instance_lo (w.heap.size + 1) w9 w9.heap.size (.agg #[.slice (some ⟨q,0,none⟩) 5 c6,.slice P9 (K ++ [(⟨r,vs⟩ : Fct)]).length c9]) ⟨sigs5,K ++ [⟨r,vs⟩]⟩ :=
      Instance_own.lo (Instance_own.mono (B' := w.heap.size + 1) (C' := w9.heap.size) ⟨_,_,rfl,HREL.out.mono (Nat.le_refl _) (by omega),⟨_,HFO.out⟩⟩ (by omega) (Nat.le_refl _)) (Nat.le_refl _)
     have HLOA := Lib.hid ((hLo9.off HA9'.out 1 (.slice P9 (K ++ [(⟨r,vs⟩ : Fct)]).length c9)).more (B' := (w9.setCell ⟨g,1,none⟩ (.slice P9 (K ++ [(⟨r,vs⟩ : Fct)]).length c9)).heap.size) (by simp [World.setCell]))
     clear hLo9
     have HA9 := Lib.hid hA9
     have HSZ9 := Lib.hid hsz9
     generalize w9.setCell ⟨g,1,none⟩ (.slice P9 (K ++ [(⟨r,vs⟩ : Fct)]).length c9) = wA at *
     clear hA9 z0 z1 zz hsz9
     go_wp2
     have hst2 : ∀ u0 u1,Chg (Mid w.heap.size (w.heap.size + 1)) wA ((wA.setCell ⟨w.heap.size,0,none⟩ u0).setCell ⟨w.heap.size,1,none⟩ u1) := fun u0 u1 => ((Chg.refl _ _).setCell (p := ⟨w.heap.size,0,none⟩) ⟨Nat.le_refl _,Nat.lt_succ_self _⟩ _).setCell (p := ⟨w.heap.size,1,none⟩) ⟨Nat.le_refl _,Nat.lt_succ_self _⟩ _
     have hlast := fun u0 u1 => ((HBL.out.mono (show w.heap.size ≤ w.heap.size + 1 by omega)).trans (HA9.out.below (B := w.heap.size) (fun k h => by have := h.1; omega) (by omega))).trans ((hst2 u0 u1).below (fun k h => h.1) (by rw [HSZ9.out]; omega))
     refine bodyPost_ret (v := .agg #[.slice (some ⟨q,0,none⟩) 5 c6,.slice P9 (K ++ [(⟨r,vs⟩ : Fct)]).length c9]) (by simp [results,Tryz.results67,go_sem,r0,r1]) rfl ⟨_,⟨sigs5,K ++ [⟨r,vs⟩]⟩,rfl,?_,HSM.out,⟨_,Cur.below hC HC8.out (hlast _ _)⟩,grown_of_below HG8.out (hlast _ _)⟩
     exact (HLOA.out.chg (hst2 _ _) (fun k h => h.2)).less (by omega)
    ·
     have hlo : Instance_lo (w.heap.size + 1) w7 w7.heap.size (.agg #[.slice (some ⟨q,0,none⟩) 5 c6,.slice Q6 K.length d6]) ⟨sigs5,K⟩ :=
      Instance_own.lo (Instance_own.mono (B' := w.heap.size + 1) (C' := w7.heap.size) ⟨_,_,rfl,HOR.out,HOF.out⟩ (by omega) (by omega)) (Nat.le_refl _)
     have HLO1 := Lib.hid (Instance_lo.dropRel (x := ⟨sigs5,K⟩) hlo 1 (by show 1 ≤ sigs5.length; decide))
     clear hlo
     have hc5 : 5 ≤ c6 := hr1
     go_upto_region 16 with fail
     have hA9 : Chg (Mid g (g + 1)) w7 (w7.setCell ⟨g,0,none⟩ (.slice (some ⟨q,3,none⟩) 4 (c6 - 1))) := (Chg.refl _ _).setCell (p := ⟨g,0,none⟩) ⟨Nat.le_refl _,Nat.lt_succ_self _⟩ _
     have HLOA : Hid (Instance_lo (w.heap.size + 1) (w7.setCell ⟨g,0,none⟩ (.slice (some ⟨q,3,none⟩) 4 (c6 - 1))) (w7.setCell ⟨g,0,none⟩ (.slice (some ⟨q,3,none⟩) 4 (c6 - 1))).heap.size (.agg #[.slice (some ⟨q,3,none⟩) 4 (c6 - 1),.slice Q6 K.length d6]) ⟨sigs5.drop 1,K⟩) := Lib.hid ((HLO1.out.off YA.out 0 (.slice (some ⟨q,3,none⟩) 4 (c6 - 1))).more (by simp [World.setCell]))
     have u0 : (w7.setCell ⟨g,0,none⟩ (.slice (some ⟨q,3,none⟩) 4 (c6 - 1))).cell? ⟨g,0,none⟩ = some (.slice (some ⟨q,3,none⟩) 4 (c6 - 1)) := by simp [go_sem,y0]
     have u1 : (w7.setCell ⟨g,0,none⟩ (.slice (some ⟨q,3,none⟩) 4 (c6 - 1))).cell? ⟨g,1,none⟩ = some (.slice Q6 K.length d6) := by simp [go_sem,y1]
     have r0 := (hA9.cell (b := w.heap.size) (o := 0) (by omega) (fun h => by have := h.1; omega)).trans R0
     have r1 := (hA9.cell (b := w.heap.size) (o := 1) (by omega) (fun h => by have := h.1; omega)).trans R1
     have rz := fun o => (hA9.frozen (b := w.heap.size) (o := o) (by omega) (fun h => by have := h.1; omega)).trans (RZ o)
     have hbA : Below w.heap.size w7 (w7.setCell ⟨g,0,none⟩ (.slice (some ⟨q,3,none⟩) 4 (c6 - 1))) := hA9.below (fun k h => by have := h.1; omega) (by omega)
     have HBA := Lib.hid hbA
     have HSZ9 := Lib.hid (show w7.heap.size = (w7.setCell ⟨g,0,none⟩ (.slice (some ⟨q,3,none⟩) 4 (c6 - 1))).heap.size by simp [World.setCell])
     clear y0 y1 yz hA9 hbA R0 R1 RZ
     generalize w7.setCell ⟨g,0,none⟩ (.slice (some ⟨q,3,none⟩) 4 (c6 - 1)) = wA at *
     go_wp2
     have hst2 : Chg (Mid w.heap.size (w.heap.size + 1)) wA ((wA.setCell ⟨w.heap.size,0,none⟩ (.slice (some ⟨q,3,none⟩) 4 (c6 - 1))).setCell ⟨w.heap.size,1,none⟩ (.slice Q6 K.length d6)) := ((Chg.refl _ _).setCell (p := ⟨w.heap.size,0,none⟩) ⟨Nat.le_refl _,Nat.lt_succ_self _⟩ _).setCell (p := ⟨w.heap.size,1,none⟩) ⟨Nat.le_refl _,Nat.lt_succ_self _⟩ _
     have hlast := HBA.out.trans (hst2.below (fun k h => h.1) (by have := HSZ9.out; omega))
     have hdr : InstSmall 9 ⟨sigs5.drop 1,K⟩ := ⟨⟨by show (sigs5.drop 1).length ≤ 5; decide,fun r hr => sigs5_small.2 r (List.mem_of_mem_drop hr)⟩,by show K.length ≤ 9; omega,HI.out.2.2⟩
     refine bodyPost_ret (v := .agg #[.slice (some ⟨q,3,none⟩) 4 (c6 - 1),.slice Q6 K.length d6]) (by simp [results,Tryz.results67,go_sem,r0,r1]) rfl ⟨_,⟨sigs5.drop 1,K⟩,rfl,?_,hdr,⟨_,Cur.below hC HC7.out hlast⟩,grown_of_below HG7.out hlast⟩
     exact (HLOA.out.chg hst2 (fun k h => h.2)).less (by omega)
    ·
     have hS : Holds [(⟨g,0,none⟩,.slice (some ⟨q,0,none⟩) 5 c6)] w7 := by
      intro q hq
      simp only [List.mem_cons,List.not_mem_nil,or_false] at hq
      subst hq
      exact y0
     have hSb : ∀ z ∈ [((⟨g,0,none⟩ : Addr),Value.slice (some ⟨q,0,none⟩) 5 c6)],z.1.block = g := by
      intro z hz
      simp only [List.mem_cons,List.not_mem_nil,or_false] at hz
      subst hz
      rfl
     have HSb := Lib.hid hSb
     clear hSb
     have g1 := Keep.cell (h0 := hS) (a := ⟨g,0,none⟩) (v := .slice (some ⟨q,0,none⟩) 5 c6) (by simp)
     have i1 := hb st7 5
     have i2 := i1.2 (by omega)
     have i1 := i1.1
     have hc5 : 5 ≤ c6 := hr1
     go_wp2_with fail
     refine wp_region_planL (C := fun w' => ∃ u : Keep _ w7 hS,w' = u.now) (.still 0 (.still 1 (.still 2 (.move true 3 (.still 4 (.move true 5 (.still 6 (.move false 7 .done .none)) .none)) .none)))) (by kernel_rfl) (by kernel_rfl) (by kernel_rfl) (fun _ => ⟨⟨w7.drew,hS⟩,rfl⟩) ?_
     iterate 3
      refine plan_look _ rfl rfl ?_
      go_big_quiet_step (fail)
      refine wpQuiet_nil ?_
     refine plan_call _ 66 _ _ _ _ _ rfl _ Tryz.func66 (by kernel_rfl) (by kernel_rfl) ?_ True.intro
     refine (l1Below_r p cv code _ 5 _ (Cur.drewN HC7.out 1)).mono ?_
     rintro _ w8 ⟨rfl,hC8,hg8⟩
     generalize belowR code st7 5 = b at *
     obtain ⟨b1,st8⟩ := b
     dsimp only at *
     have hg8' : w7.grownBy w8 (some p) := ⟨hg8.os,hg8.tape,hg8.output,hg8.size,hg8.block⟩
     have hS8 := hS.grown hg8' (fun q hq => ⟨by rw [HSb.out q hq]; exact hgs7,by rw [HSb.out q hq]; intro e; injection e; omega⟩)
     refine ⟨_,rfl,fun _ => ⟨⟨_,hS8⟩,rfl⟩,?_⟩
     refine plan_put ?_ (by simp only [Act.put,putA,putB,putC]; rfl)
     obtain ⟨j,hj⟩ := Int.eq_ofNat_of_zero_le i1
     rw [hj]
     have hj5 : j < 5 := by omega
     have HJ := Lib.hid hj
     clear hj i1 i2
     refine plan_look _ rfl rfl ?_
     go_big_quiet_step (fail)
     refine wpQuiet_nil ?_
     refine plan_call _ 118 _ _ _ _ _ rfl _ Tryz.func118 (by kernel_rfl) (by kernel_rfl) ?_ True.intro
     refine (l3One_c p cv code _ w8 hC8).mono ?_
     rintro _ w9 ⟨rx,hrx,rfl,⟨st9,hC9⟩,hg9⟩
     have hg9' : w7.grownBy w9 (some p) := hg8'.trans hg9
     have hS9 := hS.grown hg9' (fun q hq => ⟨by rw [HSb.out q hq]; exact hgs7,by rw [HSb.out q hq]; intro e; injection e; omega⟩)
     refine ⟨_,rfl,fun _ => ⟨⟨_,hS9⟩,rfl⟩,?_⟩
     unfold relV
     refine plan_put ?_ (by simp only [Act.put,putA,putB,putC]; rfl)
     refine plan_look _ rfl rfl ?_
     go_big_quiet_step (fail)
     refine wpQuiet_nil ?_
     have hch9 := chg_of_grown hg9'
     have hOR9 := HOR.out.chg hch9 (.inr (by omega))
     have hOF9 := HOF.out.chg hch9 (.inr (by omega))
     have hs9 := hg9'.size
     obtain ⟨c0,c1,c2⟩ := hOR9.1.cells rfl j hj5
     have cz := hOR9.1.frozen rfl
     have z0 := grown_cell hg9' y0 (by omega)
     have z1 := grown_cell hg9' y1 (by omega)
     have r0 := grown_cell hg9' R0 hne
     have r1 := grown_cell hg9' R1 hne
     have rz := fun o => grown_frozen hg9' (o := o) (by omega) hne (RZ o)
     have hql : BB ≤ q ∧ q < CC := ⟨(OwnRels.lt hOR9.1 q rfl).1,hOR9.2 q rfl⟩
     have hw3 : ∀ u0 u1 u2,Chg (fun k => k = q) w9 (((w9.setCell ⟨q,j * 3,none⟩ u0).setCell ⟨q,j * 3 + 1,none⟩ u1).setCell ⟨q,j * 3 + 2,none⟩ u2) := fun u0 u1 u2 => (((Chg.refl (fun k => k = q) w9).setCell (p := ⟨q,j * 3,none⟩) rfl _).setCell (p := ⟨q,j * 3 + 1,none⟩) rfl _).setCell (p := ⟨q,j * 3 + 2,none⟩) rfl _
     have HF9 := Lib.hid (hOF9.offRel hOR9.1 (hw3 (.string rx.name) (.int .i64 rx.arity) (.bool rx.source)))
     have HS9 := Lib.hid (hOR9.1.set rfl j hj5 rx)
     have HC9 := Lib.hid hC9
     have HG9 := Lib.hid (HG7.out.trans hg9')
     have HSM : Hid (InstSmall 9 ⟨sigs5.set j rx,K⟩) := Lib.hid ⟨⟨by show (sigs5.set j rx).length ≤ 5; rw [List.length_set]; decide,fun r hr => by
      rcases List.mem_or_eq_of_mem_set hr with h | rfl
      ·
       exact sigs5_small.2 r h
      ·
       exact hrx⟩,by show K.length ≤ 9; omega,HI.out.2.2⟩
     have HW3 := Lib.hid hw3
     refine plan_skip (w' := ((w9.setCell ⟨q,j * 3,none⟩ (.string rx.name)).setCell ⟨q,j * 3 + 1,none⟩ (.int .i64 rx.arity)).setCell ⟨q,j * 3 + 2,none⟩ (.bool rx.source)) _ rfl rfl rfl (by simp [go_sem,c0,c1,c2,cz]) (fun e => by cases e) ?_ True.intro
     refine plan_put ?_ (by simp only [Act.put]; rfl)
     refine plan_done ?_
     have hA9 := HW3.out (.string rx.name) (.int .i64 rx.arity) (.bool rx.source)
     have hsz9 : (((w9.setCell ⟨q,j * 3,none⟩ (.string rx.name)).setCell ⟨q,j * 3 + 1,none⟩ (.int .i64 rx.arity)).setCell ⟨q,j * 3 + 2,none⟩ (.bool rx.source)).heap.size = w9.heap.size := by simp [World.setCell]
     have HSZ9 := Lib.hid hsz9
     have hqg : g ≠ q := by omega
     have u0 := (hA9.cell (b := g) (o := 0) (by omega) hqg).trans z0
     have u1 := (hA9.cell (b := g) (o := 1) (by omega) hqg).trans z1
     have r0 := (hA9.cell (b := w.heap.size) (o := 0) (by omega) (by omega)).trans r0
     have r1 := (hA9.cell (b := w.heap.size) (o := 1) (by omega) (by omega)).trans r1
     have rz := fun o => (hA9.frozen (b := w.heap.size) (o := o) (by omega) (by omega)).trans (rz o)
     have HBA := Lib.hid (show Below w.heap.size w9 _ from hA9.below (fun k h => by subst h; omega) (by omega))
     clear hA9 hsz9 z0 z1 c0 c1 c2 cz hOR9 hOF9 hS9 hS8 g1 hch9 hg9 hg9' hg8 hg8' hC9 hC8 hw3 y0 y1 yz R0 R1 RZ
     generalize ((w9.setCell ⟨q,j * 3,none⟩ (.string rx.name)).setCell ⟨q,j * 3 + 1,none⟩ (.int .i64 rx.arity)).setCell ⟨q,j * 3 + 2,none⟩ (.bool rx.source) = wA at *
     go_wp2
     have hst2 : Chg (Mid w.heap.size (w.heap.size + 1)) wA ((wA.setCell ⟨w.heap.size,0,none⟩ (.slice (some ⟨q,0,none⟩) 5 c6)).setCell ⟨w.heap.size,1,none⟩ (.slice Q6 K.length d6)) := ((Chg.refl _ _).setCell (p := ⟨w.heap.size,0,none⟩) ⟨Nat.le_refl _,Nat.lt_succ_self _⟩ _).setCell (p := ⟨w.heap.size,1,none⟩) ⟨Nat.le_refl _,Nat.lt_succ_self _⟩ _
     have hlast := HBA.out.trans (hst2.below (fun k h => h.1) (by have := HSZ9.out; omega))
     refine bodyPost_ret (v := .agg #[.slice (some ⟨q,0,none⟩) 5 c6,.slice Q6 K.length d6]) (by simp [results,Tryz.results67,go_sem,r0,r1]) rfl ⟨_,⟨sigs5.set j rx,K⟩,rfl,?_,HSM.out,⟨_,Cur.below hC HC9.out hlast⟩,grown_of_below HG9.out hlast⟩
     have hRA : RelationS_own BB CC (.slice (some ⟨q,0,none⟩) 5 c6) (sigs5.set j rx) wA := ⟨HS9.out.mono (Nat.le_refl _),fun z hz => by
      have h9 : q = z := Option.some.inj hz
      exact h9 ▸ hql.2⟩
     have hlo : Instance_lo (w.heap.size + 1) wA wA.heap.size (.agg #[.slice (some ⟨q,0,none⟩) 5 c6,.slice Q6 K.length d6]) ⟨sigs5.set j rx,K⟩ :=
      Instance_own.lo (Instance_own.mono (B' := w.heap.size + 1) (C' := wA.heap.size) ⟨_,_,rfl,hRA,HF9.out⟩ (by omega) (by have := HSZ9.out; omega)) (Nat.le_refl _)
     exact (hlo.chg hst2 (fun k h => h.2)).less (by omega)
    ·
     have e0 : (nn == 0) = false := beq_eq_false_iff_ne.2 (by omega)
     have e1 : (nn == 1) = false := beq_eq_false_iff_ne.2 (by omega)
     have e2 : (nn == 2) = false := beq_eq_false_iff_ne.2 (by omega)
     go_wp2
     have hst2 : ∀ u0 u1,Chg (Mid w.heap.size (w.heap.size + 1)) w7 ((w7.setCell ⟨w.heap.size,0,none⟩ u0).setCell ⟨w.heap.size,1,none⟩ u1) := fun u0 u1 => ((Chg.refl _ _).setCell (p := ⟨w.heap.size,0,none⟩) ⟨Nat.le_refl _,Nat.lt_succ_self _⟩ _).setCell (p := ⟨w.heap.size,1,none⟩) ⟨Nat.le_refl _,Nat.lt_succ_self _⟩ _
     have hbw : ∀ u0 u1,Below w.heap.size w7 ((w7.setCell ⟨w.heap.size,0,none⟩ u0).setCell ⟨w.heap.size,1,none⟩ u1) := fun u0 u1 => (hst2 u0 u1).below (fun k h => h.1) (by omega)
     refine bodyPost_ret (v := .agg #[.slice (some ⟨q,0,none⟩) 5 c6,.slice Q6 K.length d6]) (by simp [results,Tryz.results67,go_sem,R0,R1]) rfl ⟨_,⟨sigs5,K⟩,rfl,?_,HI.out.more (by decide),⟨_,Cur.below hC HC7.out (hbw _ _)⟩,grown_of_below HG7.out (hbw _ _)⟩
     exact Instance_own.lo (Instance_own.mono ⟨_,_,rfl,HOR.out.chg (hst2 _ _) (.inr (by omega)),HOF.out.chg (hst2 _ _) (.inr (by omega))⟩ (by omega) (by simp [World.setCell]; omega)) (Nat.le_refl _)
end Go.Proofs.YtobdijcnfmgidaaGreat
