/- Walks and plain lemmas for the laws of this seat. -/
import Derived.Deep.LoopGhost
import Derived.Deep.Quiet
import Derived.Test.YtobdijcnfmgidaaGreatBase
import Derived.Test.YtobdijcnfmgidaaGreatInts
import Derived.Test.YtobdijcnfmgidaaGreatDraw
import Derived.Test.YtobdijcnfmgidaaGreatDrawR
import Derived.Test.YtobdijcnfmgidaaGreatPlan
import Derived.Test.YtobdijcnfmgidaaGreatDrawF
import Derived.Test.YtobdijcnfmgidaaGreatTyAtom
import Derived.Test.YtobdijcnfmgidaaGreatTyDepS
namespace Go.Proofs.YtobdijcnfmgidaaGreat
open Go.RowKit
set_option maxHeartbeats 1600000 in
set_option maxRecDepth 100000 in
theorem l9Atom_c (p : Nat) (cv : Value) (code : List UInt8) (st : DrawSt) (j : Nat) (hj : j < 5) (n : Int) (h1 : 1 ≤ n) (h2 : n ≤ 4) (w : World) (hC : CurS w p cv code st) :
 Calls Tryz.prog 120 #[.pointer (some ⟨p,0,none⟩),.int .i64 j,.int .i64 n] w fun e w' => ∃ V vs,e = .returned (.agg #[.int .i64 j,V]) ∧ OwnInts w.heap.size V vs w' ∧ 1 ≤ vs.length ∧ vs.length ≤ 2 ∧ (∀ z ∈ vs,-4 ≤ z ∧ z ≤ 4) ∧ (∃ st',CurS w' p cv code st') ∧ w.grownBy w' (some p) := by
 have hp := Cur.lt hC
 have har := sigs5_ar j hj
 go_enter Tryz.func120,Tryz.ntmps120
 go_wp2_with fail
 refine (l3Sigs_c _).mono ?_; rintro e w2 ⟨rfl,hw2⟩
 have hO2 := sigs5_own (w.alloc (.cells #[.int .i64 0,.slice none 0 0] 111))
 rw [← hw2] at hO2
 go_wp2_with fail
 have hG : (w.alloc (.cells #[.int .i64 0,.slice none 0 0] 111)).heap.size = w.heap.size + 1 := by simp
 obtain ⟨-,s1,-⟩ := hO2.cells rfl j hj
 rw [hG] at s1
 have b0 : w2.cell? ⟨w.heap.size,0,none⟩ = some (.int .i64 0) := by rw [hw2]; simp [go_sem]
 have b1 : w2.cell? ⟨w.heap.size,1,none⟩ = some (.slice none 0 0) := by rw [hw2]; simp [go_sem]
 have bz : ∀ o,w2.frozen? ⟨w.heap.size,o,none⟩ = false := by intro o; rw [hw2]; simp [go_sem]
 have hz2 : w2.heap.size = w.heap.size + 2 := by rw [hw2]; simp
 have hC2 : CurS w2 p cv code st := by rw [hw2]; exact Cur.alloc (Cur.alloc hC _) _
 have hB2 : Below w.heap.size w w2 := by rw [hw2]; exact below_more (below_more (Below.refl _ _) _) _
 clear hO2 hG
 rw [← hw2]
 clear hw2
 obtain ⟨g,hg⟩ : ∃ g,g = w2.heap.size := ⟨_,rfl⟩
 have y0 : (w2.alloc (.cells #[.int .i64 j,.slice none 0 0] 111)).cell? ⟨g,0,none⟩ = some (.int .i64 j) := by rw [hg]; simp [go_sem]
 have y1 : (w2.alloc (.cells #[.int .i64 j,.slice none 0 0] 111)).cell? ⟨g,1,none⟩ = some (.slice none 0 0) := by rw [hg]; simp [go_sem]
 have yz : ∀ o,(w2.alloc (.cells #[.int .i64 j,.slice none 0 0] 111)).frozen? ⟨g,o,none⟩ = false := by intro o; rw [hg]; simp [go_sem]
 have hsz : (w2.alloc (.cells #[.int .i64 j,.slice none 0 0] 111)).heap.size = g + 1 := by rw [hg]; simp
 have hAl : Below g w2 (w2.alloc (.cells #[.int .i64 j,.slice none 0 0] 111)) := (Below.refl _ _).alloc (by omega) _
 have hCW : CurS (w2.alloc (.cells #[.int .i64 j,.slice none 0 0] 111)) p cv code st := Cur.alloc hC2 _
 have hgw : g = w.heap.size + 2 := hg.trans hz2
 have hGW := Lib.hid hgw
 rw [show w.heap.size + 1 + 1 = g from hgw.symm]
 generalize w2.alloc (.cells #[.int .i64 j,.slice none 0 0] 111) = W at y0 y1 yz hsz hAl hCW ⊢
 obtain ⟨A,hA⟩ : ∃ A : Nat,sigs5[j].arity = A := ⟨sigs5[j].arity.toNat,by omega⟩
 rw [hA] at s1 har
 have S1 := Lib.hid ((hAl.cell (p := ⟨w.heap.size + 1,j * 3 + 1,none⟩) (by show w.heap.size + 1 < g; omega)).trans s1)
 have B0 := Lib.hid ((hAl.cell (p := ⟨w.heap.size,0,none⟩) (by show w.heap.size < g; omega)).trans b0)
 have B1 := Lib.hid ((hAl.cell (p := ⟨w.heap.size,1,none⟩) (by show w.heap.size < g; omega)).trans b1)
 have BZ := Lib.hid (fun o => (hAl.frozen (p := ⟨w.heap.size,o,none⟩) (by show w.heap.size < g; omega)).trans (bz o))
 have HW := Lib.hid (hB2.trans (hAl.mono (by omega)))
 have HSZ := Lib.hid hsz
 have hpg : p < g ∧ w.heap.size + 1 < g := by omega
 clear s1 b0 b1 bz hz2 hC2 hB2 hg hAl hsz hgw hA
 go_loopg [] A (fun m wr => ∃ V vs st',m + vs.length = A ∧ wr.cell? ⟨g,0,none⟩ = some (.int .i64 j) ∧ wr.cell? ⟨g,1,none⟩ = some V ∧ (∀ o,wr.frozen? ⟨g,o,none⟩ = false) ∧ OwnInts (g + 1) V vs wr ∧ (∀ z ∈ vs,-4 ≤ z ∧ z ≤ 4) ∧ CurS wr p cv code st' ∧ Hid (Chg (fun q => q = p ∨ q = g) W wr))
 case atStart => exact ⟨_,[],_,rfl,y0,y1,yz,OwnInts.nil _ _,(fun z hz => by cases hz),hCW,Lib.hid (Chg.refl _ _)⟩
 case round =>
  clear y0 y1 yz hCW
  obtain ⟨V,vs,st',hm,y0,y1,yz,hO,hvs,hCr,HC⟩ := hrel
  obtain ⟨P4,c4,rfl,hl4,hm4,-⟩ := hO.at_
  have hC' := HC.out
  have ar : wr.cell? ⟨w.heap.size + 1,j * 3 + 1,none⟩ = some (.int .i64 A) := (hC'.cell (show w.heap.size + 1 < _ by rw [HSZ.out]; omega) (by omega)).trans S1.out
  have HO := Lib.hid hO
  have HV := Lib.hid hvs
  clear hO hC' hvs
  unfold maxLen at hm4
  have HM := Lib.hid hm
  by_cases hlt : vs.length < A
  · have e0 : decide (vs.length < A) = true := decide_eq_true hlt
    have e1 : decide ((vs.length : Int) < (A : Int)) = true := decide_eq_true (by omega)
    clear hm
    go_wp2_with fail
    go_quiet (fail)
    go_wp2_with fail
    refine (l1Once_r p cv code _ 14 _ (Cur.drewN hCr _)).mono ?_; rintro e w3 ⟨rfl,hC3,hg3⟩
    have hbd := belowR_bd code
    generalize onceR code st' 14 = b at *
    obtain ⟨bb,st3⟩ := b
    dsimp only at *
    have hg3' : wr.grownBy w3 (some p) := ⟨hg3.os,hg3.tape,hg3.output,hg3.size,hg3.block⟩
    have hz3 := hg3'.size
    have hgr : g + 1 ≤ wr.heap.size := by have h1 := HC.out.size; rw [HSZ.out] at h1; exact h1
    replace y0 := grown_cell hg3' y0 (by omega)
    replace y1 := grown_cell hg3' y1 (by omega)
    replace yz := fun o => grown_frozen hg3' hgr (by omega) (yz o)
    replace HO := Lib.hid (HO.out.grown hg3' (by omega))
    have HG3 := Lib.hid hg3'
    clear hg3 hg3' ar
    have hS : Holds [(⟨g,1,none⟩,.slice P4 vs.length c4)] w3 := by
     intro q hq
     simp only [List.mem_cons,List.not_mem_nil,or_false] at hq
     subst hq
     exact y1
    have hSb : ∀ q ∈ [((⟨g,1,none⟩ : Addr),Value.slice P4 vs.length c4)],q.1.block = g := by
     intro q hq
     simp only [List.mem_cons,List.not_mem_nil,or_false] at hq
     subst hq
     rfl
    have HSb := Lib.hid hSb
    clear hSb
    have hgr3 : g + 1 ≤ w3.heap.size := by omega
    have g0 := Keep.cell (h0 := hS) (a := ⟨g,1,none⟩) (v := .slice P4 vs.length c4) (by simp)
    cases bb with
    | true =>
      go_wp2_with fail
      refine wp_region_planL (C := fun w' => ∃ u : Keep _ w3 hS,w' = u.now) (.still 0 (.still 1 (.still 2 (.move true 3 (.still 4 (.move true 5 (.move true 6 (.still 7 (.move false 8 .done .none)) .none) .none)) .none)))) (by kernel_rfl) (by kernel_rfl) (by kernel_rfl) (fun _ => ⟨⟨w3.drew,hS⟩,rfl⟩) ?_
      iterate 3
       refine plan_look _ rfl rfl ?_
       go_big_quiet_step (fail)
       refine wpQuiet_nil ?_
      refine plan_call _ 66 _ _ _ _ _ rfl _ Tryz.func66 (by kernel_rfl) (by kernel_rfl) ?_ True.intro
      refine (l1Below_r p cv code st3 3 _ (Cur.drewN hC3 1)).mono ?_
      rintro _ w2 ⟨rfl,hC2,hg2⟩
      have hbz := hbd st3 3
      have hbz2 := hbz.2 (by omega)
      have hbz1 := hbz.1
      generalize belowR code st3 3 = b at *
      obtain ⟨zz0,st2⟩ := b
      dsimp only at *
      clear hbz
      have hg' : w3.grownBy w2 (some p) := ⟨hg2.os,hg2.tape,hg2.output,hg2.size,hg2.block⟩
      refine ⟨_,rfl,fun _ => ⟨⟨_,hS.grown hg' (fun q hq => ⟨by rw [HSb.out q hq]; exact hgr3,by rw [HSb.out q hq]; intro e; injection e; omega⟩)⟩,rfl⟩,?_⟩
      have hK2 := hS.grown hg' (fun q hq => ⟨by rw [HSb.out q hq]; exact hgr3,by rw [HSb.out q hq]; intro e; injection e; omega⟩)
      refine plan_put ?_ (by simp only [Act.put,putA,putB,putC]; rfl)
      refine plan_look _ rfl rfl ?_
      go_big_quiet_step (fail)
      refine wpQuiet_nil ?_
      obtain ⟨z,hz⟩ : ∃ z,z = -1 - zz0 := ⟨_,rfl⟩
      have hz12 : -4 ≤ z ∧ z ≤ 4 := by omega
      rw [← hz]
      clear hz hbz1 hbz2
      have hz2' := hg'.size
      have hAl := (Below.refl (g + 1) w2).alloc (by omega) (.cells #[.int .i64 z] 3)
      refine plan_value (u := .slice (some ⟨w2.heap.size,0,none⟩) 1 1) (w' := w2.alloc (.cells #[.int .i64 z] 3)) _ rfl rfl rfl (by simp [go_sem]) (fun _ => ⟨⟨_,hK2.below hAl (fun q hq => by rw [HSb.out q hq]; omega)⟩,rfl⟩) ?_ True.intro
      refine plan_put ?_ (by simp only [Act.put,putA,putB,putC]; rfl)
      have hO3 := (HO.out.grown hg' (by omega)).grown (World.grownBy_alloc w2 (.cells #[.int .i64 z] 3) (some p)) (by omega)
      unfold OwnInts at hO3
      rw [← flat_int] at hO3
      have hr : SliceAt intCell (w2.alloc (.cells #[.int .i64 z] 3)) (w2.heap.size + 1) (.slice (some ⟨w2.heap.size,0,none⟩) [z].length 1) [z] := by
       refine ⟨_,_,rfl,Nat.le_refl _,by simp [maxLen],fun _ => ⟨_,_,rfl,by omega,?_⟩,fun h => by cases h⟩
       intro i u hu
       rw [Nat.zero_add,box_cell]
       simpa [intCell] using hu
      refine plan_app intCell 1 8 (r := [z]) (fun x _ u hu => by simp [intCell] at hu; subst hu; rfl) (fun _ => rfl) _ rfl rfl Tryz.underlying31 infoInt rfl (by decide) hO3 _ _ rfl rfl ⟨w2.heap.size,0,none⟩ 1 1 rfl rfl hr (by simp; omega) (by simp; omega) (by simp; omega) ?_ True.intro
      intro v4 w4 hO4 hB4 _ _
      have hb4 := hAl.trans hB4
      have hO5 : OwnInts (g + 1) v4 (vs ++ [z]) w4 := by
       have := hO4
       rw [flat_int] at this
       simpa [OwnInts] using this
      obtain ⟨P5,c5,rfl,-⟩ := hO5.at_
      have z0 := (hb4.cell (p := ⟨g,0,none⟩) (Nat.lt_succ_self _)).trans (grown_cell hg' y0 (by omega))
      have z1 := (hb4.cell (p := ⟨g,1,none⟩) (Nat.lt_succ_self _)).trans (grown_cell hg' y1 (by omega))
      have zz := fun o => (hb4.frozen (p := ⟨g,o,none⟩) (Nat.lt_succ_self _)).trans (grown_frozen hg' hgr3 (by omega) (yz o))
      have HO5 := Lib.hid hO5
      have HB4 := Lib.hid hb4
      have HC2 := Lib.hid hC2
      have HG' := Lib.hid hg'
      refine ⟨fun _ => ⟨⟨_,hK2.below hb4 (fun q hq => by rw [HSb.out q hq]; omega)⟩,rfl⟩,?_⟩
      clear hO5 hb4 hC2 hg' hO4 hB4 hr hO3 hAl hK2 y0 y1 yz hg2
      refine plan_put ?_ (by simp only [Act.put,putA,putB,putC]; rfl)
      refine plan_look _ rfl rfl ?_
      go_big_quiet_step (fail)
      refine wpQuiet_nil ?_
      refine plan_skip (w' := w4.setCell ⟨g,1,none⟩ (.slice P5 (vs ++ [z]).length c5)) _ rfl rfl rfl (by simp [go_sem,z1,zz]) (fun e => by cases e) ?_ True.intro
      refine plan_put ?_ (by simp only [Act.put]; rfl)
      refine plan_done ?_
      go_wp2
      go_roundg (gk - 1)
      case measure => have := HM.out; omega
      case rel =>
       have hM := HM.out
       have hch : Chg (fun q => q = p ∨ q = g) wr w2 := by
        have h3 := HG3.out.trans HG'.out
        exact ⟨h3.os,h3.tape,h3.output,h3.size,fun k hk hn => h3.block k hk (by intro e; injection e with e; exact hn (.inl e))⟩
       have hbf : Below w.heap.size w2 (w4.setCell ⟨g,1,none⟩ (.slice P5 (vs ++ [z]).length c5)) := (HB4.out.mono (by omega)).setCell (p := ⟨g,1,none⟩) (by show w.heap.size ≤ g; omega) _
       refine ⟨.slice P5 (vs ++ [z]).length c5,vs ++ [z],st2,by simp; omega,by simp [go_sem,z0],by simp [go_sem,z1],fun o => by simp [zz],?_,?_,Cur.below hC HC2.out hbf,Lib.hid (((HC.out.trans hch).then_below (by rw [HSZ.out]; exact HB4.out)).setCell (p := ⟨g,1,none⟩) (.inr rfl) _)⟩
       · exact HO5.out.chg ((Chg.refl (fun q => q = g) w4).setCell (p := ⟨g,1,none⟩) rfl _) (fun q hq e => by have := (HO5.out.lt q hq).1; omega)
       · intro y hy
         rcases List.mem_append.1 hy with h | h
         · exact HV.out y h
         · rw [List.mem_singleton.1 h]; exact hz12
    | false =>
      go_wp2_with fail
      refine wp_region_planL (C := fun w' => ∃ u : Keep _ w3 hS,w' = u.now) (.still 0 (.still 1 (.still 2 (.still 3 (.move true 4 (.move true 5 (.move true 6 (.still 7 (.move false 8 .done .none)) .none) .none) .none))))) (by kernel_rfl) (by kernel_rfl) (by kernel_rfl) (fun _ => ⟨⟨w3.drew,hS⟩,rfl⟩) ?_
      iterate 4
       refine plan_look _ rfl rfl ?_
       go_big_quiet_step (fail)
       refine wpQuiet_nil ?_
      refine plan_call _ 66 _ _ _ _ _ rfl _ Tryz.func66 (by kernel_rfl) (by kernel_rfl) ?_ True.intro
      refine (l1Below_r p cv code st3 n _ (Cur.drewN hC3 1)).mono ?_
      rintro _ w2 ⟨rfl,hC2,hg2⟩
      have hbz := hbd st3 n
      have hbz2 := hbz.2 (by omega)
      have hbz1 := hbz.1
      generalize belowR code st3 n = b at *
      obtain ⟨zz0,st2⟩ := b
      dsimp only at *
      clear hbz
      have hg' : w3.grownBy w2 (some p) := ⟨hg2.os,hg2.tape,hg2.output,hg2.size,hg2.block⟩
      refine ⟨_,rfl,fun _ => ⟨⟨_,hS.grown hg' (fun q hq => ⟨by rw [HSb.out q hq]; exact hgr3,by rw [HSb.out q hq]; intro e; injection e; omega⟩)⟩,rfl⟩,?_⟩
      have hK2 := hS.grown hg' (fun q hq => ⟨by rw [HSb.out q hq]; exact hgr3,by rw [HSb.out q hq]; intro e; injection e; omega⟩)
      refine plan_put ?_ (by simp only [Act.put,putA,putB,putC]; rfl)
      obtain ⟨z,hz⟩ : ∃ z,z = zz0 := ⟨_,rfl⟩
      have hz12 : -4 ≤ z ∧ z ≤ 4 := by omega
      rw [← hz]
      clear hz hbz1 hbz2
      have hz2' := hg'.size
      have hAl := (Below.refl (g + 1) w2).alloc (by omega) (.cells #[.int .i64 z] 3)
      refine plan_value (u := .slice (some ⟨w2.heap.size,0,none⟩) 1 1) (w' := w2.alloc (.cells #[.int .i64 z] 3)) _ rfl rfl rfl (by simp [go_sem]) (fun _ => ⟨⟨_,hK2.below hAl (fun q hq => by rw [HSb.out q hq]; omega)⟩,rfl⟩) ?_ True.intro
      refine plan_put ?_ (by simp only [Act.put,putA,putB,putC]; rfl)
      have hO3 := (HO.out.grown hg' (by omega)).grown (World.grownBy_alloc w2 (.cells #[.int .i64 z] 3) (some p)) (by omega)
      unfold OwnInts at hO3
      rw [← flat_int] at hO3
      have hr : SliceAt intCell (w2.alloc (.cells #[.int .i64 z] 3)) (w2.heap.size + 1) (.slice (some ⟨w2.heap.size,0,none⟩) [z].length 1) [z] := by
       refine ⟨_,_,rfl,Nat.le_refl _,by simp [maxLen],fun _ => ⟨_,_,rfl,by omega,?_⟩,fun h => by cases h⟩
       intro i u hu
       rw [Nat.zero_add,box_cell]
       simpa [intCell] using hu
      refine plan_app intCell 1 8 (r := [z]) (fun x _ u hu => by simp [intCell] at hu; subst hu; rfl) (fun _ => rfl) _ rfl rfl Tryz.underlying31 infoInt rfl (by decide) hO3 _ _ rfl rfl ⟨w2.heap.size,0,none⟩ 1 1 rfl rfl hr (by simp; omega) (by simp; omega) (by simp; omega) ?_ True.intro
      intro v4 w4 hO4 hB4 _ _
      have hb4 := hAl.trans hB4
      have hO5 : OwnInts (g + 1) v4 (vs ++ [z]) w4 := by
       have := hO4
       rw [flat_int] at this
       simpa [OwnInts] using this
      obtain ⟨P5,c5,rfl,-⟩ := hO5.at_
      have z0 := (hb4.cell (p := ⟨g,0,none⟩) (Nat.lt_succ_self _)).trans (grown_cell hg' y0 (by omega))
      have z1 := (hb4.cell (p := ⟨g,1,none⟩) (Nat.lt_succ_self _)).trans (grown_cell hg' y1 (by omega))
      have zz := fun o => (hb4.frozen (p := ⟨g,o,none⟩) (Nat.lt_succ_self _)).trans (grown_frozen hg' hgr3 (by omega) (yz o))
      have HO5 := Lib.hid hO5
      have HB4 := Lib.hid hb4
      have HC2 := Lib.hid hC2
      have HG' := Lib.hid hg'
      refine ⟨fun _ => ⟨⟨_,hK2.below hb4 (fun q hq => by rw [HSb.out q hq]; omega)⟩,rfl⟩,?_⟩
      clear hO5 hb4 hC2 hg' hO4 hB4 hr hO3 hAl hK2 y0 y1 yz hg2
      refine plan_put ?_ (by simp only [Act.put,putA,putB,putC]; rfl)
      refine plan_look _ rfl rfl ?_
      go_big_quiet_step (fail)
      refine wpQuiet_nil ?_
      refine plan_skip (w' := w4.setCell ⟨g,1,none⟩ (.slice P5 (vs ++ [z]).length c5)) _ rfl rfl rfl (by simp [go_sem,z1,zz]) (fun e => by cases e) ?_ True.intro
      refine plan_put ?_ (by simp only [Act.put]; rfl)
      refine plan_done ?_
      go_wp2
      go_roundg (gk - 1)
      case measure => have := HM.out; omega
      case rel =>
       have hM := HM.out
       have hch : Chg (fun q => q = p ∨ q = g) wr w2 := by
        have h3 := HG3.out.trans HG'.out
        exact ⟨h3.os,h3.tape,h3.output,h3.size,fun k hk hn => h3.block k hk (by intro e; injection e with e; exact hn (.inl e))⟩
       have hbf : Below w.heap.size w2 (w4.setCell ⟨g,1,none⟩ (.slice P5 (vs ++ [z]).length c5)) := (HB4.out.mono (by omega)).setCell (p := ⟨g,1,none⟩) (by show w.heap.size ≤ g; omega) _
       refine ⟨.slice P5 (vs ++ [z]).length c5,vs ++ [z],st2,by simp; omega,by simp [go_sem,z0],by simp [go_sem,z1],fun o => by simp [zz],?_,?_,Cur.below hC HC2.out hbf,Lib.hid (((HC.out.trans hch).then_below (by rw [HSZ.out]; exact HB4.out)).setCell (p := ⟨g,1,none⟩) (.inr rfl) _)⟩
       · exact HO5.out.chg ((Chg.refl (fun q => q = g) w4).setCell (p := ⟨g,1,none⟩) rfl _) (fun q hq e => by have := (HO5.out.lt q hq).1; omega)
       · intro y hy
         rcases List.mem_append.1 hy with h | h
         · exact HV.out y h
         · rw [List.mem_singleton.1 h]; exact hz12
  · have e0 : decide (vs.length < A) = false := decide_eq_false hlt
    have e1 : decide ((vs.length : Int) < (A : Int)) = false := decide_eq_false (by omega)
    clear hm
    go_wp2_with fail
    go_quiet (fail)
    have hC' := HC.out
    have m0 : wr.cell? ⟨w.heap.size,0,none⟩ = some (.int .i64 0) := (hC'.cell (show w.heap.size < _ by rw [HSZ.out]; omega) (by omega)).trans B0.out
    have m1 : wr.cell? ⟨w.heap.size,1,none⟩ = some (.slice none 0 0) := (hC'.cell (show w.heap.size < _ by rw [HSZ.out]; omega) (by omega)).trans B1.out
    have mz : ∀ o,wr.frozen? ⟨w.heap.size,o,none⟩ = false := fun o => (hC'.frozen (show w.heap.size < _ by rw [HSZ.out]; omega) (by omega)).trans (BZ.out o)
    have HG : Hid (w.grownBy wr (some p)) := by
     have h1 := HW.out
     refine ⟨hC'.os.trans h1.os,hC'.tape.trans h1.tape,hC'.output.trans h1.output,Nat.le_trans h1.size hC'.size,fun k hk hne => (hC'.block k (Nat.lt_of_lt_of_le hk h1.size) ?_).trans (h1.block k hk)⟩
     have := hGW.out
     have h3 : k ≠ p := fun e => hne (by rw [e])
     omega
    clear hC'
    go_wp2_with fail
    have hbw : Below w.heap.size wr (((wr.drewN nq).setCell ⟨w.heap.size,0,none⟩ (.int .i64 j)).setCell ⟨w.heap.size,1,none⟩ (.slice P4 vs.length c4)) := ((show Below w.heap.size wr (wr.drewN nq) from ⟨rfl,rfl,rfl,Nat.le_refl _,fun _ _ => rfl⟩).setCell (p := ⟨w.heap.size,0,none⟩) (Nat.le_refl _) _).setCell (p := ⟨w.heap.size,1,none⟩) (Nat.le_refl _) _
    have hcw : Chg (fun q => q = w.heap.size) wr (((wr.drewN nq).setCell ⟨w.heap.size,0,none⟩ (.int .i64 j)).setCell ⟨w.heap.size,1,none⟩ (.slice P4 vs.length c4)) := ((show Chg (fun q => q = w.heap.size) wr (wr.drewN nq) from ⟨rfl,rfl,rfl,Nat.le_refl _,fun _ _ _ => rfl⟩).setCell (p := ⟨w.heap.size,0,none⟩) rfl _).setCell (p := ⟨w.heap.size,1,none⟩) rfl _
    refine bodyPost_ret (v := .agg #[.int .i64 j,.slice P4 vs.length c4]) (by simp [results,Tryz.results120,go_sem,m0,m1]) rfl ⟨_,vs,rfl,?_,?_,?_,HV.out,⟨_,Cur.below hC hCr hbw⟩,grown_of_below HG.out hbw⟩
    · exact (HO.out.chg hcw (fun q hq e => by have := (HO.out.lt q hq).1; omega)).mono (by omega)
    · have := HM.out; omega
    · have := HM.out; omega
def AtmSmall (a : Atm) : Prop := (-1 ≤ a.rel ∧ a.rel ≤ 6) ∧ (1 ≤ a.vals.length ∧ a.vals.length ≤ 2) ∧ ∀ z ∈ a.vals, -11 ≤ z ∧ z ≤ 5
def DepSmall (n : Nat) (x : Dep) : Prop := (1 ≤ x.body.length ∧ x.body.length ≤ 2 ∧ ∀ a ∈ x.body, AtmSmall a) ∧ (x.head.length ≤ n ∧ ∀ a ∈ x.head, AtmSmall a) ∧ (-11 ≤ x.left ∧ x.left ≤ 5) ∧ -11 ≤ x.right ∧ x.right ≤ 5
def DVal9 (X : DepX) (x : Dep) : Value := .agg #[X.1.1, X.2.1, .bool x.egd, .int .i64 x.left, .int .i64 x.right]
def GivesDep9 (n : Nat) (p : Nat) (cv : Value) (code : List UInt8) (w : World) (e : Ending) (w' : World) : Prop := ∃ X x, e = .returned (DVal9 X x) ∧ DepOwn w.heap.size w'.heap.size X x w' ∧ DepSmall n x ∧ (∃ st', CurS w' p cv code st') ∧ w.grownBy w' (some p)
theorem lit_ints (w : World) (vs : List Int) (h : vs.length ≤ 3) : IntS_own w.heap.size (w.heap.size + 1) (.slice (some ⟨w.heap.size, 0, none⟩) vs.length vs.length) vs (w.alloc (.cells (vs.map (Value.int .i64)).toArray 3)) := by
 refine ⟨?_,fun g hg => by cases hg; exact Nat.lt_succ_self _⟩
 have := World.ownsRow_lit (base := w.heap.size) (e := 3) (size := 1) w (vs.map (Value.int .i64)).toArray vs.length (Nat.le_refl _) (by unfold maxLen; omega) (by simp)
 simpa [OwnInts] using this
theorem lit_atoms1 (B : Nat) (w : World) (r : Int) (V : Value) (vs : List Int) (hV : IntS_own B w.heap.size V vs w) (hB : B ≤ w.heap.size) : AtomSO 111 B (w.heap.size + 1) (.slice (some ⟨w.heap.size, 0, none⟩) 1 1) [V] [⟨r, vs⟩] (w.alloc (.cells #[.int .i64 r, V] 111)) := by
 have hb : Below w.heap.size w (w.alloc (.cells #[.int .i64 r,V] 111)) := (Below.refl _ _).alloc (Nat.le_refl _) _
 refine ⟨rfl,World.ownsRow_lit w #[.int .i64 r,V] 1 hB (by decide) rfl,(fun g hg => by cases hg; exact Nat.lt_succ_self _),(fun i h h' => ?_),List.pairwise_singleton _ _⟩
 have h1 : i < 1 := h
 obtain rfl : i = 0 := by omega
 exact (hV.below hb (Nat.le_refl _)).mono (Nat.le_refl _) (Nat.le_succ _)
theorem lit_atoms2 (B : Nat) (w : World) (r1 r2 : Int) (V1 V2 : Value) (u1 u2 : List Int) (h1 : IntS_own B w.heap.size V1 u1 w) (h2 : IntS_own B w.heap.size V2 u2 w) (hd : ∀ g, V1.ownBlock = some g → V2.ownBlock ≠ some g) (hB : B ≤ w.heap.size) : AtomSO 111 B (w.heap.size + 1) (.slice (some ⟨w.heap.size, 0, none⟩) 2 2) [V1, V2] [⟨r1, u1⟩, ⟨r2, u2⟩] (w.alloc (.cells #[.int .i64 r1, V1, .int .i64 r2, V2] 111)) := by
 have hb : Below w.heap.size w (w.alloc (.cells #[.int .i64 r1,V1,.int .i64 r2,V2] 111)) := (Below.refl _ _).alloc (Nat.le_refl _) _
 refine ⟨rfl,World.ownsRow_lit w #[.int .i64 r1,V1,.int .i64 r2,V2] 2 hB (by decide) rfl,(fun g hg => by cases hg; exact Nat.lt_succ_self _),(fun i h h' => ?_),List.pairwise_pair.2 hd⟩
 have h3 : i < 2 := h
 rcases (show i = 0 ∨ i = 1 by omega) with rfl | rfl
 · exact (h1.below hb (Nat.le_refl _)).mono (Nat.le_refl _) (Nat.le_succ _)
 · exact (h2.below hb (Nat.le_refl _)).mono (Nat.le_refl _) (Nat.le_succ _)
def litW1 (w : World) (r : Int) (vs : List Int) : World := (w.alloc (.cells (vs.map (Value.int .i64)).toArray 3)).alloc (.cells #[.int .i64 r, .slice (some ⟨w.heap.size, 0, none⟩) vs.length vs.length] 111)
def litW2 (w : World) (r1 : Int) (u1 : List Int) (r2 : Int) (u2 : List Int) : World := ((w.alloc (.cells (u1.map (Value.int .i64)).toArray 3)).alloc (.cells (u2.map (Value.int .i64)).toArray 3)).alloc (.cells #[.int .i64 r1, .slice (some ⟨w.heap.size, 0, none⟩) u1.length u1.length, .int .i64 r2, .slice (some ⟨w.heap.size + 1, 0, none⟩) u2.length u2.length] 111)
theorem litW1_below (w : World) (r : Int) (vs : List Int) : Below w.heap.size w (litW1 w r vs) := below_more (below_more (Below.refl _ _) _) _
theorem litW2_below (w : World) (r1 : Int) (u1 : List Int) (r2 : Int) (u2 : List Int) : Below w.heap.size w (litW2 w r1 u1 r2 u2) := below_more (below_more (below_more (Below.refl _ _) _) _) _
theorem litW1_size (w : World) (r : Int) (vs : List Int) : (litW1 w r vs).heap.size = w.heap.size + 2 := by simp [litW1]
theorem litW2_size (w : World) (r1 : Int) (u1 : List Int) (r2 : Int) (u2 : List Int) : (litW2 w r1 u1 r2 u2).heap.size = w.heap.size + 3 := by simp [litW2]
theorem litW1_own (w : World) (r : Int) (vs : List Int) (h : vs.length ≤ 3) : AtomSO 111 w.heap.size (w.heap.size + 2) (.slice (some ⟨w.heap.size + 1, 0, none⟩) 1 1) [.slice (some ⟨w.heap.size, 0, none⟩) vs.length vs.length] [⟨r, vs⟩] (litW1 w r vs) := by
 have h1 := lit_ints w vs h
 have e : (w.alloc (.cells (vs.map (Value.int .i64)).toArray 3)).heap.size = w.heap.size + 1 := by simp
 have h2 := lit_atoms1 w.heap.size (w.alloc (.cells (vs.map (Value.int .i64)).toArray 3)) r _ vs (by rw [e]; exact h1) (by omega)
 rw [e] at h2
 exact h2
theorem litW2_own (w : World) (r1 : Int) (u1 : List Int) (r2 : Int) (u2 : List Int) (h : u1.length ≤ 3) (h' : u2.length ≤ 3) : AtomSO 111 w.heap.size (w.heap.size + 3) (.slice (some ⟨w.heap.size + 2, 0, none⟩) 2 2) [.slice (some ⟨w.heap.size, 0, none⟩) u1.length u1.length, .slice (some ⟨w.heap.size + 1, 0, none⟩) u2.length u2.length] [⟨r1, u1⟩, ⟨r2, u2⟩] (litW2 w r1 u1 r2 u2) := by
 have h1 := lit_ints w u1 h
 have e : (w.alloc (.cells (u1.map (Value.int .i64)).toArray 3)).heap.size = w.heap.size + 1 := by simp
 have h2 := lit_ints (w.alloc (.cells (u1.map (Value.int .i64)).toArray 3)) u2 h'
 rw [e] at h2
 have e2 : ((w.alloc (.cells (u1.map (Value.int .i64)).toArray 3)).alloc (.cells (u2.map (Value.int .i64)).toArray 3)).heap.size = w.heap.size + 2 := by simp
 have hb : Below (w.heap.size + 1) (w.alloc (.cells (u1.map (Value.int .i64)).toArray 3)) ((w.alloc (.cells (u1.map (Value.int .i64)).toArray 3)).alloc (.cells (u2.map (Value.int .i64)).toArray 3)) := (Below.refl _ _).alloc (by rw [e]; exact Nat.le_refl _) _
 have h3 := lit_atoms2 w.heap.size ((w.alloc (.cells (u1.map (Value.int .i64)).toArray 3)).alloc (.cells (u2.map (Value.int .i64)).toArray 3)) r1 r2 (.slice (some ⟨w.heap.size,0,none⟩) u1.length u1.length) (.slice (some ⟨w.heap.size + 1,0,none⟩) u2.length u2.length) u1 u2 (by rw [e2]; exact (h1.below hb (Nat.le_refl _)).mono (Nat.le_refl _) (by omega)) (by rw [e2]; exact h2.mono (Nat.le_succ _) (Nat.le_refl _)) (fun g hg hg' => by simp [Value.ownBlock] at hg hg'; omega) (by omega)
 rw [e2] at h3
 exact h3
theorem dep9_own {B C D : Nat} {v u : Value} {Vs Us : List Value} {b h : List Atm} {q : Bool} {l r : Int} {w1 w2 w3 : World} (hb : AtomSO 111 B C v Vs b w1) (h12 : Below C w1 w2) (hh : AtomSO 111 C D u Us h w2) (hBC : B ≤ C) (hz : C ≤ D) (h3 : Chg (fun g => g < B) w2 w3) : DepOwn B D ((v, Vs), (u, Us)) ⟨b, h, q, l, r⟩ w3 := by
 have hb2 := hb.below h12 (Nat.le_refl _)
 refine ⟨(hb2.chgS h3 (fun g hg e => ?_)).mono (Nat.le_refl _) hz,(hh.chgS h3 (fun g hg e => ?_)).mono ?_ (Nat.le_refl _),fun g h1 h2 => ?_⟩
 · have := (hb2.foot g hg).1; omega
 · have := (hh.foot g hg).1; omega
 · omega
 · have := (hb2.foot g h1).2; have := (hh.foot g h2).1; omega
def addVar (out : List Int) (t : Int) : List Int := if 0 ≤ t then putI out t else out
def addTerms (out : List Int) (vs : List Int) : List Int := vs.foldl addVar out
def varsOf (l : List Atm) : List Int := l.foldl (fun o a => addTerms o a.vals) []
theorem addTerms_take (out : List Int) (vs : List Int) (k : Nat) (h : k < vs.length) : addTerms out (vs.take (k + 1)) = addVar (addTerms out (vs.take k)) vs[k] := by
 unfold addTerms; rw [List.take_succ_eq_append_getElem h,List.foldl_append]; rfl
theorem varsOf_take (l : List Atm) (k : Nat) (h : k < l.length) : varsOf (l.take (k + 1)) = addTerms (varsOf (l.take k)) l[k].vals := by
 unfold varsOf; rw [List.take_succ_eq_append_getElem h,List.foldl_append]; rfl
theorem addVar_len (out : List Int) (t : Int) : (addVar out t).length ≤ out.length + 1 := by
 unfold addVar; split
 · exact putI_len out t
 · omega
theorem addTerms_len (out : List Int) (vs : List Int) : (addTerms out vs).length ≤ out.length + vs.length := by
 induction vs generalizing out with
 | nil => simp [addTerms]
 | cons a t ih =>
   have h1 := ih (addVar out a)
   have h2 := addVar_len out a
   simp only [addTerms,List.foldl_cons,List.length_cons] at h1 ⊢
   omega
theorem varsFold_len (o : List Int) (l : List Atm) : (l.foldl (fun o a => addTerms o a.vals) o).length ≤ o.length + avalsLen l := by
 induction l generalizing o with
 | nil => simp [avalsLen]
 | cons a t ih =>
   have h1 := ih (addTerms o a.vals)
   have h2 := addTerms_len o a.vals
   simp only [List.foldl_cons,avalsLen] at h1 ⊢
   omega
theorem varsOf_len (l : List Atm) : (varsOf l).length ≤ avalsLen l := by
 have := varsFold_len [] l
 unfold varsOf
 simpa using this
abbrev validT (t : Int) : Bool := inB t (-10) 4
def atomOk (l : List Rel) (r : Int) (vs : List Int) : Bool := validRels l && (decide (0 ≤ r ∧ r < l.length) && (decide ((vs.length : Int) = arityAt l r) && vs.all validT))
theorem atomOk_rels {l : List Rel} {r : Int} {vs : List Int} (h : validRels l = false) : atomOk l r vs = false := by unfold atomOk; rw [h]; rfl
theorem atomOk_idx {l : List Rel} {r : Int} {vs : List Int} (h : ¬(0 ≤ r ∧ r < l.length)) : atomOk l r vs = false := by unfold atomOk; rw [decide_eq_false h]; simp
theorem atomOk_len {l : List Rel} {r : Int} {vs : List Int} (h : ¬((vs.length : Int) = arityAt l r)) : atomOk l r vs = false := by unfold atomOk; rw [decide_eq_false h]; simp
theorem atomOk_val {l : List Rel} {r : Int} {vs : List Int} (k : Nat) (hk : k < vs.length) (h : validT vs[k] = false) : atomOk l r vs = false := by
 have : vs.all validT = false := by rw [List.all_eq_false]; exact ⟨vs[k],List.getElem_mem hk,by rw [h]; simp⟩
 unfold atomOk; rw [this]; simp
def TermsTo (vs : List Int) (k : Nat) : Prop := (vs.take k).all validT = true
theorem TermsTo.zero (vs : List Int) : TermsTo vs 0 := rfl
theorem TermsTo.next {vs : List Int} {k : Nat} (h : TermsTo vs k) (hk : k < vs.length) (hv : validT vs[k] = true) : TermsTo vs (k + 1) := by
 unfold TermsTo at *
 rw [List.take_succ_eq_append_getElem hk,List.all_append,h]; simp [hv]
theorem atomOk_yes {l : List Rel} {r : Int} {vs : List Int} (hv : validRels l = true) (h1 : 0 ≤ r ∧ r < l.length) (h2 : (vs.length : Int) = arityAt l r) (h3 : TermsTo vs vs.length) : atomOk l r vs = true := by
 unfold TermsTo at h3
 rw [List.take_of_length_le (Nat.le_refl _)] at h3
 unfold atomOk; rw [hv,decide_eq_true h1,decide_eq_true h2,h3]; rfl
theorem atomOk_parts {l : List Rel} {r : Int} {vs : List Int} (h : atomOk l r vs = true) : validRels l = true ∧ (0 ≤ r ∧ r < l.length) ∧ (vs.length : Int) = arityAt l r ∧ ∀ (k : Nat) (hk : k < vs.length), validT vs[k] = true := by
 unfold atomOk at h
 simp only [Bool.and_eq_true,decide_eq_true_eq,List.all_eq_true] at h
 exact ⟨h.1,h.2.1,h.2.2.1,fun k hk => h.2.2.2 _ (List.getElem_mem hk)⟩
def AllTo {α : Type} (p : α → Bool) (l : List α) (k : Nat) : Prop := (l.take k).all p = true
theorem AllTo.zero {α : Type} (p : α → Bool) (l : List α) : AllTo p l 0 := rfl
theorem AllTo.next {α : Type} {p : α → Bool} {l : List α} {k : Nat} (h : AllTo p l k) (hk : k < l.length) (hp : p l[k] = true) : AllTo p l (k + 1) := by
 unfold AllTo at *
 rw [List.take_succ_eq_append_getElem hk,List.all_append,h]; simp [hp]
theorem AllTo.full {α : Type} {p : α → Bool} {l : List α} (h : AllTo p l l.length) : l.all p = true := by
 unfold AllTo at h; rwa [List.take_of_length_le (Nat.le_refl _)] at h
def atomB (l : List Rel) (a : Atm) : Bool := atomOk l a.rel a.vals
def srcAt (l : List Rel) (r : Int) : Bool := (l.getD r.toNat zeroRel).source
def headB (l : List Rel) (a : Atm) : Bool := atomB l a && !(srcAt l a.rel)
def depOk (l : List Rel) (x : Dep) : Bool :=
 inB (x.body.length : Nat) 1 2 && (x.body.all (atomB l) && (if x.egd then ((x.head.length : Nat) : Int) == 0 && (decide (x.left ∈ varsOf x.body) && (decide (x.right ∈ varsOf x.body) && decide (x.left < x.right)))
  else x.head.all (headB l) && (inB (x.head.length : Nat) 1 2 && ((x.left == 0) && (x.right == 0)))))
theorem atomB_len {l : List Rel} {a : Atm} (h : atomB l a = true) : a.vals.length ≤ 3 := by
 obtain ⟨h1,h2,h3,_⟩ := atomOk_parts h
 have hk : a.rel.toNat < l.length := by omega
 have ha := relOk_bd _ _ (validRels_at l h1 a.rel.toNat hk)
 rw [arityAt_in hk] at h3
 omega
theorem avals_small {l : List Rel} {ts : List Atm} (h : ts.all (atomB l) = true) : avalsLen ts ≤ 3 * ts.length := by
 induction ts with
 | nil => simp [avalsLen]
 | cons a t ih =>
   rw [List.all_cons,Bool.and_eq_true] at h
   have h1 := atomB_len h.1
   have h2 := ih h.2
   simp only [avalsLen,List.length_cons]; omega
theorem side_sz {l : List Rel} {ts : List Atm} (h : ts.all (atomB l) = true) (hn : ts.length ≤ 2) : AtomS_sz ts ≤ 8 := by
 have := avals_small h
 unfold AtomS_sz; omega
end Go.Proofs.YtobdijcnfmgidaaGreat
