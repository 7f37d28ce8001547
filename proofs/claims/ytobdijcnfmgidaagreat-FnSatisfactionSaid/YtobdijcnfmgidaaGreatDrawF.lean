/- Walks and plain lemmas for the laws of this seat. -/
import Derived.Deep.LoopGhost
import Derived.Test.YtobdijcnfmgidaaGreatInts
import Derived.Test.YtobdijcnfmgidaaGreatDraw
import Derived.Test.YtobdijcnfmgidaaGreatDrawR
import Derived.Test.YtobdijcnfmgidaaGreatPlan
import Derived.Test.YtobdijcnfmgidaaGreatAft
namespace Go.Proofs.YtobdijcnfmgidaaGreat
open Go.RowKit
set_option maxHeartbeats 800000 in
set_option maxRecDepth 100000 in
theorem l4Value_c (p : Nat) (cv : Value) (code : List UInt8) (st : DrawSt) (n : Int) (h1 : 0 ≤ n) (h2 : n ≤ 40) (w : World) (hC : CurS w p cv code st) :
 Calls Tryz.prog 141 #[.pointer (some ⟨p,0,none⟩),.int .i64 n] w fun e w' => ∃ z,-41 ≤ z ∧ z ≤ 9 ∧ Drawn w p cv code (.int .i64 z) e w' := by
 have hb := belowR_bd code
 by_cases hn0 : n = 0
 · subst hn0
   have e0 : decide ((0 : Int) < 0) = false := rfl
   go_enter Tryz.func141,Tryz.ntmps141
   go_wp2_with fail
   have j1 := hb st 3
   have j2 := j1.2 (by omega)
   have j1 := j1.1
   refine (l1Below_r _ cv code _ _ _ hC).mono ?_; rintro e w2 ⟨rfl,hC2,hg2⟩
   generalize belowR code st 3 = b at *
   go_wp2_with fail
   go_ret
   exact ⟨_,by omega,by omega,rfl,⟨_,hC2⟩,hg2⟩
 replace h1 : 1 ≤ n := by omega
 have e0 : decide (0 < n) = true := decide_eq_true (by omega)
 go_enter Tryz.func141,Tryz.ntmps141
 go_wp2_with fail
 refine (l1Once_r p cv code _ _ _ hC).mono ?_; rintro e w1 ⟨rfl,hC1,hg1⟩
 generalize onceR code st 2 = cst at *
 obtain ⟨c,st1⟩ := cst
 dsimp only at *
 cases c with
 | true =>
   go_wp2_with fail
   have j1 := hb st1 n
   have j2 := j1.2 h1
   have j1 := j1.1
   refine (l1Below_r _ cv code _ _ _ hC1).mono ?_; rintro e w2 ⟨rfl,hC2,hg2⟩
   generalize belowR code st1 n = b at *
   go_wp2_with fail
   refine (specNullValue_any _ _ (by omega) (by omega)).mono ?_; rintro e w3 ⟨rfl,rfl⟩
   go_wp2_with fail
   go_ret
   exact ⟨_,by omega,by omega,rfl,⟨_,hC2⟩,hg1.trans hg2⟩
 | false =>
   go_wp2_with fail
   have j1 := hb st1 3
   have j2 := j1.2 (by omega)
   have j1 := j1.1
   refine (l1Below_r _ cv code _ _ _ hC1).mono ?_; rintro e w2 ⟨rfl,hC2,hg2⟩
   generalize belowR code st1 3 = b at *
   go_wp2_with fail
   go_ret
   exact ⟨_,by omega,by omega,rfl,⟨_,hC2⟩,hg1.trans hg2⟩
theorem sigs5_ar (j : Nat) (h : j < sigs5.length) : 1 ≤ sigs5[j].arity ∧ sigs5[j].arity ≤ 2 := by
 have h5 : ∀ i : Fin sigs5.length,1 ≤ (sigs5.get i).arity ∧ (sigs5.get i).arity ≤ 2 := by decide
 exact h5 ⟨j,h⟩
set_option maxHeartbeats 1600000 in
set_option maxRecDepth 100000 in
theorem l4Fact_c (p : Nat) (cv : Value) (code : List UInt8) (st : DrawSt) (j : Nat) (hj : j < 5) (n : Int) (h1 : 0 ≤ n) (h2 : n ≤ 40) (w : World) (hC : CurS w p cv code st) :
 Calls Tryz.prog 95 #[.pointer (some ⟨p,0,none⟩),.int .i64 j,.int .i64 n] w fun e w' => ∃ V vs,e = .returned (.agg #[.int .i64 j,V]) ∧ OwnInts w.heap.size V vs w' ∧ 1 ≤ vs.length ∧ vs.length ≤ 2 ∧ (∀ z ∈ vs,-41 ≤ z ∧ z ≤ 9) ∧ (∃ st',CurS w' p cv code st') ∧ w.grownBy w' (some p) := by
 have hp := Cur.lt hC
 have har := sigs5_ar j hj
 go_enter Tryz.func95,Tryz.ntmps95
 go_wp2_with fail
 refine (l3Sigs_c _).mono ?_; rintro e w2 ⟨rfl,hw2⟩
 have hO2 := sigs5_own (w.alloc (.cells #[.int .i64 0,.slice none 0 0] 66))
 rw [← hw2] at hO2
 go_wp2_with fail
 have hG : (w.alloc (.cells #[.int .i64 0,.slice none 0 0] 66)).heap.size = w.heap.size + 1 := by simp
 obtain ⟨-,s1,-⟩ := hO2.cells rfl j hj
 rw [hG] at s1
 have b0 : w2.cell? ⟨w.heap.size,0,none⟩ = some (.int .i64 0) := by rw [hw2]; simp [go_sem]
 have b1 : w2.cell? ⟨w.heap.size,1,none⟩ = some (.slice none 0 0) := by rw [hw2]; simp [go_sem]
 have bz : ∀ o,w2.frozen? ⟨w.heap.size,o,none⟩ = false := by intro o; rw [hw2]; simp [go_sem]
 have hz2 : w2.heap.size = w.heap.size + 2 := by rw [hw2]; simp
 have hC2 : CurS w2 p cv code st := by rw [hw2]; exact Cur.alloc (Cur.alloc hC _) _
 have hB2 : Below w.heap.size w w2 := by rw [hw2]; exact below_more (below_more (Below.refl _ _) _) _
 clear hO2 hG
 rw [← hw2]
 clear hw2
 obtain ⟨g,hg⟩ : ∃ g,g = w2.heap.size := ⟨_,rfl⟩
 have y0 : (w2.alloc (.cells #[.int .i64 j,.slice none 0 0] 66)).cell? ⟨g,0,none⟩ = some (.int .i64 j) := by rw [hg]; simp [go_sem]
 have y1 : (w2.alloc (.cells #[.int .i64 j,.slice none 0 0] 66)).cell? ⟨g,1,none⟩ = some (.slice none 0 0) := by rw [hg]; simp [go_sem]
 have yz : ∀ o,(w2.alloc (.cells #[.int .i64 j,.slice none 0 0] 66)).frozen? ⟨g,o,none⟩ = false := by intro o; rw [hg]; simp [go_sem]
 have hsz : (w2.alloc (.cells #[.int .i64 j,.slice none 0 0] 66)).heap.size = g + 1 := by rw [hg]; simp
 have hAl : Below g w2 (w2.alloc (.cells #[.int .i64 j,.slice none 0 0] 66)) := (Below.refl _ _).alloc (by omega) _
 have hCW : CurS (w2.alloc (.cells #[.int .i64 j,.slice none 0 0] 66)) p cv code st := Cur.alloc hC2 _
 have hgw : g = w.heap.size + 2 := hg.trans hz2
 have hGW := Lib.hid hgw
 rw [show w.heap.size + 1 + 1 = g from hgw.symm]
 generalize w2.alloc (.cells #[.int .i64 j,.slice none 0 0] 66) = W at y0 y1 yz hsz hAl hCW ⊢
 obtain ⟨A,hA⟩ : ∃ A : Nat,sigs5[j].arity = A := ⟨sigs5[j].arity.toNat,by omega⟩
 rw [hA] at s1 har
 have S1 := Lib.hid ((hAl.cell (p := ⟨w.heap.size + 1,j * 3 + 1,none⟩) (by show w.heap.size + 1 < g; omega)).trans s1)
 have B0 := Lib.hid ((hAl.cell (p := ⟨w.heap.size,0,none⟩) (by show w.heap.size < g; omega)).trans b0)
 have B1 := Lib.hid ((hAl.cell (p := ⟨w.heap.size,1,none⟩) (by show w.heap.size < g; omega)).trans b1)
 have BZ := Lib.hid (fun o => (hAl.frozen (p := ⟨w.heap.size,o,none⟩) (by show w.heap.size < g; omega)).trans (bz o))
 have HW := Lib.hid (hB2.trans (hAl.mono (by omega)))
 have HSZ := Lib.hid hsz
 have hpg : p < g ∧ w.heap.size + 1 < g := by omega
 clear s1 b0 b1 bz hz2 hC2 hB2 hg hAl hsz hgw hA
 go_loopg [] A (fun m wr => ∃ V vs st',m + vs.length = A ∧ wr.cell? ⟨g,0,none⟩ = some (.int .i64 j) ∧ wr.cell? ⟨g,1,none⟩ = some V ∧ (∀ o,wr.frozen? ⟨g,o,none⟩ = false) ∧ OwnInts (g + 1) V vs wr ∧ (∀ z ∈ vs,-41 ≤ z ∧ z ≤ 9) ∧ CurS wr p cv code st' ∧ Hid (Chg (fun q => q = p ∨ q = g) W wr))
 case atStart => exact ⟨_,[],_,rfl,y0,y1,yz,OwnInts.nil _ _,(fun z hz => by cases hz),hCW,Lib.hid (Chg.refl _ _)⟩
 case round =>
  clear y0 y1 yz hCW
  obtain ⟨V,vs,st',hm,y0,y1,yz,hO,hvs,hCr,HC⟩ := hrel
  obtain ⟨P4,c4,rfl,hl4,hm4,-⟩ := hO.at_
  have hC' := HC.out
  have ar : wr.cell? ⟨w.heap.size + 1,j * 3 + 1,none⟩ = some (.int .i64 A) := (hC'.cell (show w.heap.size + 1 < _ by rw [HSZ.out]; omega) (by omega)).trans S1.out
  have HO := Lib.hid hO
  have HV := Lib.hid hvs
  clear hO hC' hvs
  unfold maxLen at hm4
  have HM := Lib.hid hm
  by_cases hlt : vs.length < A
  · have e0 : decide (vs.length < A) = true := decide_eq_true hlt
    have e1 : decide ((vs.length : Int) < (A : Int)) = true := decide_eq_true (by omega)
    clear hm
    go_wp2_with fail
    go_quiet (fail)
    go_wp2_with fail
    have hS : Holds [(⟨g,1,none⟩,.slice P4 vs.length c4)] wr := by
     intro q hq
     simp only [List.mem_cons,List.not_mem_nil,or_false] at hq
     subst hq
     exact y1
    have hSb : ∀ q ∈ [((⟨g,1,none⟩ : Addr),Value.slice P4 vs.length c4)],q.1.block = g := by
     intro q hq
     simp only [List.mem_cons,List.not_mem_nil,or_false] at hq
     subst hq
     rfl
    have HSb := Lib.hid hSb
    clear hSb
    have hgr : g + 1 ≤ wr.heap.size := by have h1 := HC.out.size; rw [HSZ.out] at h1; exact h1
    have g0 := Keep.cell (h0 := hS) (a := ⟨g,1,none⟩) (v := .slice P4 vs.length c4) (by simp)
    refine wp_region_plan (C := fun w' => ∃ u : Keep _ wr hS,w' = u.now) (.still 0 (.still 1 (.still 2 (.still 3 (.move true 4 (.move true 5 (.move true 6 (.still 7 (.move false 8 .done .none)) .none) .none) .none))))) (by kernel_rfl) (by kernel_rfl) (by kernel_rfl) (fun _ => ⟨⟨(wr.drewN nq).drew,hS⟩,rfl⟩) ?_
    iterate 4
     refine plan_look _ rfl rfl ?_
     go_big_quiet_step (fail)
     refine wpQuiet_nil ?_
    refine plan_call _ 141 _ _ _ _ _ rfl _ Tryz.func141 (by kernel_rfl) (by kernel_rfl) ?_ True.intro
    refine (l4Value_c p cv code st' n h1 h2 _ (Cur.drewN (Cur.drewN hCr _) 1)).mono ?_
    rintro _ w2 ⟨z,hz1,hz2,rfl,⟨st2,hC2⟩,hg2⟩
    have hg' : wr.grownBy w2 (some p) := ⟨hg2.os,hg2.tape,hg2.output,hg2.size,hg2.block⟩
    refine ⟨_,rfl,fun _ => ⟨⟨_,hS.grown hg' (fun q hq => ⟨by rw [HSb.out q hq]; exact hgr,by rw [HSb.out q hq]; intro e; injection e; omega⟩)⟩,rfl⟩,?_⟩
    have hK2 := hS.grown hg' (fun q hq => ⟨by rw [HSb.out q hq]; exact hgr,by rw [HSb.out q hq]; intro e; injection e; omega⟩)
    refine plan_put ?_ (by simp only [Act.put,putA,putB,putC]; rfl)
    have hz2' := hg'.size
    have hAl := (Below.refl (g + 1) w2).alloc (by omega) (.cells #[.int .i64 z] 3)
    refine plan_value (u := .slice (some ⟨w2.heap.size,0,none⟩) 1 1) (w' := w2.alloc (.cells #[.int .i64 z] 3)) _ rfl rfl rfl (by simp [go_sem]) (fun _ => ⟨⟨_,hK2.below hAl (fun q hq => by rw [HSb.out q hq]; omega)⟩,rfl⟩) ?_ True.intro
    refine plan_put ?_ (by simp only [Act.put,putA,putB,putC]; rfl)
    have hO3 := (HO.out.grown hg' (by omega)).grown (World.grownBy_alloc w2 (.cells #[.int .i64 z] 3) (some p)) (by omega)
    unfold OwnInts at hO3
    rw [← flat_int] at hO3
    have hr : SliceAt intCell (w2.alloc (.cells #[.int .i64 z] 3)) (w2.heap.size + 1) (.slice (some ⟨w2.heap.size,0,none⟩) [z].length 1) [z] := by
     refine ⟨_,_,rfl,Nat.le_refl _,by simp [maxLen],fun _ => ⟨_,_,rfl,by omega,?_⟩,fun h => by cases h⟩
     intro i u hu
     rw [Nat.zero_add,box_cell]
     simpa [intCell] using hu
    refine plan_app intCell 1 8 (r := [z]) (fun x _ u hu => by simp [intCell] at hu; subst hu; rfl) (fun _ => rfl) _ rfl rfl Tryz.underlying31 infoInt rfl (by decide) hO3 _ _ rfl rfl ⟨w2.heap.size,0,none⟩ 1 1 rfl rfl hr (by simp; omega) (by simp; omega) (by simp; omega) ?_ True.intro
    intro v4 w4 hO4 hB4 _ _
    have hb4 := hAl.trans hB4
    have hO5 : OwnInts (g + 1) v4 (vs ++ [z]) w4 := by
     have := hO4
     rw [flat_int] at this
     simpa [OwnInts] using this
    obtain ⟨P5,c5,rfl,-⟩ := hO5.at_
    have z0 := (hb4.cell (p := ⟨g,0,none⟩) (Nat.lt_succ_self _)).trans (grown_cell hg' y0 (by omega))
    have z1 := (hb4.cell (p := ⟨g,1,none⟩) (Nat.lt_succ_self _)).trans (grown_cell hg' y1 (by omega))
    have zz := fun o => (hb4.frozen (p := ⟨g,o,none⟩) (Nat.lt_succ_self _)).trans (grown_frozen hg' hgr (by omega) (yz o))
    have HO5 := Lib.hid hO5
    have HB4 := Lib.hid hb4
    have HC2 := Lib.hid hC2
    have HG' := Lib.hid hg'
    refine ⟨fun _ => ⟨⟨_,hK2.below hb4 (fun q hq => by rw [HSb.out q hq]; omega)⟩,rfl⟩,?_⟩
    clear hO5 hb4 hC2 hg' hO4 hB4 hr hO3 hAl hK2 y0 y1 yz hg2 ar
    refine plan_put ?_ (by simp only [Act.put,putA,putB,putC]; rfl)
    refine plan_look _ rfl rfl ?_
    go_big_quiet_step (fail)
    refine wpQuiet_nil ?_
    refine plan_skip (w' := w4.setCell ⟨g,1,none⟩ (.slice P5 (vs ++ [z]).length c5)) _ rfl rfl rfl (by simp [go_sem,z1,zz]) (fun e => by cases e) ?_ True.intro
    refine plan_put ?_ (by simp only [Act.put]; rfl)
    refine plan_done ?_
    go_wp2
    go_roundg (gk - 1)
    case measure => have := HM.out; omega
    case rel =>
     have hM := HM.out
     have hch : Chg (fun q => q = p ∨ q = g) wr w2 := ⟨HG'.out.os,HG'.out.tape,HG'.out.output,HG'.out.size,fun k hk hn => HG'.out.block k hk (by intro e; injection e with e; exact hn (.inl e))⟩
     have hbf : Below w.heap.size w2 (w4.setCell ⟨g,1,none⟩ (.slice P5 (vs ++ [z]).length c5)) := (HB4.out.mono (by omega)).setCell (p := ⟨g,1,none⟩) (by show w.heap.size ≤ g; omega) _
     refine ⟨.slice P5 (vs ++ [z]).length c5,vs ++ [z],st2,by simp; omega,by simp [go_sem,z0],by simp [go_sem,z1],fun o => by simp [zz],?_,?_,Cur.below hC HC2.out hbf,Lib.hid (((HC.out.trans hch).then_below (by rw [HSZ.out]; exact HB4.out)).setCell (p := ⟨g,1,none⟩) (.inr rfl) _)⟩
     · exact HO5.out.chg ((Chg.refl (fun q => q = g) w4).setCell (p := ⟨g,1,none⟩) rfl _) (fun q hq e => by have := (HO5.out.lt q hq).1; omega)
     · intro y hy
       rcases List.mem_append.1 hy with h | h
       · exact HV.out y h
       · rw [List.mem_singleton.1 h]; exact ⟨hz1,hz2⟩
  · have e0 : decide (vs.length < A) = false := decide_eq_false hlt
    have e1 : decide ((vs.length : Int) < (A : Int)) = false := decide_eq_false (by omega)
    clear hm
    go_wp2_with fail
    go_quiet (fail)
    have hC' := HC.out
    have m0 : wr.cell? ⟨w.heap.size,0,none⟩ = some (.int .i64 0) := (hC'.cell (show w.heap.size < _ by rw [HSZ.out]; omega) (by omega)).trans B0.out
    have m1 : wr.cell? ⟨w.heap.size,1,none⟩ = some (.slice none 0 0) := (hC'.cell (show w.heap.size < _ by rw [HSZ.out]; omega) (by omega)).trans B1.out
    have mz : ∀ o,wr.frozen? ⟨w.heap.size,o,none⟩ = false := fun o => (hC'.frozen (show w.heap.size < _ by rw [HSZ.out]; omega) (by omega)).trans (BZ.out o)
    have HG : Hid (w.grownBy wr (some p)) := by
     have h1 := HW.out
     refine ⟨hC'.os.trans h1.os,hC'.tape.trans h1.tape,hC'.output.trans h1.output,Nat.le_trans h1.size hC'.size,fun k hk hne => (hC'.block k (Nat.lt_of_lt_of_le hk h1.size) ?_).trans (h1.block k hk)⟩
     have := hGW.out
     have h3 : k ≠ p := fun e => hne (by rw [e])
     omega
    clear hC'
    go_wp2_with fail
    have hbw : Below w.heap.size wr (((wr.drewN nq).setCell ⟨w.heap.size,0,none⟩ (.int .i64 j)).setCell ⟨w.heap.size,1,none⟩ (.slice P4 vs.length c4)) := ((show Below w.heap.size wr (wr.drewN nq) from ⟨rfl,rfl,rfl,Nat.le_refl _,fun _ _ => rfl⟩).setCell (p := ⟨w.heap.size,0,none⟩) (Nat.le_refl _) _).setCell (p := ⟨w.heap.size,1,none⟩) (Nat.le_refl _) _
    have hcw : Chg (fun q => q = w.heap.size) wr (((wr.drewN nq).setCell ⟨w.heap.size,0,none⟩ (.int .i64 j)).setCell ⟨w.heap.size,1,none⟩ (.slice P4 vs.length c4)) := ((show Chg (fun q => q = w.heap.size) wr (wr.drewN nq) from ⟨rfl,rfl,rfl,Nat.le_refl _,fun _ _ _ => rfl⟩).setCell (p := ⟨w.heap.size,0,none⟩) rfl _).setCell (p := ⟨w.heap.size,1,none⟩) rfl _
    refine bodyPost_ret (v := .agg #[.int .i64 j,.slice P4 vs.length c4]) (by simp [results,Tryz.results95,go_sem,m0,m1]) rfl ⟨_,vs,rfl,?_,?_,?_,HV.out,⟨_,Cur.below hC hCr hbw⟩,grown_of_below HG.out hbw⟩
    · exact (HO.out.chg hcw (fun q hq e => by have := (HO.out.lt q hq).1; omega)).mono (by omega)
    · have := HM.out; omega
    · have := HM.out; omega
def FctSmall (x : Fct) : Prop := (-1 ≤ x.rel ∧ x.rel ≤ 5) ∧ x.vals.length ≤ 3 ∧ ∀ z ∈ x.vals, -41 ≤ z ∧ z ≤ 10
theorem any_end {w w4 : World} {p : Nat} {cv : Value} {code : List UInt8} {st st4 : DrawSt} {V : Value} {vs : List Int} (hC : CurS w p cv code st) (hC4 : CurS w4 p cv code st4) (hg : w.grownBy w4 (some p)) (hO : OwnInts (w.heap.size + 1) V vs w4) (u0 u1 : Value) :
 OwnInts w.heap.size V vs ((w4.setCell ⟨w.heap.size,0,none⟩ u0).setCell ⟨w.heap.size,1,none⟩ u1) ∧ (∃ st',CurS ((w4.setCell ⟨w.heap.size,0,none⟩ u0).setCell ⟨w.heap.size,1,none⟩ u1) p cv code st') ∧ w.grownBy ((w4.setCell ⟨w.heap.size,0,none⟩ u0).setCell ⟨w.heap.size,1,none⟩ u1) (some p) := by
 have hbw : Below w.heap.size w4 ((w4.setCell ⟨w.heap.size,0,none⟩ u0).setCell ⟨w.heap.size,1,none⟩ u1) := ((Below.refl _ _).setCell (p := ⟨w.heap.size,0,none⟩) (Nat.le_refl _) _).setCell (p := ⟨w.heap.size,1,none⟩) (Nat.le_refl _) _
 have hcw : Chg (fun q => q = w.heap.size) w4 ((w4.setCell ⟨w.heap.size,0,none⟩ u0).setCell ⟨w.heap.size,1,none⟩ u1) := ((Chg.refl (fun q => q = w.heap.size) _).setCell (p := ⟨w.heap.size,0,none⟩) rfl _).setCell (p := ⟨w.heap.size,1,none⟩) rfl _
 exact ⟨(hO.chg hcw (fun q hq e => by have := (hO.lt q hq).1; omega)).mono (by omega),⟨_,Cur.below hC hC4 hbw⟩,grown_of_below hg hbw⟩
set_option maxHeartbeats 1600000 in
set_option maxRecDepth 100000 in
theorem l4Any_c (p : Nat) (cv : Value) (code : List UInt8) (st : DrawSt) (w : World) (hC : CurS w p cv code st) :
 Calls Tryz.prog 117 #[.pointer (some ⟨p,0,none⟩)] w fun e w' => ∃ r V vs,e = .returned (.agg #[.int .i64 r,V]) ∧ (-1 ≤ r ∧ r ≤ 5) ∧ OwnInts w.heap.size V vs w' ∧ vs.length ≤ 3 ∧ (∀ z ∈ vs,-41 ≤ z ∧ z ≤ 10) ∧ (∃ st',CurS w' p cv code st') ∧ w.grownBy w' (some p) := by
 have hp := Cur.lt hC
 have hb := belowR_bd code
 go_enter Tryz.func117,Tryz.ntmps117
 go_wp2_with fail
 have j1 := hb st 5
 have j2 := j1.2 (by omega)
 have j1 := j1.1
 refine (l1Below_r _ cv code _ _ _ (Cur.alloc hC _)).mono ?_; rintro e w1 ⟨rfl,hC1,hg1⟩
 generalize belowR code st 5 = b at *
 obtain ⟨j,hj⟩ := Int.eq_ofNat_of_zero_le j1
 rw [hj]
 have hj5 : j < 5 := by omega
 have HJ := Lib.hid hj
 clear hj j1 j2
 go_wp2_with fail
 refine (l4Fact_c p cv code _ j hj5 4 (by decide) (by decide) _ hC1).mono ?_
 rintro e w2 ⟨V,vs,rfl,hO,hl1,hl2,hvs,⟨st2,hC2⟩,hg2⟩
 obtain ⟨q,c4,rfl,hq1,hq2,hl4,hm4⟩ := hO.form hl1
 unfold maxLen at hm4
 have a0 := fun o => box_cell w #[.int .i64 0,.slice none 0 0] 66 o
 have hs1 : w.heap.size + 1 ≤ w1.heap.size := by have := hg1.size; simpa using this
 have hg2' := hg1.trans hg2
 have HO := Lib.hid (hO.mono hs1)
 have hz2 := hg2'.size
 have hz2 : w.heap.size + 1 ≤ w2.heap.size := by simpa using hz2
 have hne : w.heap.size ≠ p := by omega
 have HB0 := Lib.hid (grown_cell hg2' ((a0 0).trans rfl) hne)
 have HB1 := Lib.hid (grown_cell hg2' ((a0 1).trans rfl) hne)
 have HBZ := Lib.hid (fun o => grown_frozen hg2' (o := o) (by simp) hne (World.frozen?_alloc_at _ _ _ _ rfl))
 have HG := Lib.hid ((World.grownBy_alloc w _ (some p)).trans hg2')
 have HV := Lib.hid hvs
 clear a0 hg2' hO hg1 hg2 hvs hC1
 obtain ⟨g,hg⟩ : ∃ g,g = w2.heap.size := ⟨_,rfl⟩
 have y0 : (w2.alloc (.cells #[.int .i64 j,.slice (some ⟨q,0,none⟩) vs.length c4] 66)).cell? ⟨g,0,none⟩ = some (.int .i64 j) := by rw [hg]; simp [go_sem]
 have y1 : (w2.alloc (.cells #[.int .i64 j,.slice (some ⟨q,0,none⟩) vs.length c4] 66)).cell? ⟨g,1,none⟩ = some (.slice (some ⟨q,0,none⟩) vs.length c4) := by rw [hg]; simp [go_sem]
 have yz : ∀ o,(w2.alloc (.cells #[.int .i64 j,.slice (some ⟨q,0,none⟩) vs.length c4] 66)).frozen? ⟨g,o,none⟩ = false := by intro o; rw [hg]; simp [go_sem]
 have hAl : Below g w2 (w2.alloc (.cells #[.int .i64 j,.slice (some ⟨q,0,none⟩) vs.length c4] 66)) := (Below.refl _ _).alloc (by omega) _
 have hgA := World.grownBy_alloc w2 (.cells #[.int .i64 j,.slice (some ⟨q,0,none⟩) vs.length c4] 66) (some p)
 have hC3 := Cur.alloc hC2 (.cells #[.int .i64 j,.slice (some ⟨q,0,none⟩) vs.length c4] 66)
 have hsz : (w2.alloc (.cells #[.int .i64 j,.slice (some ⟨q,0,none⟩) vs.length c4] 66)).heap.size = g + 1 := by rw [hg]; simp
 go_wp2_with fail
 rw [← hg]
 have HHg := Lib.hid hg
 generalize w2.alloc (.cells #[.int .i64 j,.slice (some ⟨q,0,none⟩) vs.length c4] 66) = W at y0 y1 yz hAl hgA hC3 hsz ⊢
 have k1 := hb st2 10
 have k2 := k1.2 (by omega)
 have k1 := k1.1
 refine (l1Below_r _ cv code _ _ _ hC3).mono ?_; rintro e w3 ⟨rfl,hC4,hg3⟩
 generalize belowR code st2 10 = d at *
 obtain ⟨n,st4⟩ := d
 dsimp only at *
 have hsW : g + 1 ≤ w3.heap.size := by have := hg3.size; omega
 have hgp : g ≠ p := by omega
 have y0 := grown_cell hg3 y0 hgp
 have y1 := grown_cell hg3 y1 hgp
 have yz := fun o => grown_frozen hg3 (o := o) (by omega) hgp (yz o)
 have hg4 := hgA.trans hg3
 have m0 : w3.cell? ⟨w.heap.size,0,none⟩ = some (.int .i64 0) := grown_cell hg4 HB0.out hne
 have m1 : w3.cell? ⟨w.heap.size,1,none⟩ = some (.slice none 0 0) := grown_cell hg4 HB1.out hne
 have mz : ∀ o,w3.frozen? ⟨w.heap.size,o,none⟩ = false := fun o => grown_frozen hg4 (by omega) hne (HBZ.out o)
 have HO3 := Lib.hid (HO.out.grown hg4 (by omega))
 have HG3 := Lib.hid (HG.out.trans hg4)
 have hqg : w.heap.size + 1 ≤ q ∧ q < g := by have := HHg.out; omega
 have hwg : w.heap.size < g := by omega
 clear HB0 HB1 HBZ HO HG hg4 hg3 hgA hAl hC3 hC2 hsz hq1 hq2 hz2 hg
 have hn : n = 0 ∨ n = 1 ∨ n = 2 ∨ 3 ≤ n := by omega
 have hne2 : w.heap.size ≠ g := by omega
 rcases hn with rfl | rfl | rfl | hn
 · go_wp2_with fail
   have u1 := hb st4 7
   have u2 := u1.2 (by omega)
   have u1 := u1.1
   refine (l1Below_r _ cv code _ _ _ hC4).mono ?_; rintro e w4 ⟨rfl,hC5,hg5⟩
   generalize belowR code st4 7 = f at *
   obtain ⟨n7,st5⟩ := f
   dsimp only at *
   have y0 := grown_cell hg5 y0 hgp
   have y1 := grown_cell hg5 y1 hgp
   have yz := fun o => grown_frozen hg5 (o := o) (by omega) hgp (yz o)
   have m0 := grown_cell hg5 m0 hne
   have m1 := grown_cell hg5 m1 hne
   have mz := fun o => grown_frozen hg5 (o := o) (by omega) hne (mz o)
   have HO4 := Lib.hid (HO3.out.grown hg5 (by omega))
   have HG4 := Lib.hid (HG3.out.trans hg5)
   have HW := Lib.hid hb
   clear hg5 hb
   go_wp2_with fail
   have hbf : Below w.heap.size w4 (w4.setCell ⟨g,0,none⟩ (.int .i64 (n7 - 1))) := (Below.refl _ _).setCell (p := ⟨g,0,none⟩) (by show w.heap.size ≤ g; omega) _
   have hcf : Chg (fun x => x = g) w4 (w4.setCell ⟨g,0,none⟩ (.int .i64 (n7 - 1))) := (Chg.refl (fun x => x = g) _).setCell (p := ⟨g,0,none⟩) rfl _
   have HE := any_end hC (Cur.below hC hC5 hbf) (grown_of_below HG4.out hbf) (HO4.out.chg hcf (fun x hx e => (fun (h1 : q = x) => by omega) (by simpa [Value.ownBlock] using hx))) (.int .i64 (n7 - 1)) (.slice (some ⟨q,0,none⟩) vs.length c4)
   refine bodyPost_ret (v := .agg #[.int .i64 (n7 - 1),.slice (some ⟨q,0,none⟩) vs.length c4]) (by simp [results,Tryz.results117,go_sem,m0,m1]) rfl ⟨n7 - 1,.slice (some ⟨q,0,none⟩) vs.length c4,vs,rfl,by omega,HE.1,by omega,fun z hz => ?_,HE.2⟩
   have := HV.out z hz; omega
 · have HS3 := Lib.hid hsW
   have Y0 := Lib.hid y0
   have YZ := Lib.hid yz
   have M0 := Lib.hid m0
   have M1 := Lib.hid m1
   have MZ := Lib.hid mz
   have Y1 := Lib.hid y1
   have HB := Lib.hid hb
   clear y0 yz m0 m1 mz hb
   go_wp2_with (at_builtin; refine ints_app1 HO3.out rfl _ _ rfl rfl 1 _ _ rfl rfl (by omega) (by omega) ?_; intro v5 w5 hO5 hB5 hG5; clear y1; obtain ⟨q5,c5,rfl,hq5,-,-,-⟩ := hO5.form (by simp); have z0 := grown_cell (p := q) hG5 Y0.out (by omega); have z1 := grown_cell (p := q) hG5 Y1.out (by omega); have zz := fun o => grown_frozen (p := q) hG5 (by have := HS3.out; omega) (by omega) (YZ.out o); have n0 := grown_cell (p := q) hG5 M0.out (by omega); have n1 := grown_cell (p := q) hG5 M1.out (by omega); have nz := fun o => grown_frozen (p := q) hG5 (by have := HS3.out; omega) (by omega) (MZ.out o))
   have hqg5 : q5 ≠ g := by
    intro e
    subst e
    have h := hO5.cell rfl 1 (by simp; omega)
    rw [z1] at h
    cases h
   have hbf : Below w.heap.size w3 (w5.setCell ⟨g,1,none⟩ (.slice (some ⟨q5,0,none⟩) (vs.length + 1) c5)) := (hB5.mono (by omega)).setCell (p := ⟨g,1,none⟩) (by show w.heap.size ≤ g; omega) _
   have hcf : Chg (fun x => x = g) w5 (w5.setCell ⟨g,1,none⟩ (.slice (some ⟨q5,0,none⟩) (vs.length + 1) c5)) := (Chg.refl (fun x => x = g) _).setCell (p := ⟨g,1,none⟩) rfl _
   have HE := any_end hC (Cur.below hC hC4 hbf) (grown_of_below HG3.out hbf) (hO5.chg hcf (fun x hx e => (fun (h1 : q5 = x) => by omega) (by simpa [Value.ownBlock] using hx))) (.int .i64 j) (.slice (some ⟨q5,0,none⟩) (vs.length + 1) c5)
   refine bodyPost_ret (v := .agg #[.int .i64 j,.slice (some ⟨q5,0,none⟩) (vs.length + 1) c5]) (by simp [results,Tryz.results117,go_sem,n0,n1]) rfl ⟨(j : Int),.slice (some ⟨q5,0,none⟩) (vs.length + 1) c5,vs ++ [1],rfl,by omega,?_,by simp; omega,fun z hz => ?_,HE.2⟩
   · have h := HE.1
     rw [List.length_append] at h
     exact h
   · rcases List.mem_append.1 hz with h | h
     · have := HV.out z h; omega
     · rw [List.mem_singleton.1 h]; decide
 · go_wp2_with fail
   have hS : Holds [(⟨g,1,none⟩,.slice (some ⟨q,0,none⟩) vs.length c4)] w3 := by
    intro x hx
    simp only [List.mem_cons,List.not_mem_nil,or_false] at hx
    subst hx
    exact y1
   have HSb : Hid (∀ x ∈ [((⟨g,1,none⟩ : Addr),Value.slice (some ⟨q,0,none⟩) vs.length c4)],x.1.block = g) := by
    intro x hx
    simp only [List.mem_cons,List.not_mem_nil,or_false] at hx
    subst hx
    rfl
   have g0 := Keep.cell (h0 := hS) (a := ⟨g,1,none⟩) (v := .slice (some ⟨q,0,none⟩) vs.length c4) (by simp)
   have hl0 : 0 < vs.length := by omega
   refine wp_region_plan (C := fun w' => ∃ u : Keep _ w3 hS,w' = u.now) (.still 0 (.still 1 (.still 2 (.move true 3 (.move true 4 (.still 5 (.move false 6 .done .none)) .none) .none)))) (by kernel_rfl) (by kernel_rfl) (by kernel_rfl) (fun _ => ⟨⟨w3.drew,hS⟩,rfl⟩) ?_
   iterate 3
    refine plan_look _ rfl rfl ?_
    go_big_quiet_step (fail)
    refine wpQuiet_nil ?_
   have hAl3 := (Below.refl (g + 1) w3).drew.alloc hsW (.cells #[.int .i64 10,.int .i64 (-41),.int .i64 9] 3)
   have hK3 := hS.below hAl3 (fun x hx => by rw [HSb.out x hx]; omega)
   refine plan_value (u := .slice (some ⟨w3.heap.size,0,none⟩) 3 3) (w' := w3.drew.alloc (.cells #[.int .i64 10,.int .i64 (-41),.int .i64 9] 3)) _ rfl rfl rfl (by simp [go_sem]) (fun _ => ⟨⟨_,hK3⟩,rfl⟩) ?_ True.intro
   refine plan_put ?_ (by simp only [Act.put,putA,putB,putC]; rfl)
   refine plan_call _ 119 _ _ _ _ _ rfl _ Tryz.func119 (by kernel_rfl) (by kernel_rfl) ?_ True.intro
   refine (l1PickInt_d p cv code _ [10,-41,9] (-41) 10 (by decide) (by simp) w3.drew _ (by decide) (by decide) (Cur.lt (Cur.drewN hC4 1)) _ rfl _ _ rfl _ rfl (Cur.alloc (Cur.drewN hC4 1) _)).mono ?_
   rintro _ w5 ⟨z,hz1,hz2,rfl,⟨st5,hC5⟩,hg5⟩
   have hgd := (World.grownBy_alloc w3.drew _ (some p)).trans hg5
   have hgw : w3.grownBy w5 (some p) := ⟨hgd.os,hgd.tape,hgd.output,hgd.size,hgd.block⟩
   clear hgd
   have hK5 := hS.grown hgw (fun x hx => ⟨by rw [HSb.out x hx]; omega,by rw [HSb.out x hx]; intro e; injection e with e; exact hgp e⟩)
   refine ⟨_,rfl,fun _ => ⟨⟨_,hK5⟩,rfl⟩,?_⟩
   refine plan_put ?_ (by simp only [Act.put,putA,putB,putC]; rfl)
   have hO5 := HO3.out.grown hgw (by omega)
   have q0 := hO5.cell rfl 0 hl0
   have qz := hO5.frozen rfl 0
   have y0 := grown_cell hgw y0 hgp
   have y1 := grown_cell hgw y1 hgp
   have m0 := grown_cell hgw m0 hne
   have m1 := grown_cell hgw m1 hne
   have mz := fun o => grown_frozen hgw (o := o) (by omega) hne (mz o)
   have HS5 := Lib.hid (hO5.set rfl 0 z)
   have HG5 := Lib.hid (HG3.out.trans hgw)
   have HC5 := Lib.hid hC5
   clear hO5 hK3 hK5 hAl3 hg5 hgw hC5 yz
   refine plan_look _ rfl rfl ?_
   go_big_quiet_step (fail)
   refine wpQuiet_nil ?_
   refine plan_skip (w' := w5.setCell ⟨q,0,none⟩ (.int .i64 z)) _ rfl rfl rfl (by simp [go_sem,q0,qz]) (fun e => by cases e) ?_ True.intro
   refine plan_put ?_ (by simp only [Act.put]; rfl)
   refine plan_done ?_
   have hwq : w.heap.size ≠ q := by omega
   have hgq : g ≠ q := by omega
   go_wp2_with fail
   have hbf : Below w.heap.size w5 (w5.setCell ⟨q,0,none⟩ (.int .i64 z)) := (Below.refl _ _).setCell (p := ⟨q,0,none⟩) (by show w.heap.size ≤ q; omega) _
   have HE := any_end hC (Cur.below hC HC5.out hbf) (grown_of_below HG5.out hbf) HS5.out (.int .i64 j) (.slice (some ⟨q,0,none⟩) vs.length c4)
   refine bodyPost_ret (v := .agg #[.int .i64 j,.slice (some ⟨q,0,none⟩) vs.length c4]) (by simp [results,Tryz.results117,go_sem,m0,m1]) rfl ⟨(j : Int),.slice (some ⟨q,0,none⟩) vs.length c4,vs.set 0 z,rfl,by omega,HE.1,by simp; omega,fun y hy => ?_,HE.2⟩
   rcases List.mem_or_eq_of_mem_set hy with h | rfl
   · have := HV.out y h; omega
   · omega
 · have e0 : (n == 0) = false := beq_eq_false_iff_ne.2 (by omega)
   have e1 : (n == 1) = false := beq_eq_false_iff_ne.2 (by omega)
   have e2 : (n == 2) = false := beq_eq_false_iff_ne.2 (by omega)
   go_wp2_with fail
   have HE := any_end hC hC4 HG3.out HO3.out (.int .i64 j) (.slice (some ⟨q,0,none⟩) vs.length c4)
   refine bodyPost_ret (v := .agg #[.int .i64 j,.slice (some ⟨q,0,none⟩) vs.length c4]) (by simp [results,Tryz.results117,go_sem,m0,m1]) rfl ⟨(j : Int),.slice (some ⟨q,0,none⟩) vs.length c4,vs,rfl,by omega,HE.1,by omega,fun z hz => ?_,HE.2⟩
   have := HV.out z hz; omega
end Go.Proofs.YtobdijcnfmgidaaGreat
