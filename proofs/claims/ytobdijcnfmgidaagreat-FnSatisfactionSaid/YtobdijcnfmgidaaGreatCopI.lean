/- Walks and plain lemmas for the laws of this seat. -/
import Derived.Lib.SliceRun
import Derived.Shelf.Abstract
import Derived.Laws.IdiomCopy
import Derived.Test.YtobdijcnfmgidaaGreatBase
import Derived.Test.YtobdijcnfmgidaaGreatInts
import Derived.Test.YtobdijcnfmgidaaGreatPlan
import Derived.Test.YtobdijcnfmgidaaGreatAft
namespace Go.Proofs.YtobdijcnfmgidaaGreat
open Go.RowKit
set_option maxHeartbeats 800000 in
theorem implCloneInts_any (v : Value) (l : List Int) (w : World) (hl : IntsAt w w.heap.size v l) (hn : l.length ≤ 1048576) :
 Calls Tryz.prog 90 #[v] w fun e w' => ∃ u,e = .returned u ∧ IntS_own w.heap.size w'.heap.size u l w' ∧ Below w.heap.size w w' := by
 have HL := Lib.hid hl
 obtain ⟨A,c,rfl,hlc,hcm,hel,hA⟩ := hl
 unfold maxLen at hcm
 have q0 : ∀ (w : World) (a : Option Addr) (n c n' c' : Nat),(binOp .eql 31 (.slice a n c) (.slice none n' c')).run Tryz.prog w = .ok (.bool a.isNone) w := fun w a n c n' c' => Lib.run_eql_slice_nil w _ _ a n c n' c' Tryz.underlying31
 cases A with
 | none =>
   obtain rfl := hA rfl
   obtain rfl : l = [] := List.eq_nil_of_length_eq_zero (by omega)
   clear hel hA
   go_enter Tryz.func90,Tryz.ntmps90
   go_wp2
   go_ret
   exact ⟨_,rfl,⟨OwnInts.nil _ _,fun g hg => by cases hg⟩,Below.refl _ _⟩
 | some a =>
   have HLE := Lib.hid ((HL.out.below ((Below.refl w.heap.size w).alloc (Nat.le_refl _) (.cells #[] 3)) (Nat.le_refl _)))
   have HOE := Lib.hid (OwnInts.empty w w.heap.size (Nat.le_refl _))
   clear hel hA
   go_enter Tryz.func90,Tryz.ntmps90
   go_wp2_with (at_builtin; refine ints_apps (r := l) HOE.out rfl _ _ rfl (by simp [go_sem]) (some a) l.length c rfl rfl HLE.out (fun e => by cases e) (by simp; omega) (by simp) ?_; intro v1 w1 hO1 hW1 _ _)
   go_ret
   rw [List.nil_append] at hO1
   exact ⟨_,rfl,IntsO.of hO1,((Below.refl _ _).alloc (Nat.le_refl _) _).trans hW1⟩
set_option maxHeartbeats 800000 in
theorem implCloneRels_any (v : Value) (l : List Rel) (w : World) (hl : RelsAt w w.heap.size v l) (hn : l.length ≤ 1048576) :
 Calls Tryz.prog 142 #[v] w fun e w' => ∃ u,e = .returned u ∧ RelationS_own w.heap.size w'.heap.size u l w' ∧ Below w.heap.size w w' := by
 have HL := Lib.hid hl
 obtain ⟨A,c,rfl,hlc,hcm,hel,hA⟩ := hl
 unfold maxLen at hcm
 have q0 : ∀ (w : World) (a : Option Addr) (n c n' c' : Nat),(binOp .eql 24 (.slice a n c) (.slice none n' c')).run Tryz.prog w = .ok (.bool a.isNone) w := fun w a n c n' c' => Lib.run_eql_slice_nil w _ _ a n c n' c' Tryz.underlying24
 cases A with
 | none =>
   obtain rfl := hA rfl
   obtain rfl : l = [] := List.eq_nil_of_length_eq_zero (by omega)
   clear hel hA
   go_enter Tryz.func142,Tryz.ntmps142
   go_wp2
   go_ret
   exact ⟨_,rfl,⟨OwnRels.nil _ _,fun g hg => by cases hg⟩,Below.refl _ _⟩
 | some a =>
   have HLE := Lib.hid ((HL.out.below ((Below.refl w.heap.size w).alloc (Nat.le_refl _) (.cells #[] 70)) (Nat.le_refl _)))
   have HOE := Lib.hid (OwnRels.empty w w.heap.size (Nat.le_refl _))
   clear hel hA
   go_enter Tryz.func142,Tryz.ntmps142
   go_wp2_with (at_builtin; refine rels_apps (r := l) HOE.out rfl _ _ rfl (by simp [go_sem]) (some a) l.length c rfl rfl HLE.out (fun e => by cases e) (by simp; omega) (by simp) ?_; intro v1 w1 hO1 hW1 _ _)
   go_ret
   rw [List.nil_append] at hO1
   exact ⟨_,rfl,RelationS_own.of hO1,((Below.refl _ _).alloc (Nat.le_refl _) _).trans hW1⟩
set_option maxHeartbeats 1600000 in
set_option maxRecDepth 100000 in
theorem implCopyFact_any (v : Value) (x : Fct) (w : World) (h : Fact_at w w.heap.size v x) (hn : Fact_sz x ≤ 1048576) :
 Calls Tryz.prog 168 #[v] w fun e w' => ∃ u,e = .returned u ∧ Fact_own w.heap.size w'.heap.size u x w' ∧ Below w.heap.size w w' := by
 obtain ⟨P,c,rfl⟩ := Fact_form h
 obtain ⟨V,hv,hI⟩ := h
 simp only [Value.agg.injEq,Array.mk.injEq,List.cons.injEq,and_true,true_and] at hv
 subst hv
 unfold Fact_sz at hn
 obtain ⟨E,hEq⟩ : ∃ E,E = ((w.alloc (.cells #[.int .i64 x.rel,.slice P x.vals.length c] 66)).alloc (.cells #[.int .i64 0,.slice none 0 0] 66)) := ⟨_,rfl⟩
 have hE : Below w.heap.size w E := by rw [hEq]; exact below_more (below_more (Below.refl _ _) _) _
 have HE := Lib.hid (show w.heap.size + 2 = E.heap.size by rw [hEq]; simp)
 have G0 := Aft.cell (B := E.heap.size) (w := E) (b := w.heap.size) (o := 0) (x := some (.int .i64 x.rel)) (by have := HE.out; omega) (by rw [hEq]; simp [go_sem])
 have G1 := Aft.cell (B := E.heap.size) (w := E) (b := w.heap.size) (o := 1) (x := some (.slice P x.vals.length c)) (by have := HE.out; omega) (by rw [hEq]; simp [go_sem])
 have M0 := Lib.hid (show E.cell? ⟨w.heap.size + 1,0,none⟩ = some (.int .i64 0) by rw [hEq]; simp [go_sem])
 have M1 := Lib.hid (show E.cell? ⟨w.heap.size + 1,1,none⟩ = some (.slice none 0 0) by rw [hEq]; simp [go_sem])
 have MZ := fun o => Lib.hid (show E.frozen? ⟨w.heap.size + 1,o,none⟩ = false by rw [hEq]; simp [go_sem])
 have hED : Below w.heap.size w E.drew := hE.drew
 have hcl := implCloneInts_any (.slice P x.vals.length c) x.vals E.drew ((SliceAt.below hI hED (Nat.le_refl _)).more hED.size) hn
 go_enter Tryz.func168,Tryz.ntmps168
 go_wp2
 rw [← hEq]
 clear hEq hI
 refine wp_region_plan (C := fun w' => ∃ u : Aft E.heap.size E,w' = u.now) (.still 0 (.still 1 (.still 2 (.still 3 (.move true 4 (.still 5 (.move false 6 .done .none)) .none))))) (by kernel_rfl) (by kernel_rfl) (by kernel_rfl) (fun _ => ⟨⟨_,(Below.refl _ _).drew⟩,rfl⟩) ?_
 iterate 4
  refine plan_look _ rfl rfl ?_
  go_big_quiet_step (fail)
  refine wpQuiet_nil ?_
 refine plan_call _ 90 _ _ _ _ _ rfl _ Tryz.func90 (by kernel_rfl) (by kernel_rfl) ?_ True.intro
 refine hcl.mono ?_
 rintro _ w2 ⟨u,rfl,hU,hb2⟩
 have hb2' : Below E.heap.size E w2 := (Below.refl _ _).drew.trans hb2
 obtain ⟨P2,c2,rfl,-⟩ := id hU.1.at_
 have m0 := (hb2'.cell (p := ⟨w.heap.size + 1,0,none⟩) (by show w.heap.size + 1 < _; have := HE.out; omega)).trans M0.out
 have m1 := (hb2'.cell (p := ⟨w.heap.size + 1,1,none⟩) (by show w.heap.size + 1 < _; have := HE.out; omega)).trans M1.out
 have mz := fun o => (hb2'.frozen (p := ⟨w.heap.size + 1,o,none⟩) (by show w.heap.size + 1 < _; have := HE.out; omega)).trans (MZ o).out
 have HU := Lib.hid (show IntS_own E.heap.size w2.heap.size (.slice P2 x.vals.length c2) x.vals w2 from hU)
 have HB2 := Lib.hid hb2'
 refine ⟨_,rfl,fun _ => ⟨⟨_,hb2'⟩,rfl⟩,?_⟩
 clear hU hb2 hb2' G0 G1 hcl
 refine plan_put ?_ (by simp only [Act.put,putA,putB,putC]; rfl)
 refine plan_look _ rfl rfl ?_
 go_big_quiet_step (fail)
 refine wpQuiet_nil ?_
 refine plan_skip (w' := (w2.setCell ⟨w.heap.size + 1,0,none⟩ (.int .i64 x.rel)).setCell ⟨w.heap.size + 1,1,none⟩ (.slice P2 x.vals.length c2)) _ rfl rfl rfl (by simp [go_sem,m0,m1,mz]) (fun e => by cases e) ?_ True.intro
 refine plan_put ?_ (by simp only [Act.put]; rfl)
 refine plan_done ?_
 go_wp2
 refine bodyPost_ret (v := .agg #[.int .i64 x.rel,.slice P2 x.vals.length c2]) (by simp [results,Tryz.results168,go_sem,m0,m1]) rfl ⟨_,rfl,⟨_,rfl,?_⟩,?_⟩
 · exact (HU.out.chg (B' := w.heap.size + 1) (C' := w.heap.size + 2) (((Chg.refl _ w2).setCell (p := ⟨w.heap.size + 1,0,none⟩) ⟨Nat.le_refl _,Nat.lt_succ_self _⟩ _).setCell (p := ⟨w.heap.size + 1,1,none⟩) ⟨Nat.le_refl _,Nat.lt_succ_self _⟩ _) (.inr (by have := HE.out; omega))).mono hE.size (by simp [World.setCell])
 · exact ((hE.trans (HB2.out.mono hE.size)).setCell (p := ⟨w.heap.size + 1,0,none⟩) (by show w.heap.size ≤ w.heap.size + 1; omega) _).setCell (p := ⟨w.heap.size + 1,1,none⟩) (by show w.heap.size ≤ w.heap.size + 1; omega) _
set_option maxHeartbeats 1600000 in
set_option maxRecDepth 100000 in
theorem implCopyFacts_any (v : Value) (l : List Fct) (w : World) (hl : FactS_at w w.heap.size v l) (hn1 : l.length ≤ 1048576) (hel : ∀ k (h : k < l.length), Fact_sz l[k] ≤ 1048576) :
 Calls Tryz.prog 143 #[v] w fun e w' => ∃ Vs,e = .returned (.slice (some ⟨w.heap.size,0,none⟩) l.length l.length) ∧ FactSO 66 w.heap.size w'.heap.size (.slice (some ⟨w.heap.size,0,none⟩) l.length l.length) Vs l w' ∧ Below w.heap.size w w' := by
 have HL := Lib.hid hl
 obtain ⟨A,c,rfl,hlc,hcm⟩ := hl.form
 clear hl
 unfold maxLen at hcm
 have hmk := fun w => make_facts w l.length hn1
 go_enter Tryz.func143,Tryz.ntmps143
 go_wp2
 clear hmk
 go_loopw [11] (fun i wr => ∃ k : Nat,∃ Vs,k ≤ l.length ∧ i = .int .i64 k ∧ FactSO 66 w.heap.size wr.heap.size (.slice (some ⟨w.heap.size,0,none⟩) l.length l.length) Vs (l.take k ++ List.replicate (l.length - k) zeroFct) wr ∧ Below w.heap.size w wr) (fun i _ => l.length - (intOf i).toNat)
 case atStart => exact ⟨0,_,by omega,rfl,(FactSO.made w l.length hn1).mono (Nat.le_refl _) (by simp),(Below.refl _ _).alloc (Nat.le_refl _) _⟩
 case round =>
  obtain ⟨k,Vs,hk,rfl,hO,hW⟩ := hrel
  have hz := hW.size
  by_cases hlt : k < l.length
  · obtain ⟨b,off,V,rfl,hb,c0,c1,hV⟩ := FactS_at.elem (HL.out.below hW (Nat.le_refl _)) k hlt
    obtain ⟨PV,cV,rfl,-⟩ := id hV
    have hcon := fun (W : World) (hb : Below wr.heap.size wr W) => implCopyFact_any (.agg #[.int .i64 l[k].rel,.slice PV l[k].vals.length cV]) l[k] W ⟨_,rfl,(hV.more hz).later hb⟩ (hel k hlt)
    have hlen : (l.take k ++ List.replicate (l.length - k) zeroFct).length = l.length := by simp; omega
    have hkl : k < (l.take k ++ List.replicate (l.length - k) zeroFct).length := by omega
    have hkv : k < Vs.length := by rw [hO.len]; exact hkl
    have HLen := Lib.hid hlen
    have HO := Lib.hid hO
    clear hlen hO hV
    go_wp2_with fail
    refine (hcon _ (below_more (Below.refl _ _) _)).mono ?_
    rintro e w1 ⟨u,rfl,hu,hb1'⟩
    have hb1 : Below wr.heap.size wr w1 := (below_more (Below.refl _ _) _).trans (hb1'.mono (by simp))
    have hz1 := hb1.size
    have hz0 : wr.heap.size + 1 ≤ w1.heap.size := by have := hb1'.size; simpa using this
    obtain ⟨U,rfl,hU'⟩ := hu
    have hU : IntS_own wr.heap.size w1.heap.size U l[k].vals w1 := IntS_own.mono hU' (by simp) (Nat.le_refl _)
    obtain ⟨P,cu,rfl,-,-,-⟩ := id hU.1.at_
    have hO1 := HO.out.below hb1 (Nat.le_refl _)
    obtain ⟨d0,d1⟩ := hO1.cells HLen.out k hkl hkv
    have hfz := hO1.frozen HLen.out
    have HS := Lib.hid (FactSO.set (e := 66) (by decide) (hO1.mono (Nat.le_refl _) hz1) HLen.out k hlt l[k] _ (hU.mono hz (Nat.le_refl _)) (fun i hi _ q hq1 hq2 => by
     have h1 := (hU.1.lt q hq2).1
     have h2 := (HO.out.el i (by have := HO.out.len; omega) hi).2 q hq1
     omega))
    clear hO1 hb1' hU' hcon
    go_wp2
    go_roundw
    case rel => exact ⟨k + 1,_,by omega,by go_num,by rw [← take_zero_fct l k hlt]; exact HS.out.mono (Nat.le_refl _) (by simp [World.setCell]),((hW.trans (hb1.mono hz)).setCell (p := ⟨w.heap.size,k * 2,none⟩) (Nat.le_refl _) _).setCell (p := ⟨w.heap.size,k * 2 + 1,none⟩) (Nat.le_refl _) _⟩
    case measure => simp [intOf]; omega
  · obtain rfl : k = l.length := by omega
    have hO' : FactSO 66 w.heap.size wr.heap.size (.slice (some ⟨w.heap.size,0,none⟩) l.length l.length) Vs l wr := by simpa using hO
    clear hO
    go_wp2
    go_ret
    exact ⟨Vs,rfl,hO',hW⟩
def GivesCopy (x : Inst) (w : World) (e : Ending) (w' : World) : Prop := ∃ P c g Vs, e = .returned (.agg #[.slice P x.rels.length c, .slice (some ⟨g, 0, none⟩) x.facts.length x.facts.length]) ∧ RelationS_own w.heap.size w'.heap.size (.slice P x.rels.length c) x.rels w' ∧ FactSO 66 w.heap.size w'.heap.size (.slice (some ⟨g, 0, none⟩) x.facts.length x.facts.length) Vs x.facts w' ∧ Below w.heap.size w w'
set_option maxHeartbeats 1600000 in
set_option maxRecDepth 100000 in
theorem implCopyInstance_any (v : Value) (x : Inst) (w : World) (h : Instance_at w w.heap.size v x) (hn : Instance_sz x ≤ 1048576) :
 Calls Tryz.prog 100 #[v] w (GivesCopy x w) := by
 obtain ⟨P,c,Q,d,rfl⟩ := Instance_form h
 obtain ⟨V1,V2,hv,hR,hF⟩ := h
 simp only [Value.agg.injEq,Array.mk.injEq,List.cons.injEq,and_true] at hv
 obtain ⟨rfl,rfl⟩ := hv
 have hrl : x.rels.length ≤ 1048576 := by unfold Instance_sz RelationS_sz at hn; omega
 have hfl : x.facts.length ≤ 1048576 := by unfold Instance_sz FactS_sz at hn; omega
 have hel : ∀ k (h : k < x.facts.length),Fact_sz x.facts[k] ≤ 1048576 := fun k h => by
  have h1 := valsLen_take x.facts k h
  have h2 := valsLen_le x.facts (k + 1)
  unfold Instance_sz FactS_sz at hn; unfold Fact_sz; omega
 have HF := Lib.hid hF
 have HR := Lib.hid hR
 clear hF hR hn
 obtain ⟨E,hEq⟩ : ∃ E,E = ((w.alloc (.cells #[.slice P x.rels.length c,.slice Q x.facts.length d] 27)).alloc (.cells #[.slice none 0 0,.slice none 0 0] 27)) := ⟨_,rfl⟩
 have hE : Below w.heap.size w E := by rw [hEq]; exact below_more (below_more (Below.refl _ _) _) _
 have HE := Lib.hid (show w.heap.size + 2 = E.heap.size by rw [hEq]; simp)
 have G0 := Aft.cell (B := E.heap.size) (w := E) (b := w.heap.size) (o := 0) (x := some (.slice P x.rels.length c)) (by have := HE.out; omega) (by rw [hEq]; simp [go_sem])
 have G1 := Aft.cell (B := E.heap.size) (w := E) (b := w.heap.size) (o := 1) (x := some (.slice Q x.facts.length d)) (by have := HE.out; omega) (by rw [hEq]; simp [go_sem])
 have M0 := Lib.hid (show E.cell? ⟨w.heap.size + 1,0,none⟩ = some (.slice none 0 0) by rw [hEq]; simp [go_sem])
 have M1 := Lib.hid (show E.cell? ⟨w.heap.size + 1,1,none⟩ = some (.slice none 0 0) by rw [hEq]; simp [go_sem])
 have MZ := fun o => Lib.hid (show E.frozen? ⟨w.heap.size + 1,o,none⟩ = false by rw [hEq]; simp [go_sem])
 have hED : Below w.heap.size w E.drew := hE.drew
 have hcl := implCloneRels_any (.slice P x.rels.length c) x.rels E.drew ((SliceAt.below HR.out hED (Nat.le_refl _)).more hED.size) hrl
 go_enter Tryz.func100,Tryz.ntmps100
 go_wp2
 rw [← hEq]
 clear hEq
 refine wp_region_plan (C := fun w' => ∃ u : Aft E.heap.size E,w' = u.now) (.still 0 (.still 1 (.still 3 (.still 4 (.move true 2 (.move true 5 (.still 6 (.move false 7 .done .none)) .none) .none))))) (by kernel_rfl) (by kernel_rfl) (by kernel_rfl) (fun _ => ⟨⟨_,(Below.refl _ _).drew⟩,rfl⟩) ?_
 iterate 4
  refine plan_look _ rfl rfl ?_
  go_big_quiet_step (fail)
  refine wpQuiet_nil ?_
 refine plan_call _ 142 _ _ _ _ _ rfl _ Tryz.func142 (by kernel_rfl) (by kernel_rfl) ?_ True.intro
 refine hcl.mono ?_
 rintro _ w2 ⟨u,rfl,hU,hb2⟩
 have hb2' : Below E.heap.size E w2 := (Below.refl _ _).drew.trans hb2
 obtain ⟨P2,c2,rfl,-⟩ := id hU.1.at_
 have HU := Lib.hid (show RelationS_own E.heap.size w2.heap.size (.slice P2 x.rels.length c2) x.rels w2 from hU)
 have HB2 := Lib.hid hb2'
 have hW2 := hE.trans (hb2'.mono hE.size)
 have hcf := implCopyFacts_any (.slice Q x.facts.length d) x.facts w2 (HF.out.later hW2) hfl hel
 refine ⟨_,rfl,fun _ => ⟨⟨_,hb2'⟩,rfl⟩,?_⟩
 clear hU hb2 hb2' hcl
 refine plan_put ?_ (by simp only [Act.put,putA,putB,putC]; rfl)
 refine plan_call _ 143 _ _ _ _ _ rfl _ Tryz.func143 (by kernel_rfl) (by kernel_rfl) ?_ True.intro
 refine hcf.mono ?_
 rintro _ w3 ⟨Vs,rfl,hO3,hb3⟩
 have hb3' := HB2.out.trans (hb3.mono HB2.out.size)
 have m0 := (hb3'.cell (p := ⟨w.heap.size + 1,0,none⟩) (by show w.heap.size + 1 < _; have := HE.out; omega)).trans M0.out
 have m1 := (hb3'.cell (p := ⟨w.heap.size + 1,1,none⟩) (by show w.heap.size + 1 < _; have := HE.out; omega)).trans M1.out
 have mz := fun o => (hb3'.frozen (p := ⟨w.heap.size + 1,o,none⟩) (by show w.heap.size + 1 < _; have := HE.out; omega)).trans (MZ o).out
 have HO3 := Lib.hid hO3
 have HB3 := Lib.hid hb3
 have HB3' := Lib.hid hb3'
 have hz2 : w.heap.size + 2 ≤ w2.heap.size := by have h1 := HB2.out.size; have h2 := HE.out; omega
 refine ⟨_,rfl,fun _ => ⟨⟨_,hb3'⟩,rfl⟩,?_⟩
 clear hO3 hb3 hb3' G0 G1 hcf
 have hz23 := HB3.out.size
 generalize w2.heap.size = g at *
 refine plan_put ?_ (by simp only [Act.put,putA,putB,putC]; rfl)
 refine plan_look _ rfl rfl ?_
 go_big_quiet_step (fail)
 refine wpQuiet_nil ?_
 refine plan_skip (w' := (w3.setCell ⟨w.heap.size + 1,0,none⟩ (.slice P2 x.rels.length c2)).setCell ⟨w.heap.size + 1,1,none⟩ (.slice (some ⟨g,0,none⟩) x.facts.length x.facts.length)) _ rfl rfl rfl (by simp [go_sem,m0,m1,mz]) (fun e => by cases e) ?_ True.intro
 refine plan_put ?_ (by simp only [Act.put]; rfl)
 refine plan_done ?_
 have HST := Lib.hid (show Chg (Mid (w.heap.size + 1) (w.heap.size + 2)) w3 ((w3.setCell ⟨w.heap.size + 1,0,none⟩ (.slice P2 x.rels.length c2)).setCell ⟨w.heap.size + 1,1,none⟩ (.slice (some ⟨g,0,none⟩) x.facts.length x.facts.length)) from ((Chg.refl _ w3).setCell (p := ⟨w.heap.size + 1,0,none⟩) ⟨Nat.le_refl _,Nat.lt_succ_self _⟩ _).setCell (p := ⟨w.heap.size + 1,1,none⟩) ⟨Nat.le_refl _,Nat.lt_succ_self _⟩ _)
 go_wp2
 refine bodyPost_ret (v := .agg #[.slice P2 x.rels.length c2,.slice (some ⟨g,0,none⟩) x.facts.length x.facts.length]) (by simp [results,Tryz.results100,go_sem,m0,m1]) rfl ⟨P2,c2,g,Vs,rfl,?_,?_,?_⟩
 · exact ((HU.out.below HB3.out (Nat.le_refl _)).chg HST.out (.inr (by have := HE.out; omega))).mono hE.size (by have h1 := HST.out.size; omega)
 · exact (HO3.out.chg HST.out (.inr hz2)).mono (by omega) HST.out.size
 · exact (hE.trans (HB3'.out.mono hE.size)).trans (HST.out.mid_below (by omega) (by have := (hE.trans (HB3'.out.mono hE.size)).size; omega))
theorem ownsRow_cut {w : World} {B k g n cap i : Nat} {e : TypeId} {xs : List Value} (h : w.ownsRow B e k (.slice (some ⟨g, 0, none⟩) n cap) n xs) (hi : i ≤ n) : w.ownsRow B e k (.slice (some ⟨g, 0, none⟩) i cap) i (xs.take (i * k)) := by
 rcases h.2 with ⟨h',_⟩ | ⟨g',cap',cur,h',hb,hg,hnc,hcm,hcs,ht⟩
 · cases h'
 · injection h' with e1 _ e3
   injection e1 with e1
   injection e1 with e1
   subst e1 e3
   have hle : i * k ≤ n * k := Nat.mul_le_mul_right k hi
   refine ⟨by rw [List.length_take,h.1]; omega,.inr ⟨g,cap,cur,rfl,hb,hg,by omega,hcm,hcs,?_⟩⟩
   rw [← ht,List.take_take,Nat.min_eq_left hle]
theorem ownsRow_setCells {B k g n cap : Nat} {e : TypeId} (us : List Value) (o : Nat) : ∀ {w : World} {xs : List Value}, w.ownsRow B e k (.slice (some ⟨g, 0, none⟩) n cap) n xs → (w.setCells g o us).ownsRow B e k (.slice (some ⟨g, 0, none⟩) n cap) n (setMany xs o us) := by
 induction us generalizing o with
 | nil => intro w xs h; exact h
 | cons u us ih => intro w xs h; exact ih (o + 1) (World.ownsRow.stored h o u).1
theorem setMany_take (xs : List Value) (o : Nat) (us : List Value) : (setMany xs o us).take o = xs.take o := by
 have key : ∀ (us : List Value) (xs : List Value) (o m : Nat),m ≤ o → (setMany xs o us).take m = xs.take m := by
  intro us
  induction us with
  | nil => intro xs o m h; rfl
  | cons u us ih =>
    intro xs o m h
    show (setMany (xs.set o u) (o + 1) us).take m = _
    rw [ih _ _ _ (by omega),List.take_set_of_le h]
 exact key us xs o o (Nat.le_refl _)
theorem chg_setCells {g : Nat} (us : List Value) (o : Nat) : ∀ (w : World), Chg (fun q => q = g) w (w.setCells g o us) := by
 induction us generalizing o with
 | nil => intro w; exact Chg.refl _ _
 | cons u us ih => intro w; exact ((Chg.refl (fun q => q = g) w).setCell (p := ⟨g,o,none⟩) rfl u).trans (ih (o + 1) _)
end Go.Proofs.YtobdijcnfmgidaaGreat
