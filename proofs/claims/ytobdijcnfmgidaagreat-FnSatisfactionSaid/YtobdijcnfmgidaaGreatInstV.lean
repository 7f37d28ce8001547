/- Walks and plain lemmas for the laws of this seat. -/
import Derived.Test.YtobdijcnfmgidaaGreatPlan
import Derived.Test.YtobdijcnfmgidaaGreatAft
import Derived.Test.YtobdijcnfmgidaaGreatMInst
import Derived.Test.YtobdijcnfmgidaaGreatFactV
namespace Go.Proofs.YtobdijcnfmgidaaGreat
open Go.RowKit
theorem specNulls_len {B : Nat} {u : Value} {l : List Int} {w : World} (h : OwnInts B u l w) : ∃ P c, u = .slice P l.length c := by
 obtain ⟨P,c,rfl,_⟩ := h.at_
 exact ⟨P,c,rfl⟩
theorem srcNull_no {l : List Rel} {f : Fct} {r : Nat} (hr : f.rel = (r : Int)) (h : r < l.length) (hs : l[r].source = false) : srcNull l f = false := by
 unfold srcNull; rw [hr,Int.toNat_natCast,getD_at h,hs]; rfl
theorem srcNull_at {l : List Rel} {f : Fct} {r : Nat} (hr : f.rel = (r : Int)) (h : r < l.length) (hs : l[r].source = true) : srcNull l f = decide (0 < (nullsOf f.vals).length) := by
 unfold srcNull; rw [hr,Int.toNat_natCast,getD_at h,hs]; rfl
set_option maxHeartbeats 8000000 in
set_option maxRecDepth 100000 in
theorem specIsValidInstance_len (v : Value) (x : Inst) (w : World) (h : Instance_at w w.heap.size v x) (hw : Instance_wf x) (hn1 : x.rels.length ≤ 1048576) :
 Calls Tryz.prog 14 #[v] w fun e w' => e = .returned (.bool (instOk x)) ∧ Below w.heap.size w w' := by
 obtain ⟨P,c,Q,d,rfl⟩ := Instance_form h
 obtain ⟨V1,V2,hv,hR,hF⟩ := h
 simp only [Value.agg.injEq,Array.mk.injEq,List.cons.injEq,and_true] at hv
 obtain ⟨rfl,rfl⟩ := hv
 obtain ⟨_,_,hv2,hd1,hd2⟩ := hF.form
 injection hv2 with e1 _ e2
 subst e1 e2
 unfold maxLen at hd2
 have HF := Lib.hid hF
 have HR := Lib.hid hR
 obtain ⟨hwR,hwF⟩ := hw
 clear hF hR
 have hE : Below w.heap.size w (w.alloc (.cells #[.slice P x.rels.length c,.slice Q x.facts.length d] 27)) := (Below.refl _ _).alloc (Nat.le_refl _) _
 have HE := Lib.hid (show w.heap.size + 1 = (w.alloc (.cells #[.slice P x.rels.length c,.slice Q x.facts.length d] 27)).heap.size by simp)
 have K0 := Lib.hid (show (w.alloc (.cells #[.slice P x.rels.length c,.slice Q x.facts.length d] 27)).cell? ⟨w.heap.size,0,none⟩ = some (.slice P x.rels.length c) by simp [go_sem])
 have K1 := Lib.hid (show (w.alloc (.cells #[.slice P x.rels.length c,.slice Q x.facts.length d] 27)).cell? ⟨w.heap.size,1,none⟩ = some (.slice Q x.facts.length d) by simp [go_sem])
 go_enter Tryz.func14,Tryz.ntmps14
 go_wp2
 go_loopw [3] (fun i wr => ∃ k : Nat,k ≤ x.facts.length ∧ i = .int .i64 k ∧ Hid (FactsTo x k) ∧ Below (w.alloc (.cells #[.slice P x.rels.length c,.slice Q x.facts.length d] 27)).heap.size (w.alloc (.cells #[.slice P x.rels.length c,.slice Q x.facts.length d] 27)) wr) (fun i _ => x.facts.length - (intOf i).toNat)
 case atStart => exact ⟨0,by omega,rfl,Lib.hid (FactsTo.zero x),Below.refl _ _⟩
 case round =>
  obtain ⟨k,hk,rfl,HT,hW⟩ := hrel
  have hWw := hE.trans (hW.mono hE.size)
  have hzw : w.heap.size < wr.heap.size := by have h1 := hW.size; have h2 := HE.out; omega
  have f0 := (hW.cell (p := ⟨w.heap.size,0,none⟩) (by show w.heap.size < _; have := HE.out; omega)).trans K0.out
  have f1 := (hW.cell (p := ⟨w.heap.size,1,none⟩) (by show w.heap.size < _; have := HE.out; omega)).trans K1.out
  by_cases hlt : k < x.facts.length
  ·
   have hzz := hzw
   rcases Nat.eq_zero_or_pos k with h0 | h0
   ·
    have hg1 : decide ((0 : Int) < (k : Int)) = false := decide_eq_false (by omega)
    have hg2 : decide (0 < k) = false := decide_eq_false (by omega)
    have H0 := Lib.hid h0
    clear h0
    obtain ⟨b,off,V,rfl,hb,c0,c1,hV⟩ := FactS_at.elem HF.out (k) hlt
    obtain ⟨R,hR⟩ : ∃ R,R = x.facts[k].rel := ⟨_,rfl⟩
    rw [← hR] at c0
    have HRk := Lib.hid hR
    clear hR
    have HVa := Lib.hid hV
    obtain ⟨A,ca,rfl,-,hca,-⟩ := hV
    unfold maxLen at hca
    have c0' := (hWw.cell (p := ⟨b,_,none⟩) hb).trans c0
    have c1' := (hWw.cell (p := ⟨b,_,none⟩) hb).trans c1
    have hwx := (hwF (k) hlt).2
    have hb0 : Below wr.heap.size wr (wr.alloc (.cells #[.int .i64 R,.slice A x.facts[k].vals.length ca] 66)) := (Below.refl _ _).alloc (Nat.le_refl _) _
    have hw0 := hWw.trans (hb0.mono hWw.size)
    have hz0 : wr.heap.size + 1 = (wr.alloc (.cells #[.int .i64 R,.slice A x.facts[k].vals.length ca] 66)).heap.size := by simp
    have HB0 := Lib.hid (show Below (w.alloc (.cells #[.slice P x.rels.length c,.slice (some ⟨b,off,none⟩) x.facts.length d] 27)).heap.size (w.alloc (.cells #[.slice P x.rels.length c,.slice (some ⟨b,off,none⟩) x.facts.length d] 27)) (wr.alloc (.cells #[.int .i64 R,.slice A x.facts[k].vals.length ca] 66)) from hW.trans (hb0.mono hW.size))
    have HW0 := Lib.hid hw0
    have GX0 := Aft.cell (B := (wr.alloc (.cells #[.int .i64 R,.slice A x.facts[k].vals.length ca] 66)).heap.size) (w := (wr.alloc (.cells #[.int .i64 R,.slice A x.facts[k].vals.length ca] 66))) (show w.heap.size < _ by omega) ((hb0.cell (p := ⟨w.heap.size,0,none⟩) hzw).trans f0)
    have GX1 := Aft.cell (B := (wr.alloc (.cells #[.int .i64 R,.slice A x.facts[k].vals.length ca] 66)).heap.size) (w := (wr.alloc (.cells #[.int .i64 R,.slice A x.facts[k].vals.length ca] 66))) (show w.heap.size < _ by omega) ((hb0.cell (p := ⟨w.heap.size,1,none⟩) hzw).trans f1)
    have GF0 := Aft.cell (B := (wr.alloc (.cells #[.int .i64 R,.slice A x.facts[k].vals.length ca] 66)).heap.size) (w := (wr.alloc (.cells #[.int .i64 R,.slice A x.facts[k].vals.length ca] 66))) (show wr.heap.size < _ by omega) (show (wr.alloc (.cells #[.int .i64 R,.slice A x.facts[k].vals.length ca] 66)).cell? ⟨wr.heap.size,0,none⟩ = some (.int .i64 R) by simp [go_sem])
    have GF1 := Aft.cell (B := (wr.alloc (.cells #[.int .i64 R,.slice A x.facts[k].vals.length ca] 66)).heap.size) (w := (wr.alloc (.cells #[.int .i64 R,.slice A x.facts[k].vals.length ca] 66))) (show wr.heap.size < _ by omega) (show (wr.alloc (.cells #[.int .i64 R,.slice A x.facts[k].vals.length ca] 66)).cell? ⟨wr.heap.size,1,none⟩ = some (.slice A x.facts[k].vals.length ca) by simp [go_sem])
    have hIV := fun (bb : Bool) (hbb : factOk x.rels x.facts[k].rel x.facts[k].vals = bb) (u : Aft (wr.alloc (.cells #[.int .i64 R,.slice A x.facts[k].vals.length ca] 66)).heap.size (wr.alloc (.cells #[.int .i64 R,.slice A x.facts[k].vals.length ca] 66))) => specIsValidFact_at (.slice P x.rels.length c) x.rels R (.slice A x.facts[k].vals.length ca) x.facts[k].vals bb (by rw [HRk.out]; exact hbb) u.now (SliceAt.aft HR.out hw0 u) hn1 (SliceAt.aft HVa.out hw0 u) hwx
    have hNU := fun (u : Aft (wr.alloc (.cells #[.int .i64 R,.slice A x.facts[k].vals.length ca] 66)).heap.size (wr.alloc (.cells #[.int .i64 R,.slice A x.facts[k].vals.length ca] 66))) => specNullsOfFact_any R (.slice A x.facts[k].vals.length ca) x.facts[k].vals u.now (SliceAt.aft HVa.out hw0 u) hwx
    clear hz0
    cases hf : factOk x.rels x.facts[k].rel x.facts[k].vals with
    | false =>
     have HV := Lib.hid (instOk_no (k) hlt (stepOk_fact hlt hf))
     have hIV' := hIV false hf
     clear hf hIV hNU c0 c1 hb0 hw0
     go_wp2
     refine wp_region_aft (Below.refl (wr.alloc (.cells #[.int .i64 R,.slice A x.facts[k].vals.length ca] 66)).heap.size (wr.alloc (.cells #[.int .i64 R,.slice A x.facts[k].vals.length ca] 66))) (by kernel_rfl) (by kernel_rfl) ?_
     repeat (go_big_quiet_step (((go_at_call 35; exact calls_aft (Nat.le_refl _) (hIV' _)))))
     refine wpQuiet_nil ?_
     refine aft_end ?_
     intro wz hh
     go_wp2
     go_ret
     exact ⟨ret_bool HV.out.symm,HW0.out.trans (hh.mono HW0.out.size)⟩
    | true =>
     have hIV' := hIV true hf
     clear hIV
     obtain ⟨hvr,hin,-,-⟩ := factOk_parts hf
     rw [← HRk.out] at hin
     obtain ⟨r,rfl⟩ : ∃ r : Nat,R = (r : Int) := ⟨R.toNat,by omega⟩
     have hrl : r < x.rels.length := by omega
     obtain ⟨rb,ro,rfl,hrb,-,-,r2⟩ := RelsAt.elem HR.out r hrl
     have GR := Aft.cell (B := (wr.alloc (.cells #[.int .i64 (r : Int),.slice A x.facts[k].vals.length ca] 66)).heap.size) (w := (wr.alloc (.cells #[.int .i64 (r : Int),.slice A x.facts[k].vals.length ca] 66))) (show rb < _ by have := hw0.size; omega) ((hw0.cell (p := ⟨rb,ro + r * 3 + 2,none⟩) hrb).trans r2)
     clear hvr hin r2
     cases hs : x.rels[r].source with
     | false =>
      have hsn := srcNull_no HRk.out.symm hrl hs
      have HN := Lib.hid (HT.out.next (stepOk_yesz H0.out hlt hf hsn))
      rw [hs] at GR
      clear hf hNU c0 c1 hb0 hw0 hsn
      go_wp2
      refine wp_region_aft (Below.refl (wr.alloc (.cells #[.int .i64 (r : Int),.slice A x.facts[k].vals.length ca] 66)).heap.size (wr.alloc (.cells #[.int .i64 (r : Int),.slice A x.facts[k].vals.length ca] 66))) (by kernel_rfl) (by kernel_rfl) ?_
      repeat (go_big_quiet_step (((go_at_call 35; exact calls_aft (Nat.le_refl _) (hIV' _)))))
      refine wpQuiet_nil ?_
      refine aft_end ?_
      intro wz hh
      go_wp2
      go_roundw
      case rel => exact ⟨k + 1,by omega,by go_num,HN,HB0.out.trans (hh.mono HB0.out.size)⟩
      case measure => simp [intOf]; omega
     | true =>
      have hsa := srcNull_at HRk.out.symm hrl hs
      rw [hs] at GR
      by_cases hnl : 0 < (nullsOf x.facts[k].vals).length
      ·
       have HV := Lib.hid (instOk_no (k) hlt (stepOk_src hlt (hsa.trans (decide_eq_true hnl))))
       have hdn : decide (0 < ((nullsOf x.facts[k].vals).length : Int)) = true := decide_eq_true (by omega)
       clear hf c0 c1 hb0 hw0 hsa
       go_wp2
       refine wp_region_planL (C := fun w' => ∃ u : Aft (wr.alloc (.cells #[.int .i64 (r : Int),.slice A x.facts[k].vals.length ca] 66)).heap.size (wr.alloc (.cells #[.int .i64 (r : Int),.slice A x.facts[k].vals.length ca] 66)),w' = u.now) (.still 0 (.still 1 (.still 2 (.move true 3 (.still 4 (.still 5 (.still 6 (.still 7 (.still 8 (.still 9 (.still 10 (.still 11 (.still 12 (.still 13 (.still 14 (.still 15 (.move true 16 (.still 17 (.still 18 (.still 19 (.still 20 (.still 21 (.still 22 (.still 23 (.still 24 (.still 25 (.still 26 (.still 27 (.still 28 (.still 29 (.move true 30 (.still 31 (.still 32 (.still 33 (.still 34 (.done))))) .none)))))))))))))) .none))))))))))))) .none)))) (by kernel_rfl) (by kernel_rfl) (by kernel_rfl) (fun _ => ⟨⟨_,(Below.refl _ _).drew⟩,rfl⟩) ?_
       iterate 3
        refine plan_look _ rfl rfl ?_
        go_big_quiet_step (fail)
        refine wpQuiet_nil ?_
       refine plan_call _ 35 _ _ _ _ _ rfl _ Tryz.func35 (by kernel_rfl) (by kernel_rfl) ?_ True.intro
       refine (hIV' ⟨_,(Below.refl _ _).drew⟩).mono ?_
       rintro _ w2 ⟨rfl,hb2⟩
       have hc2 : Below (wr.alloc (.cells #[.int .i64 (r : Int),.slice A x.facts[k].vals.length ca] 66)).heap.size (wr.alloc (.cells #[.int .i64 (r : Int),.slice A x.facts[k].vals.length ca] 66)) w2 := (Below.refl _ _).drew.trans hb2
       refine ⟨_,rfl,fun _ => ⟨⟨_,hc2⟩,rfl⟩,?_⟩
       refine plan_put ?_ (by simp only [Act.put,putA,putB,putC]; rfl)
       iterate 12
        refine plan_look _ rfl rfl ?_
        go_big_quiet_step (fail)
        refine wpQuiet_nil ?_
       refine plan_off _ rfl rfl rfl ?_ True.intro
       refine plan_put ?_ (by simp only [Act.put,putA,putB,putC]; rfl)
       have hc3 := hc2
       iterate 13
        refine plan_look _ rfl rfl ?_
        go_big_quiet_step (fail)
        refine wpQuiet_nil ?_
       refine plan_callG _ 37 _ _ _ _ _ _ rfl rfl _ Tryz.func37 (by kernel_rfl) (by kernel_rfl) ?_ True.intro
       refine (hNU ⟨_,hc3⟩).mono ?_
       rintro _ w4 ⟨un,rfl,hO4,hb4⟩
       have hc4 := hc3.trans (hb4.mono hc3.size)
       obtain ⟨Pn,cn,rfl⟩ := specNulls_len hO4
       clear hO4
       refine ⟨_,rfl,fun _ => ⟨⟨_,hc4⟩,rfl⟩,?_⟩
       refine plan_put ?_ (by simp only [Act.put,putA,putB,putC]; rfl)
       refine plan_look _ rfl rfl ?_
       go_big_quiet_step (fail)
       refine wpQuiet_nil ?_
       iterate 3
        refine plan_look _ rfl rfl ?_
        go_big_quiet_step (fail)
        refine wpQuiet_nil ?_
       refine plan_done ?_
       go_wp2
       go_ret
       exact ⟨ret_bool HV.out.symm,HW0.out.trans (hc4.mono HW0.out.size)⟩
      ·
       have hsn := hsa.trans (decide_eq_false hnl)
       have HN := Lib.hid (HT.out.next (stepOk_yesz H0.out hlt hf hsn))
       have hdn : decide (0 < ((nullsOf x.facts[k].vals).length : Int)) = false := decide_eq_false (by omega)
       clear hf c0 c1 hb0 hw0 hsa hsn
       go_wp2
       refine wp_region_planL (C := fun w' => ∃ u : Aft (wr.alloc (.cells #[.int .i64 (r : Int),.slice A x.facts[k].vals.length ca] 66)).heap.size (wr.alloc (.cells #[.int .i64 (r : Int),.slice A x.facts[k].vals.length ca] 66)),w' = u.now) (.still 0 (.still 1 (.still 2 (.move true 3 (.still 4 (.still 5 (.still 6 (.still 7 (.still 8 (.still 9 (.still 10 (.still 11 (.still 12 (.still 13 (.still 14 (.still 15 (.move true 16 (.still 17 (.still 18 (.still 19 (.still 20 (.still 21 (.still 22 (.still 23 (.still 24 (.still 25 (.still 26 (.still 27 (.still 28 (.still 29 (.move true 30 (.still 31 (.still 32 (.still 33 (.still 34 (.done))))) .none)))))))))))))) .none))))))))))))) .none)))) (by kernel_rfl) (by kernel_rfl) (by kernel_rfl) (fun _ => ⟨⟨_,(Below.refl _ _).drew⟩,rfl⟩) ?_
       iterate 3
        refine plan_look _ rfl rfl ?_
        go_big_quiet_step (fail)
        refine wpQuiet_nil ?_
       refine plan_call _ 35 _ _ _ _ _ rfl _ Tryz.func35 (by kernel_rfl) (by kernel_rfl) ?_ True.intro
       refine (hIV' ⟨_,(Below.refl _ _).drew⟩).mono ?_
       rintro _ w2 ⟨rfl,hb2⟩
       have hc2 : Below (wr.alloc (.cells #[.int .i64 (r : Int),.slice A x.facts[k].vals.length ca] 66)).heap.size (wr.alloc (.cells #[.int .i64 (r : Int),.slice A x.facts[k].vals.length ca] 66)) w2 := (Below.refl _ _).drew.trans hb2
       refine ⟨_,rfl,fun _ => ⟨⟨_,hc2⟩,rfl⟩,?_⟩
       refine plan_put ?_ (by simp only [Act.put,putA,putB,putC]; rfl)
       iterate 12
        refine plan_look _ rfl rfl ?_
        go_big_quiet_step (fail)
        refine wpQuiet_nil ?_
       refine plan_off _ rfl rfl rfl ?_ True.intro
       refine plan_put ?_ (by simp only [Act.put,putA,putB,putC]; rfl)
       have hc3 := hc2
       iterate 13
        refine plan_look _ rfl rfl ?_
        go_big_quiet_step (fail)
        refine wpQuiet_nil ?_
       refine plan_callG _ 37 _ _ _ _ _ _ rfl rfl _ Tryz.func37 (by kernel_rfl) (by kernel_rfl) ?_ True.intro
       refine (hNU ⟨_,hc3⟩).mono ?_
       rintro _ w4 ⟨un,rfl,hO4,hb4⟩
       have hc4 := hc3.trans (hb4.mono hc3.size)
       obtain ⟨Pn,cn,rfl⟩ := specNulls_len hO4
       clear hO4
       refine ⟨_,rfl,fun _ => ⟨⟨_,hc4⟩,rfl⟩,?_⟩
       refine plan_put ?_ (by simp only [Act.put,putA,putB,putC]; rfl)
       refine plan_look _ rfl rfl ?_
       go_big_quiet_step (fail)
       refine wpQuiet_nil ?_
       iterate 3
        refine plan_look _ rfl rfl ?_
        go_big_quiet_step (fail)
        refine wpQuiet_nil ?_
       refine plan_done ?_
       go_wp2
       go_roundw
       case rel => exact ⟨k + 1,by omega,by go_num,HN,HB0.out.trans (hc4.mono HB0.out.size)⟩
       case measure => simp [intOf]; omega
   ·
    obtain ⟨j,rfl⟩ : ∃ j,k = j + 1 := ⟨k - 1,by omega⟩
    obtain ⟨b,off,V,rfl,hb,c0,c1,hV⟩ := FactS_at.elem HF.out (j + 1) hlt
    obtain ⟨R,hR⟩ : ∃ R,R = x.facts[j + 1].rel := ⟨_,rfl⟩
    rw [← hR] at c0
    have HRk := Lib.hid hR
    clear hR
    have HVa := Lib.hid hV
    obtain ⟨A,ca,rfl,-,hca,-⟩ := hV
    unfold maxLen at hca
    have c0' := (hWw.cell (p := ⟨b,_,none⟩) hb).trans c0
    have c1' := (hWw.cell (p := ⟨b,_,none⟩) hb).trans c1
    have hwx := (hwF (j + 1) hlt).2
    have hb0 : Below wr.heap.size wr (wr.alloc (.cells #[.int .i64 R,.slice A x.facts[j + 1].vals.length ca] 66)) := (Below.refl _ _).alloc (Nat.le_refl _) _
    have hw0 := hWw.trans (hb0.mono hWw.size)
    have hz0 : wr.heap.size + 1 = (wr.alloc (.cells #[.int .i64 R,.slice A x.facts[j + 1].vals.length ca] 66)).heap.size := by simp
    have HB0 := Lib.hid (show Below (w.alloc (.cells #[.slice P x.rels.length c,.slice (some ⟨b,off,none⟩) x.facts.length d] 27)).heap.size (w.alloc (.cells #[.slice P x.rels.length c,.slice (some ⟨b,off,none⟩) x.facts.length d] 27)) (wr.alloc (.cells #[.int .i64 R,.slice A x.facts[j + 1].vals.length ca] 66)) from hW.trans (hb0.mono hW.size))
    have HW0 := Lib.hid hw0
    have GX0 := Aft.cell (B := (wr.alloc (.cells #[.int .i64 R,.slice A x.facts[j + 1].vals.length ca] 66)).heap.size) (w := (wr.alloc (.cells #[.int .i64 R,.slice A x.facts[j + 1].vals.length ca] 66))) (show w.heap.size < _ by omega) ((hb0.cell (p := ⟨w.heap.size,0,none⟩) hzw).trans f0)
    have GX1 := Aft.cell (B := (wr.alloc (.cells #[.int .i64 R,.slice A x.facts[j + 1].vals.length ca] 66)).heap.size) (w := (wr.alloc (.cells #[.int .i64 R,.slice A x.facts[j + 1].vals.length ca] 66))) (show w.heap.size < _ by omega) ((hb0.cell (p := ⟨w.heap.size,1,none⟩) hzw).trans f1)
    have GF0 := Aft.cell (B := (wr.alloc (.cells #[.int .i64 R,.slice A x.facts[j + 1].vals.length ca] 66)).heap.size) (w := (wr.alloc (.cells #[.int .i64 R,.slice A x.facts[j + 1].vals.length ca] 66))) (show wr.heap.size < _ by omega) (show (wr.alloc (.cells #[.int .i64 R,.slice A x.facts[j + 1].vals.length ca] 66)).cell? ⟨wr.heap.size,0,none⟩ = some (.int .i64 R) by simp [go_sem])
    have GF1 := Aft.cell (B := (wr.alloc (.cells #[.int .i64 R,.slice A x.facts[j + 1].vals.length ca] 66)).heap.size) (w := (wr.alloc (.cells #[.int .i64 R,.slice A x.facts[j + 1].vals.length ca] 66))) (show wr.heap.size < _ by omega) (show (wr.alloc (.cells #[.int .i64 R,.slice A x.facts[j + 1].vals.length ca] 66)).cell? ⟨wr.heap.size,1,none⟩ = some (.slice A x.facts[j + 1].vals.length ca) by simp [go_sem])
    have hIV := fun (bb : Bool) (hbb : factOk x.rels x.facts[j + 1].rel x.facts[j + 1].vals = bb) (u : Aft (wr.alloc (.cells #[.int .i64 R,.slice A x.facts[j + 1].vals.length ca] 66)).heap.size (wr.alloc (.cells #[.int .i64 R,.slice A x.facts[j + 1].vals.length ca] 66))) => specIsValidFact_at (.slice P x.rels.length c) x.rels R (.slice A x.facts[j + 1].vals.length ca) x.facts[j + 1].vals bb (by rw [HRk.out]; exact hbb) u.now (SliceAt.aft HR.out hw0 u) hn1 (SliceAt.aft HVa.out hw0 u) hwx
    have hNU := fun (u : Aft (wr.alloc (.cells #[.int .i64 R,.slice A x.facts[j + 1].vals.length ca] 66)).heap.size (wr.alloc (.cells #[.int .i64 R,.slice A x.facts[j + 1].vals.length ca] 66))) => specNullsOfFact_any R (.slice A x.facts[j + 1].vals.length ca) x.facts[j + 1].vals u.now (SliceAt.aft HVa.out hw0 u) hwx
    clear hz0
    cases hf : factOk x.rels x.facts[j + 1].rel x.facts[j + 1].vals with
    | false =>
     have HV := Lib.hid (instOk_no (j + 1) hlt (stepOk_fact hlt hf))
     have hIV' := hIV false hf
     clear hf hIV hNU c0 c1 hb0 hw0
     go_wp2
     refine wp_region_aft (Below.refl (wr.alloc (.cells #[.int .i64 R,.slice A x.facts[j + 1].vals.length ca] 66)).heap.size (wr.alloc (.cells #[.int .i64 R,.slice A x.facts[j + 1].vals.length ca] 66))) (by kernel_rfl) (by kernel_rfl) ?_
     repeat (go_big_quiet_step (((go_at_call 35; exact calls_aft (Nat.le_refl _) (hIV' _)))))
     refine wpQuiet_nil ?_
     refine aft_end ?_
     intro wz hh
     go_wp2
     go_ret
     exact ⟨ret_bool HV.out.symm,HW0.out.trans (hh.mono HW0.out.size)⟩
    | true =>
     have hIV' := hIV true hf
     clear hIV
     obtain ⟨hvr,hin,-,-⟩ := factOk_parts hf
     rw [← HRk.out] at hin
     obtain ⟨r,rfl⟩ : ∃ r : Nat,R = (r : Int) := ⟨R.toNat,by omega⟩
     have hrl : r < x.rels.length := by omega
     obtain ⟨rb,ro,rfl,hrb,-,-,r2⟩ := RelsAt.elem HR.out r hrl
     have GR := Aft.cell (B := (wr.alloc (.cells #[.int .i64 (r : Int),.slice A x.facts[j + 1].vals.length ca] 66)).heap.size) (w := (wr.alloc (.cells #[.int .i64 (r : Int),.slice A x.facts[j + 1].vals.length ca] 66))) (show rb < _ by have := hw0.size; omega) ((hw0.cell (p := ⟨rb,ro + r * 3 + 2,none⟩) hrb).trans r2)
     clear hvr hin r2
     obtain ⟨b',off',V',hQ,hb',d0,d1,hV'⟩ := FactS_at.elem HF.out j (by omega)
     obtain ⟨rfl,rfl⟩ : b = b' ∧ off = off' := by simpa using hQ
     have HVb := Lib.hid hV'
     obtain ⟨A',ca',rfl,-,-,-⟩ := hV'
     have GD0 := Aft.cell (B := (wr.alloc (.cells #[.int .i64 (r : Int),.slice A x.facts[j + 1].vals.length ca] 66)).heap.size) (w := (wr.alloc (.cells #[.int .i64 (r : Int),.slice A x.facts[j + 1].vals.length ca] 66))) (show b < _ by have := hw0.size; omega) ((hw0.cell (p := ⟨b,off + j * 2,none⟩) hb').trans d0)
     have GD1 := Aft.cell (B := (wr.alloc (.cells #[.int .i64 (r : Int),.slice A x.facts[j + 1].vals.length ca] 66)).heap.size) (w := (wr.alloc (.cells #[.int .i64 (r : Int),.slice A x.facts[j + 1].vals.length ca] 66))) (show b < _ by have := hw0.size; omega) ((hw0.cell (p := ⟨b,off + j * 2 + 1,none⟩) hb').trans d1)
     obtain ⟨z,hz⟩ : ∃ z,cmpF x.facts[j] x.facts[j + 1] = z := ⟨_,rfl⟩
     have hCF' := fun (u : Aft (wr.alloc (.cells #[.int .i64 (r : Int),.slice A x.facts[j + 1].vals.length ca] 66)).heap.size (wr.alloc (.cells #[.int .i64 (r : Int),.slice A x.facts[j + 1].vals.length ca] 66))) => specCompareFacts_at x.facts[j] x.facts[j + 1] z hz (.agg #[.int .i64 x.facts[j].rel,.slice A' x.facts[j].vals.length ca']) (.agg #[.int .i64 (r : Int),.slice A x.facts[j + 1].vals.length ca]) u.now ⟨_,rfl,SliceAt.aft HVb.out hw0 u⟩ ⟨_,by rw [HRk.out],SliceAt.aft HVa.out hw0 u⟩
     clear d0 d1 hQ
     have hj1 : ((j : Int) + 1 - 1) = (j : Int) := by omega
     by_cases hzn : z < 0
     ·
      have hdz : decide (0 ≤ z) = false := decide_eq_false (by omega)
      cases hs : x.rels[r].source with
      | false =>
       have hsn := srcNull_no HRk.out.symm hrl hs
       have HN := Lib.hid (HT.out.next (stepOk_yes hlt hf (by omega) hsn))
       rw [hs] at GR
       clear hf hNU c0 c1 hb0 hw0 hz hsn
       go_wp2
       refine wp_region_aft (Below.refl (wr.alloc (.cells #[.int .i64 (r : Int),.slice A x.facts[j + 1].vals.length ca] 66)).heap.size (wr.alloc (.cells #[.int .i64 (r : Int),.slice A x.facts[j + 1].vals.length ca] 66))) (by kernel_rfl) (by kernel_rfl) ?_
       repeat (go_big_quiet_step (first | ((go_at_call 35; exact calls_aft (Nat.le_refl _) (hIV' _))) | ((go_at_call 36; exact calls_aft (Nat.le_refl _) (hCF' _)))))
       refine wpQuiet_nil ?_
       refine aft_end ?_
       intro wz hh
       go_wp2
       go_roundw
       case rel => exact ⟨j + 1 + 1,by omega,by go_num,HN,HB0.out.trans (hh.mono HB0.out.size)⟩
       case measure => simp [intOf]; omega
      | true =>
       have hsa := srcNull_at HRk.out.symm hrl hs
       rw [hs] at GR
       by_cases hnl : 0 < (nullsOf x.facts[j + 1].vals).length
       ·
        have HV := Lib.hid (instOk_no (j + 1) hlt (stepOk_src hlt (hsa.trans (decide_eq_true hnl))))
        have hdn : decide (0 < ((nullsOf x.facts[j + 1].vals).length : Int)) = true := decide_eq_true (by omega)
        clear hf c0 c1 hb0 hw0 hz hsa
        go_wp2
        refine wp_region_planL (C := fun w' => ∃ u : Aft (wr.alloc (.cells #[.int .i64 (r : Int),.slice A x.facts[j + 1].vals.length ca] 66)).heap.size (wr.alloc (.cells #[.int .i64 (r : Int),.slice A x.facts[j + 1].vals.length ca] 66)),w' = u.now) (.still 0 (.still 1 (.still 2 (.move true 3 (.still 4 (.still 5 (.still 6 (.still 7 (.still 8 (.still 9 (.still 10 (.still 11 (.still 12 (.still 13 (.still 14 (.still 15 (.move true 16 (.still 17 (.still 18 (.still 19 (.still 20 (.still 21 (.still 22 (.still 23 (.still 24 (.still 25 (.still 26 (.still 27 (.still 28 (.still 29 (.move true 30 (.still 31 (.still 32 (.still 33 (.still 34 (.done))))) .none)))))))))))))) .none))))))))))))) .none)))) (by kernel_rfl) (by kernel_rfl) (by kernel_rfl) (fun _ => ⟨⟨_,(Below.refl _ _).drew⟩,rfl⟩) ?_
        iterate 3
         refine plan_look _ rfl rfl ?_
         go_big_quiet_step (fail)
         refine wpQuiet_nil ?_
        refine plan_call _ 35 _ _ _ _ _ rfl _ Tryz.func35 (by kernel_rfl) (by kernel_rfl) ?_ True.intro
        refine (hIV' ⟨_,(Below.refl _ _).drew⟩).mono ?_
        rintro _ w2 ⟨rfl,hb2⟩
        have hc2 : Below (wr.alloc (.cells #[.int .i64 (r : Int),.slice A x.facts[j + 1].vals.length ca] 66)).heap.size (wr.alloc (.cells #[.int .i64 (r : Int),.slice A x.facts[j + 1].vals.length ca] 66)) w2 := (Below.refl _ _).drew.trans hb2
        refine ⟨_,rfl,fun _ => ⟨⟨_,hc2⟩,rfl⟩,?_⟩
        refine plan_put ?_ (by simp only [Act.put,putA,putB,putC]; rfl)
        iterate 12
         refine plan_look _ rfl rfl ?_
         go_big_quiet_step (fail)
         refine wpQuiet_nil ?_
        refine plan_callG _ 36 _ _ _ _ _ _ rfl rfl _ Tryz.func36 (by kernel_rfl) (by kernel_rfl) ?_ True.intro
        refine (hCF' ⟨_,hc2⟩).mono ?_
        rintro _ w3 ⟨rfl,hb3⟩
        have hc3 := hc2.trans (hb3.mono hc2.size)
        refine ⟨_,rfl,fun _ => ⟨⟨_,hc3⟩,rfl⟩,?_⟩
        refine plan_put ?_ (by simp only [Act.put,putA,putB,putC]; rfl)
        iterate 13
         refine plan_look _ rfl rfl ?_
         go_big_quiet_step (fail)
         refine wpQuiet_nil ?_
        refine plan_callG _ 37 _ _ _ _ _ _ rfl rfl _ Tryz.func37 (by kernel_rfl) (by kernel_rfl) ?_ True.intro
        refine (hNU ⟨_,hc3⟩).mono ?_
        rintro _ w4 ⟨un,rfl,hO4,hb4⟩
        have hc4 := hc3.trans (hb4.mono hc3.size)
        obtain ⟨Pn,cn,rfl⟩ := specNulls_len hO4
        clear hO4
        refine ⟨_,rfl,fun _ => ⟨⟨_,hc4⟩,rfl⟩,?_⟩
        refine plan_put ?_ (by simp only [Act.put,putA,putB,putC]; rfl)
        refine plan_look _ rfl rfl ?_
        go_big_quiet_step (fail)
        refine wpQuiet_nil ?_
        iterate 3
         refine plan_look _ rfl rfl ?_
         go_big_quiet_step (fail)
         refine wpQuiet_nil ?_
        refine plan_done ?_
        go_wp2
        go_ret
        exact ⟨ret_bool HV.out.symm,HW0.out.trans (hc4.mono HW0.out.size)⟩
       ·
        have hsn := hsa.trans (decide_eq_false hnl)
        have HN := Lib.hid (HT.out.next (stepOk_yes hlt hf (by omega) hsn))
        have hdn : decide (0 < ((nullsOf x.facts[j + 1].vals).length : Int)) = false := decide_eq_false (by omega)
        clear hf c0 c1 hb0 hw0 hz hsa hsn
        go_wp2
        refine wp_region_planL (C := fun w' => ∃ u : Aft (wr.alloc (.cells #[.int .i64 (r : Int),.slice A x.facts[j + 1].vals.length ca] 66)).heap.size (wr.alloc (.cells #[.int .i64 (r : Int),.slice A x.facts[j + 1].vals.length ca] 66)),w' = u.now) (.still 0 (.still 1 (.still 2 (.move true 3 (.still 4 (.still 5 (.still 6 (.still 7 (.still 8 (.still 9 (.still 10 (.still 11 (.still 12 (.still 13 (.still 14 (.still 15 (.move true 16 (.still 17 (.still 18 (.still 19 (.still 20 (.still 21 (.still 22 (.still 23 (.still 24 (.still 25 (.still 26 (.still 27 (.still 28 (.still 29 (.move true 30 (.still 31 (.still 32 (.still 33 (.still 34 (.done))))) .none)))))))))))))) .none))))))))))))) .none)))) (by kernel_rfl) (by kernel_rfl) (by kernel_rfl) (fun _ => ⟨⟨_,(Below.refl _ _).drew⟩,rfl⟩) ?_
        iterate 3
         refine plan_look _ rfl rfl ?_
         go_big_quiet_step (fail)
         refine wpQuiet_nil ?_
        refine plan_call _ 35 _ _ _ _ _ rfl _ Tryz.func35 (by kernel_rfl) (by kernel_rfl) ?_ True.intro
        refine (hIV' ⟨_,(Below.refl _ _).drew⟩).mono ?_
        rintro _ w2 ⟨rfl,hb2⟩
        have hc2 : Below (wr.alloc (.cells #[.int .i64 (r : Int),.slice A x.facts[j + 1].vals.length ca] 66)).heap.size (wr.alloc (.cells #[.int .i64 (r : Int),.slice A x.facts[j + 1].vals.length ca] 66)) w2 := (Below.refl _ _).drew.trans hb2
        refine ⟨_,rfl,fun _ => ⟨⟨_,hc2⟩,rfl⟩,?_⟩
        refine plan_put ?_ (by simp only [Act.put,putA,putB,putC]; rfl)
        iterate 12
         refine plan_look _ rfl rfl ?_
         go_big_quiet_step (fail)
         refine wpQuiet_nil ?_
        refine plan_callG _ 36 _ _ _ _ _ _ rfl rfl _ Tryz.func36 (by kernel_rfl) (by kernel_rfl) ?_ True.intro
        refine (hCF' ⟨_,hc2⟩).mono ?_
        rintro _ w3 ⟨rfl,hb3⟩
        have hc3 := hc2.trans (hb3.mono hc2.size)
        refine ⟨_,rfl,fun _ => ⟨⟨_,hc3⟩,rfl⟩,?_⟩
        refine plan_put ?_ (by simp only [Act.put,putA,putB,putC]; rfl)
        iterate 13
         refine plan_look _ rfl rfl ?_
         go_big_quiet_step (fail)
         refine wpQuiet_nil ?_
        refine plan_callG _ 37 _ _ _ _ _ _ rfl rfl _ Tryz.func37 (by kernel_rfl) (by kernel_rfl) ?_ True.intro
        refine (hNU ⟨_,hc3⟩).mono ?_
        rintro _ w4 ⟨un,rfl,hO4,hb4⟩
        have hc4 := hc3.trans (hb4.mono hc3.size)
        obtain ⟨Pn,cn,rfl⟩ := specNulls_len hO4
        clear hO4
        refine ⟨_,rfl,fun _ => ⟨⟨_,hc4⟩,rfl⟩,?_⟩
        refine plan_put ?_ (by simp only [Act.put,putA,putB,putC]; rfl)
        refine plan_look _ rfl rfl ?_
        go_big_quiet_step (fail)
        refine wpQuiet_nil ?_
        iterate 3
         refine plan_look _ rfl rfl ?_
         go_big_quiet_step (fail)
         refine wpQuiet_nil ?_
        refine plan_done ?_
        go_wp2
        go_roundw
        case rel => exact ⟨j + 1 + 1,by omega,by go_num,HN,HB0.out.trans (hc4.mono HB0.out.size)⟩
        case measure => simp [intOf]; omega
     ·
      have hdz : decide (0 ≤ z) = true := decide_eq_true (by omega)
      have HV := Lib.hid (instOk_no (j + 1) hlt (stepOk_cmp hlt (by omega)))
      clear hf hNU c0 c1 hb0 hw0 hz
      go_wp2
      refine wp_region_aft (Below.refl (wr.alloc (.cells #[.int .i64 (r : Int),.slice A x.facts[j + 1].vals.length ca] 66)).heap.size (wr.alloc (.cells #[.int .i64 (r : Int),.slice A x.facts[j + 1].vals.length ca] 66))) (by kernel_rfl) (by kernel_rfl) ?_
      repeat (go_big_quiet_step (first | ((go_at_call 35; exact calls_aft (Nat.le_refl _) (hIV' _))) | ((go_at_call 36; exact calls_aft (Nat.le_refl _) (hCF' _)))))
      refine wpQuiet_nil ?_
      refine aft_end ?_
      intro wz hh
      go_wp2
      go_ret
      exact ⟨ret_bool HV.out.symm,HW0.out.trans (hh.mono HW0.out.size)⟩
  ·
   obtain rfl : k = x.facts.length := by omega
   have HV := Lib.hid (instOk_end HT.out)
   cases hr : validRels x.rels with
   | false =>
    have hcon := specAreValid_at2 x.rels false hr (.slice P x.rels.length c) wr ((HR.out.below hWw (Nat.le_refl _)).more hWw.size)
    rw [hr] at HV
    clear hr
    go_wp2_with (go_at_call 38; refine hcon.mono ?_; rintro e w1 ⟨rfl,hb1⟩)
    go_ret
    exact ⟨ret_bool HV.out.symm,hWw.trans (hb1.mono hWw.size)⟩
   | true =>
    have hcon := specAreValid_at2 x.rels true hr (.slice P x.rels.length c) wr ((HR.out.below hWw (Nat.le_refl _)).more hWw.size)
    rw [hr,Bool.true_and] at HV
    clear hr
    go_wp2_with fail
    refine hcon.mono ?_; rintro e w1 ⟨rfl,hb1⟩
    have f2 := (hb1.cell (p := ⟨w.heap.size,1,none⟩) hzw).trans f1
    by_cases h30 : x.facts.length ≤ 30
    ·
     have HV' := Lib.hid (HV.out.trans (decide_eq_true h30))
     have hd3 : decide ((x.facts.length : Int) ≤ 30) = true := decide_eq_true (by omega)
     go_wp2
     go_ret
     exact ⟨ret_bool HV'.out.symm,hWw.trans (hb1.mono hWw.size)⟩
    ·
     have HV' := Lib.hid (HV.out.trans (decide_eq_false h30))
     have hd3 : decide ((x.facts.length : Int) ≤ 30) = false := decide_eq_false (by omega)
     go_wp2
     go_ret
     exact ⟨ret_bool HV'.out.symm,hWw.trans (hb1.mono hWw.size)⟩
theorem specIsValidInstance_any (v : Value) (x : Inst) (w : World) (h : Instance_at w w.heap.size v x) (hw : Instance_wf x) (hn : Instance_sz x ≤ 1048576) :
 Calls Tryz.prog 14 #[v] w fun e w' => e = .returned (.bool (instOk x)) ∧ Below w.heap.size w w' := specIsValidInstance_len v x w h hw (by unfold Instance_sz RelationS_sz at hn; omega)
theorem specIsValidInstance_at (x : Inst) (bb : Bool) (hb : instOk x = bb) (v : Value) (w : World) (h : Instance_at w w.heap.size v x) (hw : Instance_wf x) (hn : Instance_sz x ≤ 1048576) :
 Calls Tryz.prog 14 #[v] w fun e w' => e = .returned (.bool bb) ∧ Below w.heap.size w w' := by
 subst hb; exact specIsValidInstance_any v x w h hw hn
theorem specIsValidInstance_at1 (x : Inst) (bb : Bool) (hb : instOk x = bb) (v : Value) (w : World) (h : Instance_at w w.heap.size v x) (hw : Instance_wf x) (hn : x.rels.length ≤ 1048576) :
 Calls Tryz.prog 14 #[v] w fun e w' => e = .returned (.bool bb) ∧ Below w.heap.size w w' := by
 subst hb; exact specIsValidInstance_len v x w h hw hn
end Go.Proofs.YtobdijcnfmgidaaGreat
