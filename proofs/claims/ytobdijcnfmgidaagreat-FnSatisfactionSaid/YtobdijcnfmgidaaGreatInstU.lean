/- Walks and plain lemmas for the laws of this seat. -/
import Derived.Test.YtobdijcnfmgidaaGreatBase
import Derived.Test.YtobdijcnfmgidaaGreatPlan
import Derived.Test.YtobdijcnfmgidaaGreatAft
import Derived.Test.YtobdijcnfmgidaaGreatInstCp
import Derived.Test.YtobdijcnfmgidaaGreatMInst
import Derived.Test.YtobdijcnfmgidaaGreatFactV
namespace Go.Proofs.YtobdijcnfmgidaaGreat
open Go.RowKit
def GivesLo (A : Nat) (x : Inst) (f : Fct) (w : World) (e : Ending) (w' : World) : Prop := ∃ r, e = .returned r ∧ Instance_lo A w' w'.heap.size r ⟨x.rels, putF x.facts f⟩ ∧ Below w.heap.size w w'
theorem putF_pos {l : List Fct} {f : Fct} {k : Nat} (h : ¬ 0 ≤ placeF f l) (hk : putPos f l = k) : putF l f = l.take k ++ f :: l.drop k := by
 unfold putF; rw [if_neg h,hk]
theorem low_put {A k : Nat} {Vs : List Value} {U : Value} (h : ∀ V ∈ Vs, lowB A V) (hU : lowB A U) : ∀ V ∈ Vs.take k ++ U :: Vs.drop k, lowB A V := fun V hV => by
 rcases List.mem_append.1 hV with hV | hV
 ·
  exact h V (List.mem_of_mem_take hV)
 ·
  rcases List.mem_cons.1 hV with rfl | hV
  ·
   exact hU
  ·
   exact h V (List.mem_of_mem_drop hV)
set_option maxHeartbeats 3200000 in
set_option maxRecDepth 100000 in
theorem specL5Put_lo (A : Nat) (v u : Value) (x : Inst) (y : Fct) (w : World) (hA : A ≤ w.heap.size) (hne : 0 < x.facts.length) (hlo : Instance_lo A w w.heap.size v x) (hn : x.facts.length ≤ 1048576) (h' : Fact_at w w.heap.size u y) (hyn : Fact_sz y ≤ 1048576) :
 Calls Tryz.prog 94 #[v,u] w (GivesLo A x y w) := by
 have h := hlo.at_
 obtain ⟨P,c,Q,d,rfl⟩ := Instance_form h
 have HLO := Lib.hid hlo
 clear hlo
 obtain ⟨P',c',rfl⟩ := Fact_form h'
 have HX := Lib.hid h
 have HY := Lib.hid h'
 obtain ⟨V1,V2,hv,hR,hF⟩ := h
 simp only [Value.agg.injEq,Array.mk.injEq,List.cons.injEq,and_true] at hv
 obtain ⟨rfl,rfl⟩ := hv
 obtain ⟨_,_,hv2,hd1,hd2⟩ := hF.form
 injection hv2 with e1 _ e2
 subst e1 e2
 unfold maxLen at hd2
 have hfl := hn
 have HF := Lib.hid hF
 have HR := Lib.hid hR
 clear h' hF hR hn
 obtain ⟨E,hEq⟩ : ∃ E,E = (((w.alloc (.cells #[.slice P x.rels.length c,.slice Q x.facts.length d] 27)).alloc (.cells #[.int .i64 y.rel,.slice P' y.vals.length c'] 66)).alloc (.cells #[.slice none 0 0,.slice none 0 0] 27)) := ⟨_,rfl⟩
 have hE : Below w.heap.size w E := by rw [hEq]; exact below_more (below_more (below_more (Below.refl _ _) _) _) _
 have HEz := Lib.hid (show w.heap.size + 3 = E.heap.size by rw [hEq]; simp)
 have K0 := Lib.hid (show E.cell? ⟨w.heap.size,0,none⟩ = some (.slice P x.rels.length c) by rw [hEq]; simp [go_sem])
 have K1 := Lib.hid (show E.cell? ⟨w.heap.size,1,none⟩ = some (.slice Q x.facts.length d) by rw [hEq]; simp [go_sem])
 have L0 := Lib.hid (show E.cell? ⟨w.heap.size + 1,0,none⟩ = some (.int .i64 y.rel) by rw [hEq]; simp [go_sem])
 have L1 := Lib.hid (show E.cell? ⟨w.heap.size + 1,1,none⟩ = some (.slice P' y.vals.length c') by rw [hEq]; simp [go_sem])
 have R0 := Lib.hid (show E.cell? ⟨w.heap.size + 1 + 1,0,none⟩ = some (.slice none 0 0) by rw [hEq]; simp [go_sem])
 have R1 := Lib.hid (show E.cell? ⟨w.heap.size + 1 + 1,1,none⟩ = some (.slice none 0 0) by rw [hEq]; simp [go_sem])
 have R2 := fun o => Lib.hid (show E.frozen? ⟨w.heap.size + 1 + 1,o,none⟩ = false by rw [hEq]; simp [go_sem])
 have hpl := specL5Place_any (.agg #[.slice P x.rels.length c,.slice Q x.facts.length d]) (.agg #[.int .i64 y.rel,.slice P' y.vals.length c']) x y E ((HX.out.below hE (Nat.le_refl _)).more hE.size) ((HY.out.below hE (Nat.le_refl _)).more hE.size)
 rw [hEq] at hpl
 by_cases hp : 0 ≤ placeF y x.facts
 ·
  have HP := Lib.hid (show putF x.facts y = x.facts from if_pos hp)
  generalize placeF y x.facts = q at *
  have hdq : decide (0 ≤ q) = true := decide_eq_true hp
  clear hp
  go_enter Tryz.func94,Tryz.ntmps94
  go_wp2_with fail
  refine hpl.mono ?_
  rintro e w1 ⟨rfl,hb1⟩
  rw [← hEq] at hb1
  have f0 := (hb1.cell (p := ⟨w.heap.size,0,none⟩) (by show w.heap.size < _; have := HEz.out; omega)).trans K0.out
  have f1 := (hb1.cell (p := ⟨w.heap.size,1,none⟩) (by show w.heap.size < _; have := HEz.out; omega)).trans K1.out
  have r0 := (hb1.cell (p := ⟨w.heap.size + 1 + 1,0,none⟩) (by show w.heap.size + 1 + 1 < _; have := HEz.out; omega)).trans R0.out
  have r1 := (hb1.cell (p := ⟨w.heap.size + 1 + 1,1,none⟩) (by show w.heap.size + 1 + 1 < _; have := HEz.out; omega)).trans R1.out
  have r2 := fun o => (hb1.frozen (p := ⟨w.heap.size + 1 + 1,o,none⟩) (by show w.heap.size + 1 + 1 < _; have := HEz.out; omega)).trans (R2 o).out
  have HW := Lib.hid (hE.trans (hb1.mono hE.size))
  clear hb1 hpl hEq hE
  go_wp2
  have hfin := (HW.out.setCell (p := ⟨w.heap.size + 1 + 1,0,none⟩) (by show w.heap.size ≤ w.heap.size + 1 + 1; omega) (.slice P x.rels.length c)).setCell (p := ⟨w.heap.size + 1 + 1,1,none⟩) (by show w.heap.size ≤ w.heap.size + 1 + 1; omega) (.slice Q x.facts.length d)
  refine bodyPost_ret (v := .agg #[.slice P x.rels.length c,.slice Q x.facts.length d]) (by simp [results,Tryz.results94,go_sem,r0,r1]) rfl ⟨_,rfl,?_,hfin⟩
  rw [HP.out]
  exact (HLO.out.below hfin (Nat.le_refl _)).more hfin.size
 ·
  have HP := Lib.hid (fun k (hk : putPos y x.facts = k) => putF_pos hp hk)
  generalize placeF y x.facts = q at *
  have hdq : decide (0 ≤ q) = false := decide_eq_false hp
  clear hp
  go_enter Tryz.func94,Tryz.ntmps94
  go_wp2_with fail
  refine hpl.mono ?_
  rintro e w1 ⟨rfl,hb1⟩
  rw [← hEq] at hb1
  have HB1 := Lib.hid hb1
  clear hpl hEq hb1
  go_wp2
  go_loopw [5] (fun i wr => ∃ k : Nat,k ≤ x.facts.length ∧ i = .int .i64 k ∧ Hid (PosTo y x.facts k) ∧ Below E.heap.size E wr) (fun i _ => x.facts.length - (intOf i).toNat)
  case atStart => exact ⟨0,by omega,rfl,Lib.hid (PosTo.zero _ _),HB1.out⟩
  case round =>
   obtain ⟨k,hk,rfl,HT,hW⟩ := hrel
   have hWw := hE.trans (hW.mono hE.size)
   have hzz : w.heap.size + 2 < wr.heap.size := by have h1 := hW.size; have h2 := HEz.out; omega
   have f0 := (hW.cell (p := ⟨w.heap.size,0,none⟩) (by show w.heap.size < _; have := HEz.out; omega)).trans K0.out
   have f1 := (hW.cell (p := ⟨w.heap.size,1,none⟩) (by show w.heap.size < _; have := HEz.out; omega)).trans K1.out
   have g0 := (hW.cell (p := ⟨w.heap.size + 1,0,none⟩) (by show w.heap.size + 1 < _; have := HEz.out; omega)).trans L0.out
   have g1 := (hW.cell (p := ⟨w.heap.size + 1,1,none⟩) (by show w.heap.size + 1 < _; have := HEz.out; omega)).trans L1.out
   have G0 := Aft.cell (B := wr.heap.size) (w := wr) (show w.heap.size < _ by omega) f0
   have G1 := Aft.cell (B := wr.heap.size) (w := wr) (show w.heap.size < _ by omega) f1
   have G2 := Aft.cell (B := wr.heap.size) (w := wr) (show w.heap.size + 1 < _ by omega) g0
   have G3 := Aft.cell (B := wr.heap.size) (w := wr) (show w.heap.size + 1 < _ by omega) g1
   clear f0 f1 g0 g1
   by_cases hgo : k < x.facts.length ∧ cmpF (x.facts.getD k default) y < 0
   ·
    obtain ⟨hlt,hc0⟩ := hgo
    have hek : x.facts.getD k default = x.facts[k] := by simp [List.getD,hlt]
    rw [hek] at hc0
    have HN := Lib.hid (HT.out.next hlt hc0)
    obtain ⟨b,off,V,rfl,hb,cc0,cc1,hV⟩ := FactS_at.elem HF.out k hlt
    have HVa := Lib.hid hV
    have C0 := Aft.cell (B := wr.heap.size) (w := wr) (show b < _ by omega) ((hWw.cell (p := ⟨b,off + k * 2,none⟩) hb).trans cc0)
    have C1 := Aft.cell (B := wr.heap.size) (w := wr) (show b < _ by omega) ((hWw.cell (p := ⟨b,off + k * 2 + 1,none⟩) hb).trans cc1)
    obtain ⟨z,hz⟩ : ∃ z,cmpF x.facts[k] y = z := ⟨_,rfl⟩
    have hdz : decide (z < 0) = true := decide_eq_true (by omega)
    have hcon := fun (u : Aft wr.heap.size wr) => specCompareFacts_at x.facts[k] y z hz (.agg #[.int .i64 x.facts[k].rel,V]) (.agg #[.int .i64 y.rel,.slice P' y.vals.length c']) u.now ⟨V,rfl,SliceAt.aft HVa.out hWw u⟩ ((HY.out.below (hWw.trans (u.is.mono hWw.size)) (Nat.le_refl _)).more (hWw.trans (u.is.mono hWw.size)).size)
    clear cc0 cc1 hV hc0 hek hz
    go_wp2
    refine wp_region_aft (Below.refl wr.heap.size wr) (by kernel_rfl) (by kernel_rfl) ?_
    repeat (go_big_quiet_step (((go_at_call 36; exact calls_aft (Nat.le_refl _) (hcon _)))))
    refine wpQuiet_nil ?_
    refine aft_end ?_
    intro w2 hh
    go_wp2
    go_roundw
    case rel => exact ⟨k + 1,by omega,by go_num,HN,hW.trans (hh.mono hW.size)⟩
    case measure => simp [intOf]; omega
   ·
    have hpos : putPos y x.facts = k ∧ (k < x.facts.length ∨ k = x.facts.length) := by
     by_cases hlt : k < x.facts.length
     ·
      have hek : x.facts.getD k default = x.facts[k] := by simp [List.getD,hlt]
      refine ⟨HT.out.stop hlt (fun hc => hgo ⟨hlt,by rw [hek]; exact hc⟩),.inl hlt⟩
     ·
      have : k = x.facts.length := by omega
      exact ⟨HT.out.last this,.inr this⟩
    have HPU := Lib.hid (HP.out k hpos.1)
    by_cases hlt : k < x.facts.length
    ·
     have hek : x.facts.getD k default = x.facts[k] := by simp [List.getD,hlt]
     have hc0 : ¬ cmpF x.facts[k] y < 0 := fun hc => hgo ⟨hlt,by rw [hek]; exact hc⟩
     obtain ⟨b,off,V,rfl,hb,cc0,cc1,hV⟩ := FactS_at.elem HF.out k hlt
     have HVa := Lib.hid hV
     have C0 := Aft.cell (B := wr.heap.size) (w := wr) (show b < _ by omega) ((hWw.cell (p := ⟨b,off + k * 2,none⟩) hb).trans cc0)
     have C1 := Aft.cell (B := wr.heap.size) (w := wr) (show b < _ by omega) ((hWw.cell (p := ⟨b,off + k * 2 + 1,none⟩) hb).trans cc1)
     obtain ⟨z,hz⟩ : ∃ z,cmpF x.facts[k] y = z := ⟨_,rfl⟩
     have hdz : decide (z < 0) = false := decide_eq_false (by omega)
     have hcon := fun (u : Aft wr.heap.size wr) => specCompareFacts_at x.facts[k] y z hz (.agg #[.int .i64 x.facts[k].rel,V]) (.agg #[.int .i64 y.rel,.slice P' y.vals.length c']) u.now ⟨V,rfl,SliceAt.aft HVa.out hWw u⟩ ((HY.out.below (hWw.trans (u.is.mono hWw.size)) (Nat.le_refl _)).more (hWw.trans (u.is.mono hWw.size)).size)
     have hck : ¬ d - k = 0 := by omega
     clear cc0 cc1 hV hc0 hek hz hgo hpos
     go_wp2
     refine wp_region_aft (Below.refl wr.heap.size wr) (by kernel_rfl) (by kernel_rfl) ?_
     repeat (go_big_quiet_step (((go_at_call 36; exact calls_aft (Nat.le_refl _) (hcon _)))))
     refine wpQuiet_nil ?_
     refine aft_end ?_
     intro w2 hh
     clear C0 C1 hcon
     clear G0 G1 G2 G3
     have hW2 := hWw.trans (hh.mono hWw.size)
     have hE2 := hW.trans (hh.mono hW.size)
     have hzz2 : w.heap.size + 2 < w2.heap.size := by have := hh.size; omega
     have f0 := (hE2.cell (p := ⟨w.heap.size,0,none⟩) (by show w.heap.size < _; have := HEz.out; omega)).trans K0.out
     have f1 := (hE2.cell (p := ⟨w.heap.size,1,none⟩) (by show w.heap.size < _; have := HEz.out; omega)).trans K1.out
     have g0 := (hE2.cell (p := ⟨w.heap.size + 1,0,none⟩) (by show w.heap.size + 1 < _; have := HEz.out; omega)).trans L0.out
     have g1 := (hE2.cell (p := ⟨w.heap.size + 1,1,none⟩) (by show w.heap.size + 1 < _; have := HEz.out; omega)).trans L1.out
     have G1 := Aft.cell (B := w2.heap.size) (w := w2) (show w.heap.size < _ by omega) f1
     have G2 := Aft.cell (B := w2.heap.size) (w := w2) (show w.heap.size + 1 < _ by omega) g0
     have G3 := Aft.cell (B := w2.heap.size) (w := w2) (show w.heap.size + 1 < _ by omega) g1
     have HW2 := Lib.hid hW2
     have HE2 := Lib.hid hE2
     have HWd := Lib.hid (show Below w.heap.size w w2.drew from hW2.drew)
     clear f0 f1 g0 g1 hW2 hE2 hh
     obtain ⟨_,_,Vs,hvv,-,hl1,-,hVl,hS2,hVe,hlV⟩ := HLO.out
     simp only [Value.agg.injEq,Array.mk.injEq,List.cons.injEq,and_true] at hvv
     obtain ⟨rfl,rfl⟩ := hvv
     have HLV := Lib.hid (And.intro hl1 hlV)
     clear hl1 hlV
     have hpl := pairs_len hVl
     rw [← hpl] at hS2
     have HVe := Lib.hid hVe
     have HS6 := Lib.hid (show SliceAt pairCells w w.heap.size (.slice (some ⟨b,off + k * 2,none⟩) ((pairs x.facts Vs).drop k).length (d - k)) ((pairs x.facts Vs).drop k) from SliceAt.drop pairCells_len hS2 k (by omega))
     have HS7 := Lib.hid (show SliceAt pairCells w w.heap.size (.slice (some ⟨b,off,none⟩) ((pairs x.facts Vs).take k).length d) ((pairs x.facts Vs).take k) from SliceAt.take hS2 k (by omega))
     have hm6 : ((pairs x.facts Vs).drop k).length = x.facts.length - k := by rw [List.length_drop,hpl]
     have hm7 : ((pairs x.facts Vs).take k).length = k := by rw [List.length_take,hpl]; omega
     clear hVe hS2
     go_wp2
     refine wp_region_planL (C := fun w' => ∃ u : Aft w2.heap.size w2,w' = u.now) (.still 0 (.still 3 (.still 4 (.still 5 (.still 6 (.move true 1 (.move true 2 (.move true 7 (.still 8 .done) .none) .none) .none)))))) (by kernel_rfl) (by kernel_rfl) (by kernel_rfl) (fun _ => ⟨⟨_,(Below.refl _ _).drew⟩,rfl⟩) ?_
     iterate 5
      refine plan_look _ rfl rfl ?_
      go_big_quiet_step (fail)
      refine wpQuiet_nil ?_
     refine plan_call _ 92 _ _ _ _ _ rfl _ Tryz.func92 (by kernel_rfl) (by kernel_rfl) ?_ True.intro
     refine (specL5Fact_any (.agg #[.int .i64 y.rel,.slice P' y.vals.length c']) y w2.drew ((HY.out.below HWd.out (Nat.le_refl _)).more HWd.out.size) hyn).mono ?_
     rintro _ w3 ⟨u3,rfl,⟨U,rfl,hU⟩,hb3⟩
     have hb3' : Below w2.heap.size w2 w3 := (Below.refl _ _).drew.trans hb3
     refine ⟨_,rfl,fun _ => ⟨⟨_,hb3'⟩,rfl⟩,?_⟩
     refine plan_put ?_ (by simp only [Act.put,putA,putB,putC]; rfl)
     obtain ⟨PU,cu,rfl,-⟩ := hU.1.at_
     have hz3 := hb3'.size
     refine plan_value (u := .slice (some ⟨w3.heap.size,0,none⟩) 1 1) (w' := w3.alloc (.cells #[.int .i64 y.rel,.slice PU y.vals.length cu] 66)) _ rfl rfl rfl (by simp [go_sem]) (fun _ => ⟨⟨_,hb3'.alloc hz3 _⟩,rfl⟩) ?_ True.intro
     refine plan_put ?_ (by simp only [Act.put,putA,putB,putC]; rfl)
     have hrow1 : (w3.alloc (.cells #[.int .i64 y.rel,.slice PU y.vals.length cu] 66)).ownsRow w3.heap.size 66 2 (.slice (some ⟨w3.heap.size,0,none⟩) 1 1) [(y.rel,Value.slice PU y.vals.length cu)].length ([(y.rel,Value.slice PU y.vals.length cu)].flatMap pairCells) := World.ownsRow_lit w3 #[.int .i64 y.rel,.slice PU y.vals.length cu] 1 (Nat.le_refl _) (by decide) rfl
     have hwA : Below w.heap.size w (w3.alloc (.cells #[.int .i64 y.rel,.slice PU y.vals.length cu] 66)) := HW2.out.trans ((hb3'.alloc hz3 _).mono HW2.out.size)
     refine plan_apps pairCells 2 32 (r := (pairs x.facts Vs).drop k) (fun p hp => pairs_one HVe.out p (List.mem_of_mem_drop hp)) pairCells_len _ rfl rfl Tryz.underlying25 infoFct rfl (by decide) hrow1 _ _ rfl rfl ((some ⟨b,off + k * 2,none⟩)) (x.facts.length - k) ((d - k)) rfl hm6 (HS6.out.below hwA (Nat.le_refl _)) (by simp; omega) (by simp; omega) (by simp) ?_ True.intro
     intro v4 w4 hrow4 hB4 hg4 _
     have hb4 : Below w2.heap.size w2 w4 := (hb3'.alloc hz3 _).trans (hB4.mono hz3)
     refine ⟨fun _ => ⟨⟨_,hb4⟩,rfl⟩,?_⟩
     obtain ⟨A4,c4,rfl,-⟩ := SliceAt.of_own hrow4
     have HR4 := Lib.hid hrow4
     have HU := Lib.hid (show IntS_own w2.heap.size w3.heap.size (.slice PU y.vals.length cu) y.vals w3 from hU)
     have hB34 := (Below.refl w3.heap.size w3).alloc (Nat.le_refl _) (.cells #[.int .i64 y.rel,.slice PU y.vals.length cu] 66) |>.trans hB4
     have HB34 := Lib.hid hB34
     have HB4 := Lib.hid hb4
     have hL4 : ([(y.rel,Value.slice PU y.vals.length cu)] ++ ((pairs x.facts Vs).drop k)).length = x.facts.length - k + 1 := by rw [List.length_append,hm6]; simp; omega
     rw [hL4]
     refine plan_put ?_ (by simp only [Act.put,putA,putB,putC]; rfl)
     refine plan_look _ rfl rfl ?_
     go_big_quiet_step (fail)
     refine wpQuiet_nil ?_
     refine plan_done ?_
     clear hrow4 hU hb3 hb3' hz3 hrow1 hwA hB4 hg4 hb4 G1 G2 G3 hB34
     have hzz4 : w.heap.size + 2 < w4.heap.size := by have := HB4.out.size; omega
     have hE4 := HE2.out.trans (HB4.out.mono HE2.out.size)
     have G0 := Aft.cell (B := w4.heap.size) (w := w4) (show w.heap.size < _ by omega) ((hE4.cell (p := ⟨w.heap.size,0,none⟩) (by show w.heap.size < _; have := HEz.out; omega)).trans K0.out)
     have G1 := Aft.cell (B := w4.heap.size) (w := w4) (show w.heap.size < _ by omega) ((hE4.cell (p := ⟨w.heap.size,1,none⟩) (by show w.heap.size < _; have := HEz.out; omega)).trans K1.out)
     have hwB : Below w.heap.size w (w4.drew.alloc (.cells #[] 66)) := ((HW2.out.trans (HB4.out.mono HW2.out.size)).drew).alloc (by show w.heap.size ≤ w4.heap.size; omega) _
     have HE4 := Lib.hid hE4
     clear hE4
     go_wp2
     refine wp_region_planL (C := fun w' => ∃ u : Aft w4.heap.size w4,w' = u.now) (.still 0 (.still 1 (.still 3 (.still 4 (.still 5 (.still 6 (.still 8 (.move true 2 (.move true 7 (.move true 9 (.still 10 (.move false 11 .done .none)) .none) .none) .none)))))))) (by kernel_rfl) (by kernel_rfl) (by kernel_rfl) (fun _ => ⟨⟨_,(Below.refl _ _).drew⟩,rfl⟩) ?_
     iterate 7
      refine plan_look _ rfl rfl ?_
      go_big_quiet_step (fail)
      refine wpQuiet_nil ?_
     have hAd : Below w4.heap.size w4 (w4.drew.alloc (.cells #[] 66)) := (Below.refl w4.heap.size w4).drew.alloc (show w4.heap.size ≤ w4.drew.heap.size from Nat.le_refl _) _
     refine plan_value (u := .slice (some ⟨w4.heap.size,0,none⟩) 0 0) (w' := w4.drew.alloc (.cells #[] 66)) _ rfl rfl rfl (by simp [go_sem]) (fun _ => ⟨⟨_,hAd⟩,rfl⟩) ?_ True.intro
     refine plan_put ?_ (by simp only [Act.put,putA,putB,putC]; rfl)
     have hrow0 : (w4.drew.alloc (.cells #[] 66)).ownsRow w4.heap.size 66 2 (.slice (some ⟨w4.heap.size,0,none⟩) 0 0) ([] : List (Int × Value)).length (([] : List (Int × Value)).flatMap pairCells) := World.ownsRow_lit w4.drew #[] 0 (Nat.le_refl _) (by decide) rfl
     refine plan_apps pairCells 2 32 (r := (pairs x.facts Vs).take k) (fun p hp => pairs_one HVe.out p (List.mem_of_mem_take hp)) pairCells_len _ rfl rfl Tryz.underlying25 infoFct rfl (by decide) hrow0 _ _ rfl rfl ((some ⟨b,off,none⟩)) (k) (d) rfl hm7 (HS7.out.below hwB (Nat.le_refl _)) (by rw [hm7]; simp; omega) (by rw [hm7]; simp; omega) (by have := hAd.size; exact this) ?_ True.intro
     intro v5 w5 hrow5 hB5 hg5 _
     have hb5 := hAd.trans hB5
     refine ⟨fun _ => ⟨⟨_,hb5⟩,rfl⟩,?_⟩
     refine plan_put ?_ (by simp only [Act.put,putA,putB,putC]; rfl)
     refine plan_apps pairCells 2 32 (r := [(y.rel,Value.slice PU y.vals.length cu)] ++ ((pairs x.facts Vs).drop k)) (fun p hp => by
      rcases List.mem_append.1 hp with hp | hp
      ·
       rw [List.mem_singleton.1 hp]; intro u hu; simp [pairCells] at hu; rcases hu with rfl | rfl <;> rfl
      ·
       exact pairs_one HVe.out p (List.mem_of_mem_drop hp)) pairCells_len _ rfl rfl Tryz.underlying25 infoFct rfl (by decide) hrow5 _ _ rfl rfl A4 (x.facts.length - k + 1) c4 rfl hL4 ((SliceAt.of_own HR4.out).below hb5 (Nat.le_refl _)) (by rw [List.length_append,hm7,hL4]; simp; omega) (by rw [List.length_append,hm7,hL4]; simp; omega) hb5.size ?_ True.intro
     intro v6 w6 hrow6 hB6 hg6 _
     have hb6 := hb5.trans hB6
     refine ⟨fun _ => ⟨⟨_,hb6⟩,rfl⟩,?_⟩
     obtain ⟨A8,c8,rfl,-⟩ := SliceAt.of_own hrow6
     have heq : ([] ++ ((pairs x.facts Vs).take k)) ++ ([(y.rel,Value.slice PU y.vals.length cu)] ++ ((pairs x.facts Vs).drop k)) = pairs (x.facts.take k ++ y :: x.facts.drop k) (Vs.take k ++ Value.slice PU y.vals.length cu :: Vs.drop k) := by rw [List.nil_append,pairs_take,pairs_drop,pairs_app (by rw [List.length_take,List.length_take,hVl])]; rfl
     rw [heq] at hrow6 ⊢
     generalize hN8 : (pairs (x.facts.take k ++ y :: x.facts.drop k) (Vs.take k ++ Value.slice PU y.vals.length cu :: Vs.drop k)).length = N8 at *
     refine plan_put ?_ (by simp only [Act.put,putA,putB,putC]; rfl)
     have hE6 := HE4.out.trans (hb6.mono HE4.out.size)
     have r0 := (hE6.cell (p := ⟨w.heap.size + 1 + 1,0,none⟩) (by show w.heap.size + 1 + 1 < _; have := HEz.out; omega)).trans R0.out
     have r1 := (hE6.cell (p := ⟨w.heap.size + 1 + 1,1,none⟩) (by show w.heap.size + 1 + 1 < _; have := HEz.out; omega)).trans R1.out
     have r2 := fun o => (hE6.frozen (p := ⟨w.heap.size + 1 + 1,o,none⟩) (by show w.heap.size + 1 + 1 < _; have := HEz.out; omega)).trans (R2 o).out
     refine plan_look _ rfl rfl ?_
     go_big_quiet_step (fail)
     refine wpQuiet_nil ?_
     refine plan_skip (w' := (w6.setCell ⟨w.heap.size + 1 + 1,0,none⟩ (.slice P x.rels.length c)).setCell ⟨w.heap.size + 1 + 1,1,none⟩ (.slice A8 N8 c8)) _ rfl rfl rfl (by simp [go_sem,r0,r1,r2]) (fun e => by cases e) ?_ True.intro
     refine plan_put ?_ (by simp only [Act.put]; rfl)
     refine plan_done ?_
     have hcw : Chg (fun g => g = w.heap.size + 1 + 1) w6 ((w6.setCell ⟨w.heap.size + 1 + 1,0,none⟩ (.slice P x.rels.length c)).setCell ⟨w.heap.size + 1 + 1,1,none⟩ (.slice A8 N8 c8)) := ((Chg.refl (fun g => g = w.heap.size + 1 + 1) w6).setCell (p := ⟨w.heap.size + 1 + 1,0,none⟩) rfl _).setCell (p := ⟨w.heap.size + 1 + 1,1,none⟩) rfl _
     have hw6 := HW2.out.trans ((HB4.out.trans (hb6.mono HB4.out.size)).mono HW2.out.size)
     have hfin := (hw6.setCell (p := ⟨w.heap.size + 1 + 1,0,none⟩) (by show w.heap.size ≤ w.heap.size + 1 + 1; omega) (.slice P x.rels.length c)).setCell (p := ⟨w.heap.size + 1 + 1,1,none⟩) (by show w.heap.size ≤ w.heap.size + 1 + 1; omega) (.slice A8 N8 c8)
     have hrowF := hcw.row hrow6 (fun g hg e => by have := (World.ownsRow.lt hrow6 g hg).1; omega)
     rw [← hN8] at hrowF
     have hSF := SliceAt.of_own hrowF
     rw [hN8] at hSF
     have hs6 : w3.heap.size ≤ w6.heap.size := Nat.le_trans HB34.out.size hb6.size
     have hUF := ((HU.out.below (HB34.out.trans (hb6.mono HB34.out.size)) (Nat.le_refl _)).chg (B' := w.heap.size + 1 + 1) (C' := w.heap.size + 1 + 1 + 1) (hcw.mono fun g hg => by subst hg; exact ⟨Nat.le_refl _,Nat.lt_succ_self _⟩) (.inr (by omega))).at_ (D := ((w6.setCell ⟨w.heap.size + 1 + 1,0,none⟩ (.slice P x.rels.length c)).setCell ⟨w.heap.size + 1 + 1,1,none⟩ (.slice A8 N8 c8)).heap.size) (by simp [World.setCell]; omega)
     have HL8 := Lib.hid (show lowB A (.slice A8 N8 c8) ∧ lowB A (.slice PU y.vals.length cu) from ⟨fun g hg => by have h1 := (World.ownsRow.lt hrow6 g hg).1; have h2 := HE4.out.size; have h3 := HEz.out; omega,fun g hg => by have h1 := (HU.out.1.lt g hg).1; have h2 := HW2.out.size; omega⟩)
     clear hE6 hrow0 hrow5 hrow6 hB5 hg5 hB6 hg6 hcw hw6 hAd hwB
     go_wp2
     refine bodyPost_ret (v := .agg #[.slice P x.rels.length c,.slice A8 N8 c8]) (by simp [results,Tryz.results94,go_sem,r0,r1]) rfl ⟨_,rfl,?_,hfin⟩
     rw [HPU.out]
     exact ⟨_,_,_,rfl,(HR.out.below hfin (Nat.le_refl _)).more hfin.size,HLV.out.1,HL8.out.1,by simp [hVl],hSF,put_elems (Q := fun V f => IntS_at _ _ V f.vals) x.facts Vs k _ y (by omega) hVl (fun i h h' => ((HVe.out i h h').below hfin (Nat.le_refl _)).more hfin.size) hUF,low_put HLV.out.2 HL8.out.2⟩
    ·
     have hkn : k = x.facts.length := by omega
     by_cases hn0 : 0 < x.facts.length
     ·
      obtain ⟨b,off,V,rfl,hb,-,-,-⟩ := FactS_at.elem HF.out 0 hn0
      have HKN := Lib.hid hkn
      by_cases hdk : d - k = 0
      ·
       clear hgo hpos hkn
       go_wp2
       refine wp_region_aft (Below.refl wr.heap.size wr) (by kernel_rfl) (by kernel_rfl) ?_
       repeat (go_big_quiet_step (fail))
       refine wpQuiet_nil ?_
       refine aft_end ?_
       intro w2 hh
       clear G0 G1 G2 G3
       have hW2 := hWw.trans (hh.mono hWw.size)
       have hE2 := hW.trans (hh.mono hW.size)
       have hzz2 : w.heap.size + 2 < w2.heap.size := by have := hh.size; omega
       have f0 := (hE2.cell (p := ⟨w.heap.size,0,none⟩) (by show w.heap.size < _; have := HEz.out; omega)).trans K0.out
       have f1 := (hE2.cell (p := ⟨w.heap.size,1,none⟩) (by show w.heap.size < _; have := HEz.out; omega)).trans K1.out
       have g0 := (hE2.cell (p := ⟨w.heap.size + 1,0,none⟩) (by show w.heap.size + 1 < _; have := HEz.out; omega)).trans L0.out
       have g1 := (hE2.cell (p := ⟨w.heap.size + 1,1,none⟩) (by show w.heap.size + 1 < _; have := HEz.out; omega)).trans L1.out
       have G1 := Aft.cell (B := w2.heap.size) (w := w2) (show w.heap.size < _ by omega) f1
       have G2 := Aft.cell (B := w2.heap.size) (w := w2) (show w.heap.size + 1 < _ by omega) g0
       have G3 := Aft.cell (B := w2.heap.size) (w := w2) (show w.heap.size + 1 < _ by omega) g1
       have HW2 := Lib.hid hW2
       have HE2 := Lib.hid hE2
       have HWd := Lib.hid (show Below w.heap.size w w2.drew from hW2.drew)
       clear f0 f1 g0 g1 hW2 hE2 hh
       obtain ⟨_,_,Vs,hvv,-,hl1,-,hVl,hS2,hVe,hlV⟩ := HLO.out
       simp only [Value.agg.injEq,Array.mk.injEq,List.cons.injEq,and_true] at hvv
       obtain ⟨rfl,rfl⟩ := hvv
       have HLV := Lib.hid (And.intro hl1 hlV)
       clear hl1 hlV
       have hpl := pairs_len hVl
       rw [← hpl] at hS2
       have HVe := Lib.hid hVe
       have HS6 := Lib.hid (show SliceAt pairCells w w.heap.size (.slice (some ⟨b,off,none⟩) ((pairs x.facts Vs).drop k).length 0) ((pairs x.facts Vs).drop k) from by rw [show (pairs x.facts Vs).drop k = [] from List.drop_eq_nil_of_le (by omega)]; exact SliceAt.none_of (by unfold maxLen; omega) (fun h => by cases h))
       have HS7 := Lib.hid (show SliceAt pairCells w w.heap.size (.slice (some ⟨b,off,none⟩) ((pairs x.facts Vs).take k).length d) ((pairs x.facts Vs).take k) from SliceAt.take hS2 k (by omega))
       have hm6 : ((pairs x.facts Vs).drop k).length = (x.facts.length - k) := by rw [List.length_drop,hpl]
       have hm7 : ((pairs x.facts Vs).take k).length = k := by rw [List.length_take,hpl]; omega
       clear hVe hS2
       go_wp2
       refine wp_region_planL (C := fun w' => ∃ u : Aft w2.heap.size w2,w' = u.now) (.still 0 (.still 3 (.still 4 (.still 5 (.still 6 (.move true 1 (.move true 2 (.move true 7 (.still 8 .done) .none) .none) .none)))))) (by kernel_rfl) (by kernel_rfl) (by kernel_rfl) (fun _ => ⟨⟨_,(Below.refl _ _).drew⟩,rfl⟩) ?_
       iterate 5
        refine plan_look _ rfl rfl ?_
        go_big_quiet_step (fail)
        refine wpQuiet_nil ?_
       refine plan_call _ 92 _ _ _ _ _ rfl _ Tryz.func92 (by kernel_rfl) (by kernel_rfl) ?_ True.intro
       refine (specL5Fact_any (.agg #[.int .i64 y.rel,.slice P' y.vals.length c']) y w2.drew ((HY.out.below HWd.out (Nat.le_refl _)).more HWd.out.size) hyn).mono ?_
       rintro _ w3 ⟨u3,rfl,⟨U,rfl,hU⟩,hb3⟩
       have hb3' : Below w2.heap.size w2 w3 := (Below.refl _ _).drew.trans hb3
       refine ⟨_,rfl,fun _ => ⟨⟨_,hb3'⟩,rfl⟩,?_⟩
       refine plan_put ?_ (by simp only [Act.put,putA,putB,putC]; rfl)
       obtain ⟨PU,cu,rfl,-⟩ := hU.1.at_
       have hz3 := hb3'.size
       refine plan_value (u := .slice (some ⟨w3.heap.size,0,none⟩) 1 1) (w' := w3.alloc (.cells #[.int .i64 y.rel,.slice PU y.vals.length cu] 66)) _ rfl rfl rfl (by simp [go_sem]) (fun _ => ⟨⟨_,hb3'.alloc hz3 _⟩,rfl⟩) ?_ True.intro
       refine plan_put ?_ (by simp only [Act.put,putA,putB,putC]; rfl)
       have hrow1 : (w3.alloc (.cells #[.int .i64 y.rel,.slice PU y.vals.length cu] 66)).ownsRow w3.heap.size 66 2 (.slice (some ⟨w3.heap.size,0,none⟩) 1 1) [(y.rel,Value.slice PU y.vals.length cu)].length ([(y.rel,Value.slice PU y.vals.length cu)].flatMap pairCells) := World.ownsRow_lit w3 #[.int .i64 y.rel,.slice PU y.vals.length cu] 1 (Nat.le_refl _) (by decide) rfl
       have hwA : Below w.heap.size w (w3.alloc (.cells #[.int .i64 y.rel,.slice PU y.vals.length cu] 66)) := HW2.out.trans ((hb3'.alloc hz3 _).mono HW2.out.size)
       refine plan_apps pairCells 2 32 (r := (pairs x.facts Vs).drop k) (fun p hp => pairs_one HVe.out p (List.mem_of_mem_drop hp)) pairCells_len _ rfl rfl Tryz.underlying25 infoFct rfl (by decide) hrow1 _ _ rfl rfl ((some ⟨b,off,none⟩)) ((x.facts.length - k)) (0) rfl hm6 (HS6.out.below hwA (Nat.le_refl _)) (by simp; omega) (by simp; omega) (by simp) ?_ True.intro
       intro v4 w4 hrow4 hB4 hg4 _
       have hb4 : Below w2.heap.size w2 w4 := (hb3'.alloc hz3 _).trans (hB4.mono hz3)
       refine ⟨fun _ => ⟨⟨_,hb4⟩,rfl⟩,?_⟩
       obtain ⟨A4,c4,rfl,-⟩ := SliceAt.of_own hrow4
       have HR4 := Lib.hid hrow4
       have HU := Lib.hid (show IntS_own w2.heap.size w3.heap.size (.slice PU y.vals.length cu) y.vals w3 from hU)
       have hB34 := (Below.refl w3.heap.size w3).alloc (Nat.le_refl _) (.cells #[.int .i64 y.rel,.slice PU y.vals.length cu] 66) |>.trans hB4
       have HB34 := Lib.hid hB34
       have HB4 := Lib.hid hb4
       have hL4 : ([(y.rel,Value.slice PU y.vals.length cu)] ++ ((pairs x.facts Vs).drop k)).length = (x.facts.length - k) + 1 := by rw [List.length_append,hm6]; simp; omega
       rw [hL4]
       refine plan_put ?_ (by simp only [Act.put,putA,putB,putC]; rfl)
       refine plan_look _ rfl rfl ?_
       go_big_quiet_step (fail)
       refine wpQuiet_nil ?_
       refine plan_done ?_
       clear hrow4 hU hb3 hb3' hz3 hrow1 hwA hB4 hg4 hb4 G1 G2 G3 hB34
       have hzz4 : w.heap.size + 2 < w4.heap.size := by have := HB4.out.size; omega
       have hE4 := HE2.out.trans (HB4.out.mono HE2.out.size)
       have G0 := Aft.cell (B := w4.heap.size) (w := w4) (show w.heap.size < _ by omega) ((hE4.cell (p := ⟨w.heap.size,0,none⟩) (by show w.heap.size < _; have := HEz.out; omega)).trans K0.out)
       have G1 := Aft.cell (B := w4.heap.size) (w := w4) (show w.heap.size < _ by omega) ((hE4.cell (p := ⟨w.heap.size,1,none⟩) (by show w.heap.size < _; have := HEz.out; omega)).trans K1.out)
       have hwB : Below w.heap.size w (w4.drew.alloc (.cells #[] 66)) := ((HW2.out.trans (HB4.out.mono HW2.out.size)).drew).alloc (by show w.heap.size ≤ w4.heap.size; omega) _
       have HE4 := Lib.hid hE4
       clear hE4
       go_wp2
       refine wp_region_planL (C := fun w' => ∃ u : Aft w4.heap.size w4,w' = u.now) (.still 0 (.still 1 (.still 3 (.still 4 (.still 5 (.still 6 (.still 8 (.move true 2 (.move true 7 (.move true 9 (.still 10 (.move false 11 .done .none)) .none) .none) .none)))))))) (by kernel_rfl) (by kernel_rfl) (by kernel_rfl) (fun _ => ⟨⟨_,(Below.refl _ _).drew⟩,rfl⟩) ?_
       iterate 7
        refine plan_look _ rfl rfl ?_
        go_big_quiet_step (fail)
        refine wpQuiet_nil ?_
       have hAd : Below w4.heap.size w4 (w4.drew.alloc (.cells #[] 66)) := (Below.refl w4.heap.size w4).drew.alloc (show w4.heap.size ≤ w4.drew.heap.size from Nat.le_refl _) _
       refine plan_value (u := .slice (some ⟨w4.heap.size,0,none⟩) 0 0) (w' := w4.drew.alloc (.cells #[] 66)) _ rfl rfl rfl (by simp [go_sem]) (fun _ => ⟨⟨_,hAd⟩,rfl⟩) ?_ True.intro
       refine plan_put ?_ (by simp only [Act.put,putA,putB,putC]; rfl)
       have hrow0 : (w4.drew.alloc (.cells #[] 66)).ownsRow w4.heap.size 66 2 (.slice (some ⟨w4.heap.size,0,none⟩) 0 0) ([] : List (Int × Value)).length (([] : List (Int × Value)).flatMap pairCells) := World.ownsRow_lit w4.drew #[] 0 (Nat.le_refl _) (by decide) rfl
       refine plan_apps pairCells 2 32 (r := (pairs x.facts Vs).take k) (fun p hp => pairs_one HVe.out p (List.mem_of_mem_take hp)) pairCells_len _ rfl rfl Tryz.underlying25 infoFct rfl (by decide) hrow0 _ _ rfl rfl ((some ⟨b,off,none⟩)) (k) (d) rfl hm7 (HS7.out.below hwB (Nat.le_refl _)) (by rw [hm7]; simp; omega) (by rw [hm7]; simp; omega) (by have := hAd.size; exact this) ?_ True.intro
       intro v5 w5 hrow5 hB5 hg5 _
       have hb5 := hAd.trans hB5
       refine ⟨fun _ => ⟨⟨_,hb5⟩,rfl⟩,?_⟩
       refine plan_put ?_ (by simp only [Act.put,putA,putB,putC]; rfl)
       refine plan_apps pairCells 2 32 (r := [(y.rel,Value.slice PU y.vals.length cu)] ++ ((pairs x.facts Vs).drop k)) (fun p hp => by
        rcases List.mem_append.1 hp with hp | hp
        ·
         rw [List.mem_singleton.1 hp]; intro u hu; simp [pairCells] at hu; rcases hu with rfl | rfl <;> rfl
        ·
         exact pairs_one HVe.out p (List.mem_of_mem_drop hp)) pairCells_len _ rfl rfl Tryz.underlying25 infoFct rfl (by decide) hrow5 _ _ rfl rfl A4 ((x.facts.length - k) + 1) c4 rfl hL4 ((SliceAt.of_own HR4.out).below hb5 (Nat.le_refl _)) (by rw [List.length_append,hm7,hL4]; simp; omega) (by rw [List.length_append,hm7,hL4]; simp; omega) hb5.size ?_ True.intro
       intro v6 w6 hrow6 hB6 hg6 _
       have hb6 := hb5.trans hB6
       refine ⟨fun _ => ⟨⟨_,hb6⟩,rfl⟩,?_⟩
       obtain ⟨A8,c8,rfl,-⟩ := SliceAt.of_own hrow6
       have heq : ([] ++ ((pairs x.facts Vs).take k)) ++ ([(y.rel,Value.slice PU y.vals.length cu)] ++ ((pairs x.facts Vs).drop k)) = pairs (x.facts.take k ++ y :: x.facts.drop k) (Vs.take k ++ Value.slice PU y.vals.length cu :: Vs.drop k) := by rw [List.nil_append,pairs_take,pairs_drop,pairs_app (by rw [List.length_take,List.length_take,hVl])]; rfl
       rw [heq] at hrow6 ⊢
       generalize hN8 : (pairs (x.facts.take k ++ y :: x.facts.drop k) (Vs.take k ++ Value.slice PU y.vals.length cu :: Vs.drop k)).length = N8 at *
       refine plan_put ?_ (by simp only [Act.put,putA,putB,putC]; rfl)
       have hE6 := HE4.out.trans (hb6.mono HE4.out.size)
       have r0 := (hE6.cell (p := ⟨w.heap.size + 1 + 1,0,none⟩) (by show w.heap.size + 1 + 1 < _; have := HEz.out; omega)).trans R0.out
       have r1 := (hE6.cell (p := ⟨w.heap.size + 1 + 1,1,none⟩) (by show w.heap.size + 1 + 1 < _; have := HEz.out; omega)).trans R1.out
       have r2 := fun o => (hE6.frozen (p := ⟨w.heap.size + 1 + 1,o,none⟩) (by show w.heap.size + 1 + 1 < _; have := HEz.out; omega)).trans (R2 o).out
       refine plan_look _ rfl rfl ?_
       go_big_quiet_step (fail)
       refine wpQuiet_nil ?_
       refine plan_skip (w' := (w6.setCell ⟨w.heap.size + 1 + 1,0,none⟩ (.slice P x.rels.length c)).setCell ⟨w.heap.size + 1 + 1,1,none⟩ (.slice A8 N8 c8)) _ rfl rfl rfl (by simp [go_sem,r0,r1,r2]) (fun e => by cases e) ?_ True.intro
       refine plan_put ?_ (by simp only [Act.put]; rfl)
       refine plan_done ?_
       have hcw : Chg (fun g => g = w.heap.size + 1 + 1) w6 ((w6.setCell ⟨w.heap.size + 1 + 1,0,none⟩ (.slice P x.rels.length c)).setCell ⟨w.heap.size + 1 + 1,1,none⟩ (.slice A8 N8 c8)) := ((Chg.refl (fun g => g = w.heap.size + 1 + 1) w6).setCell (p := ⟨w.heap.size + 1 + 1,0,none⟩) rfl _).setCell (p := ⟨w.heap.size + 1 + 1,1,none⟩) rfl _
       have hw6 := HW2.out.trans ((HB4.out.trans (hb6.mono HB4.out.size)).mono HW2.out.size)
       have hfin := (hw6.setCell (p := ⟨w.heap.size + 1 + 1,0,none⟩) (by show w.heap.size ≤ w.heap.size + 1 + 1; omega) (.slice P x.rels.length c)).setCell (p := ⟨w.heap.size + 1 + 1,1,none⟩) (by show w.heap.size ≤ w.heap.size + 1 + 1; omega) (.slice A8 N8 c8)
       have hrowF := hcw.row hrow6 (fun g hg e => by have := (World.ownsRow.lt hrow6 g hg).1; omega)
       rw [← hN8] at hrowF
       have hSF := SliceAt.of_own hrowF
       rw [hN8] at hSF
       have hs6 : w3.heap.size ≤ w6.heap.size := Nat.le_trans HB34.out.size hb6.size
       have hUF := ((HU.out.below (HB34.out.trans (hb6.mono HB34.out.size)) (Nat.le_refl _)).chg (B' := w.heap.size + 1 + 1) (C' := w.heap.size + 1 + 1 + 1) (hcw.mono fun g hg => by subst hg; exact ⟨Nat.le_refl _,Nat.lt_succ_self _⟩) (.inr (by omega))).at_ (D := ((w6.setCell ⟨w.heap.size + 1 + 1,0,none⟩ (.slice P x.rels.length c)).setCell ⟨w.heap.size + 1 + 1,1,none⟩ (.slice A8 N8 c8)).heap.size) (by simp [World.setCell]; omega)
       have HL8 := Lib.hid (show lowB A (.slice A8 N8 c8) ∧ lowB A (.slice PU y.vals.length cu) from ⟨fun g hg => by have h1 := (World.ownsRow.lt hrow6 g hg).1; have h2 := HE4.out.size; have h3 := HEz.out; omega,fun g hg => by have h1 := (HU.out.1.lt g hg).1; have h2 := HW2.out.size; omega⟩)
       clear hE6 hrow0 hrow5 hrow6 hB5 hg5 hB6 hg6 hcw hw6 hAd hwB
       go_wp2
       refine bodyPost_ret (v := .agg #[.slice P x.rels.length c,.slice A8 N8 c8]) (by simp [results,Tryz.results94,go_sem,r0,r1]) rfl ⟨_,rfl,?_,hfin⟩
       rw [HPU.out]
       exact ⟨_,_,_,rfl,(HR.out.below hfin (Nat.le_refl _)).more hfin.size,HLV.out.1,HL8.out.1,by simp [hVl],hSF,put_elems (Q := fun V f => IntS_at _ _ V f.vals) x.facts Vs k _ y (by omega) hVl (fun i h h' => ((HVe.out i h h').below hfin (Nat.le_refl _)).more hfin.size) hUF,low_put HLV.out.2 HL8.out.2⟩
      ·
       clear hgo hpos hkn
       go_wp2
       refine wp_region_aft (Below.refl wr.heap.size wr) (by kernel_rfl) (by kernel_rfl) ?_
       repeat (go_big_quiet_step (fail))
       refine wpQuiet_nil ?_
       refine aft_end ?_
       intro w2 hh
       clear G0 G1 G2 G3
       have hW2 := hWw.trans (hh.mono hWw.size)
       have hE2 := hW.trans (hh.mono hW.size)
       have hzz2 : w.heap.size + 2 < w2.heap.size := by have := hh.size; omega
       have f0 := (hE2.cell (p := ⟨w.heap.size,0,none⟩) (by show w.heap.size < _; have := HEz.out; omega)).trans K0.out
       have f1 := (hE2.cell (p := ⟨w.heap.size,1,none⟩) (by show w.heap.size < _; have := HEz.out; omega)).trans K1.out
       have g0 := (hE2.cell (p := ⟨w.heap.size + 1,0,none⟩) (by show w.heap.size + 1 < _; have := HEz.out; omega)).trans L0.out
       have g1 := (hE2.cell (p := ⟨w.heap.size + 1,1,none⟩) (by show w.heap.size + 1 < _; have := HEz.out; omega)).trans L1.out
       have G1 := Aft.cell (B := w2.heap.size) (w := w2) (show w.heap.size < _ by omega) f1
       have G2 := Aft.cell (B := w2.heap.size) (w := w2) (show w.heap.size + 1 < _ by omega) g0
       have G3 := Aft.cell (B := w2.heap.size) (w := w2) (show w.heap.size + 1 < _ by omega) g1
       have HW2 := Lib.hid hW2
       have HE2 := Lib.hid hE2
       have HWd := Lib.hid (show Below w.heap.size w w2.drew from hW2.drew)
       clear f0 f1 g0 g1 hW2 hE2 hh
       obtain ⟨_,_,Vs,hvv,-,hl1,-,hVl,hS2,hVe,hlV⟩ := HLO.out
       simp only [Value.agg.injEq,Array.mk.injEq,List.cons.injEq,and_true] at hvv
       obtain ⟨rfl,rfl⟩ := hvv
       have HLV := Lib.hid (And.intro hl1 hlV)
       clear hl1 hlV
       have hpl := pairs_len hVl
       rw [← hpl] at hS2
       have HVe := Lib.hid hVe
       have HS6 := Lib.hid (show SliceAt pairCells w w.heap.size (.slice (some ⟨b,off + k * 2,none⟩) ((pairs x.facts Vs).drop k).length (d - k)) ((pairs x.facts Vs).drop k) from by rw [show (pairs x.facts Vs).drop k = [] from List.drop_eq_nil_of_le (by omega)]; exact SliceAt.none_of (by unfold maxLen; omega) (fun h => by cases h))
       have HS7 := Lib.hid (show SliceAt pairCells w w.heap.size (.slice (some ⟨b,off,none⟩) ((pairs x.facts Vs).take k).length d) ((pairs x.facts Vs).take k) from SliceAt.take hS2 k (by omega))
       have hm6 : ((pairs x.facts Vs).drop k).length = (x.facts.length - k) := by rw [List.length_drop,hpl]
       have hm7 : ((pairs x.facts Vs).take k).length = k := by rw [List.length_take,hpl]; omega
       clear hVe hS2
       go_wp2
       refine wp_region_planL (C := fun w' => ∃ u : Aft w2.heap.size w2,w' = u.now) (.still 0 (.still 3 (.still 4 (.still 5 (.still 6 (.move true 1 (.move true 2 (.move true 7 (.still 8 .done) .none) .none) .none)))))) (by kernel_rfl) (by kernel_rfl) (by kernel_rfl) (fun _ => ⟨⟨_,(Below.refl _ _).drew⟩,rfl⟩) ?_
       iterate 5
        refine plan_look _ rfl rfl ?_
        go_big_quiet_step (fail)
        refine wpQuiet_nil ?_
       refine plan_call _ 92 _ _ _ _ _ rfl _ Tryz.func92 (by kernel_rfl) (by kernel_rfl) ?_ True.intro
       refine (specL5Fact_any (.agg #[.int .i64 y.rel,.slice P' y.vals.length c']) y w2.drew ((HY.out.below HWd.out (Nat.le_refl _)).more HWd.out.size) hyn).mono ?_
       rintro _ w3 ⟨u3,rfl,⟨U,rfl,hU⟩,hb3⟩
       have hb3' : Below w2.heap.size w2 w3 := (Below.refl _ _).drew.trans hb3
       refine ⟨_,rfl,fun _ => ⟨⟨_,hb3'⟩,rfl⟩,?_⟩
       refine plan_put ?_ (by simp only [Act.put,putA,putB,putC]; rfl)
       obtain ⟨PU,cu,rfl,-⟩ := hU.1.at_
       have hz3 := hb3'.size
       refine plan_value (u := .slice (some ⟨w3.heap.size,0,none⟩) 1 1) (w' := w3.alloc (.cells #[.int .i64 y.rel,.slice PU y.vals.length cu] 66)) _ rfl rfl rfl (by simp [go_sem]) (fun _ => ⟨⟨_,hb3'.alloc hz3 _⟩,rfl⟩) ?_ True.intro
       refine plan_put ?_ (by simp only [Act.put,putA,putB,putC]; rfl)
       have hrow1 : (w3.alloc (.cells #[.int .i64 y.rel,.slice PU y.vals.length cu] 66)).ownsRow w3.heap.size 66 2 (.slice (some ⟨w3.heap.size,0,none⟩) 1 1) [(y.rel,Value.slice PU y.vals.length cu)].length ([(y.rel,Value.slice PU y.vals.length cu)].flatMap pairCells) := World.ownsRow_lit w3 #[.int .i64 y.rel,.slice PU y.vals.length cu] 1 (Nat.le_refl _) (by decide) rfl
       have hwA : Below w.heap.size w (w3.alloc (.cells #[.int .i64 y.rel,.slice PU y.vals.length cu] 66)) := HW2.out.trans ((hb3'.alloc hz3 _).mono HW2.out.size)
       refine plan_apps pairCells 2 32 (r := (pairs x.facts Vs).drop k) (fun p hp => pairs_one HVe.out p (List.mem_of_mem_drop hp)) pairCells_len _ rfl rfl Tryz.underlying25 infoFct rfl (by decide) hrow1 _ _ rfl rfl ((some ⟨b,off + k * 2,none⟩)) ((x.facts.length - k)) ((d - k)) rfl hm6 (HS6.out.below hwA (Nat.le_refl _)) (by simp; omega) (by simp; omega) (by simp) ?_ True.intro
       intro v4 w4 hrow4 hB4 hg4 _
       have hb4 : Below w2.heap.size w2 w4 := (hb3'.alloc hz3 _).trans (hB4.mono hz3)
       refine ⟨fun _ => ⟨⟨_,hb4⟩,rfl⟩,?_⟩
       obtain ⟨A4,c4,rfl,-⟩ := SliceAt.of_own hrow4
       have HR4 := Lib.hid hrow4
       have HU := Lib.hid (show IntS_own w2.heap.size w3.heap.size (.slice PU y.vals.length cu) y.vals w3 from hU)
       have hB34 := (Below.refl w3.heap.size w3).alloc (Nat.le_refl _) (.cells #[.int .i64 y.rel,.slice PU y.vals.length cu] 66) |>.trans hB4
       have HB34 := Lib.hid hB34
       have HB4 := Lib.hid hb4
       have hL4 : ([(y.rel,Value.slice PU y.vals.length cu)] ++ ((pairs x.facts Vs).drop k)).length = (x.facts.length - k) + 1 := by rw [List.length_append,hm6]; simp; omega
       rw [hL4]
       refine plan_put ?_ (by simp only [Act.put,putA,putB,putC]; rfl)
       refine plan_look _ rfl rfl ?_
       go_big_quiet_step (fail)
       refine wpQuiet_nil ?_
       refine plan_done ?_
       clear hrow4 hU hb3 hb3' hz3 hrow1 hwA hB4 hg4 hb4 G1 G2 G3 hB34
       have hzz4 : w.heap.size + 2 < w4.heap.size := by have := HB4.out.size; omega
       have hE4 := HE2.out.trans (HB4.out.mono HE2.out.size)
       have G0 := Aft.cell (B := w4.heap.size) (w := w4) (show w.heap.size < _ by omega) ((hE4.cell (p := ⟨w.heap.size,0,none⟩) (by show w.heap.size < _; have := HEz.out; omega)).trans K0.out)
       have G1 := Aft.cell (B := w4.heap.size) (w := w4) (show w.heap.size < _ by omega) ((hE4.cell (p := ⟨w.heap.size,1,none⟩) (by show w.heap.size < _; have := HEz.out; omega)).trans K1.out)
       have hwB : Below w.heap.size w (w4.drew.alloc (.cells #[] 66)) := ((HW2.out.trans (HB4.out.mono HW2.out.size)).drew).alloc (by show w.heap.size ≤ w4.heap.size; omega) _
       have HE4 := Lib.hid hE4
       clear hE4
       go_wp2
       refine wp_region_planL (C := fun w' => ∃ u : Aft w4.heap.size w4,w' = u.now) (.still 0 (.still 1 (.still 3 (.still 4 (.still 5 (.still 6 (.still 8 (.move true 2 (.move true 7 (.move true 9 (.still 10 (.move false 11 .done .none)) .none) .none) .none)))))))) (by kernel_rfl) (by kernel_rfl) (by kernel_rfl) (fun _ => ⟨⟨_,(Below.refl _ _).drew⟩,rfl⟩) ?_
       iterate 7
        refine plan_look _ rfl rfl ?_
        go_big_quiet_step (fail)
        refine wpQuiet_nil ?_
       have hAd : Below w4.heap.size w4 (w4.drew.alloc (.cells #[] 66)) := (Below.refl w4.heap.size w4).drew.alloc (show w4.heap.size ≤ w4.drew.heap.size from Nat.le_refl _) _
       refine plan_value (u := .slice (some ⟨w4.heap.size,0,none⟩) 0 0) (w' := w4.drew.alloc (.cells #[] 66)) _ rfl rfl rfl (by simp [go_sem]) (fun _ => ⟨⟨_,hAd⟩,rfl⟩) ?_ True.intro
       refine plan_put ?_ (by simp only [Act.put,putA,putB,putC]; rfl)
       have hrow0 : (w4.drew.alloc (.cells #[] 66)).ownsRow w4.heap.size 66 2 (.slice (some ⟨w4.heap.size,0,none⟩) 0 0) ([] : List (Int × Value)).length (([] : List (Int × Value)).flatMap pairCells) := World.ownsRow_lit w4.drew #[] 0 (Nat.le_refl _) (by decide) rfl
       refine plan_apps pairCells 2 32 (r := (pairs x.facts Vs).take k) (fun p hp => pairs_one HVe.out p (List.mem_of_mem_take hp)) pairCells_len _ rfl rfl Tryz.underlying25 infoFct rfl (by decide) hrow0 _ _ rfl rfl ((some ⟨b,off,none⟩)) (k) (d) rfl hm7 (HS7.out.below hwB (Nat.le_refl _)) (by rw [hm7]; simp; omega) (by rw [hm7]; simp; omega) (by have := hAd.size; exact this) ?_ True.intro
       intro v5 w5 hrow5 hB5 hg5 _
       have hb5 := hAd.trans hB5
       refine ⟨fun _ => ⟨⟨_,hb5⟩,rfl⟩,?_⟩
       refine plan_put ?_ (by simp only [Act.put,putA,putB,putC]; rfl)
       refine plan_apps pairCells 2 32 (r := [(y.rel,Value.slice PU y.vals.length cu)] ++ ((pairs x.facts Vs).drop k)) (fun p hp => by
        rcases List.mem_append.1 hp with hp | hp
        ·
         rw [List.mem_singleton.1 hp]; intro u hu; simp [pairCells] at hu; rcases hu with rfl | rfl <;> rfl
        ·
         exact pairs_one HVe.out p (List.mem_of_mem_drop hp)) pairCells_len _ rfl rfl Tryz.underlying25 infoFct rfl (by decide) hrow5 _ _ rfl rfl A4 ((x.facts.length - k) + 1) c4 rfl hL4 ((SliceAt.of_own HR4.out).below hb5 (Nat.le_refl _)) (by rw [List.length_append,hm7,hL4]; simp; omega) (by rw [List.length_append,hm7,hL4]; simp; omega) hb5.size ?_ True.intro
       intro v6 w6 hrow6 hB6 hg6 _
       have hb6 := hb5.trans hB6
       refine ⟨fun _ => ⟨⟨_,hb6⟩,rfl⟩,?_⟩
       obtain ⟨A8,c8,rfl,-⟩ := SliceAt.of_own hrow6
       have heq : ([] ++ ((pairs x.facts Vs).take k)) ++ ([(y.rel,Value.slice PU y.vals.length cu)] ++ ((pairs x.facts Vs).drop k)) = pairs (x.facts.take k ++ y :: x.facts.drop k) (Vs.take k ++ Value.slice PU y.vals.length cu :: Vs.drop k) := by rw [List.nil_append,pairs_take,pairs_drop,pairs_app (by rw [List.length_take,List.length_take,hVl])]; rfl
       rw [heq] at hrow6 ⊢
       generalize hN8 : (pairs (x.facts.take k ++ y :: x.facts.drop k) (Vs.take k ++ Value.slice PU y.vals.length cu :: Vs.drop k)).length = N8 at *
       refine plan_put ?_ (by simp only [Act.put,putA,putB,putC]; rfl)
       have hE6 := HE4.out.trans (hb6.mono HE4.out.size)
       have r0 := (hE6.cell (p := ⟨w.heap.size + 1 + 1,0,none⟩) (by show w.heap.size + 1 + 1 < _; have := HEz.out; omega)).trans R0.out
       have r1 := (hE6.cell (p := ⟨w.heap.size + 1 + 1,1,none⟩) (by show w.heap.size + 1 + 1 < _; have := HEz.out; omega)).trans R1.out
       have r2 := fun o => (hE6.frozen (p := ⟨w.heap.size + 1 + 1,o,none⟩) (by show w.heap.size + 1 + 1 < _; have := HEz.out; omega)).trans (R2 o).out
       refine plan_look _ rfl rfl ?_
       go_big_quiet_step (fail)
       refine wpQuiet_nil ?_
       refine plan_skip (w' := (w6.setCell ⟨w.heap.size + 1 + 1,0,none⟩ (.slice P x.rels.length c)).setCell ⟨w.heap.size + 1 + 1,1,none⟩ (.slice A8 N8 c8)) _ rfl rfl rfl (by simp [go_sem,r0,r1,r2]) (fun e => by cases e) ?_ True.intro
       refine plan_put ?_ (by simp only [Act.put]; rfl)
       refine plan_done ?_
       have hcw : Chg (fun g => g = w.heap.size + 1 + 1) w6 ((w6.setCell ⟨w.heap.size + 1 + 1,0,none⟩ (.slice P x.rels.length c)).setCell ⟨w.heap.size + 1 + 1,1,none⟩ (.slice A8 N8 c8)) := ((Chg.refl (fun g => g = w.heap.size + 1 + 1) w6).setCell (p := ⟨w.heap.size + 1 + 1,0,none⟩) rfl _).setCell (p := ⟨w.heap.size + 1 + 1,1,none⟩) rfl _
       have hw6 := HW2.out.trans ((HB4.out.trans (hb6.mono HB4.out.size)).mono HW2.out.size)
       have hfin := (hw6.setCell (p := ⟨w.heap.size + 1 + 1,0,none⟩) (by show w.heap.size ≤ w.heap.size + 1 + 1; omega) (.slice P x.rels.length c)).setCell (p := ⟨w.heap.size + 1 + 1,1,none⟩) (by show w.heap.size ≤ w.heap.size + 1 + 1; omega) (.slice A8 N8 c8)
       have hrowF := hcw.row hrow6 (fun g hg e => by have := (World.ownsRow.lt hrow6 g hg).1; omega)
       rw [← hN8] at hrowF
       have hSF := SliceAt.of_own hrowF
       rw [hN8] at hSF
       have hs6 : w3.heap.size ≤ w6.heap.size := Nat.le_trans HB34.out.size hb6.size
       have hUF := ((HU.out.below (HB34.out.trans (hb6.mono HB34.out.size)) (Nat.le_refl _)).chg (B' := w.heap.size + 1 + 1) (C' := w.heap.size + 1 + 1 + 1) (hcw.mono fun g hg => by subst hg; exact ⟨Nat.le_refl _,Nat.lt_succ_self _⟩) (.inr (by omega))).at_ (D := ((w6.setCell ⟨w.heap.size + 1 + 1,0,none⟩ (.slice P x.rels.length c)).setCell ⟨w.heap.size + 1 + 1,1,none⟩ (.slice A8 N8 c8)).heap.size) (by simp [World.setCell]; omega)
       have HL8 := Lib.hid (show lowB A (.slice A8 N8 c8) ∧ lowB A (.slice PU y.vals.length cu) from ⟨fun g hg => by have h1 := (World.ownsRow.lt hrow6 g hg).1; have h2 := HE4.out.size; have h3 := HEz.out; omega,fun g hg => by have h1 := (HU.out.1.lt g hg).1; have h2 := HW2.out.size; omega⟩)
       clear hE6 hrow0 hrow5 hrow6 hB5 hg5 hB6 hg6 hcw hw6 hAd hwB
       go_wp2
       refine bodyPost_ret (v := .agg #[.slice P x.rels.length c,.slice A8 N8 c8]) (by simp [results,Tryz.results94,go_sem,r0,r1]) rfl ⟨_,rfl,?_,hfin⟩
       rw [HPU.out]
       exact ⟨_,_,_,rfl,(HR.out.below hfin (Nat.le_refl _)).more hfin.size,HLV.out.1,HL8.out.1,by simp [hVl],hSF,put_elems (Q := fun V f => IntS_at _ _ V f.vals) x.facts Vs k _ y (by omega) hVl (fun i h h' => ((HVe.out i h h').below hfin (Nat.le_refl _)).more hfin.size) hUF,low_put HLV.out.2 HL8.out.2⟩
     ·
      exact absurd hne hn0
end Go.Proofs.YtobdijcnfmgidaaGreat
