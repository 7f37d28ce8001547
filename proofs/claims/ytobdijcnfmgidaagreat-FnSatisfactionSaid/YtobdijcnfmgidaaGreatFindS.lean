/- Walks and plain lemmas for the laws of this seat. -/
import Derived.Test.YtobdijcnfmgidaaGreatDrawR
import Derived.Test.YtobdijcnfmgidaaGreatPlan
import Derived.Test.YtobdijcnfmgidaaGreatAft
import Derived.Test.YtobdijcnfmgidaaGreatTySS
import Derived.Test.YtobdijcnfmgidaaGreatMatK
import Derived.Test.YtobdijcnfmgidaaGreatTrigM
import Derived.Test.YtobdijcnfmgidaaGreatTrgS
namespace Go.Proofs.YtobdijcnfmgidaaGreat
open Go.RowKit
theorem zip_fst {α β : Type} (l : List α) (m : List β) (h : m.length = l.length) : (l.zip m).map Prod.fst = l := by
 rw [List.map_fst_zip]; omega
def FindInv (M : List (List Int)) (Us : List Value) (Z C1 D1 : Nat) (W3 : World) (o iv : Value) (wr : World) : Prop :=
 ∃ (i : Nat) (O : List (List Int × Value)),i ≤ Us.length ∧ iv = .int .i64 i ∧ Hid (∃ g,o.ownBlock = some g ∧ (g < C1 ∨ D1 ≤ g)) ∧ Hid (O = dedupR Prod.fst ((M.zip Us).take i)) ∧ Hid (IntSSO Z wr.heap.size o (O.map Prod.snd) (O.map Prod.fst) wr) ∧ Hid (Chg (fun q => (Z ≤ q ∧ q < C1) ∨ D1 ≤ q) W3 wr)
theorem FindInv.mk' {M : List (List Int)} {Us : List Value} {Z C1 D1 : Nat} {W3 : World} {o iv : Value} {wr : World} (i : Nat) (O : List (List Int × Value)) (h1 : i ≤ Us.length) (h2 : iv = .int .i64 i) (h3 : ∃ g, o.ownBlock = some g ∧ (g < C1 ∨ D1 ≤ g)) (h4 : O = dedupR Prod.fst ((M.zip Us).take i)) (h5 : IntSSO Z wr.heap.size o (O.map Prod.snd) (O.map Prod.fst) wr) (h6 : Chg (fun q => (Z ≤ q ∧ q < C1) ∨ D1 ≤ q) W3 wr) : FindInv M Us Z C1 D1 W3 o iv wr :=
 ⟨i,O,h1,h2,Lib.hid h3,Lib.hid h4,Lib.hid h5,Lib.hid h6⟩
def metTo (O : List (List Int × Value)) (m : List Int) (k : Nat) : Bool := (O.take k).any (fun q => cmpInts q.1 m == 0)
theorem metTo_next {O : List (List Int × Value)} {m : List Int} (k : Nat) (hk : k < O.length) : metTo O m (k + 1) = (metTo O m k || (cmpInts O[k].1 m == 0)) := by
 unfold metTo; rw [List.take_succ_eq_append_getElem hk,List.any_append]; simp
theorem metTo_end {O : List (List Int × Value)} {m : List Int} : metTo O m O.length = O.any (fun q => cmpInts q.1 m == 0) := by
 unfold metTo; rw [List.take_of_length_le (Nat.le_refl _)]
set_option maxHeartbeats 6400000 in
set_option maxRecDepth 100000 in
theorem specFind_any (v u : Value) (x : Inst) (l : List Atm) (w : World) (hx : Instance_at w w.heap.size v x) (hxw : Instance_wf x) (hn : x.rels.length ≤ 1048576) (hl : AtomS_at w w.heap.size u l) (hlw : AtomS_wf l) :
 Calls Tryz.prog 70 #[v,u] w fun e w' => ∃ V,e = .returned V ∧ IntSS_own w.heap.size w'.heap.size V (FindMatches_r0 x l) w' ∧ Below w.heap.size w w' := by
 have HX := Lib.hid hx
 have HL := Lib.hid hl
 obtain ⟨P,c,Q,d,rfl⟩ := Instance_form hx
 obtain ⟨R,q,rfl,hq1,hq2⟩ := hl.form
 unfold maxLen at hq2
 clear hx hl
 obtain ⟨E,hEq⟩ : ∃ E,E = w.alloc (.cells #[.slice P x.rels.length c,.slice Q x.facts.length d] 27) := ⟨_,rfl⟩
 obtain ⟨F,hFq⟩ : ∃ F,F = E.alloc (.cells #[] 31) := ⟨_,rfl⟩
 have hE : Below w.heap.size w E := by rw [hEq]; exact below_more (Below.refl _ _) _
 have hEz : E.heap.size = w.heap.size + 1 := by rw [hEq]; simp
 have hEF : Below E.heap.size E F := by rw [hFq]; exact (Below.refl _ _).alloc (Nat.le_refl _) _
 have X0 : F.cell? ⟨w.heap.size,0,none⟩ = some (.slice P x.rels.length c) := (hEF.cell (p := ⟨w.heap.size,0,none⟩) (by show w.heap.size < _; omega)).trans (by rw [hEq]; simp [go_sem])
 have X1 : F.cell? ⟨w.heap.size,1,none⟩ = some (.slice Q x.facts.length d) := (hEF.cell (p := ⟨w.heap.size,1,none⟩) (by show w.heap.size < _; omega)).trans (by rw [hEq]; simp [go_sem])
 have HO0 := Lib.hid (show IntSSO E.heap.size F.heap.size (.slice (some ⟨E.heap.size,0,none⟩) 0 0) [] [] F by
  rw [hFq]
  exact ⟨rfl,World.ownsRow_lit E #[] 0 (Nat.le_refl _) (by decide) rfl,(fun g hg => by obtain rfl : g = E.heap.size := (by simpa [Value.ownBlock] using hg.symm); simp),(fun i h => absurd h (by simp)),List.Pairwise.nil⟩)
 have hwF := hE.trans (hEF.mono hE.size)
 have hFz : E.heap.size < F.heap.size := by rw [hFq]; simp
 have hok := specL11Ok_len _ x _ l F ((HX.out.below hwF (Nat.le_refl _)).more hwF.size) hxw hn ((HL.out.below hwF (Nat.le_refl _)).more hwF.size) hlw
 have hEz2 : (w.alloc (.cells #[.slice P x.rels.length c,.slice Q x.facts.length d] 27)).heap.size = E.heap.size := by rw [hEq]
 have HEz := Lib.hid hEz
 have HWF := Lib.hid hwF
 have HFZ := Lib.hid hFz
 clear hEz hwF hFz hE hEF
 obtain ⟨ok,hk⟩ : ∃ ok,okM x l = ok := ⟨_,rfl⟩
 rw [hk] at hok
 rw [hFq,hEq] at hok X0 X1
 go_enter Tryz.func70,Tryz.ntmps70
 go_wp2_with fail
 refine hok.mono ?_
 rintro e w1 ⟨rfl,hb1⟩
 rw [← hEq,← hFq] at hb1 X0 X1
 clear hEq hFq hok hEz2
 have hw1 := HWF.out.trans (hb1.mono HWF.out.size)
 have hzF : w.heap.size < F.heap.size := by have h1 := HEz.out; have h2 := HFZ.out; omega
 have x0 := (hb1.cell (p := ⟨w.heap.size,0,none⟩) hzF).trans X0
 have x1 := (hb1.cell (p := ⟨w.heap.size,1,none⟩) hzF).trans X1
 have HO1 := Lib.hid (HO0.out.below hb1 (Nat.le_refl _))
 have hz1 : w.heap.size < w1.heap.size := Nat.lt_of_lt_of_le hzF hb1.size
 have hFw1 := hb1.size
 have HW1 := Lib.hid hw1
 clear X0 X1 hb1 hw1
 cases ok with
 | false =>
   have HF := Lib.hid (find_no hk)
   clear hk
   go_wp2
   exact bodyPost_ret (v := .slice (some ⟨E.heap.size,0,none⟩) 0 0) (by simp [results,Tryz.results70,go_sem]) rfl ⟨_,rfl,by rw [HF.out]; exact ⟨[],HO1.out.mono (by rw [HEz.out]; omega) hFw1⟩,HW1.out⟩
 | true =>
   obtain ⟨h30,h3,h5⟩ := okM_parts hk
   have HF := Lib.hid (find_yes hk)
   have G0 := Aft.cell (B := w1.heap.size) hz1 x0
   have G1 := Aft.cell (B := w1.heap.size) hz1 x1
   clear hk
   go_wp2
   refine wp_region_planL (C := fun w' => ∃ u : Aft w1.heap.size w1,w' = u.now) (.still 0 (.still 1 (.move true 2 (.move true 3 (.still 4 .done) .none) .none))) (by kernel_rfl) (by kernel_rfl) (by kernel_rfl) (fun _ => ⟨⟨w1.drew,(Below.refl _ _).drew⟩,rfl⟩) ?_
   iterate 2
    refine plan_look _ rfl rfl ?_
    go_big_quiet_step (fail)
    refine wpQuiet_nil ?_
   refine plan_call _ 124 _ _ _ _ _ rfl _ Tryz.func124 (by kernel_rfl) (by kernel_rfl) ?_ True.intro
   refine (specL11Blank_c w1.drew).mono ?_
   rintro _ w2 ⟨BV,rfl,hOB,hb2⟩
   have hb2' : Below w1.heap.size w1 w2 := (show Below w1.heap.size w1 w1.drew from (Below.refl _ _).drew).trans hb2
   have hw2 := HW1.out.trans (hb2'.mono HW1.out.size)
   refine ⟨_,rfl,fun _ => ⟨⟨w2,hb2'⟩,rfl⟩,?_⟩
   refine plan_put ?_ (by simp only [Act.put,putA,putB,putC]; rfl)
   refine plan_call _ 123 _ _ _ _ _ rfl _ Tryz.func123 (by kernel_rfl) (by kernel_rfl) ?_ True.intro
   refine (specL11Walk_any _ _ x l hxw h30 hlw h3 h5 l.length 0 BV blank5 w2 (by omega) ((HX.out.below hw2 (Nat.le_refl _)).more hw2.size) ((HL.out.below hw2 (Nat.le_refl _)).more hw2.size) hOB.at_ rfl).mono ?_
   rintro _ w3 ⟨U,Us,rfl,⟨gu,hgu⟩,hSU,hb3⟩
   refine ⟨_,rfl,fun _ => ⟨⟨w3,hb2'.trans (hb3.mono hb2'.size)⟩,rfl⟩,?_⟩
   refine plan_put ?_ (by simp only [Act.put,putA,putB,putC]; rfl)
   iterate 1
    refine plan_look _ rfl rfl ?_
    go_big_quiet_step (fail)
    refine wpQuiet_nil ?_
   refine plan_done ?_
   obtain ⟨cu,rfl,-⟩ := own_some hSU.row hgu
   rw [List.drop_zero] at hSU
   obtain ⟨M,hM⟩ : ∃ M,M = walkM x.facts l blank5 := ⟨_,rfl⟩
   rw [← hM] at hSU HF
   have HML := Lib.hid (show M.length ≤ 27000 by rw [hM]; exact Nat.le_trans (walkM_len x.facts h30 l blank5) (by rcases (show l.length = 0 ∨ l.length = 1 ∨ l.length = 2 ∨ l.length = 3 by omega) with h | h | h | h <;> rw [h] <;> decide))
   have HUL := Lib.hid hSU.len
   have hul : Us.length ≤ 27000 := by rw [HUL.out]; exact HML.out
   have hw3 := hw2.trans (hb3.mono hw2.size)
   have hz2 := hb2'.size
   have hz3 := hb3.size
   have HO3 := Lib.hid (((HO1.out.below hb2' hFw1).below hb3 (Nat.le_trans hFw1 hz2)).mono (Nat.le_refl _) (Nat.le_trans (Nat.le_trans hFw1 hz2) hz3))
   have HEF := Lib.hid (show E.heap.size < w2.heap.size from Nat.lt_of_lt_of_le HFZ.out (Nat.le_trans hFw1 hz2))
   have HSU := Lib.hid hSU
   have HW3 := Lib.hid hw3
   have HZ3 := Lib.hid hz3
   clear hSU hgu hM hb2 hb2' hb3 hw2 hw3 hOB G0 G1 x0 x1 hz3
   go_wp2
   go_loopw [5,7,8,9] (fun o iv _ _ wr => FindInv M Us E.heap.size w2.heap.size w3.heap.size w3 o iv wr) (fun _ iv _ _ _ => Us.length - (intOf iv).toNat)
   case atStart => exact FindInv.mk' 0 [] (by omega) rfl ⟨_,rfl,.inl HEF.out⟩ rfl HO3.out (Chg.refl _ _)
   case round =>
    obtain ⟨i,O,hi,rfl,HG,HO,HS,HC⟩ := hrel
    rename World => W
    obtain ⟨go,hgo,hgs⟩ := HG.out
    have hrow := HS.out.row
    rw [List.length_map] at hrow
    obtain ⟨co,rfl,hco⟩ := own_some hrow hgo
    clear hrow hgo
    have HU := Lib.hid (HSU.out.chgS HC.out (fun q h1 h2 h => by omega))
    have hwr : Below w.heap.size w W := HW3.out.trans (HC.out.below (fun q hq => by have h1 := HEz.out; have h2 := HW3.out.size; omega) HW3.out.size)
    have HWr := Lib.hid hwr
    have hz3r : w3.heap.size ≤ W.heap.size := HC.out.size
    have HOL := Lib.hid (show O.length ≤ 27000 by
     rw [HO.out]
     have h1 := (dedupR_sub Prod.fst ((M.zip Us).take i)).length_le
     have h2 : ((M.zip Us).take i).length ≤ M.length := by rw [List.length_take,List.length_zip]; omega
     have h3 := HML.out
     omega)
    clear hwr
    by_cases hlt : i < Us.length
    · have hiM : i < M.length := by rw [← HUL.out]; exact hlt
      have hguz : gu < W.heap.size := (World.ownsRow.lt HU.out.row gu rfl).2
      have hgoz : go < W.heap.size := (World.ownsRow.lt HS.out.row go rfl).2
      obtain ⟨mi,hmi⟩ : ∃ mi,mi = M[i] := ⟨_,rfl⟩
      have hat : IntS_at W W.heap.size Us[i] mi := by rw [hmi]; exact (HU.out.el i hiM hlt).at_ hz3r
      have hon : IntS_own E.heap.size W.heap.size Us[i] mi W := by rw [hmi]; exact (HU.out.el i hiM hlt).mono (Nat.le_of_lt HEF.out) hz3r
      have c1 := HU.out.cell HUL.out.symm i hiM hlt
      have HNX := Lib.hid (show dedupR Prod.fst ((M.zip Us).take (i + 1)) = if O.any (fun q => cmpInts q.1 mi == 0) = true then O else O ++ [(mi,Us[i])] by
       rw [dedupR_next Prod.fst (M.zip Us) i (by rw [List.length_zip]; omega),← HO.out,List.getElem_zip,hmi]; rfl)
      obtain ⟨PU,cU,hPU,hPU1,hPU2,-⟩ := id hat
      have HAP := Lib.hid (show ∀ p ∈ O,∀ g,p.2.ownBlock = some g → (Value.slice PU mi.length cU).ownBlock ≠ some g by
       rw [← hPU,HO.out]
       intro p hp
       have hp2 := (dedupR_sub Prod.fst ((M.zip Us).take i)).subset hp
       obtain ⟨j,hj,rfl⟩ := List.getElem_of_mem hp2
       rw [List.length_take,List.length_zip] at hj
       simp only [List.getElem_take,List.getElem_zip]
       exact HU.out.dis.at_ j i (by omega) hlt (by omega))
      rw [hPU] at c1 hat hon HNX
      have HAT := Lib.hid hat
      have HON := Lib.hid hon
      have C1 := Lib.hid c1
      clear hPU hat c1 hmi hon
      go_wp2
      go_loopw [8,9] (fun mt kv wq => ∃ k : Nat,k ≤ O.length ∧ kv = .int .i64 k ∧ mt = .bool (metTo O mi k) ∧ Below W.heap.size W wq) (fun _ kv _ => O.length - (intOf kv).toNat)
      case atStart => exact ⟨0,by omega,rfl,rfl,Below.refl _ _⟩
      case round =>
       obtain ⟨k,hk,rfl,rfl,hq⟩ := hrel
       have hqz := hq.size
       have hol := HOL.out
       by_cases hkl : k < O.length
       · have hk1 : k < (O.map Prod.snd).length := by rw [List.length_map]; exact hkl
         have hk2 : k < (O.map Prod.fst).length := by rw [List.length_map]; exact hkl
         have e1 := HS.out.cell (by rw [List.length_map]) k hk2 hk1
         have hao := (HS.out.el k hk2 hk1).at_ (Nat.le_refl _)
         rw [List.getElem_map] at e1
         rw [List.getElem_map,List.getElem_map] at hao
         have HNM := Lib.hid (metTo_next (m := mi) k hkl)
         obtain ⟨ok2,hok2⟩ : ∃ p,p = O[k] := ⟨_,rfl⟩
         rw [← hok2] at e1 hao HNM
         obtain ⟨PO,cO,hPO,-⟩ := id hao
         rw [hPO] at e1 hao
         have G1 := Aft.cell (B := wr.heap.size) (Nat.lt_of_lt_of_le hgoz hqz) ((hq.cell (p := ⟨go,k,none⟩) hgoz).trans e1)
         have G2 := Aft.cell (B := wr.heap.size) (Nat.lt_of_lt_of_le hguz hqz) ((hq.cell (p := ⟨gu,i,none⟩) hguz).trans C1.out)
         obtain ⟨z,hz⟩ : ∃ z,z = cmpInts ok2.1 mi := ⟨_,rfl⟩
         have hcon := fun (u : Aft wr.heap.size wr) => specInts_any (.slice PO ok2.1.length cO) (.slice PU mi.length cU) ok2.1 mi u.now ((hao.below (hq.trans (u.is.mono hqz)) (Nat.le_refl _)).more (hq.trans (u.is.mono hqz)).size) ((HAT.out.below (hq.trans (u.is.mono hqz)) (Nat.le_refl _)).more (hq.trans (u.is.mono hqz)).size)
         rw [← hz] at hcon HNM
         have HQ := Lib.hid hq
         clear hok2 hz hPO e1 hao hq
         cases hm : metTo O mi k with
         | true =>
           rw [hm] at HNM
           go_wp2
           refine wp_region_aft (Below.refl wr.heap.size wr) (by kernel_rfl) (by kernel_rfl) ?_
           repeat (go_big_quiet_step (((go_at_call 76; exact calls_aft (Nat.le_refl _) (hcon _)))))
           refine wpQuiet_nil ?_
           refine aft_end ?_
           intro wy hh
           go_wp2
           go_roundw
           case rel => exact ⟨k + 1,by omega,by go_num,by rw [HNM.out]; rfl,HQ.out.trans (hh.mono hqz)⟩
           case measure => simp [intOf]; omega
         | false =>
           rw [hm] at HNM
           cases hz0 : (z == 0) with
           | true =>
             rw [hz0] at HNM
             go_wp2
             refine wp_region_aft (Below.refl wr.heap.size wr) (by kernel_rfl) (by kernel_rfl) ?_
             repeat (go_big_quiet_step (((go_at_call 76; exact calls_aft (Nat.le_refl _) (hcon _)))))
             refine wpQuiet_nil ?_
             refine aft_end ?_
             intro wy hh
             go_wp2
             go_roundw
             case rel => exact ⟨k + 1,by omega,by go_num,by rw [HNM.out]; rfl,HQ.out.trans (hh.mono hqz)⟩
             case measure => simp [intOf]; omega
           | false =>
             rw [hz0] at HNM
             go_wp2
             refine wp_region_aft (Below.refl wr.heap.size wr) (by kernel_rfl) (by kernel_rfl) ?_
             repeat (go_big_quiet_step (((go_at_call 76; exact calls_aft (Nat.le_refl _) (hcon _)))))
             refine wpQuiet_nil ?_
             refine aft_end ?_
             intro wy hh
             go_wp2
             go_roundw
             case rel => exact ⟨k + 1,by omega,by go_num,by rw [HNM.out]; rfl,HQ.out.trans (hh.mono hqz)⟩
             case measure => simp [intOf]; omega
       · obtain rfl : k = O.length := by omega
         have HQ := Lib.hid hq
         have hzW : W.heap.size ≤ wr.heap.size := hqz
         have HSq := Lib.hid ((HS.out.below hq (Nat.le_refl _)).mono (Nat.le_refl _) hqz)
         have HCq := Lib.hid (HC.out.then_below (hq.mono hz3r))
         have c1 := (hq.cell (p := ⟨gu,i,none⟩) hguz).trans C1.out
         rw [← metTo_end] at HNX
         clear hq
         cases hm : metTo O mi O.length with
         | true =>
           have HN2 := Lib.hid (show dedupR Prod.fst ((M.zip Us).take (i + 1)) = O by rw [HNX.out,hm]; rfl)
           go_wp2
           go_roundw
           case rel => exact FindInv.mk' (i + 1) O (by omega) (by go_num) ⟨go,rfl,hgs⟩ HN2.out.symm HSq.out HCq.out
           case measure => simp [intOf]; omega
         | false =>
           have HN2 := Lib.hid (show dedupR Prod.fst ((M.zip Us).take (i + 1)) = O ++ [(mi,.slice PU mi.length cU)] by rw [HNX.out,hm]; rfl)
           have hAl : Below wr.heap.size wr (wr.alloc (.cells #[.slice PU mi.length cU] 31)) := (Below.refl _ _).alloc (Nat.le_refl _) _
           have HS4 := Lib.hid (HSq.out.below hAl (Nat.le_refl _))
           have HU4 := Lib.hid (show IntS_own E.heap.size (wr.alloc (.cells #[.slice PU mi.length cU] 31)).heap.size (.slice PU mi.length cU) mi (wr.alloc (.cells #[.slice PU mi.length cU] 31)) from (((HON.out.below HQ.out (Nat.le_refl _)).mono (Nat.le_refl _) hqz).below hAl (Nat.le_refl _)).mono (Nat.le_refl _) hAl.size)
           have HDI := Lib.hid (show ∀ (j : Nat) (hj : j < (O.map Prod.snd).length),∀ g,(O.map Prod.snd)[j].ownBlock = some g → (Value.slice PU mi.length cU).ownBlock ≠ some g by
            intro j hj g hg
            rw [List.getElem_map] at hg
            exact HAP.out _ (List.getElem_mem _) g hg)
           have hZA : E.heap.size ≤ (wr.alloc (.cells #[.slice PU mi.length cU] 31)).heap.size := by
            have h1 := hAl.size
            have h2 := HEF.out
            have h3 := HZ3.out
            omega
           have HZA := Lib.hid hZA
           have HGZ := Lib.hid (World.ownsRow.lt HS.out.row go rfl).1
           have HCA := Lib.hid (HCq.out.then_below (hAl.mono (Nat.le_trans hz3r hqz)))
           have HAs := Lib.hid (show w3.heap.size ≤ (wr.alloc (.cells #[.slice PU mi.length cU] 31)).heap.size from Nat.le_trans (Nat.le_trans hz3r hqz) hAl.size)
           have hll : (O.map Prod.fst).length ≤ 1000000 := by rw [List.length_map]; omega
           clear hAl hZA
           go_wp2_with (at_builtin; refine ss_app2 HS4.out rfl _ _ rfl rfl wr.heap.size 1 (by simp [go_sem]) PU _ cU _ (by simp [go_sem]) HU4.out (by simp) HDI.out hll HZA.out ?_; intro v5 w5 hS5 hB5 hC5 hN5)
           go_roundw
           case rel =>
            refine FindInv.mk' (i + 1) (O ++ [(mi,.slice PU mi.length cU)]) (by omega) (by go_num) ?_ HN2.out.symm (by rw [List.map_append,List.map_append]; exact hS5) (HCA.out.trans (hC5.mono (fun q hq => ?_)))
            · rcases hN5 with h9 | h9
              · exact ⟨go,h9,hgs⟩
              · exact ⟨_,h9,.inr HAs.out⟩
            · have h8 : go = q := by simpa [Value.ownBlock] using hq
              have h7 := HGZ.out
              omega
           case measure => simp [intOf]; omega
    · obtain rfl : i = Us.length := by omega
      have HEND := Lib.hid (show O.map Prod.fst = FindMatches_r0 x l by
       rw [HF.out,HO.out,List.take_of_length_le (by rw [List.length_zip]; omega),dedupR_map,zip_fst _ _ HUL.out])
      go_wp2
      exact bodyPost_ret (v := .slice (some ⟨go,0,none⟩) O.length co) (by simp [results,Tryz.results70,go_sem]) rfl ⟨_,rfl,by rw [← HEND.out]; exact ⟨_,HS.out.mono (by rw [HEz.out]; omega) (Nat.le_refl _)⟩,HWr.out⟩
def ActInv (p : List Int → Bool) (M : List (List Int)) (Us : List Value) (Z C1 D1 : Nat) (W3 : World) (o iv : Value) (wr : World) : Prop :=
 ∃ (i : Nat) (O : List (List Int × Value)),i ≤ Us.length ∧ iv = .int .i64 i ∧ Hid (∃ g,o.ownBlock = some g ∧ (g < C1 ∨ D1 ≤ g)) ∧ Hid (O = ((M.zip Us).take i).filter fun z => p z.1) ∧ Hid (IntSSO Z wr.heap.size o (O.map Prod.snd) (O.map Prod.fst) wr) ∧ Hid (Chg (fun q => (Z ≤ q ∧ q < C1) ∨ D1 ≤ q) W3 wr)
theorem ActInv.mk' {p : List Int → Bool} {M : List (List Int)} {Us : List Value} {Z C1 D1 : Nat} {W3 : World} {o iv : Value} {wr : World} (i : Nat) (O : List (List Int × Value)) (h1 : i ≤ Us.length) (h2 : iv = .int .i64 i) (h3 : ∃ g, o.ownBlock = some g ∧ (g < C1 ∨ D1 ≤ g)) (h4 : O = ((M.zip Us).take i).filter fun z => p z.1) (h5 : IntSSO Z wr.heap.size o (O.map Prod.snd) (O.map Prod.fst) wr) (h6 : Chg (fun q => (Z ≤ q ∧ q < C1) ∨ D1 ≤ q) W3 wr) : ActInv p M Us Z C1 D1 W3 o iv wr :=
 ⟨i,O,h1,h2,Lib.hid h3,Lib.hid h4,Lib.hid h5,Lib.hid h6⟩
theorem filter_fst (p : List Int → Bool) (L : List (List Int × Value)) : (L.filter fun z => p z.1).map Prod.fst = (L.map Prod.fst).filter p := by rw [List.filter_map]; rfl
set_option maxHeartbeats 6400000 in
set_option maxRecDepth 100000 in
theorem specActs_any (v u : Value) (x : Inst) (d : Dep) (w : World) (hx : Instance_at w w.heap.size v x) (hxw : Instance_wf x) (hxn : x.rels.length ≤ 1048576) (hd : Dependency_at w w.heap.size u d) (hdw : Dependency_wf d) (hn : Dependency_sz d ≤ 1048576) :
 Calls Tryz.prog 33 #[v,u] w fun e w' => ∃ V,e = .returned V ∧ IntSS_own w.heap.size w'.heap.size V (ActiveTriggers_r0 x d) w' ∧ Below w.heap.size w w' := by
 have HX := Lib.hid hx
 have HD := Lib.hid hd
 obtain ⟨P,c,Q,d1,rfl⟩ := Instance_form hx
 have HR := Lib.hid (show RelationS_at w w.heap.size (.slice P x.rels.length c) x.rels by
  obtain ⟨V1,V2,hv,hR,hF⟩ := hx
  simp only [Value.agg.injEq,Array.mk.injEq,List.cons.injEq,and_true] at hv
  obtain ⟨rfl,rfl⟩ := hv
  exact hR)
 obtain ⟨R,q,S,t,rfl⟩ := Dependency_form hd
 have HBD := Lib.hid (show AtomS_at w w.heap.size (.slice R d.body.length q) d.body by
  obtain ⟨V1,V2,hv,h1,h2⟩ := hd
  simp only [Value.agg.injEq,Array.mk.injEq,List.cons.injEq,and_true] at hv
  obtain ⟨rfl,rfl⟩ := hv
  exact h1)
 clear hx hd
 obtain ⟨E,hEq⟩ : ∃ E,E = (w.alloc (.cells #[.slice P x.rels.length c,.slice Q x.facts.length d1] 27)).alloc (.cells #[.slice R d.body.length q,.slice S d.head.length t,.bool d.egd,.int .i64 d.left,.int .i64 d.right] 42) := ⟨_,rfl⟩
 obtain ⟨F,hFq⟩ : ∃ F,F = E.alloc (.cells #[] 31) := ⟨_,rfl⟩
 have hE : Below w.heap.size w E := by rw [hEq]; exact below_more (below_more (Below.refl _ _) _) _
 have hEz : E.heap.size = w.heap.size + 2 := by rw [hEq]; simp
 have hEF : Below E.heap.size E F := by rw [hFq]; exact (Below.refl _ _).alloc (Nat.le_refl _) _
 have hFz : F.heap.size = E.heap.size + 1 := by rw [hFq]; simp
 have hb0 : w.heap.size < E.heap.size := by omega
 have hb1 : w.heap.size + 1 < E.heap.size := by omega
 have X0 := Lib.hid ((hEF.cell (p := ⟨w.heap.size,0,none⟩) hb0).trans (show E.cell? ⟨w.heap.size,0,none⟩ = some (.slice P x.rels.length c) by rw [hEq]; simp [go_sem]))
 have X1 := Lib.hid ((hEF.cell (p := ⟨w.heap.size,1,none⟩) hb0).trans (show E.cell? ⟨w.heap.size,1,none⟩ = some (.slice Q x.facts.length d1) by rw [hEq]; simp [go_sem]))
 have D0 := Lib.hid ((hEF.cell (p := ⟨w.heap.size + 1,0,none⟩) hb1).trans (show E.cell? ⟨w.heap.size + 1,0,none⟩ = some (.slice R d.body.length q) by rw [hEq]; simp [go_sem]))
 have D1 := Lib.hid ((hEF.cell (p := ⟨w.heap.size + 1,1,none⟩) hb1).trans (show E.cell? ⟨w.heap.size + 1,1,none⟩ = some (.slice S d.head.length t) by rw [hEq]; simp [go_sem]))
 have D2 := Lib.hid ((hEF.cell (p := ⟨w.heap.size + 1,2,none⟩) hb1).trans (show E.cell? ⟨w.heap.size + 1,2,none⟩ = some (.bool d.egd) by rw [hEq]; simp [go_sem]))
 have D3 := Lib.hid ((hEF.cell (p := ⟨w.heap.size + 1,3,none⟩) hb1).trans (show E.cell? ⟨w.heap.size + 1,3,none⟩ = some (.int .i64 d.left) by rw [hEq]; simp [go_sem]))
 have D4 := Lib.hid ((hEF.cell (p := ⟨w.heap.size + 1,4,none⟩) hb1).trans (show E.cell? ⟨w.heap.size + 1,4,none⟩ = some (.int .i64 d.right) by rw [hEq]; simp [go_sem]))
 have HO0 := Lib.hid (show IntSSO E.heap.size F.heap.size (.slice (some ⟨E.heap.size,0,none⟩) 0 0) [] [] F by
  rw [hFq]
  exact ⟨rfl,World.ownsRow_lit E #[] 0 (Nat.le_refl _) (by decide) rfl,(fun g hg => by obtain rfl : g = E.heap.size := (by simpa [Value.ownBlock] using hg.symm); simp),(fun i h => absurd h (by simp)),List.Pairwise.nil⟩)
 have hwF := hE.trans (hEF.mono hE.size)
 have hvd := fun qq (hq : depOk x.rels d = qq) => specIsValidDependency_at (.slice P x.rels.length c) x.rels _ d qq hq F ((HR.out.below hwF (Nat.le_refl _)).more hwF.size) hxn ((HD.out.below hwF (Nat.le_refl _)).more hwF.size) hdw
 have HEz2 := Lib.hid (show w.heap.size + 1 + 1 = E.heap.size by omega)
 have HEz := Lib.hid hEz
 have HWF := Lib.hid hwF
 have HFZ := Lib.hid hFz
 clear hwF hFz hE hEF hEz
 have x0 := X0.out
 have y0 := D0.out
 have y1 := D1.out
 have y2 := D2.out
 have y3 := D3.out
 have y4 := D4.out
 rw [hFq,hEq] at x0 y0 y1 y2 y3 y4 hvd
 have hzw : w.heap.size < F.heap.size := by have h1 := HEz.out; have h2 := HFZ.out; omega
 have hzw1 : w.heap.size + 1 < F.heap.size := by have h1 := HEz.out; have h2 := HFZ.out; omega
 cases k1 : depOk x.rels d with
 | false =>
   have HA := Lib.hid (acts_none k1)
   replace hvd := hvd false k1
   clear k1
   go_enter Tryz.func33,Tryz.ntmps33
   go_wp2_with (go_at_call 39; refine hvd.mono ?_; rintro e w1 ⟨rfl,hc1⟩)
   rw [← hEq,← hFq] at hc1
   rw [HEz2.out]
   refine bodyPost_ret (v := .slice (some ⟨E.heap.size,0,none⟩) 0 0) (by simp [results,Tryz.results33,go_sem]) rfl ⟨_,rfl,by rw [HA.out]; exact ⟨[],(HO0.out.below hc1 (Nat.le_refl _)).mono (by have := HEz.out; omega) hc1.size⟩,HWF.out.trans (hc1.mono HWF.out.size)⟩
 | true =>
   have HA := Lib.hid (acts_some k1)
   replace hvd := hvd true k1
   clear k1
   go_enter Tryz.func33,Tryz.ntmps33
   go_wp2_with fail
   refine hvd.mono ?_
   rintro e w2 ⟨rfl,hc1⟩
   rw [← hEq,← hFq] at hc1
   rw [HEz2.out]
   clear x0 y0 y1 y2 y3 y4 hvd hFq
   have hw2 := HWF.out.trans (hc1.mono HWF.out.size)
   have x0 := (hc1.cell (p := ⟨w.heap.size,0,none⟩) hzw).trans X0.out
   have x1 := (hc1.cell (p := ⟨w.heap.size,1,none⟩) hzw).trans X1.out
   have y0 := (hc1.cell (p := ⟨w.heap.size + 1,0,none⟩) hzw1).trans D0.out
   have hfm := specFind_any _ (.slice R d.body.length q) x d.body w2 ((HX.out.below hw2 (Nat.le_refl _)).more hw2.size) hxw hxn ((HBD.out.below hw2 (Nat.le_refl _)).more hw2.size) hdw.1
   clear hEq
   go_wp2_with fail
   refine hfm.mono ?_
   rintro e w3 ⟨V,rfl,⟨Us,hSU⟩,hb3⟩
   obtain ⟨A,cu,rfl,-⟩ := (hSU.at_ (Nat.le_refl _)).form
   obtain ⟨M,hM⟩ : ∃ M,M = FindMatches_r0 x d.body := ⟨_,rfl⟩
   have HMM := Lib.hid (fun b (hb : b ∈ M) => find_wf (x := x) (l := d.body) (by rw [← hM]; exact hb))
   have HML := Lib.hid (show M.length ≤ 27000 by rw [hM]; exact find_len x d.body)
   rw [← hM] at hSU HA ⊢
   have HUL := Lib.hid hSU.len
   have hul : M.length ≤ 27000 := HML.out
   have hw3 := hw2.trans (hb3.mono hw2.size)
   have hz3 := hb3.size
   have hb13 : Below F.heap.size F w3 := hc1.trans (hb3.mono hc1.size)
   have HO3 := Lib.hid ((HO0.out.below hb13 (Nat.le_refl _)).mono (Nat.le_refl _) hb13.size)
   have HEF := Lib.hid (show E.heap.size < w2.heap.size by have h1 := HFZ.out; have h2 := hc1.size; omega)
   have HB13 := Lib.hid hb13
   have HSU := Lib.hid hSU
   have HW3 := Lib.hid hw3
   have HZ3 := Lib.hid hz3
   clear hSU hM hw2 hw3 x0 x1 y0 hfm hz3 hb13 hc1 hb3
   go_wp2
   go_loopw [5,7] (fun o iv wr => ActInv (activeOk x d) M Us E.heap.size w2.heap.size w3.heap.size w3 o iv wr) (fun _ iv _ => Us.length - (intOf iv).toNat)
   case atStart => exact ActInv.mk' 0 [] (by omega) rfl ⟨_,rfl,.inl HEF.out⟩ rfl HO3.out (Chg.refl _ _)
   case round =>
    obtain ⟨i,O,hi,rfl,HG,HO,HS,HC⟩ := hrel
    obtain ⟨go,hgo,hgs⟩ := HG.out
    have hrow := HS.out.row
    rw [List.length_map] at hrow
    obtain ⟨co,rfl,hco⟩ := own_some hrow hgo
    clear hrow hgo
    have HU := Lib.hid (HSU.out.chgS HC.out (fun q h1 h2 h => by omega))
    have hbF : Below E.heap.size F wr := (HB13.out.mono (by rw [HFZ.out]; omega)).trans (HC.out.below (B := E.heap.size) (fun q hq => by have h1 := HEF.out; have h3 := HZ3.out; rcases hq with hq | hq <;> omega) (by have h1 := HEF.out; have h3 := HZ3.out; omega))
    have hwr : Below w.heap.size w wr := HWF.out.trans (hbF.mono (by have h1 := HEz.out; omega))
    have hz3r : w3.heap.size ≤ wr.heap.size := HC.out.size
    have hFr : F.heap.size ≤ wr.heap.size := hbF.size
    have HWr := Lib.hid hwr
    have HOL := Lib.hid (show O.length ≤ 27000 by
     rw [HO.out]
     have h1 := List.length_filter_le (fun z : List Int × Value => activeOk x d z.1) ((M.zip Us).take i)
     have h2 : ((M.zip Us).take i).length ≤ M.length := by rw [List.length_take,List.length_zip]; omega
     have h3 := HML.out
     omega)
    by_cases hlt : i < Us.length
    · have hiM : i < M.length := by rw [← HUL.out]; exact hlt
      obtain ⟨gu,capu,e9,-,hgu2⟩ := World.ownsRow.form HSU.out.row (by omega)
      obtain ⟨rfl,rfl⟩ : A = some ⟨gu,0,none⟩ ∧ cu = capu := by
       injection e9 with a1 _ a3
       exact ⟨a1,a3⟩
      clear e9
      have hguz : gu < wr.heap.size := (World.ownsRow.lt HU.out.row gu rfl).2
      have hgoz : go < wr.heap.size := (World.ownsRow.lt HS.out.row go rfl).2
      obtain ⟨mi,hmi⟩ : ∃ mi,mi = M[i] := ⟨_,rfl⟩
      have hat : IntS_at wr wr.heap.size Us[i] mi := by rw [hmi]; exact (HU.out.el i hiM hlt).at_ hz3r
      have hon : IntS_own E.heap.size wr.heap.size Us[i] mi wr := by rw [hmi]; exact (HU.out.el i hiM hlt).mono (Nat.le_of_lt HEF.out) hz3r
      have hwf : IntsWf mi := by rw [hmi]; exact HMM.out _ (List.getElem_mem hiM)
      have c1 := HU.out.cell rfl i hiM hlt
      have HNX := Lib.hid (show ((M.zip Us).take (i + 1)).filter (fun z => activeOk x d z.1) = if activeOk x d mi = true then O ++ [(mi,Us[i])] else O by
       rw [List.take_succ_eq_append_getElem (by rw [List.length_zip]; omega),List.filter_append,← HO.out,List.getElem_zip,hmi]
       by_cases hp : activeOk x d M[i] = true
       · rw [if_pos hp,List.filter_cons_of_pos (by simpa using hp)]; rfl
       · rw [if_neg hp,List.filter_cons_of_neg (by simpa using hp)]; simp)
      obtain ⟨PU,cU,hPU,hPU1,hPU2,-⟩ := id hat
      have HAP := Lib.hid (show ∀ p ∈ O,∀ g,p.2.ownBlock = some g → (Value.slice PU mi.length cU).ownBlock ≠ some g by
       rw [← hPU,HO.out]
       intro p hp
       have hp2 := (List.mem_filter.1 hp).1
       obtain ⟨j,hj,rfl⟩ := List.getElem_of_mem hp2
       rw [List.length_take,List.length_zip] at hj
       simp only [List.getElem_take,List.getElem_zip]
       exact HU.out.dis.at_ j i (by omega) hlt (by omega))
      rw [hPU] at c1 hat hon HNX
      have hzr0 : w.heap.size < wr.heap.size := by omega
      have hzr1 : w.heap.size + 1 < wr.heap.size := by omega
      have G0 := Aft.cell (B := wr.heap.size) hzr0 ((hbF.cell (p := ⟨w.heap.size,0,none⟩) hb0).trans X0.out)
      have G1 := Aft.cell (B := wr.heap.size) hzr0 ((hbF.cell (p := ⟨w.heap.size,1,none⟩) hb0).trans X1.out)
      have G2 := Aft.cell (B := wr.heap.size) hzr1 ((hbF.cell (p := ⟨w.heap.size + 1,0,none⟩) hb1).trans D0.out)
      have G3 := Aft.cell (B := wr.heap.size) hzr1 ((hbF.cell (p := ⟨w.heap.size + 1,1,none⟩) hb1).trans D1.out)
      have G4 := Aft.cell (B := wr.heap.size) hzr1 ((hbF.cell (p := ⟨w.heap.size + 1,2,none⟩) hb1).trans D2.out)
      have G5 := Aft.cell (B := wr.heap.size) hzr1 ((hbF.cell (p := ⟨w.heap.size + 1,3,none⟩) hb1).trans D3.out)
      have G6 := Aft.cell (B := wr.heap.size) hzr1 ((hbF.cell (p := ⟨w.heap.size + 1,4,none⟩) hb1).trans D4.out)
      have G7 := Aft.cell (B := wr.heap.size) hguz c1
      have hcon := fun (bb : Bool) (hq : activeOk x d mi = bb) (u : Aft wr.heap.size wr) => specIsActive_any _ _ x d (.slice PU mi.length cU) mi u.now ((HX.out.below (HWr.out.trans (u.is.mono HWr.out.size)) (Nat.le_refl _)).more (Nat.le_trans HWr.out.size u.is.size)) hxw hxn ((HD.out.below (HWr.out.trans (u.is.mono HWr.out.size)) (Nat.le_refl _)).more (Nat.le_trans HWr.out.size u.is.size)) hdw hn ((hat.below u.is (Nat.le_refl _)).more u.is.size) hwf
      have HON := Lib.hid hon
      have C1 := Lib.hid c1
      clear hPU c1 hmi hon hwr
      cases hact : activeOk x d mi with
      | true =>
        rw [if_pos hact] at HNX
        have hcon := hcon true hact
        rw [hact] at hcon
        clear hact
        go_upto_region 8 with fail
        refine wp_region_aft (Below.refl wr.heap.size wr) (by kernel_rfl) (by kernel_rfl) ?_
        repeat (go_big_quiet_step (((go_at_call 71; exact calls_aft (Nat.le_refl _) (hcon _)))))
        refine wpQuiet_nil ?_
        refine aft_end ?_
        intro w4 hq
        clear hcon G0 G1 G2 G3 G4 G5 G6 G7
        have hqz := hq.size
        have c1 := (hq.cell (p := ⟨gu,i,none⟩) hguz).trans C1.out
        have HSq := Lib.hid ((HS.out.below hq (Nat.le_refl _)).mono (Nat.le_refl _) hqz)
        have HCq := Lib.hid (HC.out.then_below (hq.mono hz3r))
        have hAl : Below w4.heap.size w4 (w4.alloc (.cells #[.slice PU mi.length cU] 31)) := (Below.refl _ _).alloc (Nat.le_refl _) _
        have HS4 := Lib.hid (HSq.out.below hAl (Nat.le_refl _))
        have HU4 := Lib.hid (show IntS_own E.heap.size (w4.alloc (.cells #[.slice PU mi.length cU] 31)).heap.size (.slice PU mi.length cU) mi (w4.alloc (.cells #[.slice PU mi.length cU] 31)) from (((HON.out.below hq (Nat.le_refl _)).mono (Nat.le_refl _) hqz).below hAl (Nat.le_refl _)).mono (Nat.le_refl _) hAl.size)
        have HDI := Lib.hid (show ∀ (j : Nat) (hj : j < (O.map Prod.snd).length),∀ g,(O.map Prod.snd)[j].ownBlock = some g → (Value.slice PU mi.length cU).ownBlock ≠ some g by
         intro j hj g hg
         rw [List.getElem_map] at hg
         exact HAP.out _ (List.getElem_mem _) g hg)
        have hZA : E.heap.size ≤ (w4.alloc (.cells #[.slice PU mi.length cU] 31)).heap.size := by
         have h1 := hAl.size
         have h2 := HEF.out
         have h3 := HZ3.out
         omega
        have HZA := Lib.hid hZA
        have HGZ := Lib.hid (World.ownsRow.lt HS.out.row go rfl).1
        have HCA := Lib.hid (HCq.out.then_below (hAl.mono (Nat.le_trans hz3r hqz)))
        have HAs := Lib.hid (show w3.heap.size ≤ (w4.alloc (.cells #[.slice PU mi.length cU] 31)).heap.size from Nat.le_trans (Nat.le_trans hz3r hqz) hAl.size)
        have hol := HOL.out
        have hll : (O.map Prod.fst).length ≤ 1000000 := by rw [List.length_map]; omega
        clear hAl hZA
        go_wp2_with (at_builtin; refine ss_app2 HS4.out rfl _ _ rfl rfl w4.heap.size 1 (by simp [go_sem]) PU _ cU _ (by simp [go_sem]) HU4.out (by simp) HDI.out hll HZA.out ?_; intro v5 w5 hS5 hB5 hC5 hN5)
        go_roundw
        case rel =>
         refine ActInv.mk' (i + 1) (O ++ [(mi,.slice PU mi.length cU)]) (by omega) (by go_num) ?_ HNX.out.symm (by rw [List.map_append,List.map_append]; exact hS5) (HCA.out.trans (hC5.mono (fun q hq => ?_)))
         · rcases hN5 with h9 | h9
           · exact ⟨go,h9,hgs⟩
           · exact ⟨_,h9,.inr HAs.out⟩
         · have h8 : go = q := by simpa [Value.ownBlock] using hq
           have h7 := HGZ.out
           omega
        case measure => simp [intOf]; omega
      | false =>
        rw [if_neg (by rw [hact]; simp)] at HNX
        have hcon := hcon false hact
        rw [hact] at hcon
        clear hact
        go_upto_region 8 with fail
        refine wp_region_aft (Below.refl wr.heap.size wr) (by kernel_rfl) (by kernel_rfl) ?_
        repeat (go_big_quiet_step (((go_at_call 71; exact calls_aft (Nat.le_refl _) (hcon _)))))
        refine wpQuiet_nil ?_
        refine aft_end ?_
        intro w4 hq
        clear hcon G0 G1 G2 G3 G4 G5 G6 G7
        have hqz := hq.size
        have HSq := Lib.hid ((HS.out.below hq (Nat.le_refl _)).mono (Nat.le_refl _) hqz)
        have HCq := Lib.hid (HC.out.then_below (hq.mono hz3r))
        go_wp2
        go_roundw
        case rel => exact ActInv.mk' (i + 1) O (by omega) (by go_num) ⟨go,rfl,hgs⟩ HNX.out.symm HSq.out HCq.out
        case measure => simp [intOf]; omega
    · obtain rfl : i = Us.length := by omega
      have hnd : decide (Us.length < M.length) = false := decide_eq_false (by rw [HUL.out]; omega)
      have HEND := Lib.hid (show O.map Prod.fst = ActiveTriggers_r0 x d by
       rw [HA.out,HO.out,List.take_of_length_le (by rw [List.length_zip]; omega),filter_fst,List.map_fst_zip (by have := HUL.out; omega)])
      go_wp2
      exact bodyPost_ret (v := .slice (some ⟨go,0,none⟩) O.length co) (by simp [results,Tryz.results33,go_sem]) rfl ⟨_,rfl,by rw [← HEND.out]; exact ⟨_,HS.out.mono (by have := HEz.out; omega) (Nat.le_refl _)⟩,HWr.out⟩
end Go.Proofs.YtobdijcnfmgidaaGreat
