/-
  Walks and plain lemmas for the laws of this seat: what single Go functions return, for every argument.
-/
import Derived.Deep.Quiet
import Derived.Test.YtobdijcnfmgidaaPlan
import Derived.Test.YtobdijcnfmgidaaAft
import Derived.Test.YtobdijcnfmgidaaTyInst
import Derived.Test.YtobdijcnfmgidaaGroundM
import Derived.Test.YtobdijcnfmgidaaSame
import Derived.Test.YtobdijcnfmgidaaLift
import Derived.Test.YtobdijcnfmgidaaDrawS12
import Derived.Test.YtobdijcnfmgidaaSubI
import Derived.Test.YtobdijcnfmgidaaResI
import Derived.Test.YtobdijcnfmgidaaInstN
import Derived.Test.YtobdijcnfmgidaaNulInI
import Derived.Test.YtobdijcnfmgidaaInstV
import Derived.Test.YtobdijcnfmgidaaGroS
namespace Go.Proofs.Ytobdijcnfmgidaa
open Go.RowKit

theorem rest_small {n : Nat} {x : Inst} (h : InstSmall n x) (b : Bool) : InstSmall n (Restrict_r0 x b) := by
  unfold Restrict_r0 restrictI
  split
  · exact ⟨h.1, Nat.le_trans (List.length_filter_le _ _) h.2.1, fun f hf => h.2.2 f (List.mem_filter.1 hf).1⟩
  · exact ⟨⟨Nat.zero_le _, fun r hr => by cases hr⟩, Nat.zero_le _, fun f hf => by cases hf⟩
set_option maxHeartbeats 12800000 in
set_option maxRecDepth 100000 in
theorem walkRS (q : Option Addr) (code : List UInt8) (c : Nat) (_ : code.length ≤ maxLen) (w : World) (hc : CodeAt w w.heap.size (.slice q code.length c) code) :
    Calls Try.prog 3 #[.slice q code.length c] w fun e w' => e = .returned (.bool true) ∧ Below w.heap.size w w' := by
  by_cases hbig : 1048576 < code.length
  · have hd : decide (1048576 < ((code.length : Nat) : Int)) = true := by simp; omega
    go_enter Try.func3, Try.ntmps3
    go_wp2_with fail
    refine (big_any q _ c _).mono ?_; rintro e w1 ⟨rfl, rfl⟩
    go_wp2_with fail
    go_ret
    exact ⟨rfl, Below.refl _ _⟩
  · have hlen : code.length ≤ 1048576 := by omega
    have hd : decide (1048576 < ((code.length : Nat) : Int)) = false := by simp; omega
    have HCO := Lib.hid hc
    clear hbig
    go_enter Try.func3, Try.ntmps3
    go_wp2_with fail
    refine (big_any q _ c _).mono ?_; rintro e w1 ⟨rfl, rfl⟩
    go_wp2_with fail
    refine (drawIvi_c _ code _ hc hlen).mono ?_
    rintro e w2 ⟨V, x, rfl, hI, hIs, hb2⟩
    obtain ⟨P, c1, Q, d1, rfl⟩ := Instance_form hI.at_
    obtain ⟨g, hg⟩ : ∃ g, g = w2.heap.size := ⟨_, rfl⟩
    obtain ⟨W, hW⟩ : ∃ W, W = w2.alloc (.cells #[.slice P x.rels.length c1, .slice Q x.facts.length d1] 27) := ⟨_, rfl⟩
    have hAlg : Below w2.heap.size w2 W := by rw [hW]; exact (Below.refl _ _).alloc (Nat.le_refl _) _
    have hltg : g < W.heap.size := by rw [hW, hg]; simp
    have X0 := Lib.hid (show W.cell? ⟨g, 0, none⟩ = some (.slice P x.rels.length c1) by rw [hW, hg]; simp [go_sem])
    have X1 := Lib.hid (show W.cell? ⟨g, 1, none⟩ = some (.slice Q x.facts.length d1) by rw [hW, hg]; simp [go_sem])
    have HX := Lib.hid (hI.later hAlg).at_
    have HW := Lib.hid (hb2.trans (hAlg.mono hb2.size))
    have HXS := Lib.hid hIs
    have HXW := Lib.hid hIs.wf
    have HXN := Lib.hid (show Instance_sz x ≤ 1048576 by have := hIs.sz (by decide); omega)
    have HAW := Lib.hid (rest_small hIs true).wf
    have HAN := Lib.hid (show Instance_sz (Restrict_r0 x true) ≤ 1048576 by have := (rest_small hIs true).sz (by decide); omega)
    have HBW := Lib.hid (rest_small hIs false).wf
    have HBN := Lib.hid (show Instance_sz (Restrict_r0 x false) ≤ 1048576 by have := (rest_small hIs false).sz (by decide); omega)
    have HLEN := Lib.hid hlen
    clear hI hIs hb2 hd hc hlen hAlg
    have x0 := X0.out
    have x1 := X1.out
    go_upto_region 4 with fail
    rw [← hg, ← hW]
    clear hg hW
    have hra := implRestrict_any (.agg #[.slice P x.rels.length c1, .slice Q x.facts.length d1]) x true W HX.out HXW.out HXN.out
    go_wp2_with fail
    refine hra.mono ?_
    rintro e w3 ⟨VA, rfl, hOA, hb3⟩
    obtain ⟨PA, cA, QA, dA, rfl⟩ := Instance_form (hOA.at_ (Nat.le_refl _))
    obtain ⟨ga, hga⟩ : ∃ g, g = w3.heap.size := ⟨_, rfl⟩
    obtain ⟨WA, hWA⟩ : ∃ W, W = w3.alloc (.cells #[.slice PA (Restrict_r0 x true).rels.length cA, .slice QA (Restrict_r0 x true).facts.length dA] 27) := ⟨_, rfl⟩
    have hAlga : Below w3.heap.size w3 WA := by rw [hWA]; exact (Below.refl _ _).alloc (Nat.le_refl _) _
    have hltga : ga < WA.heap.size := by rw [hWA, hga]; simp
    have A0 := Lib.hid (show WA.cell? ⟨ga, 0, none⟩ = some (.slice PA (Restrict_r0 x true).rels.length cA) by rw [hWA, hga]; simp [go_sem])
    have A1 := Lib.hid (show WA.cell? ⟨ga, 1, none⟩ = some (.slice QA (Restrict_r0 x true).facts.length dA) by rw [hWA, hga]; simp [go_sem])
    have HBa := Lib.hid (hb3.trans (hAlga.mono hb3.size))
    have HA := Lib.hid ((hOA.at_ (Nat.le_refl _)).later hAlga)
    clear hra hOA hb3 hAlga x0 x1
    have x0 := (HBa.out.cell (p := ⟨g, 0, none⟩) hltg).trans X0.out
    have x1 := (HBa.out.cell (p := ⟨g, 1, none⟩) hltg).trans X1.out
    go_upto_region 5 with fail
    rw [← hga, ← hWA]
    clear hga hWA
    have hrb := implRestrict_any (.agg #[.slice P x.rels.length c1, .slice Q x.facts.length d1]) x false WA (((HX.out.below HBa.out (Nat.le_refl _)).more HBa.out.size)) HXW.out HXN.out
    go_wp2_with fail
    refine hrb.mono ?_
    rintro e w4 ⟨VB, rfl, hOB, hb4⟩
    obtain ⟨PB, cB, QB, dB, rfl⟩ := Instance_form (hOB.at_ (Nat.le_refl _))
    obtain ⟨gb, hgb⟩ : ∃ g, g = w4.heap.size := ⟨_, rfl⟩
    obtain ⟨WB, hWB⟩ : ∃ W, W = w4.alloc (.cells #[.slice PB (Restrict_r0 x false).rels.length cB, .slice QB (Restrict_r0 x false).facts.length dB] 27) := ⟨_, rfl⟩
    have hAlgb : Below w4.heap.size w4 WB := by rw [hWB]; exact (Below.refl _ _).alloc (Nat.le_refl _) _
    have hltgb : gb < WB.heap.size := by rw [hWB, hgb]; simp
    have B0 := Lib.hid (show WB.cell? ⟨gb, 0, none⟩ = some (.slice PB (Restrict_r0 x false).rels.length cB) by rw [hWB, hgb]; simp [go_sem])
    have B1 := Lib.hid (show WB.cell? ⟨gb, 1, none⟩ = some (.slice QB (Restrict_r0 x false).facts.length dB) by rw [hWB, hgb]; simp [go_sem])
    have HBab := Lib.hid (hb4.trans (hAlgb.mono hb4.size))
    have HBb := Lib.hid (HBa.out.trans (HBab.out.mono HBa.out.size))
    have HB := Lib.hid ((hOB.at_ (Nat.le_refl _)).later hAlgb)
    clear hrb hOB hb4 hAlgb x0 x1
    have x0 := (HBb.out.cell (p := ⟨g, 0, none⟩) hltg).trans X0.out
    have x1 := (HBb.out.cell (p := ⟨g, 1, none⟩) hltg).trans X1.out
    go_upto_region 6 with fail
    rw [← hgb, ← hWB]
    clear hgb hWB
    have hnl := implNullsOfInstance_any (.agg #[.slice P x.rels.length c1, .slice Q x.facts.length d1]) x WB (((HX.out.below HBb.out (Nat.le_refl _)).more HBb.out.size)) HXW.out HXN.out
    go_wp2_with fail
    refine hnl.mono ?_
    rintro e w5 ⟨VN, rfl, hON, hb5⟩
    obtain ⟨PN, cN, rfl, -, hcN, -⟩ := id hON.at_
    unfold maxLen at hcN
    have HN := Lib.hid hON.at_
    have HB5b := Lib.hid hb5
    have HB5a := Lib.hid (HBab.out.trans (HB5b.out.mono HBab.out.size))
    have HB5 := Lib.hid (HBb.out.trans (hb5.mono HBb.out.size))
    clear hnl hON hb5 x0 x1
    have hg5 : g < w5.heap.size := Nat.lt_of_lt_of_le hltg HB5.out.size
    have hga5 : ga < w5.heap.size := Nat.lt_of_lt_of_le hltga HB5a.out.size
    have hgb5 : gb < w5.heap.size := Nat.lt_of_lt_of_le hltgb HB5b.out.size
    have G0 := Aft.cell (B := w5.heap.size) (w := w5) hg5 ((HB5.out.cell (p := ⟨g, 0, none⟩) hltg).trans X0.out)
    have G1 := Aft.cell (B := w5.heap.size) (w := w5) hg5 ((HB5.out.cell (p := ⟨g, 1, none⟩) hltg).trans X1.out)
    obtain ⟨N, hNN⟩ : ∃ N, nullsI x.facts = N := ⟨_, rfl⟩
    rw [hNN] at HN ⊢
    have HX5 := Lib.hid (((HX.out.below HB5.out (Nat.le_refl _)).more HB5.out.size))
    have hsn := fun (u : Aft w5.heap.size w5) => specNullsOfInstance_any (.agg #[.slice P x.rels.length c1, .slice Q x.facts.length d1]) x u.now (((HX5.out.below u.is (Nat.le_refl _)).more u.is.size)) HXW.out
    rw [hNN] at hsn
    have hig := fun (u : Aft w5.heap.size w5) => implGround_any (.agg #[.slice P x.rels.length c1, .slice Q x.facts.length d1]) x u.now (((HX5.out.below u.is (Nat.le_refl _)).more u.is.size)) HXW.out HXN.out
    have hsg := fun (u : Aft w5.heap.size w5) => specGround_any (.agg #[.slice P x.rels.length c1, .slice Q x.facts.length d1]) x u.now (((HX5.out.below u.is (Nat.le_refl _)).more u.is.size)) HXW.out HXN.out
    have HGN := Lib.hid (show instOk x = true → groundM x = decide (N.length = 0) from fun h => by rw [groundM_on h, hNN])
    have HNT := Lib.hid (show instOk x = true → nullsI (Restrict_r0 x false).facts = N from fun h => by rw [rest_tgt_nulls h, hNN])
    obtain ⟨G, hG⟩ : ∃ G, groundM x = G := ⟨_, rfl⟩
    rw [hG] at hig hsg HGN
    have hGG : (G != G) = false := by simp
    go_upto_region 7 with fail
    have hb := (Below.refl w5.heap.size w5).drew
    refine wp_region_planL (C := fun w' => ∃ u : Aft w5.heap.size w5, w' = u.now) (.still 0 (.still 1 (.move true 2 (.move true 3 (.still 4 (.still 5 (.still 6 (.move true 7 (.still 8 (.move true 9 (.still 10 (.still 11 .done)) .none)) .none)))) .none) .none))) (by kernel_rfl) (by kernel_rfl) (by kernel_rfl) (fun _ => ⟨⟨w5.drew, hb⟩, rfl⟩) ?_
    iterate 2
      refine plan_look _ rfl rfl ?_
      go_big_quiet_step (fail)
      refine wpQuiet_nil ?_
    refine plan_call _ 11 _ _ _ _ _ rfl _ Try.func11 (by kernel_rfl) (by kernel_rfl) ?_ True.intro
    refine (hsn ⟨_, hb⟩).mono ?_
    rintro _ wn ⟨VM, rfl, hOM, hbn⟩
    obtain ⟨PM, cM, rfl, -, -, -⟩ := id hOM.at_
    replace hb := hb.trans (hbn.mono hb.size)
    clear hbn
    refine ⟨_, rfl, fun _ => ⟨⟨_, hb⟩, rfl⟩, ?_⟩
    refine plan_put ?_ (by simp only [Act.put, List.setIfInBounds_toArray, List.set_cons_succ, List.set_cons_zero]; rfl)
    refine plan_call _ 10 _ _ _ _ _ rfl _ Try.func10 (by kernel_rfl) (by kernel_rfl) ?_ True.intro
    refine (sameInts_any _ _ N _ ((HN.out.below hb (Nat.le_refl _)).more hb.size) hOM.at_).mono ?_
    rintro _ wn ⟨rfl, hbn⟩
    replace hb := hb.trans (hbn.mono hb.size)
    clear hbn
    refine ⟨_, rfl, fun _ => ⟨⟨_, hb⟩, rfl⟩, ?_⟩
    refine plan_put ?_ (by simp only [Act.put, List.setIfInBounds_toArray, List.set_cons_succ, List.set_cons_zero]; rfl)
    iterate 3
      refine plan_look _ rfl rfl ?_
      go_big_quiet_step (fail)
      refine wpQuiet_nil ?_
    refine plan_callG _ 12 _ _ _ _ _ _ rfl rfl _ Try.func12 (by kernel_rfl) (by kernel_rfl) ?_ True.intro
    refine (hig ⟨_, hb⟩).mono ?_
    rintro _ wn ⟨rfl, hbn⟩
    replace hb := hb.trans (hbn.mono hb.size)
    clear hbn
    refine ⟨_, rfl, fun _ => ⟨⟨_, hb⟩, rfl⟩, ?_⟩
    refine plan_put ?_ (by simp only [Act.put, List.setIfInBounds_toArray, List.set_cons_succ, List.set_cons_zero]; rfl)
    iterate 1
      refine plan_look _ rfl rfl ?_
      go_big_quiet_step (fail)
      refine wpQuiet_nil ?_
    refine plan_callG _ 13 _ _ _ _ _ _ rfl rfl _ Try.func13 (by kernel_rfl) (by kernel_rfl) ?_ True.intro
    refine (hsg ⟨_, hb⟩).mono ?_
    rintro _ wn ⟨rfl, hbn⟩
    replace hb := hb.trans (hbn.mono hb.size)
    clear hbn
    refine ⟨_, rfl, fun _ => ⟨⟨_, hb⟩, rfl⟩, ?_⟩
    refine plan_put ?_ (by simp only [Act.put, List.setIfInBounds_toArray, List.set_cons_succ, List.set_cons_zero]; rfl)
    iterate 2
      refine plan_look _ rfl rfl ?_
      go_big_quiet_step (fail)
      refine wpQuiet_nil ?_
    refine plan_done ?_
    obtain ⟨w6, rfl⟩ : ∃ V, V = wn := ⟨_, rfl⟩
    have HB6 := Lib.hid (HB5.out.trans (hb.mono HB5.out.size))
    have HB56 := Lib.hid hb
    have HZ6 := Lib.hid (HW.out.trans (HB6.out.mono HW.out.size))
    clear hb hOM hsn hig hsg G0 G1
    have hvi := specIsValidInstance_any (.agg #[.slice P x.rels.length c1, .slice Q x.facts.length d1]) x w6 (((HX.out.below HB6.out (Nat.le_refl _)).more HB6.out.size)) HXW.out HXN.out
    have x0 := (HB6.out.cell (p := ⟨g, 0, none⟩) hltg).trans X0.out
    have x1 := (HB6.out.cell (p := ⟨g, 1, none⟩) hltg).trans X1.out
    cases hq : instOk x with
    | false =>
      have la := rest_off hq true
      have lb := rest_off hq false
      rw [hq] at hvi
      have HBa6 := Lib.hid (HB5a.out.trans (HB56.out.mono HB5a.out.size))
      have HBb6 := Lib.hid (HB5b.out.trans (HB56.out.mono HB5b.out.size))
      clear hq
      go_wp2_with fail
      refine hvi.mono ?_
      rintro e w7 ⟨rfl, hb7⟩
      have hbA := HBa6.out.trans (hb7.mono HBa6.out.size)
      have hbB := HBb6.out.trans (hb7.mono HBb6.out.size)
      have HZ7 := Lib.hid (HZ6.out.trans (hb7.mono HZ6.out.size))
      have a1 := (hbA.cell (p := ⟨ga, 1, none⟩) hltga).trans A1.out
      have b1 := (hbB.cell (p := ⟨gb, 1, none⟩) hltgb).trans B1.out
      rw [la] at a1
      rw [lb] at b1
      clear hvi hb7 hbA hbB x0 x1 la lb
      go_wp2
      go_ret
      exact ⟨rfl, HZ7.out⟩
    | true =>
      have HQ := Lib.hid hq
      rw [hq] at hvi
      clear hq
      go_wp2_with fail
      refine hvi.mono ?_
      rintro e w7 ⟨rfl, hb7⟩
      have HB7 := Lib.hid (HB6.out.trans (hb7.mono HB6.out.size))
      have HB57 := Lib.hid (HB56.out.trans (hb7.mono HB56.out.size))
      have HZ7 := Lib.hid (HZ6.out.trans (hb7.mono HZ6.out.size))
      clear hvi hb7 x0 x1
      go_wp2_with fail
      refine (drawSub_c _ code _ (HCO.out.later HZ7.out) HLEN.out).mono ?_
      rintro e w8 ⟨VC, y, VD, z, rfl, hC, hCs, hD, hDs, hb8⟩
      obtain ⟨PC, cC, QC, dC, rfl⟩ := Instance_form hC.at_
      obtain ⟨PD, cD, QD, dD, rfl⟩ := Instance_form hD.at_
      obtain ⟨gc, hgc⟩ : ∃ g, g = w8.heap.size := ⟨_, rfl⟩
      obtain ⟨W9, hW9⟩ : ∃ W, W = (w8.alloc (.cells #[.slice PC y.rels.length cC, .slice QC y.facts.length dC] 27)).alloc (.cells #[.slice PD z.rels.length cD, .slice QD z.facts.length dD] 27) := ⟨_, rfl⟩
      have hAl : Below w8.heap.size w8 W9 := by rw [hW9]; exact ((Below.refl _ _).alloc (Nat.le_refl _) _).alloc (by simp) _
      have hgc9 : gc < W9.heap.size := by rw [hW9, hgc]; simp; omega
      have hgd9 : gc + 1 < W9.heap.size := by rw [hW9, hgc]; simp
      have HC := Lib.hid (hC.later hAl).at_
      have HD := Lib.hid (hD.later hAl).at_
      have HB89 := Lib.hid (hb8.trans (hAl.mono hb8.size))
      have HB79 := Lib.hid (HB57.out.trans (HB89.out.mono HB57.out.size))
      have HB9 := Lib.hid (HB5.out.trans (HB79.out.mono HB5.out.size))
      have HB9a := Lib.hid (HB5a.out.trans (HB79.out.mono HB5a.out.size))
      have HB9b := Lib.hid (HB5b.out.trans (HB79.out.mono HB5b.out.size))
      have HZ9 := Lib.hid (HZ7.out.trans (HB89.out.mono HZ7.out.size))
      have hg9 : g < W9.heap.size := Nat.lt_of_lt_of_le hltg HB9.out.size
      have hga9 : ga < W9.heap.size := Nat.lt_of_lt_of_le hltga HB9a.out.size
      have hgb9 : gb < W9.heap.size := Nat.lt_of_lt_of_le hltgb HB9b.out.size
      have G0 := Aft.cell (B := W9.heap.size) (w := W9) hg9 ((HB9.out.cell (p := ⟨g, 0, none⟩) hltg).trans X0.out)
      have G1 := Aft.cell (B := W9.heap.size) (w := W9) hg9 ((HB9.out.cell (p := ⟨g, 1, none⟩) hltg).trans X1.out)
      have G2 := Aft.cell (B := W9.heap.size) (w := W9) hga9 ((HB9a.out.cell (p := ⟨ga, 0, none⟩) hltga).trans A0.out)
      have G3 := Aft.cell (B := W9.heap.size) (w := W9) hga9 ((HB9a.out.cell (p := ⟨ga, 1, none⟩) hltga).trans A1.out)
      have G4 := Aft.cell (B := W9.heap.size) (w := W9) hgb9 ((HB9b.out.cell (p := ⟨gb, 0, none⟩) hltgb).trans B0.out)
      have G5 := Aft.cell (B := W9.heap.size) (w := W9) hgb9 ((HB9b.out.cell (p := ⟨gb, 1, none⟩) hltgb).trans B1.out)
      have G6 := Aft.cell (B := W9.heap.size) (w := W9) hgc9 (show W9.cell? ⟨gc, 0, none⟩ = some (.slice PC y.rels.length cC) by rw [hW9, hgc]; simp [go_sem])
      have G7 := Aft.cell (B := W9.heap.size) (w := W9) hgc9 (show W9.cell? ⟨gc, 1, none⟩ = some (.slice QC y.facts.length dC) by rw [hW9, hgc]; simp [go_sem])
      have G8 := Aft.cell (B := W9.heap.size) (w := W9) hgd9 (show W9.cell? ⟨gc + 1, 0, none⟩ = some (.slice PD z.rels.length cD) by rw [hW9, hgc]; simp [go_sem])
      have G9 := Aft.cell (B := W9.heap.size) (w := W9) hgd9 (show W9.cell? ⟨gc + 1, 1, none⟩ = some (.slice QD z.facts.length dD) by rw [hW9, hgc]; simp [go_sem])
      have HX9 := Lib.hid (((HX.out.below HB9.out (Nat.le_refl _)).more HB9.out.size))
      have HA9 := Lib.hid (((HA.out.below HB9a.out (Nat.le_refl _)).more HB9a.out.size))
      have HB9' := Lib.hid (((HB.out.below HB9b.out (Nat.le_refl _)).more HB9b.out.size))
      have HN9 := Lib.hid (((HN.out.below HB79.out (Nat.le_refl _)).more HB79.out.size))
      have hq := HQ.out
      have hs1 := fun (u : Aft W9.heap.size W9) => implIsSubset_any (.agg #[.slice PA (Restrict_r0 x true).rels.length cA, .slice QA (Restrict_r0 x true).facts.length dA]) (.agg #[.slice P x.rels.length c1, .slice Q x.facts.length d1]) (Restrict_r0 x true) x u.now (((HA9.out.below u.is (Nat.le_refl _)).more u.is.size)) (((HX9.out.below u.is (Nat.le_refl _)).more u.is.size))
      rw [rest_sub hq true] at hs1
      have hs2 := fun (u : Aft W9.heap.size W9) => implIsSubset_any (.agg #[.slice PB (Restrict_r0 x false).rels.length cB, .slice QB (Restrict_r0 x false).facts.length dB]) (.agg #[.slice P x.rels.length c1, .slice Q x.facts.length d1]) (Restrict_r0 x false) x u.now (((HB9'.out.below u.is (Nat.le_refl _)).more u.is.size)) (((HX9.out.below u.is (Nat.le_refl _)).more u.is.size))
      rw [rest_sub hq false] at hs2
      have hs3 := fun (u : Aft W9.heap.size W9) => implIsSubset_any (.agg #[.slice PC y.rels.length cC, .slice QC y.facts.length dC]) (.agg #[.slice PD z.rels.length cD, .slice QD z.facts.length dD]) y z u.now (((HC.out.below u.is (Nat.le_refl _)).more u.is.size)) (((HD.out.below u.is (Nat.le_refl _)).more u.is.size))
      have hs4 := fun (u : Aft W9.heap.size W9) => specIsSubset_any (.agg #[.slice PC y.rels.length cC, .slice QC y.facts.length dC]) (.agg #[.slice PD z.rels.length cD, .slice QD z.facts.length dD]) y z u.now (((HC.out.below u.is (Nat.le_refl _)).more u.is.size)) (((HD.out.below u.is (Nat.le_refl _)).more u.is.size))
      have hn1 := fun (u : Aft W9.heap.size W9) => implNullsOfInstance_any (.agg #[.slice PA (Restrict_r0 x true).rels.length cA, .slice QA (Restrict_r0 x true).facts.length dA]) (Restrict_r0 x true) u.now (((HA9.out.below u.is (Nat.le_refl _)).more u.is.size)) HAW.out HAN.out
      rw [rest_src_nulls hq] at hn1
      have hn2 := fun (u : Aft W9.heap.size W9) => implNullsOfInstance_any (.agg #[.slice PB (Restrict_r0 x false).rels.length cB, .slice QB (Restrict_r0 x false).facts.length dB]) (Restrict_r0 x false) u.now (((HB9'.out.below u.is (Nat.le_refl _)).more u.is.size)) HBW.out HBN.out
      rw [HNT.out hq] at hn2
      have hg1 := fun (u : Aft W9.heap.size W9) => implGround_any (.agg #[.slice P x.rels.length c1, .slice Q x.facts.length d1]) x u.now (((HX9.out.below u.is (Nat.le_refl _)).more u.is.size)) HXW.out HXN.out
      have hGx : groundM x = G := hG
      rw [hGx] at hg1
      have hgn := HGN.out hq
      have hll := rest_len hq
      have HFB := Lib.hid (show x.facts.length ≤ 9 from HXS.out.2.1)
      have hfb := HFB.out
      have hQ1 : (((Restrict_r0 x true).facts.length : Int) + ((Restrict_r0 x false).facts.length : Int) == (x.facts.length : Int)) = true := by rw [beq_iff_eq]; omega
      have hla : (Restrict_r0 x true).facts.length ≤ 9 := by omega
      have hlb : (Restrict_r0 x false).facts.length ≤ 9 := by omega
      generalize subInst y z = qq at *
      have hQ2 : (qq == qq) = true := by simp
      have hQ3 : (G == ((N.length : Int) == 0)) = true := by rw [hgn]; by_cases h0 : N.length = 0 <;> simp [h0]
      have hQ4 : (G == decide ((N.length : Int) = 0)) = true := by rw [hgn]; by_cases h0 : N.length = 0 <;> simp [h0]
      clear hq hgn hGx hC hD hCs hDs hb8 hAl hll
      go_upto_region 12 with fail
      rw [← hgc, ← hW9]
      clear hgc hW9
      have hb := (Below.refl W9.heap.size W9).drew
      refine wp_region_planL (C := fun w' => ∃ u : Aft W9.heap.size W9, w' = u.now) (.still 0 (.still 1 (.still 2 (.still 3 (.still 4 (.still 5 (.still 6 (.still 7 (.still 8 (.still 9 (.still 10 (.still 11 (.still 12 (.still 13 (.move true 14 (.still 15 (.still 16 (.still 17 (.still 18 (.move true 19 (.still 20 (.still 21 (.still 22 (.move true 23 (.still 24 (.still 25 (.still 26 (.still 27 (.still 28 (.move true 29 (.still 30 (.move true 31 (.still 32 (.still 33 (.still 34 (.still 35 (.move true 36 (.still 37 (.still 38 (.move true 39 (.still 40 (.still 41 (.still 42 (.still 43 (.move true 44 (.still 45 (.still 46 (.still 47 (.still 48 (.still 49 (.still 50 .done)))))) .none))))) .none))) .none))))) .none)) .none)))))) .none)))) .none))))) .none))))))))))))))) (by kernel_rfl) (by kernel_rfl) (by kernel_rfl) (fun _ => ⟨⟨W9.drew, hb⟩, rfl⟩) ?_
      iterate 14
        refine plan_look _ rfl rfl ?_
        go_big_quiet_step (fail)
        refine wpQuiet_nil ?_
      refine plan_callG _ 16 _ _ _ _ _ _ rfl rfl _ Try.func16 (by kernel_rfl) (by kernel_rfl) ?_ True.intro
      refine (hs1 ⟨_, hb⟩).mono ?_
      rintro _ wn ⟨rfl, hbn⟩
      replace hb := hb.trans (hbn.mono hb.size)
      clear hbn
      refine ⟨_, rfl, fun _ => ⟨⟨_, hb⟩, rfl⟩, ?_⟩
      refine plan_put ?_ (by simp only [Act.put, List.setIfInBounds_toArray, List.set_cons_succ, List.set_cons_zero]; rfl)
      iterate 4
        refine plan_look _ rfl rfl ?_
        go_big_quiet_step (fail)
        refine wpQuiet_nil ?_
      refine plan_callG _ 16 _ _ _ _ _ _ rfl rfl _ Try.func16 (by kernel_rfl) (by kernel_rfl) ?_ True.intro
      refine (hs2 ⟨_, hb⟩).mono ?_
      rintro _ wn ⟨rfl, hbn⟩
      replace hb := hb.trans (hbn.mono hb.size)
      clear hbn
      refine ⟨_, rfl, fun _ => ⟨⟨_, hb⟩, rfl⟩, ?_⟩
      refine plan_put ?_ (by simp only [Act.put, List.setIfInBounds_toArray, List.set_cons_succ, List.set_cons_zero]; rfl)
      iterate 3
        refine plan_look _ rfl rfl ?_
        go_big_quiet_step (fail)
        refine wpQuiet_nil ?_
      refine plan_callG _ 9 _ _ _ _ _ _ rfl rfl _ Try.func9 (by kernel_rfl) (by kernel_rfl) ?_ True.intro
      refine (hn1 ⟨_, hb⟩).mono ?_
      rintro _ wn ⟨V1, rfl, hO1, hbn⟩
      obtain ⟨P1, c1', rfl, -, -, -⟩ := id hO1.at_
      rw [show ([] : List Int).length = 0 from rfl]
      replace hb := hb.trans (hbn.mono hb.size)
      clear hbn
      refine ⟨_, rfl, fun _ => ⟨⟨_, hb⟩, rfl⟩, ?_⟩
      refine plan_put ?_ (by simp only [Act.put, List.setIfInBounds_toArray, List.set_cons_succ, List.set_cons_zero]; rfl)
      iterate 5
        refine plan_look _ rfl rfl ?_
        go_big_quiet_step (fail)
        refine wpQuiet_nil ?_
      refine plan_callG _ 9 _ _ _ _ _ _ rfl rfl _ Try.func9 (by kernel_rfl) (by kernel_rfl) ?_ True.intro
      refine (hn2 ⟨_, hb⟩).mono ?_
      rintro _ wn ⟨V2, rfl, hO2, hbn⟩
      obtain ⟨P2, c2', rfl, -, -, -⟩ := id hO2.at_
      replace hb := hb.trans (hbn.mono hb.size)
      clear hbn
      refine ⟨_, rfl, fun _ => ⟨⟨_, hb⟩, rfl⟩, ?_⟩
      refine plan_put ?_ (by simp only [Act.put, List.setIfInBounds_toArray, List.set_cons_succ, List.set_cons_zero]; rfl)
      iterate 1
        refine plan_look _ rfl rfl ?_
        go_big_quiet_step (fail)
        refine wpQuiet_nil ?_
      refine plan_callG _ 10 _ _ _ _ _ _ rfl rfl _ Try.func10 (by kernel_rfl) (by kernel_rfl) ?_ True.intro
      refine (sameInts_any _ _ N _ hO2.at_ ((HN9.out.below hb (Nat.le_refl _)).more hb.size)).mono ?_
      rintro _ wn ⟨rfl, hbn⟩
      replace hb := hb.trans (hbn.mono hb.size)
      clear hbn
      refine ⟨_, rfl, fun _ => ⟨⟨_, hb⟩, rfl⟩, ?_⟩
      refine plan_put ?_ (by simp only [Act.put, List.setIfInBounds_toArray, List.set_cons_succ, List.set_cons_zero]; rfl)
      iterate 4
        refine plan_look _ rfl rfl ?_
        go_big_quiet_step (fail)
        refine wpQuiet_nil ?_
      refine plan_callG _ 16 _ _ _ _ _ _ rfl rfl _ Try.func16 (by kernel_rfl) (by kernel_rfl) ?_ True.intro
      refine (hs3 ⟨_, hb⟩).mono ?_
      rintro _ wn ⟨rfl, hbn⟩
      replace hb := hb.trans (hbn.mono hb.size)
      clear hbn
      refine ⟨_, rfl, fun _ => ⟨⟨_, hb⟩, rfl⟩, ?_⟩
      refine plan_put ?_ (by simp only [Act.put, List.setIfInBounds_toArray, List.set_cons_succ, List.set_cons_zero]; rfl)
      iterate 2
        refine plan_look _ rfl rfl ?_
        go_big_quiet_step (fail)
        refine wpQuiet_nil ?_
      refine plan_callG _ 17 _ _ _ _ _ _ rfl rfl _ Try.func17 (by kernel_rfl) (by kernel_rfl) ?_ True.intro
      refine (hs4 ⟨_, hb⟩).mono ?_
      rintro _ wn ⟨rfl, hbn⟩
      replace hb := hb.trans (hbn.mono hb.size)
      clear hbn
      refine ⟨_, rfl, fun _ => ⟨⟨_, hb⟩, rfl⟩, ?_⟩
      refine plan_put ?_ (by simp only [Act.put, List.setIfInBounds_toArray, List.set_cons_succ, List.set_cons_zero]; rfl)
      iterate 4
        refine plan_look _ rfl rfl ?_
        go_big_quiet_step (fail)
        refine wpQuiet_nil ?_
      refine plan_callG _ 12 _ _ _ _ _ _ rfl rfl _ Try.func12 (by kernel_rfl) (by kernel_rfl) ?_ True.intro
      refine (hg1 ⟨_, hb⟩).mono ?_
      rintro _ wn ⟨rfl, hbn⟩
      replace hb := hb.trans (hbn.mono hb.size)
      clear hbn
      refine ⟨_, rfl, fun _ => ⟨⟨_, hb⟩, rfl⟩, ?_⟩
      refine plan_put ?_ (by simp only [Act.put, List.setIfInBounds_toArray, List.set_cons_succ, List.set_cons_zero]; rfl)
      iterate 6
        refine plan_look _ rfl rfl ?_
        go_big_quiet_step (fail)
        refine wpQuiet_nil ?_
      refine plan_done ?_
      clear G0 G1 G2 G3 G4 G5 G6 G7 G8 G9
      go_wp2
      go_ret
      exact ⟨rfl, HZ9.out.trans (hb.mono HZ9.out.size)⟩

end Go.Proofs.Ytobdijcnfmgidaa
