/- Walks and plain lemmas for the laws of this seat. -/
import Derived.Test.YtobdijcnfmgidaaGreatInstU
namespace Go.Proofs.YtobdijcnfmgidaaGreat
open Go.RowKit
set_option maxHeartbeats 3200000 in
set_option maxRecDepth 100000 in
theorem specL5Put_elo (A : Nat) (u : Value) (rels : List Rel) (y : Fct) (P : Option Addr) (c : Nat) (Q : Option Addr) (d : Nat) (w : World) (hA : A ≤ w.heap.size) (hlP : lowB A (.slice P rels.length c)) (hR : RelsAt w w.heap.size (.slice P rels.length c) rels) (hQ : (Q = none ∧ d = 0) ∨ ∃ g, Q = some ⟨g, 0, none⟩) (hd2 : d ≤ maxLen) (h' : Fact_at w w.heap.size u y) (hyn : Fact_sz y ≤ 1048576) :
 Calls Tryz.prog 94 #[.agg #[.slice P rels.length c,.slice Q 0 d],u] w (GivesLo A ⟨rels,[]⟩ y w) := by
 obtain ⟨P',c',rfl⟩ := Fact_form h'
 have HY := Lib.hid h'
 have HR := Lib.hid hR
 have HX := Lib.hid (show Instance_at w w.heap.size (.agg #[.slice P rels.length c,.slice Q 0 d]) ⟨rels,[]⟩ from ⟨_,_,rfl,hR,[],rfl,⟨Q,d,rfl,Nat.zero_le _,hd2,fun h => absurd h (by simp [pairs]),fun e => by rcases hQ with h | ⟨g,h⟩; exact h.2; rw [h] at e; cases e⟩,fun i h => absurd h (by simp)⟩)
 unfold maxLen at hd2
 clear h' hR
 obtain ⟨E,hEq⟩ : ∃ E,E = (((w.alloc (.cells #[.slice P rels.length c,.slice Q 0 d] 27)).alloc (.cells #[.int .i64 y.rel,.slice P' y.vals.length c'] 66)).alloc (.cells #[.slice none 0 0,.slice none 0 0] 27)) := ⟨_,rfl⟩
 have hE : Below w.heap.size w E := by rw [hEq]; exact below_more (below_more (below_more (Below.refl _ _) _) _) _
 have HEz := Lib.hid (show w.heap.size + 3 = E.heap.size by rw [hEq]; simp)
 have K0 := Lib.hid (show E.cell? ⟨w.heap.size,0,none⟩ = some (.slice P rels.length c) by rw [hEq]; simp [go_sem])
 have K1 := Lib.hid (show E.cell? ⟨w.heap.size,1,none⟩ = some (.slice Q 0 d) by rw [hEq]; simp [go_sem])
 have L0 := Lib.hid (show E.cell? ⟨w.heap.size + 1,0,none⟩ = some (.int .i64 y.rel) by rw [hEq]; simp [go_sem])
 have L1 := Lib.hid (show E.cell? ⟨w.heap.size + 1,1,none⟩ = some (.slice P' y.vals.length c') by rw [hEq]; simp [go_sem])
 have R0 := Lib.hid (show E.cell? ⟨w.heap.size + 1 + 1,0,none⟩ = some (.slice none 0 0) by rw [hEq]; simp [go_sem])
 have R1 := Lib.hid (show E.cell? ⟨w.heap.size + 1 + 1,1,none⟩ = some (.slice none 0 0) by rw [hEq]; simp [go_sem])
 have R2 := fun o => Lib.hid (show E.frozen? ⟨w.heap.size + 1 + 1,o,none⟩ = false by rw [hEq]; simp [go_sem])
 have hpl := specL5Place_any (.agg #[.slice P rels.length c,.slice Q 0 d]) (.agg #[.int .i64 y.rel,.slice P' y.vals.length c']) ⟨rels,[]⟩ y E ((HX.out.below hE (Nat.le_refl _)).more hE.size) ((HY.out.below hE (Nat.le_refl _)).more hE.size)
 rw [show placeF y (⟨rels,[]⟩ : Inst).facts = -1 from rfl,hEq] at hpl
 have HPU := Lib.hid (show putF (⟨rels,[]⟩ : Inst).facts y = [y] from rfl)
 go_enter Tryz.func94,Tryz.ntmps94
 go_wp2_with fail
 refine hpl.mono ?_
 rintro e w1 ⟨rfl,hb1⟩
 rw [← hEq] at hb1
 have HB1 := Lib.hid hb1
 clear hpl hEq hb1
 go_wp2
 go_loopw [5] (fun i wr => i = .int .i64 0 ∧ Below E.heap.size E wr) (fun _ _ => 0)
 case atStart => exact ⟨rfl,HB1.out⟩
 case round =>
  obtain ⟨rfl,hW⟩ := hrel
  have hWw := hE.trans (hW.mono hE.size)
  have hzz : w.heap.size + 2 < wr.heap.size := by have h1 := hW.size; have h2 := HEz.out; omega
  have f0 := (hW.cell (p := ⟨w.heap.size,0,none⟩) (by show w.heap.size < _; have := HEz.out; omega)).trans K0.out
  have f1 := (hW.cell (p := ⟨w.heap.size,1,none⟩) (by show w.heap.size < _; have := HEz.out; omega)).trans K1.out
  have g0 := (hW.cell (p := ⟨w.heap.size + 1,0,none⟩) (by show w.heap.size + 1 < _; have := HEz.out; omega)).trans L0.out
  have g1 := (hW.cell (p := ⟨w.heap.size + 1,1,none⟩) (by show w.heap.size + 1 < _; have := HEz.out; omega)).trans L1.out
  have G0 := Aft.cell (B := wr.heap.size) (w := wr) (show w.heap.size < _ by omega) f0
  have G1 := Aft.cell (B := wr.heap.size) (w := wr) (show w.heap.size < _ by omega) f1
  have G2 := Aft.cell (B := wr.heap.size) (w := wr) (show w.heap.size + 1 < _ by omega) g0
  have G3 := Aft.cell (B := wr.heap.size) (w := wr) (show w.heap.size + 1 < _ by omega) g1
  clear f0 f1 g0 g1
  rcases hQ with ⟨rfl,rfl⟩ | ⟨g,rfl⟩
  · skip
    go_wp2
    refine wp_region_aft (Below.refl wr.heap.size wr) (by kernel_rfl) (by kernel_rfl) ?_
    repeat (go_big_quiet_step (fail))
    refine wpQuiet_nil ?_
    refine aft_end ?_
    intro w2 hh
    clear G0 G1 G2 G3
    have hW2 := hWw.trans (hh.mono hWw.size)
    have hE2 := hW.trans (hh.mono hW.size)
    have hzz2 : w.heap.size + 2 < w2.heap.size := by have := hh.size; omega
    have f0 := (hE2.cell (p := ⟨w.heap.size,0,none⟩) (by show w.heap.size < _; have := HEz.out; omega)).trans K0.out
    have f1 := (hE2.cell (p := ⟨w.heap.size,1,none⟩) (by show w.heap.size < _; have := HEz.out; omega)).trans K1.out
    have g0 := (hE2.cell (p := ⟨w.heap.size + 1,0,none⟩) (by show w.heap.size + 1 < _; have := HEz.out; omega)).trans L0.out
    have g1 := (hE2.cell (p := ⟨w.heap.size + 1,1,none⟩) (by show w.heap.size + 1 < _; have := HEz.out; omega)).trans L1.out
    have G1 := Aft.cell (B := w2.heap.size) (w := w2) (show w.heap.size < _ by omega) f1
    have G2 := Aft.cell (B := w2.heap.size) (w := w2) (show w.heap.size + 1 < _ by omega) g0
    have G3 := Aft.cell (B := w2.heap.size) (w := w2) (show w.heap.size + 1 < _ by omega) g1
    have HW2 := Lib.hid hW2
    have HE2 := Lib.hid hE2
    have HWd := Lib.hid (show Below w.heap.size w w2.drew from hW2.drew)
    clear f0 f1 g0 g1 hW2 hE2 hh
    have HS6 := Lib.hid (show SliceAt pairCells w w.heap.size (.slice none ([] : List (Int × Value)).length 0) [] from SliceAt.none_of (by unfold maxLen; omega) (fun h => by first | rfl | cases h))
    have HS7 := Lib.hid (show SliceAt pairCells w w.heap.size (.slice none ([] : List (Int × Value)).length 0) [] from SliceAt.none_of (by unfold maxLen; omega) (fun h => by first | rfl | cases h))
    have hm6 : ([] : List (Int × Value)).length = 0 := rfl
    have hm7 : ([] : List (Int × Value)).length = 0 := rfl
    go_wp2
    refine wp_region_planL (C := fun w' => ∃ u : Aft w2.heap.size w2,w' = u.now) (.still 0 (.still 3 (.still 4 (.still 5 (.still 6 (.move true 1 (.move true 2 (.move true 7 (.still 8 .done) .none) .none) .none)))))) (by kernel_rfl) (by kernel_rfl) (by kernel_rfl) (fun _ => ⟨⟨_,(Below.refl _ _).drew⟩,rfl⟩) ?_
    iterate 5
     refine plan_look _ rfl rfl ?_
     go_big_quiet_step (fail)
     refine wpQuiet_nil ?_
    refine plan_call _ 92 _ _ _ _ _ rfl _ Tryz.func92 (by kernel_rfl) (by kernel_rfl) ?_ True.intro
    refine (specL5Fact_any (.agg #[.int .i64 y.rel,.slice P' y.vals.length c']) y w2.drew ((HY.out.below HWd.out (Nat.le_refl _)).more HWd.out.size) hyn).mono ?_
    rintro _ w3 ⟨u3,rfl,⟨U,rfl,hU⟩,hb3⟩
    have hb3' : Below w2.heap.size w2 w3 := (Below.refl _ _).drew.trans hb3
    refine ⟨_,rfl,fun _ => ⟨⟨_,hb3'⟩,rfl⟩,?_⟩
    refine plan_put ?_ (by simp only [Act.put,putA,putB,putC]; rfl)
    obtain ⟨PU,cu,rfl,-⟩ := hU.1.at_
    have hz3 := hb3'.size
    refine plan_value (u := .slice (some ⟨w3.heap.size,0,none⟩) 1 1) (w' := w3.alloc (.cells #[.int .i64 y.rel,.slice PU y.vals.length cu] 66)) _ rfl rfl rfl (by simp [go_sem]) (fun _ => ⟨⟨_,hb3'.alloc hz3 _⟩,rfl⟩) ?_ True.intro
    refine plan_put ?_ (by simp only [Act.put,putA,putB,putC]; rfl)
    have hrow1 : (w3.alloc (.cells #[.int .i64 y.rel,.slice PU y.vals.length cu] 66)).ownsRow w3.heap.size 66 2 (.slice (some ⟨w3.heap.size,0,none⟩) 1 1) [(y.rel,Value.slice PU y.vals.length cu)].length ([(y.rel,Value.slice PU y.vals.length cu)].flatMap pairCells) := World.ownsRow_lit w3 #[.int .i64 y.rel,.slice PU y.vals.length cu] 1 (Nat.le_refl _) (by decide) rfl
    have hwA : Below w.heap.size w (w3.alloc (.cells #[.int .i64 y.rel,.slice PU y.vals.length cu] 66)) := HW2.out.trans ((hb3'.alloc hz3 _).mono HW2.out.size)
    refine plan_apps pairCells 2 32 (r := ([] : List (Int × Value))) (fun p hp => absurd hp (by simp)) pairCells_len _ rfl rfl Tryz.underlying25 infoFct rfl (by decide) hrow1 _ _ rfl rfl (none) (0) (0) rfl hm6 (HS6.out.below hwA (Nat.le_refl _)) (by simp <;> omega) (by simp <;> omega) (by simp) ?_ True.intro
    intro v4 w4 hrow4 hB4 hg4 _
    have hb4 : Below w2.heap.size w2 w4 := (hb3'.alloc hz3 _).trans (hB4.mono hz3)
    refine ⟨fun _ => ⟨⟨_,hb4⟩,rfl⟩,?_⟩
    obtain ⟨A4,c4,rfl,-⟩ := SliceAt.of_own hrow4
    have HR4 := Lib.hid hrow4
    have HU := Lib.hid (show IntS_own w2.heap.size w3.heap.size (.slice PU y.vals.length cu) y.vals w3 from hU)
    have hB34 := (Below.refl w3.heap.size w3).alloc (Nat.le_refl _) (.cells #[.int .i64 y.rel,.slice PU y.vals.length cu] 66) |>.trans hB4
    have HB34 := Lib.hid hB34
    have HB4 := Lib.hid hb4
    have hL4 : ([(y.rel,Value.slice PU y.vals.length cu)] ++ ([] : List (Int × Value))).length = 0 + 1 := by rw [List.length_append,hm6]; simp <;> omega
    rw [hL4]
    refine plan_put ?_ (by simp only [Act.put,putA,putB,putC]; rfl)
    refine plan_look _ rfl rfl ?_
    go_big_quiet_step (fail)
    refine wpQuiet_nil ?_
    refine plan_done ?_
    clear hrow4 hU hb3 hb3' hz3 hrow1 hwA hB4 hg4 hb4 G1 G2 G3 hB34
    have hzz4 : w.heap.size + 2 < w4.heap.size := by have := HB4.out.size; omega
    have hE4 := HE2.out.trans (HB4.out.mono HE2.out.size)
    have G0 := Aft.cell (B := w4.heap.size) (w := w4) (show w.heap.size < _ by omega) ((hE4.cell (p := ⟨w.heap.size,0,none⟩) (by show w.heap.size < _; have := HEz.out; omega)).trans K0.out)
    have G1 := Aft.cell (B := w4.heap.size) (w := w4) (show w.heap.size < _ by omega) ((hE4.cell (p := ⟨w.heap.size,1,none⟩) (by show w.heap.size < _; have := HEz.out; omega)).trans K1.out)
    have hwB : Below w.heap.size w (w4.drew.alloc (.cells #[] 66)) := ((HW2.out.trans (HB4.out.mono HW2.out.size)).drew).alloc (by show w.heap.size ≤ w4.heap.size; omega) _
    have HE4 := Lib.hid hE4
    clear hE4
    go_wp2
    refine wp_region_planL (C := fun w' => ∃ u : Aft w4.heap.size w4,w' = u.now) (.still 0 (.still 1 (.still 3 (.still 4 (.still 5 (.still 6 (.still 8 (.move true 2 (.move true 7 (.move true 9 (.still 10 (.move false 11 .done .none)) .none) .none) .none)))))))) (by kernel_rfl) (by kernel_rfl) (by kernel_rfl) (fun _ => ⟨⟨_,(Below.refl _ _).drew⟩,rfl⟩) ?_
    iterate 7
     refine plan_look _ rfl rfl ?_
     go_big_quiet_step (fail)
     refine wpQuiet_nil ?_
    have hAd : Below w4.heap.size w4 (w4.drew.alloc (.cells #[] 66)) := (Below.refl w4.heap.size w4).drew.alloc (show w4.heap.size ≤ w4.drew.heap.size from Nat.le_refl _) _
    refine plan_value (u := .slice (some ⟨w4.heap.size,0,none⟩) 0 0) (w' := w4.drew.alloc (.cells #[] 66)) _ rfl rfl rfl (by simp [go_sem]) (fun _ => ⟨⟨_,hAd⟩,rfl⟩) ?_ True.intro
    refine plan_put ?_ (by simp only [Act.put,putA,putB,putC]; rfl)
    have hrow0 : (w4.drew.alloc (.cells #[] 66)).ownsRow w4.heap.size 66 2 (.slice (some ⟨w4.heap.size,0,none⟩) 0 0) ([] : List (Int × Value)).length (([] : List (Int × Value)).flatMap pairCells) := World.ownsRow_lit w4.drew #[] 0 (Nat.le_refl _) (by decide) rfl
    refine plan_apps pairCells 2 32 (r := ([] : List (Int × Value))) (fun p hp => absurd hp (by simp)) pairCells_len _ rfl rfl Tryz.underlying25 infoFct rfl (by decide) hrow0 _ _ rfl rfl (none) (0) (0) rfl hm7 (HS7.out.below hwB (Nat.le_refl _)) (by rw [hm7]; simp <;> omega) (by rw [hm7]; simp <;> omega) (by have := hAd.size; exact this) ?_ True.intro
    intro v5 w5 hrow5 hB5 hg5 _
    have hb5 := hAd.trans hB5
    refine ⟨fun _ => ⟨⟨_,hb5⟩,rfl⟩,?_⟩
    refine plan_put ?_ (by simp only [Act.put,putA,putB,putC]; rfl)
    refine plan_apps pairCells 2 32 (r := [(y.rel,Value.slice PU y.vals.length cu)] ++ ([] : List (Int × Value))) (fun p hp => by
     have hp' : p = (y.rel,Value.slice PU y.vals.length cu) := by simpa using hp
     rw [hp']; intro u hu; simp [pairCells] at hu; rcases hu with rfl | rfl <;> rfl) pairCells_len _ rfl rfl Tryz.underlying25 infoFct rfl (by decide) hrow5 _ _ rfl rfl A4 (0 + 1) c4 rfl hL4 ((SliceAt.of_own HR4.out).below hb5 (Nat.le_refl _)) (by rw [List.length_append,hm7,hL4]; simp <;> omega) (by rw [List.length_append,hm7,hL4]; simp <;> omega) hb5.size ?_ True.intro
    intro v6 w6 hrow6 hB6 hg6 _
    have hb6 := hb5.trans hB6
    refine ⟨fun _ => ⟨⟨_,hb6⟩,rfl⟩,?_⟩
    obtain ⟨A8,c8,rfl,-⟩ := SliceAt.of_own hrow6
    have heq : ([] ++ ([] : List (Int × Value))) ++ ([(y.rel,Value.slice PU y.vals.length cu)] ++ ([] : List (Int × Value))) = pairs [y] [Value.slice PU y.vals.length cu] := rfl
    rw [heq] at hrow6 ⊢
    generalize hN8 : (pairs [y] [Value.slice PU y.vals.length cu]).length = N8 at *
    refine plan_put ?_ (by simp only [Act.put,putA,putB,putC]; rfl)
    have hE6 := HE4.out.trans (hb6.mono HE4.out.size)
    have r0 := (hE6.cell (p := ⟨w.heap.size + 1 + 1,0,none⟩) (by show w.heap.size + 1 + 1 < _; have := HEz.out; omega)).trans R0.out
    have r1 := (hE6.cell (p := ⟨w.heap.size + 1 + 1,1,none⟩) (by show w.heap.size + 1 + 1 < _; have := HEz.out; omega)).trans R1.out
    have r2 := fun o => (hE6.frozen (p := ⟨w.heap.size + 1 + 1,o,none⟩) (by show w.heap.size + 1 + 1 < _; have := HEz.out; omega)).trans (R2 o).out
    refine plan_look _ rfl rfl ?_
    go_big_quiet_step (fail)
    refine wpQuiet_nil ?_
    refine plan_skip (w' := (w6.setCell ⟨w.heap.size + 1 + 1,0,none⟩ (.slice P rels.length c)).setCell ⟨w.heap.size + 1 + 1,1,none⟩ (.slice A8 N8 c8)) _ rfl rfl rfl (by simp [go_sem,r0,r1,r2]) (fun e => by cases e) ?_ True.intro
    refine plan_put ?_ (by simp only [Act.put]; rfl)
    refine plan_done ?_
    have hcw : Chg (fun g => g = w.heap.size + 1 + 1) w6 ((w6.setCell ⟨w.heap.size + 1 + 1,0,none⟩ (.slice P rels.length c)).setCell ⟨w.heap.size + 1 + 1,1,none⟩ (.slice A8 N8 c8)) := ((Chg.refl (fun g => g = w.heap.size + 1 + 1) w6).setCell (p := ⟨w.heap.size + 1 + 1,0,none⟩) rfl _).setCell (p := ⟨w.heap.size + 1 + 1,1,none⟩) rfl _
    have hw6 := HW2.out.trans ((HB4.out.trans (hb6.mono HB4.out.size)).mono HW2.out.size)
    have hfin := (hw6.setCell (p := ⟨w.heap.size + 1 + 1,0,none⟩) (by show w.heap.size ≤ w.heap.size + 1 + 1; omega) (.slice P rels.length c)).setCell (p := ⟨w.heap.size + 1 + 1,1,none⟩) (by show w.heap.size ≤ w.heap.size + 1 + 1; omega) (.slice A8 N8 c8)
    have hrowF := hcw.row hrow6 (fun g hg e => by have := (World.ownsRow.lt hrow6 g hg).1; omega)
    rw [← hN8] at hrowF
    have hSF := SliceAt.of_own hrowF
    rw [hN8] at hSF
    have hs6 : w3.heap.size ≤ w6.heap.size := Nat.le_trans HB34.out.size hb6.size
    have hUF := ((HU.out.below (HB34.out.trans (hb6.mono HB34.out.size)) (Nat.le_refl _)).chg (B' := w.heap.size + 1 + 1) (C' := w.heap.size + 1 + 1 + 1) (hcw.mono fun g hg => by subst hg; exact ⟨Nat.le_refl _,Nat.lt_succ_self _⟩) (.inr (by omega))).at_ (D := ((w6.setCell ⟨w.heap.size + 1 + 1,0,none⟩ (.slice P rels.length c)).setCell ⟨w.heap.size + 1 + 1,1,none⟩ (.slice A8 N8 c8)).heap.size) (by simp [World.setCell]; omega)
    have HL8 := Lib.hid (show lowB A (.slice A8 N8 c8) ∧ lowB A (.slice PU y.vals.length cu) from ⟨fun g hg => by have h1 := (World.ownsRow.lt hrow6 g hg).1; have h2 := HE4.out.size; have h3 := HEz.out; omega,fun g hg => by have h1 := (HU.out.1.lt g hg).1; have h2 := HW2.out.size; omega⟩)
    clear hE6 hrow0 hrow5 hrow6 hB5 hg5 hB6 hg6 hcw hw6 hAd hwB
    go_wp2
    refine bodyPost_ret (v := .agg #[.slice P rels.length c,.slice A8 N8 c8]) (by simp [results,Tryz.results94,go_sem,r0,r1]) rfl ⟨_,rfl,?_,hfin⟩
    rw [HPU.out]
    exact ⟨_,_,[Value.slice PU y.vals.length cu],rfl,(HR.out.below hfin (Nat.le_refl _)).more hfin.size,hlP,HL8.out.1,rfl,hSF,(fun i h h' => by
     have hi0 : i = 0 := by simp at h; omega
     subst hi0
     exact hUF),fun V hV => by rw [List.mem_singleton.1 hV]; exact HL8.out.2⟩
  · by_cases hdk : d = 0
    · subst hdk
      go_wp2
      refine wp_region_aft (Below.refl wr.heap.size wr) (by kernel_rfl) (by kernel_rfl) ?_
      repeat (go_big_quiet_step (fail))
      refine wpQuiet_nil ?_
      refine aft_end ?_
      intro w2 hh
      clear G0 G1 G2 G3
      have hW2 := hWw.trans (hh.mono hWw.size)
      have hE2 := hW.trans (hh.mono hW.size)
      have hzz2 : w.heap.size + 2 < w2.heap.size := by have := hh.size; omega
      have f0 := (hE2.cell (p := ⟨w.heap.size,0,none⟩) (by show w.heap.size < _; have := HEz.out; omega)).trans K0.out
      have f1 := (hE2.cell (p := ⟨w.heap.size,1,none⟩) (by show w.heap.size < _; have := HEz.out; omega)).trans K1.out
      have g0 := (hE2.cell (p := ⟨w.heap.size + 1,0,none⟩) (by show w.heap.size + 1 < _; have := HEz.out; omega)).trans L0.out
      have g1 := (hE2.cell (p := ⟨w.heap.size + 1,1,none⟩) (by show w.heap.size + 1 < _; have := HEz.out; omega)).trans L1.out
      have G1 := Aft.cell (B := w2.heap.size) (w := w2) (show w.heap.size < _ by omega) f1
      have G2 := Aft.cell (B := w2.heap.size) (w := w2) (show w.heap.size + 1 < _ by omega) g0
      have G3 := Aft.cell (B := w2.heap.size) (w := w2) (show w.heap.size + 1 < _ by omega) g1
      have HW2 := Lib.hid hW2
      have HE2 := Lib.hid hE2
      have HWd := Lib.hid (show Below w.heap.size w w2.drew from hW2.drew)
      clear f0 f1 g0 g1 hW2 hE2 hh
      have HS6 := Lib.hid (show SliceAt pairCells w w.heap.size (.slice (some ⟨g,0,none⟩) ([] : List (Int × Value)).length 0) [] from SliceAt.none_of (by unfold maxLen; omega) (fun h => by first | rfl | cases h))
      have HS7 := Lib.hid (show SliceAt pairCells w w.heap.size (.slice (some ⟨g,0,none⟩) ([] : List (Int × Value)).length 0) [] from SliceAt.none_of (by unfold maxLen; omega) (fun h => by first | rfl | cases h))
      have hm6 : ([] : List (Int × Value)).length = 0 := rfl
      have hm7 : ([] : List (Int × Value)).length = 0 := rfl
      go_wp2
      refine wp_region_planL (C := fun w' => ∃ u : Aft w2.heap.size w2,w' = u.now) (.still 0 (.still 3 (.still 4 (.still 5 (.still 6 (.move true 1 (.move true 2 (.move true 7 (.still 8 .done) .none) .none) .none)))))) (by kernel_rfl) (by kernel_rfl) (by kernel_rfl) (fun _ => ⟨⟨_,(Below.refl _ _).drew⟩,rfl⟩) ?_
      iterate 5
       refine plan_look _ rfl rfl ?_
       go_big_quiet_step (fail)
       refine wpQuiet_nil ?_
      refine plan_call _ 92 _ _ _ _ _ rfl _ Tryz.func92 (by kernel_rfl) (by kernel_rfl) ?_ True.intro
      refine (specL5Fact_any (.agg #[.int .i64 y.rel,.slice P' y.vals.length c']) y w2.drew ((HY.out.below HWd.out (Nat.le_refl _)).more HWd.out.size) hyn).mono ?_
      rintro _ w3 ⟨u3,rfl,⟨U,rfl,hU⟩,hb3⟩
      have hb3' : Below w2.heap.size w2 w3 := (Below.refl _ _).drew.trans hb3
      refine ⟨_,rfl,fun _ => ⟨⟨_,hb3'⟩,rfl⟩,?_⟩
      refine plan_put ?_ (by simp only [Act.put,putA,putB,putC]; rfl)
      obtain ⟨PU,cu,rfl,-⟩ := hU.1.at_
      have hz3 := hb3'.size
      refine plan_value (u := .slice (some ⟨w3.heap.size,0,none⟩) 1 1) (w' := w3.alloc (.cells #[.int .i64 y.rel,.slice PU y.vals.length cu] 66)) _ rfl rfl rfl (by simp [go_sem]) (fun _ => ⟨⟨_,hb3'.alloc hz3 _⟩,rfl⟩) ?_ True.intro
      refine plan_put ?_ (by simp only [Act.put,putA,putB,putC]; rfl)
      have hrow1 : (w3.alloc (.cells #[.int .i64 y.rel,.slice PU y.vals.length cu] 66)).ownsRow w3.heap.size 66 2 (.slice (some ⟨w3.heap.size,0,none⟩) 1 1) [(y.rel,Value.slice PU y.vals.length cu)].length ([(y.rel,Value.slice PU y.vals.length cu)].flatMap pairCells) := World.ownsRow_lit w3 #[.int .i64 y.rel,.slice PU y.vals.length cu] 1 (Nat.le_refl _) (by decide) rfl
      have hwA : Below w.heap.size w (w3.alloc (.cells #[.int .i64 y.rel,.slice PU y.vals.length cu] 66)) := HW2.out.trans ((hb3'.alloc hz3 _).mono HW2.out.size)
      refine plan_apps pairCells 2 32 (r := ([] : List (Int × Value))) (fun p hp => absurd hp (by simp)) pairCells_len _ rfl rfl Tryz.underlying25 infoFct rfl (by decide) hrow1 _ _ rfl rfl ((some ⟨g,0,none⟩)) (0) (0) rfl hm6 (HS6.out.below hwA (Nat.le_refl _)) (by simp <;> omega) (by simp <;> omega) (by simp) ?_ True.intro
      intro v4 w4 hrow4 hB4 hg4 _
      have hb4 : Below w2.heap.size w2 w4 := (hb3'.alloc hz3 _).trans (hB4.mono hz3)
      refine ⟨fun _ => ⟨⟨_,hb4⟩,rfl⟩,?_⟩
      obtain ⟨A4,c4,rfl,-⟩ := SliceAt.of_own hrow4
      have HR4 := Lib.hid hrow4
      have HU := Lib.hid (show IntS_own w2.heap.size w3.heap.size (.slice PU y.vals.length cu) y.vals w3 from hU)
      have hB34 := (Below.refl w3.heap.size w3).alloc (Nat.le_refl _) (.cells #[.int .i64 y.rel,.slice PU y.vals.length cu] 66) |>.trans hB4
      have HB34 := Lib.hid hB34
      have HB4 := Lib.hid hb4
      have hL4 : ([(y.rel,Value.slice PU y.vals.length cu)] ++ ([] : List (Int × Value))).length = 0 + 1 := by rw [List.length_append,hm6]; simp <;> omega
      rw [hL4]
      refine plan_put ?_ (by simp only [Act.put,putA,putB,putC]; rfl)
      refine plan_look _ rfl rfl ?_
      go_big_quiet_step (fail)
      refine wpQuiet_nil ?_
      refine plan_done ?_
      clear hrow4 hU hb3 hb3' hz3 hrow1 hwA hB4 hg4 hb4 G1 G2 G3 hB34
      have hzz4 : w.heap.size + 2 < w4.heap.size := by have := HB4.out.size; omega
      have hE4 := HE2.out.trans (HB4.out.mono HE2.out.size)
      have G0 := Aft.cell (B := w4.heap.size) (w := w4) (show w.heap.size < _ by omega) ((hE4.cell (p := ⟨w.heap.size,0,none⟩) (by show w.heap.size < _; have := HEz.out; omega)).trans K0.out)
      have G1 := Aft.cell (B := w4.heap.size) (w := w4) (show w.heap.size < _ by omega) ((hE4.cell (p := ⟨w.heap.size,1,none⟩) (by show w.heap.size < _; have := HEz.out; omega)).trans K1.out)
      have hwB : Below w.heap.size w (w4.drew.alloc (.cells #[] 66)) := ((HW2.out.trans (HB4.out.mono HW2.out.size)).drew).alloc (by show w.heap.size ≤ w4.heap.size; omega) _
      have HE4 := Lib.hid hE4
      clear hE4
      go_wp2
      refine wp_region_planL (C := fun w' => ∃ u : Aft w4.heap.size w4,w' = u.now) (.still 0 (.still 1 (.still 3 (.still 4 (.still 5 (.still 6 (.still 8 (.move true 2 (.move true 7 (.move true 9 (.still 10 (.move false 11 .done .none)) .none) .none) .none)))))))) (by kernel_rfl) (by kernel_rfl) (by kernel_rfl) (fun _ => ⟨⟨_,(Below.refl _ _).drew⟩,rfl⟩) ?_
      iterate 7
       refine plan_look _ rfl rfl ?_
       go_big_quiet_step (fail)
       refine wpQuiet_nil ?_
      have hAd : Below w4.heap.size w4 (w4.drew.alloc (.cells #[] 66)) := (Below.refl w4.heap.size w4).drew.alloc (show w4.heap.size ≤ w4.drew.heap.size from Nat.le_refl _) _
      refine plan_value (u := .slice (some ⟨w4.heap.size,0,none⟩) 0 0) (w' := w4.drew.alloc (.cells #[] 66)) _ rfl rfl rfl (by simp [go_sem]) (fun _ => ⟨⟨_,hAd⟩,rfl⟩) ?_ True.intro
      refine plan_put ?_ (by simp only [Act.put,putA,putB,putC]; rfl)
      have hrow0 : (w4.drew.alloc (.cells #[] 66)).ownsRow w4.heap.size 66 2 (.slice (some ⟨w4.heap.size,0,none⟩) 0 0) ([] : List (Int × Value)).length (([] : List (Int × Value)).flatMap pairCells) := World.ownsRow_lit w4.drew #[] 0 (Nat.le_refl _) (by decide) rfl
      refine plan_apps pairCells 2 32 (r := ([] : List (Int × Value))) (fun p hp => absurd hp (by simp)) pairCells_len _ rfl rfl Tryz.underlying25 infoFct rfl (by decide) hrow0 _ _ rfl rfl ((some ⟨g,0,none⟩)) (0) (0) rfl hm7 (HS7.out.below hwB (Nat.le_refl _)) (by rw [hm7]; simp <;> omega) (by rw [hm7]; simp <;> omega) (by have := hAd.size; exact this) ?_ True.intro
      intro v5 w5 hrow5 hB5 hg5 _
      have hb5 := hAd.trans hB5
      refine ⟨fun _ => ⟨⟨_,hb5⟩,rfl⟩,?_⟩
      refine plan_put ?_ (by simp only [Act.put,putA,putB,putC]; rfl)
      refine plan_apps pairCells 2 32 (r := [(y.rel,Value.slice PU y.vals.length cu)] ++ ([] : List (Int × Value))) (fun p hp => by
       have hp' : p = (y.rel,Value.slice PU y.vals.length cu) := by simpa using hp
       rw [hp']; intro u hu; simp [pairCells] at hu; rcases hu with rfl | rfl <;> rfl) pairCells_len _ rfl rfl Tryz.underlying25 infoFct rfl (by decide) hrow5 _ _ rfl rfl A4 (0 + 1) c4 rfl hL4 ((SliceAt.of_own HR4.out).below hb5 (Nat.le_refl _)) (by rw [List.length_append,hm7,hL4]; simp <;> omega) (by rw [List.length_append,hm7,hL4]; simp <;> omega) hb5.size ?_ True.intro
      intro v6 w6 hrow6 hB6 hg6 _
      have hb6 := hb5.trans hB6
      refine ⟨fun _ => ⟨⟨_,hb6⟩,rfl⟩,?_⟩
      obtain ⟨A8,c8,rfl,-⟩ := SliceAt.of_own hrow6
      have heq : ([] ++ ([] : List (Int × Value))) ++ ([(y.rel,Value.slice PU y.vals.length cu)] ++ ([] : List (Int × Value))) = pairs [y] [Value.slice PU y.vals.length cu] := rfl
      rw [heq] at hrow6 ⊢
      generalize hN8 : (pairs [y] [Value.slice PU y.vals.length cu]).length = N8 at *
      refine plan_put ?_ (by simp only [Act.put,putA,putB,putC]; rfl)
      have hE6 := HE4.out.trans (hb6.mono HE4.out.size)
      have r0 := (hE6.cell (p := ⟨w.heap.size + 1 + 1,0,none⟩) (by show w.heap.size + 1 + 1 < _; have := HEz.out; omega)).trans R0.out
      have r1 := (hE6.cell (p := ⟨w.heap.size + 1 + 1,1,none⟩) (by show w.heap.size + 1 + 1 < _; have := HEz.out; omega)).trans R1.out
      have r2 := fun o => (hE6.frozen (p := ⟨w.heap.size + 1 + 1,o,none⟩) (by show w.heap.size + 1 + 1 < _; have := HEz.out; omega)).trans (R2 o).out
      refine plan_look _ rfl rfl ?_
      go_big_quiet_step (fail)
      refine wpQuiet_nil ?_
      refine plan_skip (w' := (w6.setCell ⟨w.heap.size + 1 + 1,0,none⟩ (.slice P rels.length c)).setCell ⟨w.heap.size + 1 + 1,1,none⟩ (.slice A8 N8 c8)) _ rfl rfl rfl (by simp [go_sem,r0,r1,r2]) (fun e => by cases e) ?_ True.intro
      refine plan_put ?_ (by simp only [Act.put]; rfl)
      refine plan_done ?_
      have hcw : Chg (fun g => g = w.heap.size + 1 + 1) w6 ((w6.setCell ⟨w.heap.size + 1 + 1,0,none⟩ (.slice P rels.length c)).setCell ⟨w.heap.size + 1 + 1,1,none⟩ (.slice A8 N8 c8)) := ((Chg.refl (fun g => g = w.heap.size + 1 + 1) w6).setCell (p := ⟨w.heap.size + 1 + 1,0,none⟩) rfl _).setCell (p := ⟨w.heap.size + 1 + 1,1,none⟩) rfl _
      have hw6 := HW2.out.trans ((HB4.out.trans (hb6.mono HB4.out.size)).mono HW2.out.size)
      have hfin := (hw6.setCell (p := ⟨w.heap.size + 1 + 1,0,none⟩) (by show w.heap.size ≤ w.heap.size + 1 + 1; omega) (.slice P rels.length c)).setCell (p := ⟨w.heap.size + 1 + 1,1,none⟩) (by show w.heap.size ≤ w.heap.size + 1 + 1; omega) (.slice A8 N8 c8)
      have hrowF := hcw.row hrow6 (fun g hg e => by have := (World.ownsRow.lt hrow6 g hg).1; omega)
      rw [← hN8] at hrowF
      have hSF := SliceAt.of_own hrowF
      rw [hN8] at hSF
      have hs6 : w3.heap.size ≤ w6.heap.size := Nat.le_trans HB34.out.size hb6.size
      have hUF := ((HU.out.below (HB34.out.trans (hb6.mono HB34.out.size)) (Nat.le_refl _)).chg (B' := w.heap.size + 1 + 1) (C' := w.heap.size + 1 + 1 + 1) (hcw.mono fun g hg => by subst hg; exact ⟨Nat.le_refl _,Nat.lt_succ_self _⟩) (.inr (by omega))).at_ (D := ((w6.setCell ⟨w.heap.size + 1 + 1,0,none⟩ (.slice P rels.length c)).setCell ⟨w.heap.size + 1 + 1,1,none⟩ (.slice A8 N8 c8)).heap.size) (by simp [World.setCell]; omega)
      have HL8 := Lib.hid (show lowB A (.slice A8 N8 c8) ∧ lowB A (.slice PU y.vals.length cu) from ⟨fun g hg => by have h1 := (World.ownsRow.lt hrow6 g hg).1; have h2 := HE4.out.size; have h3 := HEz.out; omega,fun g hg => by have h1 := (HU.out.1.lt g hg).1; have h2 := HW2.out.size; omega⟩)
      clear hE6 hrow0 hrow5 hrow6 hB5 hg5 hB6 hg6 hcw hw6 hAd hwB
      go_wp2
      refine bodyPost_ret (v := .agg #[.slice P rels.length c,.slice A8 N8 c8]) (by simp [results,Tryz.results94,go_sem,r0,r1]) rfl ⟨_,rfl,?_,hfin⟩
      rw [HPU.out]
      exact ⟨_,_,[Value.slice PU y.vals.length cu],rfl,(HR.out.below hfin (Nat.le_refl _)).more hfin.size,hlP,HL8.out.1,rfl,hSF,(fun i h h' => by
       have hi0 : i = 0 := by simp at h; omega
       subst hi0
       exact hUF),fun V hV => by rw [List.mem_singleton.1 hV]; exact HL8.out.2⟩
    · skip
      go_wp2
      refine wp_region_aft (Below.refl wr.heap.size wr) (by kernel_rfl) (by kernel_rfl) ?_
      repeat (go_big_quiet_step (fail))
      refine wpQuiet_nil ?_
      refine aft_end ?_
      intro w2 hh
      clear G0 G1 G2 G3
      have hW2 := hWw.trans (hh.mono hWw.size)
      have hE2 := hW.trans (hh.mono hW.size)
      have hzz2 : w.heap.size + 2 < w2.heap.size := by have := hh.size; omega
      have f0 := (hE2.cell (p := ⟨w.heap.size,0,none⟩) (by show w.heap.size < _; have := HEz.out; omega)).trans K0.out
      have f1 := (hE2.cell (p := ⟨w.heap.size,1,none⟩) (by show w.heap.size < _; have := HEz.out; omega)).trans K1.out
      have g0 := (hE2.cell (p := ⟨w.heap.size + 1,0,none⟩) (by show w.heap.size + 1 < _; have := HEz.out; omega)).trans L0.out
      have g1 := (hE2.cell (p := ⟨w.heap.size + 1,1,none⟩) (by show w.heap.size + 1 < _; have := HEz.out; omega)).trans L1.out
      have G1 := Aft.cell (B := w2.heap.size) (w := w2) (show w.heap.size < _ by omega) f1
      have G2 := Aft.cell (B := w2.heap.size) (w := w2) (show w.heap.size + 1 < _ by omega) g0
      have G3 := Aft.cell (B := w2.heap.size) (w := w2) (show w.heap.size + 1 < _ by omega) g1
      have HW2 := Lib.hid hW2
      have HE2 := Lib.hid hE2
      have HWd := Lib.hid (show Below w.heap.size w w2.drew from hW2.drew)
      clear f0 f1 g0 g1 hW2 hE2 hh
      have HS6 := Lib.hid (show SliceAt pairCells w w.heap.size (.slice (some ⟨g,0,none⟩) ([] : List (Int × Value)).length d) [] from SliceAt.none_of (by unfold maxLen; omega) (fun h => by first | rfl | cases h))
      have HS7 := Lib.hid (show SliceAt pairCells w w.heap.size (.slice (some ⟨g,0,none⟩) ([] : List (Int × Value)).length d) [] from SliceAt.none_of (by unfold maxLen; omega) (fun h => by first | rfl | cases h))
      have hm6 : ([] : List (Int × Value)).length = 0 := rfl
      have hm7 : ([] : List (Int × Value)).length = 0 := rfl
      go_wp2
      refine wp_region_planL (C := fun w' => ∃ u : Aft w2.heap.size w2,w' = u.now) (.still 0 (.still 3 (.still 4 (.still 5 (.still 6 (.move true 1 (.move true 2 (.move true 7 (.still 8 .done) .none) .none) .none)))))) (by kernel_rfl) (by kernel_rfl) (by kernel_rfl) (fun _ => ⟨⟨_,(Below.refl _ _).drew⟩,rfl⟩) ?_
      iterate 5
       refine plan_look _ rfl rfl ?_
       go_big_quiet_step (fail)
       refine wpQuiet_nil ?_
      refine plan_call _ 92 _ _ _ _ _ rfl _ Tryz.func92 (by kernel_rfl) (by kernel_rfl) ?_ True.intro
      refine (specL5Fact_any (.agg #[.int .i64 y.rel,.slice P' y.vals.length c']) y w2.drew ((HY.out.below HWd.out (Nat.le_refl _)).more HWd.out.size) hyn).mono ?_
      rintro _ w3 ⟨u3,rfl,⟨U,rfl,hU⟩,hb3⟩
      have hb3' : Below w2.heap.size w2 w3 := (Below.refl _ _).drew.trans hb3
      refine ⟨_,rfl,fun _ => ⟨⟨_,hb3'⟩,rfl⟩,?_⟩
      refine plan_put ?_ (by simp only [Act.put,putA,putB,putC]; rfl)
      obtain ⟨PU,cu,rfl,-⟩ := hU.1.at_
      have hz3 := hb3'.size
      refine plan_value (u := .slice (some ⟨w3.heap.size,0,none⟩) 1 1) (w' := w3.alloc (.cells #[.int .i64 y.rel,.slice PU y.vals.length cu] 66)) _ rfl rfl rfl (by simp [go_sem]) (fun _ => ⟨⟨_,hb3'.alloc hz3 _⟩,rfl⟩) ?_ True.intro
      refine plan_put ?_ (by simp only [Act.put,putA,putB,putC]; rfl)
      have hrow1 : (w3.alloc (.cells #[.int .i64 y.rel,.slice PU y.vals.length cu] 66)).ownsRow w3.heap.size 66 2 (.slice (some ⟨w3.heap.size,0,none⟩) 1 1) [(y.rel,Value.slice PU y.vals.length cu)].length ([(y.rel,Value.slice PU y.vals.length cu)].flatMap pairCells) := World.ownsRow_lit w3 #[.int .i64 y.rel,.slice PU y.vals.length cu] 1 (Nat.le_refl _) (by decide) rfl
      have hwA : Below w.heap.size w (w3.alloc (.cells #[.int .i64 y.rel,.slice PU y.vals.length cu] 66)) := HW2.out.trans ((hb3'.alloc hz3 _).mono HW2.out.size)
      refine plan_apps pairCells 2 32 (r := ([] : List (Int × Value))) (fun p hp => absurd hp (by simp)) pairCells_len _ rfl rfl Tryz.underlying25 infoFct rfl (by decide) hrow1 _ _ rfl rfl ((some ⟨g,0,none⟩)) (0) (d) rfl hm6 (HS6.out.below hwA (Nat.le_refl _)) (by simp <;> omega) (by simp <;> omega) (by simp) ?_ True.intro
      intro v4 w4 hrow4 hB4 hg4 _
      have hb4 : Below w2.heap.size w2 w4 := (hb3'.alloc hz3 _).trans (hB4.mono hz3)
      refine ⟨fun _ => ⟨⟨_,hb4⟩,rfl⟩,?_⟩
      obtain ⟨A4,c4,rfl,-⟩ := SliceAt.of_own hrow4
      have HR4 := Lib.hid hrow4
      have HU := Lib.hid (show IntS_own w2.heap.size w3.heap.size (.slice PU y.vals.length cu) y.vals w3 from hU)
      have hB34 := (Below.refl w3.heap.size w3).alloc (Nat.le_refl _) (.cells #[.int .i64 y.rel,.slice PU y.vals.length cu] 66) |>.trans hB4
      have HB34 := Lib.hid hB34
      have HB4 := Lib.hid hb4
      have hL4 : ([(y.rel,Value.slice PU y.vals.length cu)] ++ ([] : List (Int × Value))).length = 0 + 1 := by rw [List.length_append,hm6]; simp <;> omega
      rw [hL4]
      refine plan_put ?_ (by simp only [Act.put,putA,putB,putC]; rfl)
      refine plan_look _ rfl rfl ?_
      go_big_quiet_step (fail)
      refine wpQuiet_nil ?_
      refine plan_done ?_
      clear hrow4 hU hb3 hb3' hz3 hrow1 hwA hB4 hg4 hb4 G1 G2 G3 hB34
      have hzz4 : w.heap.size + 2 < w4.heap.size := by have := HB4.out.size; omega
      have hE4 := HE2.out.trans (HB4.out.mono HE2.out.size)
      have G0 := Aft.cell (B := w4.heap.size) (w := w4) (show w.heap.size < _ by omega) ((hE4.cell (p := ⟨w.heap.size,0,none⟩) (by show w.heap.size < _; have := HEz.out; omega)).trans K0.out)
      have G1 := Aft.cell (B := w4.heap.size) (w := w4) (show w.heap.size < _ by omega) ((hE4.cell (p := ⟨w.heap.size,1,none⟩) (by show w.heap.size < _; have := HEz.out; omega)).trans K1.out)
      have hwB : Below w.heap.size w (w4.drew.alloc (.cells #[] 66)) := ((HW2.out.trans (HB4.out.mono HW2.out.size)).drew).alloc (by show w.heap.size ≤ w4.heap.size; omega) _
      have HE4 := Lib.hid hE4
      clear hE4
      go_wp2
      refine wp_region_planL (C := fun w' => ∃ u : Aft w4.heap.size w4,w' = u.now) (.still 0 (.still 1 (.still 3 (.still 4 (.still 5 (.still 6 (.still 8 (.move true 2 (.move true 7 (.move true 9 (.still 10 (.move false 11 .done .none)) .none) .none) .none)))))))) (by kernel_rfl) (by kernel_rfl) (by kernel_rfl) (fun _ => ⟨⟨_,(Below.refl _ _).drew⟩,rfl⟩) ?_
      iterate 7
       refine plan_look _ rfl rfl ?_
       go_big_quiet_step (fail)
       refine wpQuiet_nil ?_
      have hAd : Below w4.heap.size w4 (w4.drew.alloc (.cells #[] 66)) := (Below.refl w4.heap.size w4).drew.alloc (show w4.heap.size ≤ w4.drew.heap.size from Nat.le_refl _) _
      refine plan_value (u := .slice (some ⟨w4.heap.size,0,none⟩) 0 0) (w' := w4.drew.alloc (.cells #[] 66)) _ rfl rfl rfl (by simp [go_sem]) (fun _ => ⟨⟨_,hAd⟩,rfl⟩) ?_ True.intro
      refine plan_put ?_ (by simp only [Act.put,putA,putB,putC]; rfl)
      have hrow0 : (w4.drew.alloc (.cells #[] 66)).ownsRow w4.heap.size 66 2 (.slice (some ⟨w4.heap.size,0,none⟩) 0 0) ([] : List (Int × Value)).length (([] : List (Int × Value)).flatMap pairCells) := World.ownsRow_lit w4.drew #[] 0 (Nat.le_refl _) (by decide) rfl
      refine plan_apps pairCells 2 32 (r := ([] : List (Int × Value))) (fun p hp => absurd hp (by simp)) pairCells_len _ rfl rfl Tryz.underlying25 infoFct rfl (by decide) hrow0 _ _ rfl rfl ((some ⟨g,0,none⟩)) (0) (d) rfl hm7 (HS7.out.below hwB (Nat.le_refl _)) (by rw [hm7]; simp <;> omega) (by rw [hm7]; simp <;> omega) (by have := hAd.size; exact this) ?_ True.intro
      intro v5 w5 hrow5 hB5 hg5 _
      have hb5 := hAd.trans hB5
      refine ⟨fun _ => ⟨⟨_,hb5⟩,rfl⟩,?_⟩
      refine plan_put ?_ (by simp only [Act.put,putA,putB,putC]; rfl)
      refine plan_apps pairCells 2 32 (r := [(y.rel,Value.slice PU y.vals.length cu)] ++ ([] : List (Int × Value))) (fun p hp => by
       have hp' : p = (y.rel,Value.slice PU y.vals.length cu) := by simpa using hp
       rw [hp']; intro u hu; simp [pairCells] at hu; rcases hu with rfl | rfl <;> rfl) pairCells_len _ rfl rfl Tryz.underlying25 infoFct rfl (by decide) hrow5 _ _ rfl rfl A4 (0 + 1) c4 rfl hL4 ((SliceAt.of_own HR4.out).below hb5 (Nat.le_refl _)) (by rw [List.length_append,hm7,hL4]; simp <;> omega) (by rw [List.length_append,hm7,hL4]; simp <;> omega) hb5.size ?_ True.intro
      intro v6 w6 hrow6 hB6 hg6 _
      have hb6 := hb5.trans hB6
      refine ⟨fun _ => ⟨⟨_,hb6⟩,rfl⟩,?_⟩
      obtain ⟨A8,c8,rfl,-⟩ := SliceAt.of_own hrow6
      have heq : ([] ++ ([] : List (Int × Value))) ++ ([(y.rel,Value.slice PU y.vals.length cu)] ++ ([] : List (Int × Value))) = pairs [y] [Value.slice PU y.vals.length cu] := rfl
      rw [heq] at hrow6 ⊢
      generalize hN8 : (pairs [y] [Value.slice PU y.vals.length cu]).length = N8 at *
      refine plan_put ?_ (by simp only [Act.put,putA,putB,putC]; rfl)
      have hE6 := HE4.out.trans (hb6.mono HE4.out.size)
      have r0 := (hE6.cell (p := ⟨w.heap.size + 1 + 1,0,none⟩) (by show w.heap.size + 1 + 1 < _; have := HEz.out; omega)).trans R0.out
      have r1 := (hE6.cell (p := ⟨w.heap.size + 1 + 1,1,none⟩) (by show w.heap.size + 1 + 1 < _; have := HEz.out; omega)).trans R1.out
      have r2 := fun o => (hE6.frozen (p := ⟨w.heap.size + 1 + 1,o,none⟩) (by show w.heap.size + 1 + 1 < _; have := HEz.out; omega)).trans (R2 o).out
      refine plan_look _ rfl rfl ?_
      go_big_quiet_step (fail)
      refine wpQuiet_nil ?_
      refine plan_skip (w' := (w6.setCell ⟨w.heap.size + 1 + 1,0,none⟩ (.slice P rels.length c)).setCell ⟨w.heap.size + 1 + 1,1,none⟩ (.slice A8 N8 c8)) _ rfl rfl rfl (by simp [go_sem,r0,r1,r2]) (fun e => by cases e) ?_ True.intro
      refine plan_put ?_ (by simp only [Act.put]; rfl)
      refine plan_done ?_
      have hcw : Chg (fun g => g = w.heap.size + 1 + 1) w6 ((w6.setCell ⟨w.heap.size + 1 + 1,0,none⟩ (.slice P rels.length c)).setCell ⟨w.heap.size + 1 + 1,1,none⟩ (.slice A8 N8 c8)) := ((Chg.refl (fun g => g = w.heap.size + 1 + 1) w6).setCell (p := ⟨w.heap.size + 1 + 1,0,none⟩) rfl _).setCell (p := ⟨w.heap.size + 1 + 1,1,none⟩) rfl _
      have hw6 := HW2.out.trans ((HB4.out.trans (hb6.mono HB4.out.size)).mono HW2.out.size)
      have hfin := (hw6.setCell (p := ⟨w.heap.size + 1 + 1,0,none⟩) (by show w.heap.size ≤ w.heap.size + 1 + 1; omega) (.slice P rels.length c)).setCell (p := ⟨w.heap.size + 1 + 1,1,none⟩) (by show w.heap.size ≤ w.heap.size + 1 + 1; omega) (.slice A8 N8 c8)
      have hrowF := hcw.row hrow6 (fun g hg e => by have := (World.ownsRow.lt hrow6 g hg).1; omega)
      rw [← hN8] at hrowF
      have hSF := SliceAt.of_own hrowF
      rw [hN8] at hSF
      have hs6 : w3.heap.size ≤ w6.heap.size := Nat.le_trans HB34.out.size hb6.size
      have hUF := ((HU.out.below (HB34.out.trans (hb6.mono HB34.out.size)) (Nat.le_refl _)).chg (B' := w.heap.size + 1 + 1) (C' := w.heap.size + 1 + 1 + 1) (hcw.mono fun g hg => by subst hg; exact ⟨Nat.le_refl _,Nat.lt_succ_self _⟩) (.inr (by omega))).at_ (D := ((w6.setCell ⟨w.heap.size + 1 + 1,0,none⟩ (.slice P rels.length c)).setCell ⟨w.heap.size + 1 + 1,1,none⟩ (.slice A8 N8 c8)).heap.size) (by simp [World.setCell]; omega)
      have HL8 := Lib.hid (show lowB A (.slice A8 N8 c8) ∧ lowB A (.slice PU y.vals.length cu) from ⟨fun g hg => by have h1 := (World.ownsRow.lt hrow6 g hg).1; have h2 := HE4.out.size; have h3 := HEz.out; omega,fun g hg => by have h1 := (HU.out.1.lt g hg).1; have h2 := HW2.out.size; omega⟩)
      clear hE6 hrow0 hrow5 hrow6 hB5 hg5 hB6 hg6 hcw hw6 hAd hwB
      go_wp2
      refine bodyPost_ret (v := .agg #[.slice P rels.length c,.slice A8 N8 c8]) (by simp [results,Tryz.results94,go_sem,r0,r1]) rfl ⟨_,rfl,?_,hfin⟩
      rw [HPU.out]
      exact ⟨_,_,[Value.slice PU y.vals.length cu],rfl,(HR.out.below hfin (Nat.le_refl _)).more hfin.size,hlP,HL8.out.1,rfl,hSF,(fun i h h' => by
       have hi0 : i = 0 := by simp at h; omega
       subst hi0
       exact hUF),fun V hV => by rw [List.mem_singleton.1 hV]; exact HL8.out.2⟩
end Go.Proofs.YtobdijcnfmgidaaGreat
