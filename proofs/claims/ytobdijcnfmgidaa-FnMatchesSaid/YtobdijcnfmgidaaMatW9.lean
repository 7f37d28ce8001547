/-
  Walks and plain lemmas for the laws of this seat: what single Go functions return, for every argument.
-/
import Derived.Deep.Quiet
import Derived.Test.YtobdijcnfmgidaaPlan
import Derived.Test.YtobdijcnfmgidaaAft
import Derived.Test.YtobdijcnfmgidaaMInst
import Derived.Test.YtobdijcnfmgidaaFactV
import Derived.Test.YtobdijcnfmgidaaDrawB15
import Derived.Test.YtobdijcnfmgidaaFindS
import Derived.Test.YtobdijcnfmgidaaMatF
import Derived.Test.YtobdijcnfmgidaaDrawB12
import Derived.Test.YtobdijcnfmgidaaDrawB17
import Derived.Test.YtobdijcnfmgidaaMatL
import Derived.Test.YtobdijcnfmgidaaFindI
import Derived.Test.YtobdijcnfmgidaaHasE
import Derived.Test.YtobdijcnfmgidaaInstS
import Derived.Test.YtobdijcnfmgidaaLift
namespace Go.Proofs.Ytobdijcnfmgidaa
open Go.RowKit

theorem IntSS_at.take {w : World} {B c : Nat} {A : Option Addr} {l : List (List Int)} (h : IntSS_at w B (.slice A l.length c) l) (i : Nat) (hi : i ≤ l.length) : IntSS_at w B (.slice A i c) (l.take i) := by
  obtain ⟨Vs, h1, ⟨A', c', hv, h2, h3, h4, h5⟩, h6⟩ := h
  rw [h1] at hv
  injection hv with e1 _ e2
  subst e1 e2
  have hl : (Vs.take i).length = i := by rw [List.length_take]; omega
  refine ⟨Vs.take i, by rw [List.length_take, List.length_take]; omega, ⟨A, c, by rw [hl], by rw [hl]; omega, h3, fun h0 => ?_, h5⟩, fun k hk hk' => ?_⟩
  · rw [hl] at h0
    obtain ⟨b, off, hA, hb, hc⟩ := h4 (by omega)
    refine ⟨b, off, hA, hb, fun j u hu => hc j u ?_⟩
    rw [flat1] at hu ⊢
    rw [List.getElem?_take] at hu
    split at hu
    · exact hu
    · cases hu
  · rw [List.getElem_take, List.getElem_take]
    exact h6 k (by rw [List.length_take] at hk; omega) (by omega)
theorem atm_wf {a : Atm} (h : AtmSmall a) : Atom_wf a := ⟨by have := h.1; omega, fun j hj => by have := h.2.2 _ (List.getElem_mem hj); omega⟩
theorem atm_sz {a : Atm} (h : AtmSmall a) : Atom_sz a ≤ 1048576 := by have := h.2.1.2; unfold Atom_sz; omega
set_option maxHeartbeats 12800000 in
set_option maxRecDepth 100000 in
theorem walkMT (q : Option Addr) (code : List UInt8) (c : Nat) (_ : code.length ≤ maxLen) (w : World) (hc : CodeAt w w.heap.size (.slice q code.length c) code) :
    Calls Try.prog 4 #[.slice q code.length c] w fun e w' => e = .returned (.bool true) ∧ Below w.heap.size w w' := by
  by_cases hbig : 1048576 < code.length
  · have hd : decide (1048576 < ((code.length : Nat) : Int)) = true := by simp; omega
    go_enter Try.func4, Try.ntmps4
    go_wp2_with fail
    refine (big_any q _ c _).mono ?_; rintro e w1 ⟨rfl, rfl⟩
    go_wp2_with fail
    go_ret
    exact ⟨rfl, Below.refl _ _⟩
  · have hlen : code.length ≤ 1048576 := by omega
    have hd : decide (1048576 < ((code.length : Nat) : Int)) = false := by simp; omega
    have HCO := Lib.hid hc
    clear hbig
    go_enter Try.func4, Try.ntmps4
    go_wp2_with fail
    refine (big_any q _ c _).mono ?_; rintro e w1 ⟨rfl, rfl⟩
    go_wp2_with fail
    refine (drawFind_c _ code _ hc hlen).mono ?_
    rintro e w2 ⟨V, x, U, l, rfl, hI, hIs, hU, hl2, hlA, hb2⟩
    obtain ⟨P, c1, Q, d1, rfl⟩ := Instance_form hI.at_
    obtain ⟨R, cR, rfl, -, hcR⟩ := hU.form
    unfold maxLen at hcR
    obtain ⟨g, hg⟩ : ∃ g, g = w2.heap.size := ⟨_, rfl⟩
    obtain ⟨W, hWq⟩ : ∃ W, W = w2.alloc (.cells #[.slice P x.rels.length c1, .slice Q x.facts.length d1] 27) := ⟨_, rfl⟩
    have hAl : Below w2.heap.size w2 W := by rw [hWq]; exact (Below.refl _ _).alloc (Nat.le_refl _) _
    have hgW : g < W.heap.size := by rw [hWq, hg]; simp
    have X0 := Lib.hid (show W.cell? ⟨g, 0, none⟩ = some (.slice P x.rels.length c1) by rw [hWq, hg]; simp [go_sem])
    have X1 := Lib.hid (show W.cell? ⟨g, 1, none⟩ = some (.slice Q x.facts.length d1) by rw [hWq, hg]; simp [go_sem])
    have HX := Lib.hid (hI.later hAl).at_
    have HU := Lib.hid ((hU.below hAl (Nat.le_refl _)).more hAl.size)
    have HW := Lib.hid (hb2.trans (hAl.mono hb2.size))
    have HXW := Lib.hid hIs.wf
    have HRN := Lib.hid (show x.rels.length ≤ 1048576 by have := hIs.1.1; omega)
    have HLA := Lib.hid hlA
    have HLW := Lib.hid (atms_wf hlA)
    have HB2 := Lib.hid (Below.refl W.heap.size W)
    have HLEN := Lib.hid hlen
    have HLL := Lib.hid (find_len x l)
    have HFM := Lib.hid (fun (b : List Int) (hb : b ∈ FindMatches_r0 x l) (a : Atm) (ha : a ∈ l) => find_inst (x := x) hb ha)
    have HEX := Lib.hid (fun (b : List Int) (hb : b ∈ FindMatches_r0 x l) => find_ext (x := x) hb)
    have HND := Lib.hid (find_nodup x l)
    have HWF := Lib.hid (fun (b : List Int) (hb : b ∈ FindMatches_r0 x l) => find_wf (x := x) (l := l) hb)
    clear hI hIs hU hlA hb2 hd hc hlen hAl
    have x0 := X0.out
    have x1 := X1.out
    go_upto_region 4 with fail
    rw [← hg, ← hWq]
    clear hg hWq
    go_wp2_with fail
    refine (implFind_any _ _ x l W (HX.out) HXW.out HU.out HLW.out).mono ?_
    rintro e w3 ⟨r3, rfl, hO3, hb3⟩
    obtain ⟨A3, c3, rfl, hlc3, hc3⟩ := (hO3.at_ (Nat.le_refl _)).form
    unfold maxLen at hc3
    have HB3 := Lib.hid hb3
    have HL3 := Lib.hid (hO3.at_ (Nat.le_refl _))
    clear x0 x1 hb3 hO3
    have x0 := (HB3.out.cell (p := ⟨g, 0, none⟩) hgW).trans X0.out
    have x1 := (HB3.out.cell (p := ⟨g, 1, none⟩) hgW).trans X1.out
    go_wp2_with fail
    refine (specFind_any _ _ x l w3 ((HX.out.below HB3.out (Nat.le_refl _)).more HB3.out.size) HXW.out HRN.out ((HU.out.below HB3.out (Nat.le_refl _)).more HB3.out.size) HLW.out).mono ?_
    rintro e w4 ⟨r4, rfl, hO4, hb4⟩
    obtain ⟨A4, c4, rfl, -⟩ := (hO4.at_ (Nat.le_refl _)).form
    have HB4 := Lib.hid (HB3.out.trans (hb4.mono HB3.out.size))
    have HL4 := Lib.hid ((HL3.out.below hb4 (Nat.le_refl _)).more hb4.size)
    have HM4 := Lib.hid (hO4.at_ (Nat.le_refl _))
    clear x0 x1 hb4 hO4
    have x0 := (HB4.out.cell (p := ⟨g, 0, none⟩) hgW).trans X0.out
    have x1 := (HB4.out.cell (p := ⟨g, 1, none⟩) hgW).trans X1.out
    go_wp2_with fail
    refine (sameRows_c _ _ _ w4 HL4.out HM4.out).mono ?_
    rintro e w5 ⟨rfl, hb5⟩
    have HB5 := Lib.hid (HB4.out.trans (hb5.mono HB4.out.size))
    have HL5 := Lib.hid ((HL4.out.below hb5 (Nat.le_refl _)).more hb5.size)
    clear x0 x1 hb5
    have hll := HLL.out
    generalize FindMatches_r0 x l = L at *
    go_wp2
    go_loopw [6] (fun iv wr => ∃ i : Nat, i ≤ L.length ∧ iv = .int .i64 (i : Nat) ∧ Hid (Below w5.heap.size w5 wr)) (fun iv _ => L.length - (intOf iv).toNat)
    case atStart => exact ⟨0, by omega, rfl, Lib.hid (Below.refl _ _)⟩
    case round =>
      obtain ⟨wo, rfl⟩ : ∃ V, V = wr := ⟨_, rfl⟩
      obtain ⟨i, hi, rfl, HC⟩ := hrel
      have HBo := Lib.hid (HB5.out.trans (HC.out.mono HB5.out.size))
      have HLo := Lib.hid ((HL5.out.below HC.out (Nat.le_refl _)).more HC.out.size)
      have hgo : g < wo.heap.size := Nat.lt_of_lt_of_le hgW HBo.out.size
      have hl2' := hl2.2
      by_cases hlt : i < L.length
      · obtain ⟨b, off, V, rfl, hb, cc, hV⟩ := IntSS_at.elem HLo.out i hlt
        have CC := Lib.hid cc
        have HVo := Lib.hid hV
        have HIN := Lib.hid (List.getElem_mem hlt)
        have HNT := Lib.hid (show decide (L[i] ∈ L.take i) = false from decide_eq_false (nodup_take HND.out i hlt))
        obtain ⟨P3, p3, rfl, -, hp3, -⟩ := id hV
        unfold maxLen at hp3
        have HEXT := Lib.hid (HEX.out _ HIN.out)
        have HROW := Lib.hid (HWF.out _ HIN.out)
        have HTK := Lib.hid (HLo.out.take i hi)
        have HFI := Lib.hid (fun a ha => HFM.out _ HIN.out a ha)
        clear cc hV
        generalize L[i] = row at *
        go_wp2
        go_loopw [7] (fun kv wr => ∃ k : Nat, k ≤ l.length ∧ kv = .int .i64 (k : Nat) ∧ Hid (Below wo.heap.size wo wr)) (fun kv _ => l.length - (intOf kv).toNat)
        case atStart => exact ⟨0, by omega, rfl, Lib.hid (Below.refl _ _)⟩
        case round =>
          obtain ⟨k, hk, rfl, HK⟩ := hrel
          have HBr := Lib.hid (HBo.out.trans (HK.out.mono HBo.out.size))
          have hgr : g < wr.heap.size := Nat.lt_of_lt_of_le hgW HBr.out.size
          have hbr : b < wr.heap.size := Nat.lt_of_lt_of_le hb HK.out.size
          by_cases hkt : k < l.length
          · obtain ⟨b1, of1, V1, rfl, hb1, a0, a1, hV1⟩ := AtomS_at.elem HU.out k hkt
            obtain ⟨P1, q1, rfl, -⟩ := id hV1
            have hb1r : b1 < wr.heap.size := Nat.lt_of_lt_of_le hb1 HBr.out.size
            have E0 := Aft.cell (B := wr.heap.size) (w := wr) hb1r ((HBr.out.cell (p := ⟨b1, of1 + k * 2, none⟩) hb1).trans a0)
            have E1 := Aft.cell (B := wr.heap.size) (w := wr) hb1r ((HBr.out.cell (p := ⟨b1, of1 + k * 2 + 1, none⟩) hb1).trans a1)
            have E2 := Aft.cell (B := wr.heap.size) (w := wr) hbr ((HK.out.cell (p := ⟨b, off + i, none⟩) hb).trans CC.out)
            have HV1 := Lib.hid ((hV1.below HBr.out (Nat.le_refl _)).more HBr.out.size)
            have HVr := Lib.hid ((HVo.out.below HK.out (Nat.le_refl _)).more HK.out.size)
            obtain ⟨hok, hha⟩ := HFI.out _ (List.getElem_mem hkt)
            have HAS := Lib.hid (HLA.out _ (List.getElem_mem hkt))
            clear a0 a1 hV1
            generalize l[k] = aa at *
            have HHA := Lib.hid hha
            have hin := fun (u : Aft wr.heap.size wr) => implInstantiate_any (.agg #[.int .i64 aa.rel, .slice P1 aa.vals.length q1]) aa (.slice P3 row.length p3) row u.now ⟨_, rfl, (HV1.out.below u.is (Nat.le_refl _)).more u.is.size⟩ (atm_wf HAS.out) (atm_sz HAS.out) ((HVr.out.below u.is (Nat.le_refl _)).more u.is.size) HROW.out
            rw [hok] at hin
            generalize Instantiate_r0 aa row = F at *
            clear hok hha
            go_upto_region 13 with fail
            have hb := (Below.refl wr.heap.size wr).drew
            refine wp_region_planL (C := fun w' => ∃ u : Aft wr.heap.size wr, w' = u.now) (.still 0 (.still 1 (.still 2 (.still 3 (.still 4 (.still 5 (.still 6 (.still 7 (.move true 8 (.still 9 (.still 10 (.still 11 (.move true 12 (.move true 13 (.still 14 .done) .none) .none)))) (.move true 12 (.move true 8 (.still 9 (.still 10 (.still 11 (.move true 13 (.still 14 .done) .none)))) .none) .none)))))))))) (by kernel_rfl) (by kernel_rfl) (by kernel_rfl) (fun _ => ⟨⟨wr.drew, hb⟩, rfl⟩) ?_
            iterate 8
              refine plan_look _ rfl rfl ?_
              go_big_quiet_step (fail)
              refine wpQuiet_nil ?_
            refine plan_call _ 22 _ _ _ _ _ rfl _ Try.func22 (by kernel_rfl) (by kernel_rfl) ?_ ?_
            rotate_left
            · skip
              obtain ⟨y1, ey⟩ : ∃ V, V = wr.drew.alloc (.cells #[.int .i64 0, .slice none 0 0] 44) := ⟨_, rfl⟩
              have hy : Below wr.drew.heap.size wr.drew y1 := by rw [ey]; exact (Below.refl _ _).alloc (Nat.le_refl _) _
              have zy : wr.heap.size < y1.heap.size := by rw [ey]; simp
              have by1 := hb.size
              have be := hb.trans (hy.mono by1)
              have k0 : y1.cell? ⟨wr.heap.size, 0, none⟩ = some (.int .i64 0) := by rw [ey]; simp [go_sem]
              have k1 : y1.cell? ⟨wr.heap.size, 1, none⟩ = some (.slice none 0 0) := by rw [ey]; simp [go_sem]
              have kz : ∀ o, y1.frozen? ⟨wr.heap.size, o, none⟩ = false := by intro o; rw [ey]; simp [go_sem]
              refine plan_value (u := .pointer (some ⟨wr.heap.size, 0, none⟩)) (w' := y1) _ rfl rfl rfl (by rw [ey]; simp [go_sem]) (fun _ => ⟨⟨_, be⟩, rfl⟩) ?_ True.intro
              have hbxz : wr.heap.size < y1.heap.size := zy
              refine plan_put ?_ (by simp only [Act.put, List.setIfInBounds_toArray, List.set_cons_succ, List.set_cons_zero]; rfl)
              refine plan_call _ 22 _ _ _ _ _ rfl _ Try.func22 (by kernel_rfl) (by kernel_rfl) ?_ True.intro
              refine (hin ⟨_, be⟩).mono ?_
              rintro _ wn ⟨VV, rfl, hOO, hbn⟩
              have hOF := IntsO.of hOO
              obtain ⟨VF, cF, rfl, -, -, -⟩ := id (IntS_own.at_ hOF (Nat.le_refl _))
              have ben := be.trans (hbn.mono be.size)
              have k0 := (hbn.cell (p := ⟨wr.heap.size, 0, none⟩) hbxz).trans k0
              have k1 := (hbn.cell (p := ⟨wr.heap.size, 1, none⟩) hbxz).trans k1
              have kz := fun o => (hbn.frozen (p := ⟨wr.heap.size, o, none⟩) hbxz).trans (kz o)
              refine ⟨_, rfl, fun _ => ⟨⟨_, ben⟩, rfl⟩, ?_⟩
              refine plan_put ?_ (by simp only [Act.put, List.setIfInBounds_toArray, List.set_cons_succ, List.set_cons_zero]; rfl)
              iterate 3
                refine plan_look _ rfl rfl ?_
                go_big_quiet_step (fail)
                refine wpQuiet_nil ?_
              obtain ⟨wf, ewf⟩ : ∃ V, V = ((wn.setCell ⟨wr.heap.size, 0, none⟩ (.int .i64 F.rel)).setCell ⟨wr.heap.size, 1, none⟩ (.slice VF F.vals.length cF)) := ⟨_, rfl⟩
              have bf : Below wr.heap.size wr wf := by rw [ewf]; exact (ben.setCell (p := ⟨wr.heap.size, 0, none⟩) (Nat.le_refl _) _).setCell (p := ⟨wr.heap.size, 1, none⟩) (Nat.le_refl _) _
              have f0 : wf.cell? ⟨wr.heap.size, 0, none⟩ = some (.int .i64 F.rel) := by rw [ewf]; simp [go_sem, k0]
              have f1 : wf.cell? ⟨wr.heap.size, 1, none⟩ = some (.slice VF F.vals.length cF) := by rw [ewf]; simp [go_sem, k1]
              have hcx : Chg (Mid wr.heap.size (wr.heap.size + 1)) wn wf := by rw [ewf]; exact ((Chg.refl (Mid wr.heap.size (wr.heap.size + 1)) wn).setCell (p := ⟨wr.heap.size, 0, none⟩) ⟨Nat.le_refl _, Nat.lt_succ_self _⟩ _).setCell (p := ⟨wr.heap.size, 1, none⟩) ⟨Nat.le_refl _, Nat.lt_succ_self _⟩ _
              have HFV := Lib.hid ((IntS_own.chg hOF hcx (.inr (show wr.heap.size + 1 ≤ y1.heap.size from hbxz))).at_ hcx.size)
              refine plan_skip (w' := wf) _ rfl rfl rfl (by rw [ewf]; simp [go_sem, k0, k1, kz]) (fun _ => ⟨⟨_, bf⟩, rfl⟩) ?_ True.intro
              refine plan_put ?_ (by simp only [Act.put]; rfl)
              iterate 1
                refine plan_look _ rfl rfl ?_
                go_big_quiet_step (fail)
                refine wpQuiet_nil ?_
              clear ewf k0 k1 kz hcx hOF ey hbxz zy by1
              have HBf := Lib.hid (HBr.out.trans (bf.mono HBr.out.size))
              have HKf := Lib.hid (HK.out.trans (bf.mono HK.out.size))
              have x0 := (HBf.out.cell (p := ⟨g, 0, none⟩) hgW).trans X0.out
              have x1 := (HBf.out.cell (p := ⟨g, 1, none⟩) hgW).trans X1.out
              have hcf := implContainsFact_at x F true HHA.out (.agg #[.slice P x.rels.length c1, .slice Q x.facts.length d1]) (.agg #[.int .i64 F.rel, .slice VF F.vals.length cF]) wf ((HX.out.below HBf.out (Nat.le_refl _)).more HBf.out.size) HXW.out ⟨_, rfl, HFV.out⟩
              clear bf E0 E1 E2 hin HHA
              refine plan_done ?_
              go_wp2_with fail
              refine hcf.mono ?_
              rintro e w9 ⟨rfl, hb9⟩
              have HK9 := Lib.hid (HKf.out.trans (hb9.mono HKf.out.size))
              clear x0 x1 f0 f1 hb9 hcf HBf HKf HFV
              go_wp2
              go_roundw
              case rel => exact ⟨k + 1, by omega, by go_num, HK9⟩
              case measure => simp [intOf]; omega
            refine (hin ⟨_, hb⟩).mono ?_
            rintro _ wn ⟨VV, rfl, hOO, hbn⟩
            have hOF := IntsO.of hOO
            obtain ⟨VF, cF, rfl, -, -, -⟩ := id (IntS_own.at_ hOF (Nat.le_refl _))
            have ben := hb.trans (hbn.mono hb.size)
            refine ⟨_, rfl, fun _ => ⟨⟨_, ben⟩, rfl⟩, ?_⟩
            refine plan_put ?_ (by simp only [Act.put, List.setIfInBounds_toArray, List.set_cons_succ, List.set_cons_zero]; rfl)
            iterate 3
              refine plan_look _ rfl rfl ?_
              go_big_quiet_step (fail)
              refine wpQuiet_nil ?_
            obtain ⟨y1, ey⟩ : ∃ V, V = wn.alloc (.cells #[.int .i64 0, .slice none 0 0] 44) := ⟨_, rfl⟩
            have hy : Below wn.heap.size wn y1 := by rw [ey]; exact (Below.refl _ _).alloc (Nat.le_refl _) _
            have zy : wn.heap.size < y1.heap.size := by rw [ey]; simp
            have by1 := ben.size
            have be2 := ben.trans (hy.mono by1)
            have k0 : y1.cell? ⟨wn.heap.size, 0, none⟩ = some (.int .i64 0) := by rw [ey]; simp [go_sem]
            have k1 : y1.cell? ⟨wn.heap.size, 1, none⟩ = some (.slice none 0 0) := by rw [ey]; simp [go_sem]
            have kz : ∀ o, y1.frozen? ⟨wn.heap.size, o, none⟩ = false := by intro o; rw [ey]; simp [go_sem]
            refine plan_value (u := .pointer (some ⟨wn.heap.size, 0, none⟩)) (w' := y1) _ rfl rfl rfl (by rw [ey]; simp [go_sem]) (fun _ => ⟨⟨_, be2⟩, rfl⟩) ?_ True.intro
            have hbxz : wn.heap.size < y1.heap.size := zy
            refine plan_put ?_ (by simp only [Act.put, List.setIfInBounds_toArray, List.set_cons_succ, List.set_cons_zero]; rfl)
            have hOF := IntS_own.below hOF hy (Nat.le_refl _)
            obtain ⟨wf, ewf⟩ : ∃ V, V = ((y1.setCell ⟨wn.heap.size, 0, none⟩ (.int .i64 F.rel)).setCell ⟨wn.heap.size, 1, none⟩ (.slice VF F.vals.length cF)) := ⟨_, rfl⟩
            have bf : Below wr.heap.size wr wf := by rw [ewf]; exact (be2.setCell (p := ⟨wn.heap.size, 0, none⟩) ben.size _).setCell (p := ⟨wn.heap.size, 1, none⟩) ben.size _
            have f0 : wf.cell? ⟨wn.heap.size, 0, none⟩ = some (.int .i64 F.rel) := by rw [ewf]; simp [go_sem, k0]
            have f1 : wf.cell? ⟨wn.heap.size, 1, none⟩ = some (.slice VF F.vals.length cF) := by rw [ewf]; simp [go_sem, k1]
            have hcx : Chg (Mid wn.heap.size (wn.heap.size + 1)) y1 wf := by rw [ewf]; exact ((Chg.refl (Mid wn.heap.size (wn.heap.size + 1)) y1).setCell (p := ⟨wn.heap.size, 0, none⟩) ⟨Nat.le_refl _, Nat.lt_succ_self _⟩ _).setCell (p := ⟨wn.heap.size, 1, none⟩) ⟨Nat.le_refl _, Nat.lt_succ_self _⟩ _
            have HFV := Lib.hid ((IntS_own.chg hOF hcx (.inl (Nat.le_refl _))).at_ (Nat.le_trans hy.size hcx.size))
            refine plan_skip (w' := wf) _ rfl rfl rfl (by rw [ewf]; simp [go_sem, k0, k1, kz]) (fun _ => ⟨⟨_, bf⟩, rfl⟩) ?_ True.intro
            refine plan_put ?_ (by simp only [Act.put]; rfl)
            iterate 1
              refine plan_look _ rfl rfl ?_
              go_big_quiet_step (fail)
              refine wpQuiet_nil ?_
            clear ewf k0 k1 kz hcx hOF ey hbxz zy by1
            have HBf := Lib.hid (HBr.out.trans (bf.mono HBr.out.size))
            have HKf := Lib.hid (HK.out.trans (bf.mono HK.out.size))
            have x0 := (HBf.out.cell (p := ⟨g, 0, none⟩) hgW).trans X0.out
            have x1 := (HBf.out.cell (p := ⟨g, 1, none⟩) hgW).trans X1.out
            have hcf := implContainsFact_at x F true HHA.out (.agg #[.slice P x.rels.length c1, .slice Q x.facts.length d1]) (.agg #[.int .i64 F.rel, .slice VF F.vals.length cF]) wf ((HX.out.below HBf.out (Nat.le_refl _)).more HBf.out.size) HXW.out ⟨_, rfl, HFV.out⟩
            clear bf E0 E1 E2 hin HHA
            refine plan_done ?_
            go_wp2_with fail
            refine hcf.mono ?_
            rintro e w9 ⟨rfl, hb9⟩
            have HK9 := Lib.hid (HKf.out.trans (hb9.mono HKf.out.size))
            clear x0 x1 f0 f1 hb9 hcf HBf HKf HFV
            go_wp2
            go_roundw
            case rel => exact ⟨k + 1, by omega, by go_num, HK9⟩
            case measure => simp [intOf]; omega
          · obtain rfl : k = l.length := by omega
            have hgr2 := hgr
            have x0 := (HBr.out.cell (p := ⟨g, 0, none⟩) hgW).trans X0.out
            have x1 := (HBr.out.cell (p := ⟨g, 1, none⟩) hgW).trans X1.out
            have B1 := Aft.cell (B := wr.heap.size) (w := wr) hgr x0
            have B2 := Aft.cell (B := wr.heap.size) (w := wr) hgr x1
            have B3 := Aft.cell (B := wr.heap.size) (w := wr) hbr ((HK.out.cell (p := ⟨b, off + i, none⟩) hb).trans CC.out)
            have HVr := Lib.hid ((HVo.out.below HK.out (Nat.le_refl _)).more HK.out.size)
            have HTr := Lib.hid ((HTK.out.below HK.out (Nat.le_refl _)).more HK.out.size)
            have HXr := Lib.hid ((HX.out.below HBr.out (Nat.le_refl _)).more HBr.out.size)
            have HUr := Lib.hid ((HU.out.below HBr.out (Nat.le_refl _)).more HBr.out.size)
            have hcex := fun (u : Aft wr.heap.size wr) => (by have := implHasExtension_any (.agg #[.slice P x.rels.length c1, .slice Q x.facts.length d1]) (.slice R l.length cR) x l (.slice P3 row.length p3) row u.now ((HXr.out.below u.is (Nat.le_refl _)).more u.is.size) HXW.out ((HUr.out.below u.is (Nat.le_refl _)).more u.is.size) HLW.out ((HVr.out.below u.is (Nat.le_refl _)).more u.is.size); rw [HEXT.out] at this; exact this : Calls Try.prog 24 #[.agg #[.slice P x.rels.length c1, .slice Q x.facts.length d1], .slice R l.length cR, .slice P3 row.length p3] u.now fun e w' => e = .returned (.bool true) ∧ Below u.now.heap.size u.now w')
            have hcin := fun (u : Aft wr.heap.size wr) => (by have := inRows_c (.slice (some ⟨b, off, none⟩) i c3) (.slice P3 row.length p3) (L.take i) row u.now ((HTr.out.below u.is (Nat.le_refl _)).more u.is.size) ((HVr.out.below u.is (Nat.le_refl _)).more u.is.size); rw [HNT.out] at this; exact this : Calls Try.prog 25 #[.slice (some ⟨b, off, none⟩) i c3, .slice P3 row.length p3] u.now fun e w' => e = .returned (.bool false) ∧ Below u.now.heap.size u.now w')
            have hic3 : i ≤ c3 := by omega
            clear x0 x1
            go_wp2_with fail
            refine wp_region_aft (Below.refl wr.heap.size wr) (by kernel_rfl) (by kernel_rfl) ?_
            repeat (go_big_quiet_step (((first | (go_at_call 25; exact calls_aft (Nat.le_refl _) (hcin _)) | (go_at_call 24; exact calls_aft (Nat.le_refl _) (hcex _))))))
            refine wpQuiet_nil ?_
            refine aft_end ?_
            intro w10 hh
            have HKr := Lib.hid (HC.out.trans ((HK.out.trans (hh.mono HK.out.size)).mono HC.out.size))
            clear B1 B2 B3 hcex hcin hh
            go_wp2
            go_roundw
            case rel => exact ⟨i + 1, by omega, by go_num, HKr⟩
            case measure => simp [intOf]; omega
      · obtain rfl : i = L.length := by omega
        have HZo := Lib.hid (HW.out.trans (HBo.out.mono HW.out.size))
        clear hlt
        go_wp2_with fail
        refine (drawExt_c _ code _ (HCO.out.later HZo.out) HLEN.out).mono ?_
        rintro e w11 ⟨V, y, U, n, T, bb, rfl, hI, hIs, hN, hn3, hnA, hT, hT5, hTb, hb11⟩
        obtain ⟨P', c1', Q', d1', rfl⟩ := Instance_form hI.at_
        obtain ⟨R', cR', rfl, -, hcR'⟩ := hN.form
        obtain ⟨PT, cT, rfl, -, -, -⟩ := id hT
        unfold maxLen at hcR'
        obtain ⟨g', hg'⟩ : ∃ g, g = w11.heap.size := ⟨_, rfl⟩
        obtain ⟨W12, hW12⟩ : ∃ W, W = w11.alloc (.cells #[.slice P' y.rels.length c1', .slice Q' y.facts.length d1'] 27) := ⟨_, rfl⟩
        have hAl : Below w11.heap.size w11 W12 := by rw [hW12]; exact (Below.refl _ _).alloc (Nat.le_refl _) _
        have hgW' : g' < W12.heap.size := by rw [hW12, hg']; simp
        have Y0 := Lib.hid (show W12.cell? ⟨g', 0, none⟩ = some (.slice P' y.rels.length c1') by rw [hW12, hg']; simp [go_sem])
        have Y1 := Lib.hid (show W12.cell? ⟨g', 1, none⟩ = some (.slice Q' y.facts.length d1') by rw [hW12, hg']; simp [go_sem])
        have HY := Lib.hid (hI.later hAl).at_
        have HN := Lib.hid ((hN.below hAl (Nat.le_refl _)).more hAl.size)
        have HT := Lib.hid ((hT.below hAl (Nat.le_refl _)).more hAl.size)
        have HZ12 := Lib.hid ((HZo.out.trans (hb11.mono HZo.out.size)).trans (hAl.mono (HZo.out.trans (hb11.mono HZo.out.size)).size))
        have HYW := Lib.hid hIs.wf
        have HYN := Lib.hid (show y.rels.length ≤ 1048576 by have := hIs.1.1; omega)
        have HNW := Lib.hid (atms_wf hnA)
        clear hI hIs hN hnA hT hTb hb11 hAl hn3 hT5
        go_upto_region 19 with fail
        rw [← hg', ← hW12]
        clear hg' hW12
        go_wp2_with fail
        refine (drawInst1_c _ code _ (HCO.out.later HZ12.out) HLEN.out).mono ?_
        rintro e w13 ⟨VA, a, UA, ba, rfl, hVA, haS, hUA, hUA5, hUAb, hb13⟩
        obtain ⟨PA, cA, rfl, -, -, -⟩ := id hVA
        obtain ⟨PB, cB, rfl, -, -, -⟩ := id hUA
        obtain ⟨ga, hga⟩ : ∃ g, g = w13.heap.size := ⟨_, rfl⟩
        obtain ⟨W14, hW14⟩ : ∃ W, W = w13.alloc (.cells #[.int .i64 a.rel, .slice PA a.vals.length cA] 48) := ⟨_, rfl⟩
        have hAl : Below w13.heap.size w13 W14 := by rw [hW14]; exact (Below.refl _ _).alloc (Nat.le_refl _) _
        have hga14 : ga < W14.heap.size := by rw [hW14, hga]; simp
        have A0 := Lib.hid (show W14.cell? ⟨ga, 0, none⟩ = some (.int .i64 a.rel) by rw [hW14, hga]; simp [go_sem])
        have A1 := Lib.hid (show W14.cell? ⟨ga, 1, none⟩ = some (.slice PA a.vals.length cA) by rw [hW14, hga]; simp [go_sem])
        have HB14 := Lib.hid ((hb13.trans (hAl.mono hb13.size)))
        have HVA := Lib.hid ((hVA.below hAl (Nat.le_refl _)).more hAl.size)
        have HUA := Lib.hid ((hUA.below hAl (Nat.le_refl _)).more hAl.size)
        have HAS := Lib.hid haS
        have HUW : Hid (IntsWf ba) := Lib.hid (fun i hi => by have := hUAb _ (List.getElem_mem hi); omega)
        clear hVA haS hUA hUAb hb13 hAl hUA5
        have a0 := A0.out
        have a1 := A1.out
        go_upto_region 20 with fail
        rw [← hga, ← hW14]
        clear hga hW14
        have hi1 := implInstantiate_any (.agg #[.int .i64 a.rel, .slice PA a.vals.length cA]) a (.slice PB ba.length cB) ba W14 ⟨_, rfl, HVA.out⟩ (atm_wf HAS.out) (atm_sz HAS.out) HUA.out HUW.out
        go_wp2_with fail
        refine hi1.mono ?_
        rintro e w15 ⟨VF, rfl, hOF, hb15⟩
        obtain ⟨PF, cF, rfl, -, -, -⟩ := id hOF.at_
        obtain ⟨gf, hgf⟩ : ∃ g, g = w15.heap.size := ⟨_, rfl⟩
        obtain ⟨W16, hW16⟩ : ∃ W, W = w15.alloc (.cells #[.int .i64 (Instantiate_r0 a ba).rel, .slice PF (Instantiate_r0 a ba).vals.length cF] 44) := ⟨_, rfl⟩
        have hAl : Below w15.heap.size w15 W16 := by rw [hW16]; exact (Below.refl _ _).alloc (Nat.le_refl _) _
        have hgf16 : gf < W16.heap.size := by rw [hW16, hgf]; simp
        have F0 := Lib.hid (show W16.cell? ⟨gf, 0, none⟩ = some (.int .i64 (Instantiate_r0 a ba).rel) by rw [hW16, hgf]; simp [go_sem])
        have F1 := Lib.hid (show W16.cell? ⟨gf, 1, none⟩ = some (.slice PF (Instantiate_r0 a ba).vals.length cF) by rw [hW16, hgf]; simp [go_sem])
        have HFO := Lib.hid ((hOF.at_.below hAl (Nat.le_refl _)).more hAl.size)
        have HB16 := Lib.hid ((hb15.trans (hAl.mono hb15.size)))
        clear hi1 hOF hb15 hAl a0 a1
        have a0 := (HB16.out.cell (p := ⟨ga, 0, none⟩) hga14).trans A0.out
        have a1 := (HB16.out.cell (p := ⟨ga, 1, none⟩) hga14).trans A1.out
        go_upto_region 21 with fail
        rw [← hgf, ← hW16]
        clear hgf hW16
        have hi2 := specInstantiate_any (.agg #[.int .i64 a.rel, .slice PA a.vals.length cA]) a (.slice PB ba.length cB) ba W16 ⟨_, rfl, (HVA.out.below HB16.out (Nat.le_refl _)).more HB16.out.size⟩ (atm_wf HAS.out) (atm_sz HAS.out) ((HUA.out.below HB16.out (Nat.le_refl _)).more HB16.out.size) HUW.out
        go_wp2_with fail
        refine hi2.mono ?_
        rintro e w17 ⟨VG, rfl, hOG, hb17⟩
        obtain ⟨PG, cG, rfl, -, -, -⟩ := id hOG.at_
        obtain ⟨gg, hgg⟩ : ∃ g, g = w17.heap.size := ⟨_, rfl⟩
        obtain ⟨W18, hW18⟩ : ∃ W, W = w17.alloc (.cells #[.int .i64 (Instantiate_r0 a ba).rel, .slice PG (Instantiate_r0 a ba).vals.length cG] 44) := ⟨_, rfl⟩
        have hAl : Below w17.heap.size w17 W18 := by rw [hW18]; exact (Below.refl _ _).alloc (Nat.le_refl _) _
        have hgg18 : gg < W18.heap.size := by rw [hW18, hgg]; simp
        have hB18 : Below W16.heap.size W16 W18 := hb17.trans (hAl.mono hb17.size)
        have hgf18 : gf < W18.heap.size := Nat.lt_of_lt_of_le hgf16 hB18.size
        have hB1218 := HB14.out.trans ((HB16.out.trans (hB18.mono HB16.out.size)).mono HB14.out.size)
        have hg18 : g' < W18.heap.size := Nat.lt_of_lt_of_le hgW' hB1218.size
        have M0 := Aft.cell (B := W18.heap.size) (w := W18) hgg18 (show W18.cell? ⟨gg, 0, none⟩ = some (.int .i64 (Instantiate_r0 a ba).rel) by rw [hW18, hgg]; simp [go_sem])
        have M1 := Aft.cell (B := W18.heap.size) (w := W18) hgg18 (show W18.cell? ⟨gg, 1, none⟩ = some (.slice PG (Instantiate_r0 a ba).vals.length cG) by rw [hW18, hgg]; simp [go_sem])
        have M2 := Aft.cell (B := W18.heap.size) (w := W18) hgf18 ((hB18.cell (p := ⟨gf, 0, none⟩) hgf16).trans F0.out)
        have M3 := Aft.cell (B := W18.heap.size) (w := W18) hgf18 ((hB18.cell (p := ⟨gf, 1, none⟩) hgf16).trans F1.out)
        have M4 := Aft.cell (B := W18.heap.size) (w := W18) hg18 ((hB1218.cell (p := ⟨g', 0, none⟩) hgW').trans Y0.out)
        have M5 := Aft.cell (B := W18.heap.size) (w := W18) hg18 ((hB1218.cell (p := ⟨g', 1, none⟩) hgW').trans Y1.out)
        have HF18 := Lib.hid ((HFO.out.below hB18 (Nat.le_refl _)).more hB18.size)
        have HG18 := Lib.hid ((hOG.at_.below hAl (Nat.le_refl _)).more hAl.size)
        have HY18 := Lib.hid ((HY.out.below hB1218 (Nat.le_refl _)).more hB1218.size)
        have HN18 := Lib.hid ((HN.out.below hB1218 (Nat.le_refl _)).more hB1218.size)
        have HT18 := Lib.hid ((HT.out.below hB1218 (Nat.le_refl _)).more hB1218.size)
        have HZ18 := Lib.hid (HZ12.out.trans (hB1218.mono HZ12.out.size))
        have hce1 := fun (u : Aft W18.heap.size W18) => implHasExtension_any (.agg #[.slice P' y.rels.length c1', .slice Q' y.facts.length d1']) (.slice R' n.length cR') y n (.slice PT bb.length cT) bb u.now ((HY18.out.below u.is (Nat.le_refl _)).more u.is.size) HYW.out ((HN18.out.below u.is (Nat.le_refl _)).more u.is.size) HNW.out ((HT18.out.below u.is (Nat.le_refl _)).more u.is.size)
        have hce2 := fun (u : Aft W18.heap.size W18) => specHasExt_any (.agg #[.slice P' y.rels.length c1', .slice Q' y.facts.length d1']) (.slice R' n.length cR') y n (.slice PT bb.length cT) bb u.now ((HY18.out.below u.is (Nat.le_refl _)).more u.is.size) HYW.out HYN.out ((HN18.out.below u.is (Nat.le_refl _)).more u.is.size) HNW.out ((HT18.out.below u.is (Nat.le_refl _)).more u.is.size)
        have hcc := fun (u : Aft W18.heap.size W18) => (by have := specCompareFacts_any (Instantiate_r0 a ba).rel (Instantiate_r0 a ba).rel (.slice PF (Instantiate_r0 a ba).vals.length cF) (.slice PG (Instantiate_r0 a ba).vals.length cG) (Instantiate_r0 a ba).vals (Instantiate_r0 a ba).vals u.now ((HF18.out.below u.is (Nat.le_refl _)).more u.is.size) ((HG18.out.below u.is (Nat.le_refl _)).more u.is.size); rw [show cmpFact (Instantiate_r0 a ba).rel (Instantiate_r0 a ba).vals (Instantiate_r0 a ba).rel (Instantiate_r0 a ba).vals = 0 from cmpF_self _] at this; exact this : Calls Try.prog 30 #[.agg #[.int .i64 (Instantiate_r0 a ba).rel, .slice PF (Instantiate_r0 a ba).vals.length cF], .agg #[.int .i64 (Instantiate_r0 a ba).rel, .slice PG (Instantiate_r0 a ba).vals.length cG]] u.now fun e w' => e = .returned (.int .i64 0) ∧ Below u.now.heap.size u.now w')
        generalize hasExt y n bb = qe at *
        generalize Instantiate_ok a ba = qi at *
        clear hi2 hOG hb17 hAl a0 a1 hB18 hB1218
        go_upto_region 22 with fail
        rw [← hgg, ← hW18]
        clear hgg hW18
        have hqe : (qe == qe) = true := by simp
        have hqi : (qi == qi) = true := by simp
        refine wp_region_aft (Below.refl W18.heap.size W18) (by kernel_rfl) (by kernel_rfl) ?_
        repeat (go_big_quiet_step (((first | (go_at_call 30; exact calls_aft (Nat.le_refl _) (hcc _)) | (go_at_call 24; exact calls_aft (Nat.le_refl _) (hce1 _)) | (go_at_call 29; exact calls_aft (Nat.le_refl _) (hce2 _))))))
        refine wpQuiet_nil ?_
        refine aft_end ?_
        intro w19 hh
        have HZ := Lib.hid (HZ18.out.trans (hh.mono HZ18.out.size))
        clear M0 M1 M2 M3 M4 M5 hce1 hce2 hcc hh
        go_wp2
        go_ret
        exact ⟨rfl, HZ.out⟩

end Go.Proofs.Ytobdijcnfmgidaa
