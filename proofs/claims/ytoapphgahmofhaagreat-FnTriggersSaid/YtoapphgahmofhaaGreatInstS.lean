/-
  Walks and plain lemmas for the laws of this seat: what single Go functions return, for every argument.
-/
import Derived.Test.YtoapphgahmofhaaGreatBase
import Derived.Test.YtoapphgahmofhaaGreatInts
import Derived.Test.YtoapphgahmofhaaGreatDrawR
import Derived.Test.YtoapphgahmofhaaGreatAft
import Derived.Test.YtoapphgahmofhaaGreatInstM
namespace Go.Proofs.YtoapphgahmofhaaGreat
open Go.RowKit

set_option maxHeartbeats 6400000 in
set_option maxRecDepth 100000 in
theorem specInstantiate_any (v : Value) (a : Atm) (u : Value) (b : List Int) (w : World) (h : Atom_at w w.heap.size v a) (hw : Atom_wf a) (hn : Atom_sz a ≤ 1048576) (h' : IntsAt w w.heap.size u b) (hwb : IntsWf b) :
    Calls Tryz.prog 45 #[v, u] w fun e w' => ∃ V, e = .returned (.tuple #[.agg #[.int .i64 (Instantiate_r0 a b).rel, V], .bool (Instantiate_ok a b)]) ∧ OwnInts w.heap.size V (Instantiate_r0 a b).vals w' ∧ Below w.heap.size w w' := by
  obtain ⟨V0, rfl, hV⟩ := h
  have HV := Lib.hid hV
  have HB := Lib.hid h'
  obtain ⟨P, c, rfl, hc1, hc2, -⟩ := hV
  obtain ⟨Q, d, rfl, hd1, hd2, -⟩ := h'
  unfold maxLen at hc2 hd2
  obtain ⟨E, hEq⟩ : ∃ E, E = (((w.alloc (.cells #[.int .i64 a.rel, .slice P a.vals.length c] 74)).alloc (.cells #[.int .i64 0, .slice none 0 0] 70)).alloc (.cells #[.int .i64 a.rel, .slice none 0 0] 70)) := ⟨_, rfl⟩
  have hE : Below w.heap.size w E := by rw [hEq]; exact below_more (below_more (below_more (Below.refl _ _) _) _) _
  have HEz := Lib.hid (show E.heap.size = w.heap.size + 3 by rw [hEq]; simp)
  have HA1 := Lib.hid (show E.cell? ⟨w.heap.size, 1, none⟩ = some (.slice P a.vals.length c) by rw [hEq]; simp [go_sem])
  have HR0 := Lib.hid (show E.cell? ⟨w.heap.size + 1, 0, none⟩ = some (.int .i64 0) by rw [hEq]; simp [go_sem])
  have HR1 := Lib.hid (show E.cell? ⟨w.heap.size + 1, 1, none⟩ = some (.slice none 0 0) by rw [hEq]; simp [go_sem])
  have HRz := Lib.hid (show ∀ o, E.frozen? ⟨w.heap.size + 1, o, none⟩ = false by intro o; rw [hEq]; simp [go_sem])
  have y0 : E.cell? ⟨w.heap.size + 2, 0, none⟩ = some (.int .i64 a.rel) := by rw [hEq]; simp [go_sem]
  have y1 : E.cell? ⟨w.heap.size + 2, 1, none⟩ = some (.slice none 0 0) := by rw [hEq]; simp [go_sem]
  have yz : ∀ o, E.frozen? ⟨w.heap.size + 2, o, none⟩ = false := by intro o; rw [hEq]; simp [go_sem]
  have HY := Lib.hid (And.intro y0 (And.intro y1 yz))
  clear y0 y1 yz
  have hn1 : a.vals.length ≤ 1048576 := hn
  go_enter Tryz.func45, Tryz.ntmps45
  go_wp2
  rw [← hEq]
  clear hEq
  go_loopw [7, 8] (fun i _ wr => InstInv a b (w.heap.size + 2) E i wr) (fun i _ _ => a.vals.length - (intOf i).toNat)
  case atStart => exact InstInv.mk' 0 _ [] (by omega) rfl rfl HY.out.1 HY.out.2.1 HY.out.2.2 (OwnInts.nil _ _) (Chg.refl _ _)
  case round =>
    obtain ⟨k, V, vs, hk, rfl, HI, y0, y1, yz, hO, HC⟩ := hrel
    obtain ⟨P4, c4, rfl, hl4, hm4, -⟩ := id hO.at_
    unfold maxLen at hm4
    have hgq : w.heap.size + 3 ≤ wr.heap.size := by have h1 := HC.out.size; rw [HEz.out] at h1; exact h1
    have HWr := Lib.hid (show Below w.heap.size w wr from hE.trans ((HC.out.below (B := w.heap.size) (fun q hq => by omega) (by rw [HEz.out]; omega))))
    have a1 : wr.cell? ⟨w.heap.size, 1, none⟩ = some (.slice P a.vals.length c) := (HC.out.cell (b := w.heap.size) (by rw [HEz.out]; omega) (by omega)).trans HA1.out
    have r0 : wr.cell? ⟨w.heap.size + 1, 0, none⟩ = some (.int .i64 0) := (HC.out.cell (b := w.heap.size + 1) (by rw [HEz.out]; omega) (by omega)).trans HR0.out
    have r1 : wr.cell? ⟨w.heap.size + 1, 1, none⟩ = some (.slice none 0 0) := (HC.out.cell (b := w.heap.size + 1) (by rw [HEz.out]; omega) (by omega)).trans HR1.out
    have rz : ∀ o, wr.frozen? ⟨w.heap.size + 1, o, none⟩ = false := fun o => (HC.out.frozen (b := w.heap.size + 1) (by rw [HEz.out]; omega) (by omega)).trans (HRz.out o)
    have hvl : vs.length ≤ 1048576 := by have := instL_len _ _ HI.out; rw [List.length_take] at this; omega
    have HO := Lib.hid hO
    clear hO
    by_cases hlt : k < a.vals.length
    · obtain ⟨b0, off0, rfl, hb0, e0⟩ := IntsAt.elem HV.out k hlt
      replace e0 := (HWr.out.cell (p := ⟨b0, off0 + k, none⟩) hb0).trans e0
      have hwt := hw.2 k hlt
      obtain ⟨t, ht⟩ : ∃ t, t = a.vals[k] := ⟨_, rfl⟩
      rw [← ht] at e0 hwt
      have hNx := fun (z : Int) (hz : instT b t = some z) => instL_next k hlt HI.out (by rw [← ht]; exact hz)
      have hSt := fun (hz : instT b t = none) => inst_no (instL_stop k hlt (by rw [← ht]; exact hz))
      clear ht
      by_cases hneg : 0 ≤ t
      · have hd1 : decide (0 ≤ t) = true := decide_eq_true hneg
        have hd1' : decide (t < 0) = false := decide_eq_false (by omega)
        obtain ⟨j, rfl⟩ : ∃ j : Nat, t = (j : Int) := ⟨t.toNat, by omega⟩
        by_cases hjb : j < b.length
        · have hd2 : decide ((b.length : Int) ≤ (j : Int)) = false := decide_eq_false (by omega)
          have hd3 : decide (b.length ≤ j) = false := decide_eq_false (by omega)
          obtain ⟨b1, off1, rfl, hb1, e1⟩ := IntsAt.elem HB.out j hjb
          replace e1 := (HWr.out.cell (p := ⟨b1, off1 + j, none⟩) hb1).trans e1
          have hwv := hwb j hjb
          have hit : instT b (j : Int) = if validV b[j] = true then some b[j] else none := by
            unfold instT; rw [if_pos hneg, dif_pos (show (j : Int).toNat < b.length by simpa using hjb)]; rfl
          obtain ⟨z, hz⟩ : ∃ z, z = b[j] := ⟨_, rfl⟩
          rw [← hz] at e1 hwv hit
          clear hz hneg
          cases hvz : validV z with
          | false =>
            have hvv := specIsValidValue_at z false hvz wr hwv.1 hwv.2
            have HF := Lib.hid (hSt (by rw [hit, hvz]; rfl))
            clear hNx hSt hit hvz
            go_wp2_with (go_at_call 87; refine hvv.mono ?_; rintro e w3 ⟨rfl, rfl⟩)
            refine bodyPost_ret (v := .tuple #[.agg #[.int .i64 0, .slice none 0 0], .bool false]) (by simp [results, Tryz.results45, go_sem, r0, r1]) rfl ⟨.slice none 0 0, by rw [HF.out.1, HF.out.2], by rw [HF.out.1]; exact OwnInts.nil _ _, ?_⟩
            exact ((HWr.out.setCell (p := ⟨w.heap.size + 1, 0, none⟩) (Nat.le_succ _) _).setCell (p := ⟨w.heap.size + 1, 1, none⟩) (Nat.le_succ _) _)
          | true =>
            have hvv := specIsValidValue_at z true hvz wr hwv.1 hwv.2
            have HN := Lib.hid (hNx z (by rw [hit, hvz]; rfl))
            clear hNx hSt hit hvz
            go_wp2_with (first | (go_at_call 87; refine hvv.mono ?_; rintro e w3 ⟨rfl, rfl⟩) | (at_builtin; refine ints_app1 HO.out rfl _ _ rfl rfl _ _ _ rfl rfl (by omega) (by omega) ?_; intro v5 w5 hO5 hB5 hG5; obtain ⟨g5, c5, rfl, hg5, -, -, -⟩ := hO5.form (by simp); have hl5 : (vs ++ [z]).length = vs.length + 1 := (by simp); rw [hl5] at hO5; have q0 := (hG5.cell_far ⟨w.heap.size + 2, 0, none⟩ (by show w.heap.size + 2 < _; omega) (fun e => by have h9 : w.heap.size + 3 ≤ w.heap.size + 2 := (HO.out.lt _ e.symm).1; omega)).trans y0; have q1 := (hG5.cell_far ⟨w.heap.size + 2, 1, none⟩ (by show w.heap.size + 2 < _; omega) (fun e => by have h9 : w.heap.size + 3 ≤ w.heap.size + 2 := (HO.out.lt _ e.symm).1; omega)).trans y1; have qz := fun o => (hG5.frozen_far ⟨w.heap.size + 2, o, none⟩ (by show w.heap.size + 2 < _; omega) (fun e => by have h9 : w.heap.size + 3 ≤ w.heap.size + 2 := (HO.out.lt _ e.symm).1; omega)).trans (yz o)))
            have z0 : (w5.setCell ⟨w.heap.size + 2, 1, none⟩ (.slice (some ⟨g5, 0, none⟩) (vs.length + 1) c5)).cell? ⟨w.heap.size + 2, 0, none⟩ = some (.int .i64 a.rel) := by simp [go_sem, q0]
            have z1 : (w5.setCell ⟨w.heap.size + 2, 1, none⟩ (.slice (some ⟨g5, 0, none⟩) (vs.length + 1) c5)).cell? ⟨w.heap.size + 2, 1, none⟩ = some (.slice (some ⟨g5, 0, none⟩) (vs.length + 1) c5) := by simp [go_sem, q1]
            have zz : ∀ o, (w5.setCell ⟨w.heap.size + 2, 1, none⟩ (.slice (some ⟨g5, 0, none⟩) (vs.length + 1) c5)).frozen? ⟨w.heap.size + 2, o, none⟩ = false := fun o => by simp [qz]
            go_roundw
            case rel => exact InstInv.mk' (k + 1) _ (vs ++ [z]) (by omega) (by go_num) HN.out z0 z1 zz (hO5.chg ((Chg.refl (fun q => q = w.heap.size + 2) w5).setCell (p := ⟨w.heap.size + 2, 1, none⟩) rfl _) (fun q hq e => by have := (hO5.lt q hq).1; omega)) ((HC.out.then_below (hB5.mono (by rw [HEz.out]; omega))).setCell (p := ⟨w.heap.size + 2, 1, none⟩) rfl _)
            case measure => simp [intOf]; omega
        · have hd2 : decide ((b.length : Int) ≤ (j : Int)) = true := decide_eq_true (by omega)
          have hd3 : decide (b.length ≤ j) = true := decide_eq_true (by omega)
          have HF := Lib.hid (hSt (by unfold instT; rw [if_pos hneg, dif_neg (show ¬ (j : Int).toNat < b.length by simpa using hjb)]))
          clear hNx hSt hneg
          go_wp2
          refine bodyPost_ret (v := .tuple #[.agg #[.int .i64 0, .slice none 0 0], .bool false]) (by simp [results, Tryz.results45, go_sem, r0, r1]) rfl ⟨.slice none 0 0, by rw [HF.out.1, HF.out.2], by rw [HF.out.1]; exact OwnInts.nil _ _, ?_⟩
          exact ((HWr.out.setCell (p := ⟨w.heap.size + 1, 0, none⟩) (Nat.le_succ _) _).setCell (p := ⟨w.heap.size + 1, 1, none⟩) (Nat.le_succ _) _)
      · have hd1 : decide (0 ≤ t) = false := decide_eq_false hneg
        have hd1' : decide (t < 0) = true := decide_eq_true (by omega)
        have hit : instT b t = if validV (-1 - t) = true then some (-1 - t) else none := by
          unfold instT; rw [if_neg hneg]
        have hzb : 0 ≤ -1 - t := by omega
        have hdz : decide (-1 - t < 0) = false := decide_eq_false (by omega)
        cases hvz : validV (-1 - t) with
        | false =>
          have hvv := specIsValidValue_at (-1 - t) false hvz wr (by omega) (by omega)
          have HF := Lib.hid (hSt (by rw [hit, hvz]; rfl))
          clear hNx hSt hit hvz
          go_wp2_with (go_at_call 87; refine hvv.mono ?_; rintro e w3 ⟨rfl, rfl⟩)
          refine bodyPost_ret (v := .tuple #[.agg #[.int .i64 0, .slice none 0 0], .bool false]) (by simp [results, Tryz.results45, go_sem, r0, r1]) rfl ⟨.slice none 0 0, by rw [HF.out.1, HF.out.2], by rw [HF.out.1]; exact OwnInts.nil _ _, ?_⟩
          exact ((HWr.out.setCell (p := ⟨w.heap.size + 1, 0, none⟩) (Nat.le_succ _) _).setCell (p := ⟨w.heap.size + 1, 1, none⟩) (Nat.le_succ _) _)
        | true =>
          have hvv := specIsValidValue_at (-1 - t) true hvz wr (by omega) (by omega)
          obtain ⟨z, hz⟩ : ∃ z, z = -1 - t := ⟨_, rfl⟩
          have HN := Lib.hid (hNx z (by rw [hit, hvz, hz]; rfl))
          have HZ := Lib.hid hz
          clear hNx hSt hit hvz hz
          go_wp2_with (first | (go_at_call 87; refine hvv.mono ?_; rintro e w3 ⟨rfl, rfl⟩) | (at_builtin; refine ints_app1 HO.out rfl _ _ rfl rfl _ _ _ rfl rfl (by omega) (by omega) ?_; intro v5 w5 hO5 hB5 hG5; obtain ⟨g5, c5, rfl, hg5, -, -, -⟩ := hO5.form (by simp); have hl5 : (vs ++ [-1 - t]).length = vs.length + 1 := (by simp); rw [hl5] at hO5; have q0 := (hG5.cell_far ⟨w.heap.size + 2, 0, none⟩ (by show w.heap.size + 2 < _; omega) (fun e => by have h9 : w.heap.size + 3 ≤ w.heap.size + 2 := (HO.out.lt _ e.symm).1; omega)).trans y0; have q1 := (hG5.cell_far ⟨w.heap.size + 2, 1, none⟩ (by show w.heap.size + 2 < _; omega) (fun e => by have h9 : w.heap.size + 3 ≤ w.heap.size + 2 := (HO.out.lt _ e.symm).1; omega)).trans y1; have qz := fun o => (hG5.frozen_far ⟨w.heap.size + 2, o, none⟩ (by show w.heap.size + 2 < _; omega) (fun e => by have h9 : w.heap.size + 3 ≤ w.heap.size + 2 := (HO.out.lt _ e.symm).1; omega)).trans (yz o)))
          have z0 : (w5.setCell ⟨w.heap.size + 2, 1, none⟩ (.slice (some ⟨g5, 0, none⟩) (vs.length + 1) c5)).cell? ⟨w.heap.size + 2, 0, none⟩ = some (.int .i64 a.rel) := by simp [go_sem, q0]
          have z1 : (w5.setCell ⟨w.heap.size + 2, 1, none⟩ (.slice (some ⟨g5, 0, none⟩) (vs.length + 1) c5)).cell? ⟨w.heap.size + 2, 1, none⟩ = some (.slice (some ⟨g5, 0, none⟩) (vs.length + 1) c5) := by simp [go_sem, q1]
          have zz : ∀ o, (w5.setCell ⟨w.heap.size + 2, 1, none⟩ (.slice (some ⟨g5, 0, none⟩) (vs.length + 1) c5)).frozen? ⟨w.heap.size + 2, o, none⟩ = false := fun o => by simp [qz]
          go_roundw
          case rel =>
            rw [← HZ.out] at hO5
            exact InstInv.mk' (k + 1) _ (vs ++ [z]) (by omega) (by go_num) HN.out z0 z1 zz (hO5.chg ((Chg.refl (fun q => q = w.heap.size + 2) w5).setCell (p := ⟨w.heap.size + 2, 1, none⟩) rfl _) (fun q hq e => by have := (hO5.lt q hq).1; omega)) ((HC.out.then_below (hB5.mono (by rw [HEz.out]; omega))).setCell (p := ⟨w.heap.size + 2, 1, none⟩) rfl _)
          case measure => simp [intOf]; omega
    · obtain rfl : k = a.vals.length := by omega
      have HF := Lib.hid (inst_yes (a := a) (b := b) (vs := vs) (by have := HI.out; rwa [List.take_of_length_le (Nat.le_refl _)] at this))
      go_wp2
      refine bodyPost_ret (v := .tuple #[.agg #[.int .i64 a.rel, .slice P4 vs.length c4], .bool true]) (by simp [results, Tryz.results45, go_sem, r0, r1]) rfl ⟨_, by rw [HF.out.1, HF.out.2], ?_, ?_⟩
      · rw [HF.out.1]
        exact ((HO.out.chg (((Chg.refl (fun q => q = w.heap.size + 1) wr).setCell (p := ⟨w.heap.size + 1, 0, none⟩) rfl (.int .i64 a.rel)).setCell (p := ⟨w.heap.size + 1, 1, none⟩) rfl (.slice P4 vs.length c4)) (fun q hq e => by have := (HO.out.lt q hq).1; omega))).mono (by omega)
      · exact ((HWr.out.setCell (p := ⟨w.heap.size + 1, 0, none⟩) (Nat.le_succ _) _).setCell (p := ⟨w.heap.size + 1, 1, none⟩) (Nat.le_succ _) _)
theorem specInstantiate_c (v : Value) (a : Atm) (u : Value) (b : List Int) (w : World) (h : Atom_at w w.heap.size v a) (hw : Atom_wf a) (hn : Atom_sz a ≤ 1048576) (h' : IntS_at w w.heap.size u b) (hw' : IntS_wf b) (_ : IntS_sz b ≤ 1048576) :
    Calls Tryz.prog 45 #[v, u] w fun e w' => ∃ r0, e = .returned (.tuple #[r0, .bool (Instantiate_ok a b)]) ∧ Fact_at w' w'.heap.size r0 (Instantiate_r0 a b) ∧ Below w.heap.size w w' :=
  (specInstantiate_any v a u b w h hw hn h' hw').mono fun _ _ ⟨V, he, ho, hb⟩ => ⟨_, he, ⟨V, rfl, ho.at_⟩, hb⟩

end Go.Proofs.YtoapphgahmofhaaGreat
