/-
  Walks and plain lemmas for the laws of this seat: what single Go functions return, for every argument.
-/
import Derived.Shelf.Abstract
import Derived.Test.YtobdijcnfmgidaaBase
import Derived.Test.YtobdijcnfmgidaaMem
import Derived.Test.YtobdijcnfmgidaaInts
import Derived.Test.YtobdijcnfmgidaaDraw
import Derived.Test.YtobdijcnfmgidaaDrawR
import Derived.Test.YtobdijcnfmgidaaAft
import Derived.Test.YtobdijcnfmgidaaTyInst
import Derived.Test.YtobdijcnfmgidaaMInst
import Derived.Test.YtobdijcnfmgidaaInstM
import Derived.Test.YtobdijcnfmgidaaFactVI
import Derived.Test.YtobdijcnfmgidaaValInI
namespace Go.Proofs.Ytobdijcnfmgidaa
open Go.RowKit

set_option maxHeartbeats 6400000 in
set_option maxRecDepth 100000 in
theorem specInstantiate_any (v : Value) (a : Atm) (u : Value) (b : List Int) (w : World) (h : Atom_at w w.heap.size v a) (hw : Atom_wf a) (hn : Atom_sz a ≤ 1048576) (h' : IntsAt w w.heap.size u b) (hwb : IntsWf b) :
    Calls Try.prog 28 #[v, u] w fun e w' => ∃ V, e = .returned (.tuple #[.agg #[.int .i64 (Instantiate_r0 a b).rel, V], .bool (Instantiate_ok a b)]) ∧ OwnInts w.heap.size V (Instantiate_r0 a b).vals w' ∧ Below w.heap.size w w' := by
  obtain ⟨V0, rfl, hV⟩ := h
  have HV := Lib.hid hV
  have HB := Lib.hid h'
  obtain ⟨P, c, rfl, hc1, hc2, -⟩ := hV
  obtain ⟨Q, d, rfl, hd1, hd2, -⟩ := h'
  unfold maxLen at hc2 hd2
  obtain ⟨E, hEq⟩ : ∃ E, E = (((w.alloc (.cells #[.int .i64 a.rel, .slice P a.vals.length c] 48)).alloc (.cells #[.int .i64 0, .slice none 0 0] 44)).alloc (.cells #[.int .i64 a.rel, .slice none 0 0] 44)) := ⟨_, rfl⟩
  have hE : Below w.heap.size w E := by rw [hEq]; exact below_more (below_more (below_more (Below.refl _ _) _) _) _
  have HEz := Lib.hid (show E.heap.size = w.heap.size + 3 by rw [hEq]; simp)
  have HA1 := Lib.hid (show E.cell? ⟨w.heap.size, 1, none⟩ = some (.slice P a.vals.length c) by rw [hEq]; simp [go_sem])
  have HR0 := Lib.hid (show E.cell? ⟨w.heap.size + 1, 0, none⟩ = some (.int .i64 0) by rw [hEq]; simp [go_sem])
  have HR1 := Lib.hid (show E.cell? ⟨w.heap.size + 1, 1, none⟩ = some (.slice none 0 0) by rw [hEq]; simp [go_sem])
  have HRz := Lib.hid (show ∀ o, E.frozen? ⟨w.heap.size + 1, o, none⟩ = false by intro o; rw [hEq]; simp [go_sem])
  have y0 : E.cell? ⟨w.heap.size + 2, 0, none⟩ = some (.int .i64 a.rel) := by rw [hEq]; simp [go_sem]
  have y1 : E.cell? ⟨w.heap.size + 2, 1, none⟩ = some (.slice none 0 0) := by rw [hEq]; simp [go_sem]
  have yz : ∀ o, E.frozen? ⟨w.heap.size + 2, o, none⟩ = false := by intro o; rw [hEq]; simp [go_sem]
  have HY := Lib.hid (And.intro y0 (And.intro y1 yz))
  clear y0 y1 yz
  have hn1 : a.vals.length ≤ 1048576 := hn
  go_enter Try.func28, Try.ntmps28
  go_wp2
  rw [← hEq]
  clear hEq
  go_loopw [7, 8] (fun i _ wr => InstInv a b (w.heap.size + 2) E i wr) (fun i _ _ => a.vals.length - (intOf i).toNat)
  case atStart => exact InstInv.mk' 0 _ [] (by omega) rfl rfl HY.out.1 HY.out.2.1 HY.out.2.2 (OwnInts.nil _ _) (Chg.refl _ _)
  case round =>
    obtain ⟨k, V, vs, hk, rfl, HI, y0, y1, yz, hO, HC⟩ := hrel
    obtain ⟨P4, c4, rfl, hl4, hm4, -⟩ := id hO.at_
    unfold maxLen at hm4
    have hgq : w.heap.size + 3 ≤ wr.heap.size := by have h1 := HC.out.size; rw [HEz.out] at h1; exact h1
    have HWr := Lib.hid (show Below w.heap.size w wr from hE.trans ((HC.out.below (B := w.heap.size) (fun q hq => by omega) (by rw [HEz.out]; omega))))
    have a1 : wr.cell? ⟨w.heap.size, 1, none⟩ = some (.slice P a.vals.length c) := (HC.out.cell (b := w.heap.size) (by rw [HEz.out]; omega) (by omega)).trans HA1.out
    have r0 : wr.cell? ⟨w.heap.size + 1, 0, none⟩ = some (.int .i64 0) := (HC.out.cell (b := w.heap.size + 1) (by rw [HEz.out]; omega) (by omega)).trans HR0.out
    have r1 : wr.cell? ⟨w.heap.size + 1, 1, none⟩ = some (.slice none 0 0) := (HC.out.cell (b := w.heap.size + 1) (by rw [HEz.out]; omega) (by omega)).trans HR1.out
    have rz : ∀ o, wr.frozen? ⟨w.heap.size + 1, o, none⟩ = false := fun o => (HC.out.frozen (b := w.heap.size + 1) (by rw [HEz.out]; omega) (by omega)).trans (HRz.out o)
    have hvl : vs.length ≤ 1048576 := by have := instL_len _ _ HI.out; rw [List.length_take] at this; omega
    have HO := Lib.hid hO
    clear hO
    by_cases hlt : k < a.vals.length
    · obtain ⟨b0, off0, rfl, hb0, e0⟩ := IntsAt.elem HV.out k hlt
      replace e0 := (HWr.out.cell (p := ⟨b0, off0 + k, none⟩) hb0).trans e0
      have hwt := hw.2 k hlt
      obtain ⟨t, ht⟩ : ∃ t, t = a.vals[k] := ⟨_, rfl⟩
      rw [← ht] at e0 hwt
      have hNx := fun (z : Int) (hz : instT b t = some z) => instL_next k hlt HI.out (by rw [← ht]; exact hz)
      have hSt := fun (hz : instT b t = none) => inst_no (instL_stop k hlt (by rw [← ht]; exact hz))
      clear ht
      by_cases hneg : 0 ≤ t
      · have hd1 : decide (0 ≤ t) = true := decide_eq_true hneg
        have hd1' : decide (t < 0) = false := decide_eq_false (by omega)
        obtain ⟨j, rfl⟩ : ∃ j : Nat, t = (j : Int) := ⟨t.toNat, by omega⟩
        by_cases hjb : j < b.length
        · have hd2 : decide ((b.length : Int) ≤ (j : Int)) = false := decide_eq_false (by omega)
          have hd3 : decide (b.length ≤ j) = false := decide_eq_false (by omega)
          obtain ⟨b1, off1, rfl, hb1, e1⟩ := IntsAt.elem HB.out j hjb
          replace e1 := (HWr.out.cell (p := ⟨b1, off1 + j, none⟩) hb1).trans e1
          have hwv := hwb j hjb
          have hit : instT b (j : Int) = if validV b[j] = true then some b[j] else none := by
            unfold instT; rw [if_pos hneg, dif_pos (show (j : Int).toNat < b.length by simpa using hjb)]; rfl
          obtain ⟨z, hz⟩ : ∃ z, z = b[j] := ⟨_, rfl⟩
          rw [← hz] at e1 hwv hit
          clear hz hneg
          cases hvz : validV z with
          | false =>
            have hvv := specIsValidValue_at z false hvz wr hwv.1 hwv.2
            have HF := Lib.hid (hSt (by rw [hit, hvz]; rfl))
            clear hNx hSt hit hvz
            go_wp2_with (go_at_call 64; refine hvv.mono ?_; rintro e w3 ⟨rfl, rfl⟩)
            refine bodyPost_ret (v := .tuple #[.agg #[.int .i64 0, .slice none 0 0], .bool false]) (by simp [results, Try.results28, go_sem, r0, r1]) rfl ⟨.slice none 0 0, by rw [HF.out.1, HF.out.2], by rw [HF.out.1]; exact OwnInts.nil _ _, ?_⟩
            exact ((HWr.out.setCell (p := ⟨w.heap.size + 1, 0, none⟩) (Nat.le_succ _) _).setCell (p := ⟨w.heap.size + 1, 1, none⟩) (Nat.le_succ _) _)
          | true =>
            have hvv := specIsValidValue_at z true hvz wr hwv.1 hwv.2
            have HN := Lib.hid (hNx z (by rw [hit, hvz]; rfl))
            clear hNx hSt hit hvz
            go_wp2_with (first | (go_at_call 64; refine hvv.mono ?_; rintro e w3 ⟨rfl, rfl⟩) | (at_builtin; refine ints_app1 HO.out rfl _ _ rfl rfl _ _ _ rfl rfl (by omega) (by omega) ?_; intro v5 w5 hO5 hB5 hG5; obtain ⟨g5, c5, rfl, hg5, -, -, -⟩ := hO5.form (by simp); have hl5 : (vs ++ [z]).length = vs.length + 1 := (by simp); rw [hl5] at hO5; have q0 := (hG5.cell_far ⟨w.heap.size + 2, 0, none⟩ (by show w.heap.size + 2 < _; omega) (fun e => by have h9 : w.heap.size + 3 ≤ w.heap.size + 2 := (HO.out.lt _ e.symm).1; omega)).trans y0; have q1 := (hG5.cell_far ⟨w.heap.size + 2, 1, none⟩ (by show w.heap.size + 2 < _; omega) (fun e => by have h9 : w.heap.size + 3 ≤ w.heap.size + 2 := (HO.out.lt _ e.symm).1; omega)).trans y1; have qz := fun o => (hG5.frozen_far ⟨w.heap.size + 2, o, none⟩ (by show w.heap.size + 2 < _; omega) (fun e => by have h9 : w.heap.size + 3 ≤ w.heap.size + 2 := (HO.out.lt _ e.symm).1; omega)).trans (yz o)))
            have z0 : (w5.setCell ⟨w.heap.size + 2, 1, none⟩ (.slice (some ⟨g5, 0, none⟩) (vs.length + 1) c5)).cell? ⟨w.heap.size + 2, 0, none⟩ = some (.int .i64 a.rel) := by simp [go_sem, q0]
            have z1 : (w5.setCell ⟨w.heap.size + 2, 1, none⟩ (.slice (some ⟨g5, 0, none⟩) (vs.length + 1) c5)).cell? ⟨w.heap.size + 2, 1, none⟩ = some (.slice (some ⟨g5, 0, none⟩) (vs.length + 1) c5) := by simp [go_sem, q1]
            have zz : ∀ o, (w5.setCell ⟨w.heap.size + 2, 1, none⟩ (.slice (some ⟨g5, 0, none⟩) (vs.length + 1) c5)).frozen? ⟨w.heap.size + 2, o, none⟩ = false := fun o => by simp [qz]
            go_roundw
            case rel => exact InstInv.mk' (k + 1) _ (vs ++ [z]) (by omega) (by go_num) HN.out z0 z1 zz (hO5.chg ((Chg.refl (fun q => q = w.heap.size + 2) w5).setCell (p := ⟨w.heap.size + 2, 1, none⟩) rfl _) (fun q hq e => by have := (hO5.lt q hq).1; omega)) ((HC.out.then_below (hB5.mono (by rw [HEz.out]; omega))).setCell (p := ⟨w.heap.size + 2, 1, none⟩) rfl _)
            case measure => simp [intOf]; omega
        · have hd2 : decide ((b.length : Int) ≤ (j : Int)) = true := decide_eq_true (by omega)
          have hd3 : decide (b.length ≤ j) = true := decide_eq_true (by omega)
          have HF := Lib.hid (hSt (by unfold instT; rw [if_pos hneg, dif_neg (show ¬ (j : Int).toNat < b.length by simpa using hjb)]))
          clear hNx hSt hneg
          go_wp2
          refine bodyPost_ret (v := .tuple #[.agg #[.int .i64 0, .slice none 0 0], .bool false]) (by simp [results, Try.results28, go_sem, r0, r1]) rfl ⟨.slice none 0 0, by rw [HF.out.1, HF.out.2], by rw [HF.out.1]; exact OwnInts.nil _ _, ?_⟩
          exact ((HWr.out.setCell (p := ⟨w.heap.size + 1, 0, none⟩) (Nat.le_succ _) _).setCell (p := ⟨w.heap.size + 1, 1, none⟩) (Nat.le_succ _) _)
      · have hd1 : decide (0 ≤ t) = false := decide_eq_false hneg
        have hd1' : decide (t < 0) = true := decide_eq_true (by omega)
        have hit : instT b t = if validV (-1 - t) = true then some (-1 - t) else none := by
          unfold instT; rw [if_neg hneg]
        have hzb : 0 ≤ -1 - t := by omega
        have hdz : decide (-1 - t < 0) = false := decide_eq_false (by omega)
        cases hvz : validV (-1 - t) with
        | false =>
          have hvv := specIsValidValue_at (-1 - t) false hvz wr (by omega) (by omega)
          have HF := Lib.hid (hSt (by rw [hit, hvz]; rfl))
          clear hNx hSt hit hvz
          go_wp2_with (go_at_call 64; refine hvv.mono ?_; rintro e w3 ⟨rfl, rfl⟩)
          refine bodyPost_ret (v := .tuple #[.agg #[.int .i64 0, .slice none 0 0], .bool false]) (by simp [results, Try.results28, go_sem, r0, r1]) rfl ⟨.slice none 0 0, by rw [HF.out.1, HF.out.2], by rw [HF.out.1]; exact OwnInts.nil _ _, ?_⟩
          exact ((HWr.out.setCell (p := ⟨w.heap.size + 1, 0, none⟩) (Nat.le_succ _) _).setCell (p := ⟨w.heap.size + 1, 1, none⟩) (Nat.le_succ _) _)
        | true =>
          have hvv := specIsValidValue_at (-1 - t) true hvz wr (by omega) (by omega)
          obtain ⟨z, hz⟩ : ∃ z, z = -1 - t := ⟨_, rfl⟩
          have HN := Lib.hid (hNx z (by rw [hit, hvz, hz]; rfl))
          have HZ := Lib.hid hz
          clear hNx hSt hit hvz hz
          go_wp2_with (first | (go_at_call 64; refine hvv.mono ?_; rintro e w3 ⟨rfl, rfl⟩) | (at_builtin; refine ints_app1 HO.out rfl _ _ rfl rfl _ _ _ rfl rfl (by omega) (by omega) ?_; intro v5 w5 hO5 hB5 hG5; obtain ⟨g5, c5, rfl, hg5, -, -, -⟩ := hO5.form (by simp); have hl5 : (vs ++ [-1 - t]).length = vs.length + 1 := (by simp); rw [hl5] at hO5; have q0 := (hG5.cell_far ⟨w.heap.size + 2, 0, none⟩ (by show w.heap.size + 2 < _; omega) (fun e => by have h9 : w.heap.size + 3 ≤ w.heap.size + 2 := (HO.out.lt _ e.symm).1; omega)).trans y0; have q1 := (hG5.cell_far ⟨w.heap.size + 2, 1, none⟩ (by show w.heap.size + 2 < _; omega) (fun e => by have h9 : w.heap.size + 3 ≤ w.heap.size + 2 := (HO.out.lt _ e.symm).1; omega)).trans y1; have qz := fun o => (hG5.frozen_far ⟨w.heap.size + 2, o, none⟩ (by show w.heap.size + 2 < _; omega) (fun e => by have h9 : w.heap.size + 3 ≤ w.heap.size + 2 := (HO.out.lt _ e.symm).1; omega)).trans (yz o)))
          have z0 : (w5.setCell ⟨w.heap.size + 2, 1, none⟩ (.slice (some ⟨g5, 0, none⟩) (vs.length + 1) c5)).cell? ⟨w.heap.size + 2, 0, none⟩ = some (.int .i64 a.rel) := by simp [go_sem, q0]
          have z1 : (w5.setCell ⟨w.heap.size + 2, 1, none⟩ (.slice (some ⟨g5, 0, none⟩) (vs.length + 1) c5)).cell? ⟨w.heap.size + 2, 1, none⟩ = some (.slice (some ⟨g5, 0, none⟩) (vs.length + 1) c5) := by simp [go_sem, q1]
          have zz : ∀ o, (w5.setCell ⟨w.heap.size + 2, 1, none⟩ (.slice (some ⟨g5, 0, none⟩) (vs.length + 1) c5)).frozen? ⟨w.heap.size + 2, o, none⟩ = false := fun o => by simp [qz]
          go_roundw
          case rel =>
            rw [← HZ.out] at hO5
            exact InstInv.mk' (k + 1) _ (vs ++ [z]) (by omega) (by go_num) HN.out z0 z1 zz (hO5.chg ((Chg.refl (fun q => q = w.heap.size + 2) w5).setCell (p := ⟨w.heap.size + 2, 1, none⟩) rfl _) (fun q hq e => by have := (hO5.lt q hq).1; omega)) ((HC.out.then_below (hB5.mono (by rw [HEz.out]; omega))).setCell (p := ⟨w.heap.size + 2, 1, none⟩) rfl _)
          case measure => simp [intOf]; omega
    · obtain rfl : k = a.vals.length := by omega
      have HF := Lib.hid (inst_yes (a := a) (b := b) (vs := vs) (by have := HI.out; rwa [List.take_of_length_le (Nat.le_refl _)] at this))
      go_wp2
      refine bodyPost_ret (v := .tuple #[.agg #[.int .i64 a.rel, .slice P4 vs.length c4], .bool true]) (by simp [results, Try.results28, go_sem, r0, r1]) rfl ⟨_, by rw [HF.out.1, HF.out.2], ?_, ?_⟩
      · rw [HF.out.1]
        exact ((HO.out.chg (((Chg.refl (fun q => q = w.heap.size + 1) wr).setCell (p := ⟨w.heap.size + 1, 0, none⟩) rfl (.int .i64 a.rel)).setCell (p := ⟨w.heap.size + 1, 1, none⟩) rfl (.slice P4 vs.length c4)) (fun q hq e => by have := (HO.out.lt q hq).1; omega))).mono (by omega)
      · exact ((HWr.out.setCell (p := ⟨w.heap.size + 1, 0, none⟩) (Nat.le_succ _) _).setCell (p := ⟨w.heap.size + 1, 1, none⟩) (Nat.le_succ _) _)
theorem specInstantiate_c (v : Value) (a : Atm) (u : Value) (b : List Int) (w : World) (h : Atom_at w w.heap.size v a) (hw : Atom_wf a) (hn : Atom_sz a ≤ 1048576) (h' : IntS_at w w.heap.size u b) (hw' : IntS_wf b) (_ : IntS_sz b ≤ 1048576) :
    Calls Try.prog 28 #[v, u] w fun e w' => ∃ r0, e = .returned (.tuple #[r0, .bool (Instantiate_ok a b)]) ∧ Fact_at w' w'.heap.size r0 (Instantiate_r0 a b) ∧ Below w.heap.size w w' :=
  (specInstantiate_any v a u b w h hw hn h' hw').mono fun _ _ ⟨V, he, ho, hb⟩ => ⟨_, he, ⟨V, rfl, ho.at_⟩, hb⟩

set_option maxHeartbeats 800000 in
theorem implSameFacts_at (a b : Fct) (q : Bool) (hq : sameP b a = q) (v u : Value) (w : World) (h : Fact_at w w.heap.size v a) (h' : Fact_at w w.heap.size u b) :
    Calls Try.prog 92 #[v, u] w fun e w' => e = .returned (.bool q) ∧ Below w.heap.size w w' := by
  obtain ⟨P, c, rfl⟩ := Fact_form h
  obtain ⟨Q, d, rfl⟩ := Fact_form h'
  have hE : Below w.heap.size w ((w.alloc (.cells #[.int .i64 a.rel, .slice P a.vals.length c] 44)).alloc (.cells #[.int .i64 b.rel, .slice Q b.vals.length d] 44)) := below_more (below_more (Below.refl _ _) _) _
  obtain ⟨z, hz⟩ : ∃ z, cmpF a b = z := ⟨_, rfl⟩
  have hc := implCompareFacts_at a b z hz _ _ ((w.alloc (.cells #[.int .i64 a.rel, .slice P a.vals.length c] 44)).alloc (.cells #[.int .i64 b.rel, .slice Q b.vals.length d] 44)) ((h.below hE (Nat.le_refl _)).more hE.size) ((h'.below hE (Nat.le_refl _)).more hE.size)
  have HQ := Lib.hid (show (z == 0) = q by rw [← hq, ← cmpF_same, hz]; rfl)
  clear hq hz h h'
  go_enter Try.func92, Try.ntmps92
  go_wp2_with (go_at_call 79; refine hc.mono ?_; rintro e w1 ⟨rfl, hb1⟩)
  go_ret
  exact ⟨ret_bool HQ.out, hE.trans (hb1.mono hE.size)⟩
/-- a function value that tells of a fact among l whether p holds, wherever G holds; it only makes memory -/
def TellsF (g : Nat) (lb : Array Value) (G : World → Prop) (p : Fct → Bool) (l : List Fct) : Prop :=
  ∀ (W : World) (x : Fct) (V : Value), G W → x ∈ l → IntS_at W W.heap.size V x.vals → Calls Try.prog g (#[.agg #[.int .i64 x.rel, V]] ++ lb) W fun e w' => e = .returned (.bool (p x)) ∧ Below W.heap.size W w'
/-- a fact in a box, which a function value has captured; all of it below block D -/
def BoxF (b D : Nat) (f : Fct) (V : Value) (W : World) : Prop := b < D ∧ D ≤ W.heap.size ∧ W.cell? ⟨b, 0, none⟩ = some (.int .i64 f.rel) ∧ W.cell? ⟨b, 1, none⟩ = some V ∧ IntS_at W D V f.vals
theorem BoxF.below {b D D' : Nat} {f : Fct} {V : Value} {W W' : World} (h : BoxF b D f V W) (hb : Below D' W W') (hD : D ≤ D') : BoxF b D f V W' := by
  obtain ⟨h1, h2, h3, h4, h5⟩ := h
  refine ⟨h1, Nat.le_trans h2 hb.size, (hb.cell (p := ⟨b, 0, none⟩) (Nat.lt_of_lt_of_le h1 hD)).trans h3, (hb.cell (p := ⟨b, 1, none⟩) (Nat.lt_of_lt_of_le h1 hD)).trans h4, h5.below hb hD⟩
theorem BoxF.later {b D : Nat} {f : Fct} {V : Value} {W W' : World} (h : BoxF b D f V W) (hb : Below W.heap.size W W') : BoxF b D f V W' := h.below hb h.2.1
theorem BoxF.more {b D D' : Nat} {f : Fct} {V : Value} {W : World} (h : BoxF b D f V W) (hD : D ≤ D') (hs : D' ≤ W.heap.size) : BoxF b D' f V W := ⟨Nat.lt_of_lt_of_le h.1 hD, hs, h.2.2.1, h.2.2.2.1, h.2.2.2.2.more hD⟩
theorem BoxF.chg {b D : Nat} {f : Fct} {V : Value} {S : Nat → Prop} {W W' : World} (h : BoxF b D f V W) (hc : Chg S W W') (hS : ∀ k, S k → D ≤ k) : BoxF b D f V W' := by
  obtain ⟨h1, h2, h3, h4, h5⟩ := h
  exact (show BoxF b D f V W from ⟨h1, h2, h3, h4, h5⟩).below (hc.below hS h2) (Nat.le_refl _)
theorem BoxF.store {b D q : Nat} {f : Fct} {V : Value} {W : World} (h : BoxF b D f V W) (hq : D ≤ q) (o : Nat) (u : Value) : BoxF b D f V (W.setCell ⟨q, o, none⟩ u) :=
  h.below ((Below.refl D W).setCell (p := ⟨q, o, none⟩) hq u) (Nat.le_refl _)

set_option maxHeartbeats 800000 in
theorem tells_hasFact (b D : Nat) (f : Fct) (P : Option Addr) (c : Nat) (l : List Fct) : TellsF 91 #[.pointer (some ⟨b, 0, none⟩)] (BoxF b D f (.slice P f.vals.length c)) (sameP f) l := by
  intro W x U hG _ hU
  obtain ⟨Q, d, rfl, -⟩ := id hU
  have HU := Lib.hid hU
  have HG := Lib.hid hG
  obtain ⟨h1, h2, h3, h4, h5⟩ := hG
  have hE : Below W.heap.size W (W.alloc (.cells #[.int .i64 x.rel, .slice Q x.vals.length d] 44)) := below_more (Below.refl _ _) _
  have hc := implSameFacts_at x f (sameP f x) rfl (.agg #[.int .i64 x.rel, .slice Q x.vals.length d]) (.agg #[.int .i64 f.rel, .slice P f.vals.length c]) (W.alloc (.cells #[.int .i64 x.rel, .slice Q x.vals.length d] 44)) ⟨_, rfl, (HU.out.below hE (Nat.le_refl _)).more hE.size⟩ ⟨_, rfl, (h5.below hE h2).more (Nat.le_trans h2 hE.size)⟩
  have m0 := (hE.cell (p := ⟨b, 0, none⟩) (Nat.lt_of_lt_of_le h1 h2)).trans h3
  have m1 := (hE.cell (p := ⟨b, 1, none⟩) (Nat.lt_of_lt_of_le h1 h2)).trans h4
  have hlt : b < W.heap.size := Nat.lt_of_lt_of_le h1 h2
  clear hU h3 h4 h5
  show Calls Try.prog 91 #[.agg #[.int .i64 x.rel, .slice Q x.vals.length d], .pointer (some ⟨b, 0, none⟩)] W _
  go_enter Try.func91, Try.ntmps91
  go_wp2_with (go_at_call 92; refine hc.mono ?_; rintro e w1 ⟨rfl, hb1⟩)
  go_ret
  exact ⟨rfl, hE.trans (hb1.mono hE.size)⟩

set_option maxHeartbeats 1600000 in
set_option maxRecDepth 100000 in
theorem implIxF_any (g : Nat) (lb : Array Value) (eg : ∀ args w, (callFunc g args).run Try.prog w = .ok (.enter g args) w) (G : World → Prop) (hG : ∀ W W', G W → Below W.heap.size W W' → G W') (p : Fct → Bool) (v : Value) (l : List Fct) (w : World) (h0 : G w) (ht : TellsF g lb G p l) (hl : FactS_at w w.heap.size v l) :
    Calls Try.prog 82 #[v, .func (.func g) #[] lb] w fun e w' => e = .returned (.int .i64 (ixOf p l)) ∧ Below w.heap.size w w' := by
  have HL := Lib.hid hl
  obtain ⟨A, c, rfl, hlc, hcm⟩ := hl.form
  unfold maxLen at hcm
  have HG := Lib.hid (fun wr (hW : Below w.heap.size w wr) => hG w wr h0 hW)
  have HT := Lib.hid ht
  clear hG h0 ht hl
  go_enter Try.func82, Try.ntmps82
  go_wp2
  go_loopw [8] (fun i wr => ∃ k : Nat, k ≤ l.length ∧ i = .int .i64 k ∧ Hid (IxTo p l k) ∧ Below w.heap.size w wr) (fun i _ => l.length - (intOf i).toNat)
  case atStart => exact ⟨0, by omega, rfl, Lib.hid (IxTo.zero _ _), Below.refl _ _⟩
  case round =>
    obtain ⟨k, hk, rfl, HI, hW⟩ := hrel
    have hz := hW.size
    by_cases hlt : k < l.length
    · obtain ⟨b, off, V, rfl, hb, c0, c1, hV⟩ := FactS_at.elem HL.out k hlt
      replace c0 := (hW.cell (p := ⟨b, off + k * 2, none⟩) hb).trans c0
      replace c1 := (hW.cell (p := ⟨b, off + k * 2 + 1, none⟩) hb).trans c1
      have hcall := HT.out wr l[k] V (HG.out wr hW) (List.getElem_mem hlt) ((hV.below hW (Nat.le_refl _)).more hz)
      cases hp : p l[k] with
      | true =>
        have HV := Lib.hid (HI.out.hit hlt hp)
        rw [hp] at hcall
        clear hp hV
        go_wp2_with (go_at_fn g; refine hcall.mono ?_; rintro e w1 ⟨rfl, hb1⟩)
        go_ret
        exact ⟨ret_int HV.out.symm, hW.trans (hb1.mono hz)⟩
      | false =>
        have HV := Lib.hid (HI.out.next hlt hp)
        rw [hp] at hcall
        clear hp hV
        go_wp2_with (go_at_fn g; refine hcall.mono ?_; rintro e w1 ⟨rfl, hb1⟩)
        go_roundw
        case rel => exact ⟨k + 1, by omega, by go_num, HV, hW.trans (hb1.mono hz)⟩
        case measure => simp [intOf]; omega
    · obtain rfl : k = l.length := by omega
      have HV := Lib.hid HI.out.miss
      go_wp2
      go_ret
      exact ⟨ret_int HV.out.symm, hW⟩

theorem implAnyF_any (g : Nat) (lb : Array Value) (eg : ∀ args w, (callFunc g args).run Try.prog w = .ok (.enter g args) w) (G : World → Prop) (hG : ∀ W W', G W → Below W.heap.size W W' → G W') (p : Fct → Bool) (v : Value) (l : List Fct) (w : World) (h0 : G w) (ht : TellsF g lb G p l) (hl : FactS_at w w.heap.size v l) :
    Calls Try.prog 90 #[v, .func (.func g) #[] lb] w fun e w' => e = .returned (.bool (l.any p)) ∧ Below w.heap.size w w' := by
  have hi := implIxF_any g lb eg G hG p v l w h0 ht hl
  have HV := Lib.hid (ixOf_any p l)
  generalize ixOf p l = q at *
  clear h0 ht hG
  obtain ⟨A, c, rfl, hlc, hcm⟩ := hl.form
  clear hl
  go_enter Try.func90, Try.ntmps90
  go_wp2_with (go_at_call 82; refine hi.mono ?_; rintro e w1 ⟨rfl, hb1⟩)
  go_ret
  exact ⟨ret_bool HV.out, hb1⟩

set_option maxHeartbeats 800000 in
theorem implHasFact_at (l : List Fct) (f : Fct) (q : Bool) (hq : l.any (sameP f) = q) (v u : Value) (w : World) (hl : FactS_at w w.heap.size v l) (hf : Fact_at w w.heap.size u f) :
    Calls Try.prog 49 #[v, u] w fun e w' => e = .returned (.bool q) ∧ Below w.heap.size w w' := by
  subst hq
  obtain ⟨P, c, rfl⟩ := Fact_form hf
  obtain ⟨V, hv, hI⟩ := hf
  simp only [Value.agg.injEq, Array.mk.injEq, List.cons.injEq, and_true, true_and] at hv
  subst hv
  have hE : Below w.heap.size w (w.alloc (.cells #[.int .i64 f.rel, .slice P f.vals.length c] 44)) := below_more (Below.refl _ _) _
  have hc := implAnyF_any 91 #[.pointer (some ⟨w.heap.size, 0, none⟩)] (enters_of Try.func91 (by kernel_rfl) rfl) (BoxF w.heap.size (w.alloc (.cells #[.int .i64 f.rel, .slice P f.vals.length c] 44)).heap.size f (.slice P f.vals.length c)) (fun _ _ h hb => h.later hb) (sameP f) v l (w.alloc (.cells #[.int .i64 f.rel, .slice P f.vals.length c] 44))
    ⟨by simp, Nat.le_refl _, by simp [go_sem], by simp [go_sem], (hI.below hE (Nat.le_refl _)).more hE.size⟩ (tells_hasFact _ _ _ _ _ _) ((hl.below hE (Nat.le_refl _)).more hE.size)
  obtain ⟨A, d, rfl, -⟩ := hl.form
  clear hl hI
  go_enter Try.func49, Try.ntmps49
  go_wp2_with (go_at_call 90; refine hc.mono ?_; rintro e w1 ⟨rfl, hb1⟩)
  go_ret
  exact ⟨rfl, hE.trans (hb1.mono hE.size)⟩

set_option maxHeartbeats 1600000 in
set_option maxRecDepth 100000 in
theorem implContainsFact_at (x : Inst) (f : Fct) (q : Bool) (hq : hasInst x f = q) (v u : Value) (w : World) (h : Instance_at w w.heap.size v x) (hw : Instance_wf x) (h' : Fact_at w w.heap.size u f) :
    Calls Try.prog 23 #[v, u] w fun e w' => e = .returned (.bool q) ∧ Below w.heap.size w w' := by
  subst hq
  obtain ⟨P, c, Q, d, rfl⟩ := Instance_form h
  obtain ⟨P', c', rfl⟩ := Fact_form h'
  have HX := Lib.hid h
  have HY := Lib.hid h'
  have HF := Lib.hid (show FactS_at w w.heap.size (.slice Q x.facts.length d) x.facts by
    obtain ⟨V1, V2, hv, hR, hF⟩ := h
    simp only [Value.agg.injEq, Array.mk.injEq, List.cons.injEq, and_true] at hv
    obtain ⟨rfl, rfl⟩ := hv
    exact hF)
  clear h h'
  obtain ⟨E, hEq⟩ : ∃ E, E = ((w.alloc (.cells #[.slice P x.rels.length c, .slice Q x.facts.length d] 27)).alloc (.cells #[.int .i64 f.rel, .slice P' f.vals.length c'] 44)) := ⟨_, rfl⟩
  have hE : Below w.heap.size w E := by rw [hEq]; exact below_more (below_more (Below.refl _ _) _) _
  have HE := Lib.hid (show w.heap.size + 2 = E.heap.size by rw [hEq]; simp)
  have K1 := Lib.hid (show E.cell? ⟨w.heap.size, 1, none⟩ = some (.slice Q x.facts.length d) by rw [hEq]; simp [go_sem])
  have L0 := Lib.hid (show E.cell? ⟨w.heap.size + 1, 0, none⟩ = some (.int .i64 f.rel) by rw [hEq]; simp [go_sem])
  have L1 := Lib.hid (show E.cell? ⟨w.heap.size + 1, 1, none⟩ = some (.slice P' f.vals.length c') by rw [hEq]; simp [go_sem])
  have hiv := fun (q : Bool) (hq : instOk x = q) => implIsValidInstance_at x q hq (.agg #[.slice P x.rels.length c, .slice Q x.facts.length d]) E ((HX.out.below hE (Nat.le_refl _)).more hE.size) hw
  rw [hEq] at hiv
  cases ho : instOk x with
  | false =>
    have HV := Lib.hid (show hasInst x f = false by unfold hasInst; rw [ho]; rfl)
    replace hiv := hiv false ho
    clear ho
    go_enter Try.func23, Try.ntmps23
    go_wp2_with (go_at_call 36; refine hiv.mono ?_; rintro e w1 ⟨rfl, hb1⟩)
    rw [← hEq] at hb1
    go_ret
    exact ⟨ret_bool HV.out.symm, hE.trans (hb1.mono hE.size)⟩
  | true =>
    have HV := Lib.hid (show hasInst x f = x.facts.any (sameP f) by rw [hasInst_any, ho]; rfl)
    replace hiv := hiv true ho
    have hhas := fun (W : World) (hb : Below w.heap.size w W) => implHasFact_at x.facts f _ rfl (.slice Q x.facts.length d) (.agg #[.int .i64 f.rel, .slice P' f.vals.length c']) W (HF.out.later hb) ((HY.out.below hb (Nat.le_refl _)).more hb.size)
    clear ho
    go_enter Try.func23, Try.ntmps23
    go_wp2_with fail
    refine hiv.mono ?_
    rintro e w1 ⟨rfl, hb1⟩
    rw [← hEq] at hb1
    have hW1 := hE.trans (hb1.mono hE.size)
    have f1 := (hb1.cell (p := ⟨w.heap.size, 1, none⟩) (by show w.heap.size < _; have := HE.out; omega)).trans K1.out
    have g0 := (hb1.cell (p := ⟨w.heap.size + 1, 0, none⟩) (by show w.heap.size + 1 < _; have := HE.out; omega)).trans L0.out
    have g1 := (hb1.cell (p := ⟨w.heap.size + 1, 1, none⟩) (by show w.heap.size + 1 < _; have := HE.out; omega)).trans L1.out
    replace hhas := hhas w1 hW1
    clear hiv hEq
    go_wp2_with (go_at_call 49; refine hhas.mono ?_; rintro e w2 ⟨rfl, hb2⟩)
    go_ret
    exact ⟨ret_bool HV.out.symm, hW1.trans (hb2.mono hW1.size)⟩
theorem implContainsFact_c (v : Value) (x : Inst) (u : Value) (y : Fct) (w : World) (h : Instance_at w w.heap.size v x) (hw : Instance_wf x) (_ : Instance_sz x ≤ 1048576) (h' : Fact_at w w.heap.size u y) (_ : Fact_wf y) (_ : Fact_sz y ≤ 1048576) :
    Calls Try.prog 23 #[v, u] w fun e w' => e = .returned (.bool (hasInst x y)) ∧ Below w.heap.size w w' := implContainsFact_at x y _ rfl v u w h hw h'

theorem big_any (q : Option Addr) (n c : Nat) (w : World) :
    Calls Try.prog 6 #[.slice q n c] w fun e w' => e = .returned (.bool (decide (1048576 < (n : Int)))) ∧ w = w' := by
  go_enter Try.func6, Try.ntmps6
  go_wp2
  go_ret
  exact ⟨rfl, rfl⟩

end Go.Proofs.Ytobdijcnfmgidaa
