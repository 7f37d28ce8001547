/-
  Walks and plain lemmas for the laws of this seat: what single Go functions return, for every argument.
-/
import Derived.LoopN
import Derived.Test.YtobdijcnfmgidaaGreatBase
import Derived.Test.YtobdijcnfmgidaaGreatPlan
import Derived.Test.YtobdijcnfmgidaaGreatInts
import Derived.Test.YtobdijcnfmgidaaGreatRel
import Derived.Test.YtobdijcnfmgidaaGreatFact
import Derived.Test.YtobdijcnfmgidaaGreatKpM
import Derived.Test.YtobdijcnfmgidaaGreatMatM
namespace Go.Proofs.YtobdijcnfmgidaaGreat
open Go.RowKit

def slLen : Value → Nat
  | .slice _ n _ => n
  | _ => 0
def blank5 : List Int := List.replicate 5 10
def BlankInv (w : World) (v : Value) (wr : World) : Prop := ∃ k : Nat, k ≤ 5 ∧ OwnInts w.heap.size v (List.replicate k 10) wr ∧ Hid (Below w.heap.size w wr)
set_option maxHeartbeats 3200000 in
set_option maxRecDepth 100000 in
theorem specL11Blank_c (w : World) : Calls Tryz.prog 124 #[] w fun e w' => ∃ V, e = .returned V ∧ OwnInts w.heap.size V blank5 w' ∧ Below w.heap.size w w' := by
  have hF : Below w.heap.size w (w.alloc (.cells #[] 3)) := (Below.refl _ _).alloc (Nat.le_refl _) _
  have HF := Lib.hid hF
  have HO0 := Lib.hid (OwnInts.empty w w.heap.size (Nat.le_refl _))
  clear hF
  go_enter Tryz.func124, Tryz.ntmps124
  go_wp2
  go_loopw [1] (fun v wr => BlankInv w v wr) (fun v _ => 5 - slLen v)
  case atStart => exact ⟨0, by omega, HO0.out, HF⟩
  case round =>
    obtain ⟨k, hk, hO, hW⟩ := hrel
    obtain ⟨P, c, hv, hc1, hc2, -⟩ := hO.at_
    rw [List.length_replicate] at hv hc1
    subst hv
    unfold maxLen at hc2
    have HO := Lib.hid hO
    have HZ := Lib.hid (show w.heap.size ≤ wr.heap.size from hW.out.size)
    clear hO
    by_cases hlt : k < 5
    · have HE := Lib.hid (show List.replicate k (10 : Int) ++ [10] = List.replicate (k + 1) 10 from List.replicate_succ'.symm)
      go_wp2_with (first | (go_at_call 154; refine (specL11None_c _).mono ?_; rintro e w3 ⟨rfl, rfl⟩) | (at_builtin; refine ints_app1 HO.out rfl _ _ rfl (by simp [go_sem]) _ _ _ rfl rfl (by simp; omega) HZ.out ?_; intro v5 w5 hO5 hB5 hG5; rw [HE.out] at hO5; obtain ⟨P5, c5, hv5, -⟩ := id hO5.at_; rw [List.length_replicate] at hv5; subst hv5))
      go_roundw
      case rel => exact ⟨k + 1, by omega, hO5, Lib.hid (hW.out.trans hB5)⟩
      case measure => simp [slLen]; omega
    · obtain rfl : k = 5 := by omega
      go_wp2
      exact bodyPost_ret (v := .slice P 5 c) (by simp [results, Tryz.results124, go_sem]) rfl ⟨_, rfl, HO.out, hW.out⟩

set_option maxHeartbeats 6400000 in
set_option maxRecDepth 100000 in
theorem specInstantiate_any (v : Value) (a : Atm) (u : Value) (b : List Int) (w : World) (h : Atom_at w w.heap.size v a) (hw : Atom_wf a) (hn : Atom_sz a ≤ 1048576) (h' : IntsAt w w.heap.size u b) (hwb : IntsWf b) :
    Calls Tryz.prog 155 #[v, u] w fun e w' => ∃ V, e = .returned (.tuple #[.agg #[.int .i64 (Instantiate_r0 a b).rel, V], .bool (Instantiate_ok a b)]) ∧ OwnInts w.heap.size V (Instantiate_r0 a b).vals w' ∧ Below w.heap.size w w' := by
  obtain ⟨V0, rfl, hV⟩ := h
  have HV := Lib.hid hV
  have HB := Lib.hid h'
  obtain ⟨P, c, rfl, hc1, hc2, -⟩ := hV
  obtain ⟨Q, d, rfl, hd1, hd2, -⟩ := h'
  unfold maxLen at hc2 hd2
  obtain ⟨E, hEq⟩ : ∃ E, E = (((w.alloc (.cells #[.int .i64 a.rel, .slice P a.vals.length c] 111)).alloc (.cells #[.int .i64 0, .slice none 0 0] 66)).alloc (.cells #[.int .i64 a.rel, .slice none 0 0] 66)) := ⟨_, rfl⟩
  have hE : Below w.heap.size w E := by rw [hEq]; exact below_more (below_more (below_more (Below.refl _ _) _) _) _
  have HEz := Lib.hid (show E.heap.size = w.heap.size + 3 by rw [hEq]; simp)
  have HA1 := Lib.hid (show E.cell? ⟨w.heap.size, 1, none⟩ = some (.slice P a.vals.length c) by rw [hEq]; simp [go_sem])
  have HR0 := Lib.hid (show E.cell? ⟨w.heap.size + 1, 0, none⟩ = some (.int .i64 0) by rw [hEq]; simp [go_sem])
  have HR1 := Lib.hid (show E.cell? ⟨w.heap.size + 1, 1, none⟩ = some (.slice none 0 0) by rw [hEq]; simp [go_sem])
  have HRz := Lib.hid (show ∀ o, E.frozen? ⟨w.heap.size + 1, o, none⟩ = false by intro o; rw [hEq]; simp [go_sem])
  have y0 : E.cell? ⟨w.heap.size + 2, 0, none⟩ = some (.int .i64 a.rel) := by rw [hEq]; simp [go_sem]
  have y1 : E.cell? ⟨w.heap.size + 2, 1, none⟩ = some (.slice none 0 0) := by rw [hEq]; simp [go_sem]
  have yz : ∀ o, E.frozen? ⟨w.heap.size + 2, o, none⟩ = false := by intro o; rw [hEq]; simp [go_sem]
  have HY := Lib.hid (And.intro y0 (And.intro y1 yz))
  clear y0 y1 yz
  have hn1 : a.vals.length ≤ 1048576 := hn
  go_enter Tryz.func155, Tryz.ntmps155
  go_wp2
  rw [← hEq]
  clear hEq
  go_loopw [7, 8] (fun i _ wr => InstInv a b (w.heap.size + 2) E i wr) (fun i _ _ => a.vals.length - (intOf i).toNat)
  case atStart => exact InstInv.mk' 0 _ [] (by omega) rfl rfl HY.out.1 HY.out.2.1 HY.out.2.2 (OwnInts.nil _ _) (Chg.refl _ _)
  case round =>
    obtain ⟨k, V, vs, hk, rfl, HI, y0, y1, yz, hO, HC⟩ := hrel
    obtain ⟨P4, c4, rfl, hl4, hm4, -⟩ := id hO.at_
    unfold maxLen at hm4
    have hgq : w.heap.size + 3 ≤ wr.heap.size := by have h1 := HC.out.size; rw [HEz.out] at h1; exact h1
    have HWr := Lib.hid (show Below w.heap.size w wr from hE.trans ((HC.out.below (B := w.heap.size) (fun q hq => by omega) (by rw [HEz.out]; omega))))
    have a1 : wr.cell? ⟨w.heap.size, 1, none⟩ = some (.slice P a.vals.length c) := (HC.out.cell (b := w.heap.size) (by rw [HEz.out]; omega) (by omega)).trans HA1.out
    have r0 : wr.cell? ⟨w.heap.size + 1, 0, none⟩ = some (.int .i64 0) := (HC.out.cell (b := w.heap.size + 1) (by rw [HEz.out]; omega) (by omega)).trans HR0.out
    have r1 : wr.cell? ⟨w.heap.size + 1, 1, none⟩ = some (.slice none 0 0) := (HC.out.cell (b := w.heap.size + 1) (by rw [HEz.out]; omega) (by omega)).trans HR1.out
    have rz : ∀ o, wr.frozen? ⟨w.heap.size + 1, o, none⟩ = false := fun o => (HC.out.frozen (b := w.heap.size + 1) (by rw [HEz.out]; omega) (by omega)).trans (HRz.out o)
    have hvl : vs.length ≤ 1048576 := by have := instL_len _ _ HI.out; rw [List.length_take] at this; omega
    have HO := Lib.hid hO
    clear hO
    by_cases hlt : k < a.vals.length
    · obtain ⟨b0, off0, rfl, hb0, e0⟩ := IntsAt.elem HV.out k hlt
      replace e0 := (HWr.out.cell (p := ⟨b0, off0 + k, none⟩) hb0).trans e0
      have hwt := hw.2 k hlt
      obtain ⟨t, ht⟩ : ∃ t, t = a.vals[k] := ⟨_, rfl⟩
      rw [← ht] at e0 hwt
      have hNx := fun (z : Int) (hz : instT b t = some z) => instL_next k hlt HI.out (by rw [← ht]; exact hz)
      have hSt := fun (hz : instT b t = none) => inst_no (instL_stop k hlt (by rw [← ht]; exact hz))
      clear ht
      by_cases hneg : 0 ≤ t
      · have hd1 : decide (0 ≤ t) = true := decide_eq_true hneg
        have hd1' : decide (t < 0) = false := decide_eq_false (by omega)
        obtain ⟨j, rfl⟩ : ∃ j : Nat, t = (j : Int) := ⟨t.toNat, by omega⟩
        by_cases hjb : j < b.length
        · have hd2 : decide ((b.length : Int) ≤ (j : Int)) = false := decide_eq_false (by omega)
          have hd3 : decide (b.length ≤ j) = false := decide_eq_false (by omega)
          obtain ⟨b1, off1, rfl, hb1, e1⟩ := IntsAt.elem HB.out j hjb
          replace e1 := (HWr.out.cell (p := ⟨b1, off1 + j, none⟩) hb1).trans e1
          have hwv := hwb j hjb
          have hit : instT b (j : Int) = if validV b[j] = true then some b[j] else none := by
            unfold instT; rw [if_pos hneg, dif_pos (show (j : Int).toNat < b.length by simpa using hjb)]; rfl
          obtain ⟨z, hz⟩ : ∃ z, z = b[j] := ⟨_, rfl⟩
          rw [← hz] at e1 hwv hit
          clear hz hneg
          cases hvz : validV z with
          | false =>
            have hvv := specIsValidValue_at z false hvz wr hwv.1 hwv.2
            have HF := Lib.hid (hSt (by rw [hit, hvz]; rfl))
            clear hNx hSt hit hvz
            go_wp2_with (go_at_call 75; refine hvv.mono ?_; rintro e w3 ⟨rfl, rfl⟩)
            refine bodyPost_ret (v := .tuple #[.agg #[.int .i64 0, .slice none 0 0], .bool false]) (by simp [results, Tryz.results155, go_sem, r0, r1]) rfl ⟨.slice none 0 0, by rw [HF.out.1, HF.out.2], by rw [HF.out.1]; exact OwnInts.nil _ _, ?_⟩
            exact ((HWr.out.setCell (p := ⟨w.heap.size + 1, 0, none⟩) (Nat.le_succ _) _).setCell (p := ⟨w.heap.size + 1, 1, none⟩) (Nat.le_succ _) _)
          | true =>
            have hvv := specIsValidValue_at z true hvz wr hwv.1 hwv.2
            have HN := Lib.hid (hNx z (by rw [hit, hvz]; rfl))
            clear hNx hSt hit hvz
            go_wp2_with (first | (go_at_call 75; refine hvv.mono ?_; rintro e w3 ⟨rfl, rfl⟩) | (at_builtin; refine ints_app1 HO.out rfl _ _ rfl rfl _ _ _ rfl rfl (by omega) (by omega) ?_; intro v5 w5 hO5 hB5 hG5; obtain ⟨g5, c5, rfl, hg5, -, -, -⟩ := hO5.form (by simp); have hl5 : (vs ++ [z]).length = vs.length + 1 := (by simp); rw [hl5] at hO5; have q0 := (hG5.cell_far ⟨w.heap.size + 2, 0, none⟩ (by show w.heap.size + 2 < _; omega) (fun e => by have h9 : w.heap.size + 3 ≤ w.heap.size + 2 := (HO.out.lt _ e.symm).1; omega)).trans y0; have q1 := (hG5.cell_far ⟨w.heap.size + 2, 1, none⟩ (by show w.heap.size + 2 < _; omega) (fun e => by have h9 : w.heap.size + 3 ≤ w.heap.size + 2 := (HO.out.lt _ e.symm).1; omega)).trans y1; have qz := fun o => (hG5.frozen_far ⟨w.heap.size + 2, o, none⟩ (by show w.heap.size + 2 < _; omega) (fun e => by have h9 : w.heap.size + 3 ≤ w.heap.size + 2 := (HO.out.lt _ e.symm).1; omega)).trans (yz o)))
            have z0 : (w5.setCell ⟨w.heap.size + 2, 1, none⟩ (.slice (some ⟨g5, 0, none⟩) (vs.length + 1) c5)).cell? ⟨w.heap.size + 2, 0, none⟩ = some (.int .i64 a.rel) := by simp [go_sem, q0]
            have z1 : (w5.setCell ⟨w.heap.size + 2, 1, none⟩ (.slice (some ⟨g5, 0, none⟩) (vs.length + 1) c5)).cell? ⟨w.heap.size + 2, 1, none⟩ = some (.slice (some ⟨g5, 0, none⟩) (vs.length + 1) c5) := by simp [go_sem, q1]
            have zz : ∀ o, (w5.setCell ⟨w.heap.size + 2, 1, none⟩ (.slice (some ⟨g5, 0, none⟩) (vs.length + 1) c5)).frozen? ⟨w.heap.size + 2, o, none⟩ = false := fun o => by simp [qz]
            go_roundw
            case rel => exact InstInv.mk' (k + 1) _ (vs ++ [z]) (by omega) (by go_num) HN.out z0 z1 zz (hO5.chg ((Chg.refl (fun q => q = w.heap.size + 2) w5).setCell (p := ⟨w.heap.size + 2, 1, none⟩) rfl _) (fun q hq e => by have := (hO5.lt q hq).1; omega)) ((HC.out.then_below (hB5.mono (by rw [HEz.out]; omega))).setCell (p := ⟨w.heap.size + 2, 1, none⟩) rfl _)
            case measure => simp [intOf]; omega
        · have hd2 : decide ((b.length : Int) ≤ (j : Int)) = true := decide_eq_true (by omega)
          have hd3 : decide (b.length ≤ j) = true := decide_eq_true (by omega)
          have HF := Lib.hid (hSt (by unfold instT; rw [if_pos hneg, dif_neg (show ¬ (j : Int).toNat < b.length by simpa using hjb)]))
          clear hNx hSt hneg
          go_wp2
          refine bodyPost_ret (v := .tuple #[.agg #[.int .i64 0, .slice none 0 0], .bool false]) (by simp [results, Tryz.results155, go_sem, r0, r1]) rfl ⟨.slice none 0 0, by rw [HF.out.1, HF.out.2], by rw [HF.out.1]; exact OwnInts.nil _ _, ?_⟩
          exact ((HWr.out.setCell (p := ⟨w.heap.size + 1, 0, none⟩) (Nat.le_succ _) _).setCell (p := ⟨w.heap.size + 1, 1, none⟩) (Nat.le_succ _) _)
      · have hd1 : decide (0 ≤ t) = false := decide_eq_false hneg
        have hd1' : decide (t < 0) = true := decide_eq_true (by omega)
        have hit : instT b t = if validV (-1 - t) = true then some (-1 - t) else none := by
          unfold instT; rw [if_neg hneg]
        have hzb : 0 ≤ -1 - t := by omega
        have hdz : decide (-1 - t < 0) = false := decide_eq_false (by omega)
        cases hvz : validV (-1 - t) with
        | false =>
          have hvv := specIsValidValue_at (-1 - t) false hvz wr (by omega) (by omega)
          have HF := Lib.hid (hSt (by rw [hit, hvz]; rfl))
          clear hNx hSt hit hvz
          go_wp2_with (go_at_call 75; refine hvv.mono ?_; rintro e w3 ⟨rfl, rfl⟩)
          refine bodyPost_ret (v := .tuple #[.agg #[.int .i64 0, .slice none 0 0], .bool false]) (by simp [results, Tryz.results155, go_sem, r0, r1]) rfl ⟨.slice none 0 0, by rw [HF.out.1, HF.out.2], by rw [HF.out.1]; exact OwnInts.nil _ _, ?_⟩
          exact ((HWr.out.setCell (p := ⟨w.heap.size + 1, 0, none⟩) (Nat.le_succ _) _).setCell (p := ⟨w.heap.size + 1, 1, none⟩) (Nat.le_succ _) _)
        | true =>
          have hvv := specIsValidValue_at (-1 - t) true hvz wr (by omega) (by omega)
          obtain ⟨z, hz⟩ : ∃ z, z = -1 - t := ⟨_, rfl⟩
          have HN := Lib.hid (hNx z (by rw [hit, hvz, hz]; rfl))
          have HZ := Lib.hid hz
          clear hNx hSt hit hvz hz
          go_wp2_with (first | (go_at_call 75; refine hvv.mono ?_; rintro e w3 ⟨rfl, rfl⟩) | (at_builtin; refine ints_app1 HO.out rfl _ _ rfl rfl _ _ _ rfl rfl (by omega) (by omega) ?_; intro v5 w5 hO5 hB5 hG5; obtain ⟨g5, c5, rfl, hg5, -, -, -⟩ := hO5.form (by simp); have hl5 : (vs ++ [-1 - t]).length = vs.length + 1 := (by simp); rw [hl5] at hO5; have q0 := (hG5.cell_far ⟨w.heap.size + 2, 0, none⟩ (by show w.heap.size + 2 < _; omega) (fun e => by have h9 : w.heap.size + 3 ≤ w.heap.size + 2 := (HO.out.lt _ e.symm).1; omega)).trans y0; have q1 := (hG5.cell_far ⟨w.heap.size + 2, 1, none⟩ (by show w.heap.size + 2 < _; omega) (fun e => by have h9 : w.heap.size + 3 ≤ w.heap.size + 2 := (HO.out.lt _ e.symm).1; omega)).trans y1; have qz := fun o => (hG5.frozen_far ⟨w.heap.size + 2, o, none⟩ (by show w.heap.size + 2 < _; omega) (fun e => by have h9 : w.heap.size + 3 ≤ w.heap.size + 2 := (HO.out.lt _ e.symm).1; omega)).trans (yz o)))
          have z0 : (w5.setCell ⟨w.heap.size + 2, 1, none⟩ (.slice (some ⟨g5, 0, none⟩) (vs.length + 1) c5)).cell? ⟨w.heap.size + 2, 0, none⟩ = some (.int .i64 a.rel) := by simp [go_sem, q0]
          have z1 : (w5.setCell ⟨w.heap.size + 2, 1, none⟩ (.slice (some ⟨g5, 0, none⟩) (vs.length + 1) c5)).cell? ⟨w.heap.size + 2, 1, none⟩ = some (.slice (some ⟨g5, 0, none⟩) (vs.length + 1) c5) := by simp [go_sem, q1]
          have zz : ∀ o, (w5.setCell ⟨w.heap.size + 2, 1, none⟩ (.slice (some ⟨g5, 0, none⟩) (vs.length + 1) c5)).frozen? ⟨w.heap.size + 2, o, none⟩ = false := fun o => by simp [qz]
          go_roundw
          case rel =>
            rw [← HZ.out] at hO5
            exact InstInv.mk' (k + 1) _ (vs ++ [z]) (by omega) (by go_num) HN.out z0 z1 zz (hO5.chg ((Chg.refl (fun q => q = w.heap.size + 2) w5).setCell (p := ⟨w.heap.size + 2, 1, none⟩) rfl _) (fun q hq e => by have := (hO5.lt q hq).1; omega)) ((HC.out.then_below (hB5.mono (by rw [HEz.out]; omega))).setCell (p := ⟨w.heap.size + 2, 1, none⟩) rfl _)
          case measure => simp [intOf]; omega
    · obtain rfl : k = a.vals.length := by omega
      have HF := Lib.hid (inst_yes (a := a) (b := b) (vs := vs) (by have := HI.out; rwa [List.take_of_length_le (Nat.le_refl _)] at this))
      go_wp2
      refine bodyPost_ret (v := .tuple #[.agg #[.int .i64 a.rel, .slice P4 vs.length c4], .bool true]) (by simp [results, Tryz.results155, go_sem, r0, r1]) rfl ⟨_, by rw [HF.out.1, HF.out.2], ?_, ?_⟩
      · rw [HF.out.1]
        exact ((HO.out.chg (((Chg.refl (fun q => q = w.heap.size + 1) wr).setCell (p := ⟨w.heap.size + 1, 0, none⟩) rfl (.int .i64 a.rel)).setCell (p := ⟨w.heap.size + 1, 1, none⟩) rfl (.slice P4 vs.length c4)) (fun q hq e => by have := (HO.out.lt q hq).1; omega))).mono (by omega)
      · exact ((HWr.out.setCell (p := ⟨w.heap.size + 1, 0, none⟩) (Nat.le_succ _) _).setCell (p := ⟨w.heap.size + 1, 1, none⟩) (Nat.le_succ _) _)
theorem specInstantiate_c (v : Value) (a : Atm) (u : Value) (b : List Int) (w : World) (h : Atom_at w w.heap.size v a) (hw : Atom_wf a) (hn : Atom_sz a ≤ 1048576) (h' : IntS_at w w.heap.size u b) (hw' : IntS_wf b) (_ : IntS_sz b ≤ 1048576) :
    Calls Tryz.prog 155 #[v, u] w fun e w' => ∃ r0, e = .returned (.tuple #[r0, .bool (Instantiate_ok a b)]) ∧ Fact_at w' w'.heap.size r0 (Instantiate_r0 a b) ∧ Below w.heap.size w w' :=
  (specInstantiate_any v a u b w h hw hn h' hw').mono fun _ _ ⟨V, he, ho, hb⟩ => ⟨_, he, ⟨V, rfl, ho.at_⟩, hb⟩

theorem compareInt_at (x y : Int) (r : Int) (h : (if x < y then -1 else if y < x then 1 else 0 : Int) = r) (w : World) : Calls Tryz.prog 131 #[.int .i64 x, .int .i64 y] w fun e w' => e = .returned (.int .i64 r) ∧ w' = w := by
  subst h
  have e1 : (x != x) = false := by simp
  have e2 : (y != y) = false := by simp
  by_cases h1 : x < y
  · rw [if_pos h1]
    have d1 : decide (x < y) = true := decide_eq_true h1
    clear h1
    go_enter Tryz.func131, Tryz.ntmps131
    go_wp2
    go_ret
    exact ⟨rfl, rfl⟩
  · rw [if_neg h1]
    have d1 : decide (x < y) = false := decide_eq_false h1
    by_cases h2 : y < x
    · rw [if_pos h2]
      have d2 : decide (y < x) = true := decide_eq_true h2
      clear h1 h2
      go_enter Tryz.func131, Tryz.ntmps131
      go_wp2
      go_ret
      exact ⟨rfl, rfl⟩
    · rw [if_neg h2]
      have d2 : decide (y < x) = false := decide_eq_false h2
      clear h1 h2
      go_enter Tryz.func131, Tryz.ntmps131
      go_wp2
      go_ret
      exact ⟨rfl, rfl⟩
set_option maxHeartbeats 1600000 in
theorem implInts_any (v u : Value) (a b : List Int) (w : World) (hl : IntsAt w w.heap.size v a) (hm : IntsAt w w.heap.size u b) :
    Calls Tryz.prog 132 #[v, u] w fun e w' => e = .returned (.int .i64 (cmpInts a b)) ∧ w = w' := by
  have HL := Lib.hid hl
  have HM := Lib.hid hm
  obtain ⟨A, c, rfl, hlc, hcm, -⟩ := hl
  obtain ⟨A', c', rfl, hlc', hcm', -⟩ := hm
  unfold maxLen at hcm hcm'
  go_enter Tryz.func132, Tryz.ntmps132
  go_wp2
  go_loopw [11] (fun i wr => ∃ k : Nat, k ≤ a.length ∧ k ≤ b.length ∧ i = .int .i64 k ∧ Hid (CmpTo a b k) ∧ w = wr) (fun i _ => a.length - (intOf i).toNat)
  case atStart => exact ⟨0, by omega, by omega, rfl, Lib.hid (CmpTo.zero a b), rfl⟩
  case round =>
    obtain ⟨k, hk, hk', rfl, HT, rfl⟩ := hrel
    by_cases hlt : k < a.length
    · obtain ⟨p, off, rfl, hb, c0⟩ := IntsAt.elem HL.out k hlt
      by_cases hlt' : k < b.length
      · obtain ⟨p', off', rfl, hb', d0⟩ := IntsAt.elem HM.out k hlt'
        by_cases h1 : a[k] < b[k]
        · have HV := Lib.hid (HT.out.less hlt hlt' h1)
          have hc := compareInt_at a[k] b[k] (-1) (by rw [if_pos h1]) w
          clear h1
          go_wp2_with (go_at_call 131; refine hc.mono ?_; rintro e w1 ⟨rfl, rfl⟩)
          go_ret
          exact ⟨ret_int HV.out.symm, rfl⟩
        · by_cases h2 : b[k] < a[k]
          · have HV := Lib.hid (HT.out.more hlt hlt' h2)
            have hc := compareInt_at a[k] b[k] 1 (by rw [if_neg h1, if_pos h2]) w
            clear h1 h2
            go_wp2_with (go_at_call 131; refine hc.mono ?_; rintro e w1 ⟨rfl, rfl⟩)
            go_ret
            exact ⟨ret_int HV.out.symm, rfl⟩
          · have HV := Lib.hid (HT.out.next hlt hlt' h1 h2)
            have hc := compareInt_at a[k] b[k] 0 (by rw [if_neg h1, if_neg h2]) w
            clear h1 h2
            go_wp2_with (go_at_call 131; refine hc.mono ?_; rintro e w1 ⟨rfl, rfl⟩)
            go_roundw
            case rel => exact ⟨k + 1, by omega, by omega, by go_num, HV, by trivial⟩
            case measure => simp [intOf]; omega
      · have HV := Lib.hid ((HT.out.done (by omega) hk hk').trans ((if_neg (by omega)).trans (if_pos (by omega))))
        go_wp2
        go_ret
        exact ⟨ret_int HV.out.symm, rfl⟩
    · have HV := Lib.hid (HT.out.done (by omega) hk hk')
      by_cases e1 : a.length < b.length
      · have HV' := Lib.hid (HV.out.trans (if_pos e1))
        go_wp2
        go_ret
        exact ⟨ret_int HV'.out.symm, rfl⟩
      · have HV' := Lib.hid (HV.out.trans ((if_neg e1).trans (if_neg (by omega))))
        go_wp2
        go_ret
        exact ⟨ret_int HV'.out.symm, rfl⟩
/-- the first of two numbers that is not zero -/
theorem orInt_any (x y r : Int) (h : (if x = 0 then y else x) = r) (g : Nat) (w : World) (h0 : w.cell? ⟨g, 0, none⟩ = some (.int .i64 x)) (h1 : w.cell? ⟨g, 1, none⟩ = some (.int .i64 y)) :
    Calls Tryz.prog 130 #[.slice (some ⟨g, 0, none⟩) 2 2] w fun e w' => e = .returned (.int .i64 r) ∧ w = w' := by
  subst h
  by_cases hx : x = 0
  · subst hx
    rw [if_pos rfl]
    by_cases hy : y = 0
    · subst hy
      have hn0 : ((0 : Int) != 0) = false := rfl
      go_enter Tryz.func130, Tryz.ntmps130
      go_wp2
      refine wp_loop_rounds 3 ?_
      rw [rounds_succ]
      go_wp2
      rw [rounds_succ]
      go_wp2
      rw [rounds_succ]
      go_wp2
      go_ret
      exact ⟨rfl, rfl⟩
    · have hyb : (y != 0) = true := bne_iff_ne.2 hy
      clear hy
      go_enter Tryz.func130, Tryz.ntmps130
      go_wp2
      refine wp_loop_rounds 2 ?_
      rw [rounds_succ]
      go_wp2
      rw [rounds_succ]
      go_wp2
      go_ret
      exact ⟨rfl, rfl⟩
  · have hxb : (x != 0) = true := bne_iff_ne.2 hx
    rw [if_neg hx]
    clear hx
    go_enter Tryz.func130, Tryz.ntmps130
    go_wp2
    refine wp_loop_rounds 1 ?_
    rw [rounds_succ]
    go_wp2
    go_ret
    exact ⟨rfl, rfl⟩
set_option maxHeartbeats 1600000 in
set_option maxRecDepth 100000 in
theorem implCompareFacts_eq (r s : Int) (v u : Value) (a b : List Int) (w : World) (hl : IntsAt w w.heap.size v a) (hm : IntsAt w w.heap.size u b) :
    Calls Tryz.prog 73 #[.agg #[.int .i64 r, v], .agg #[.int .i64 s, u]] w fun e w' => e = .returned (.int .i64 (cmpFact r a s b)) ∧ Below w.heap.size w w' ∧ ∃ o1 o2 o3, w' = ((w.alloc o1).alloc o2).drew.alloc o3 := by
  have hE : Below w.heap.size w ((w.alloc (.cells #[.int .i64 r, v] 66)).alloc (.cells #[.int .i64 s, u] 66)) := below_more (below_more (Below.refl _ _) _) _
  have hEz : w.heap.size + 2 = ((w.alloc (.cells #[.int .i64 r, v] 66)).alloc (.cells #[.int .i64 s, u] 66)).heap.size := by simp
  have hcl := (hl.below (hE.trans ((Below.refl _ _).drew : Below w.heap.size ((w.alloc (.cells #[.int .i64 r, v] 66)).alloc (.cells #[.int .i64 s, u] 66)) ((w.alloc (.cells #[.int .i64 r, v] 66)).alloc (.cells #[.int .i64 s, u] 66)).drew)) (Nat.le_refl _)).more (show w.heap.size ≤ ((w.alloc (.cells #[.int .i64 r, v] 66)).alloc (.cells #[.int .i64 s, u] 66)).drew.heap.size by show w.heap.size ≤ ((w.alloc (.cells #[.int .i64 r, v] 66)).alloc (.cells #[.int .i64 s, u] 66)).heap.size; omega)
  have hcm := (hm.below (hE.trans ((Below.refl _ _).drew : Below w.heap.size ((w.alloc (.cells #[.int .i64 r, v] 66)).alloc (.cells #[.int .i64 s, u] 66)) ((w.alloc (.cells #[.int .i64 r, v] 66)).alloc (.cells #[.int .i64 s, u] 66)).drew)) (Nat.le_refl _)).more (show w.heap.size ≤ ((w.alloc (.cells #[.int .i64 r, v] 66)).alloc (.cells #[.int .i64 s, u] 66)).drew.heap.size by show w.heap.size ≤ ((w.alloc (.cells #[.int .i64 r, v] 66)).alloc (.cells #[.int .i64 s, u] 66)).heap.size; omega)
  have G0 := Aft.cell (B := ((w.alloc (.cells #[.int .i64 r, v] 66)).alloc (.cells #[.int .i64 s, u] 66)).heap.size) (by omega) (show ((w.alloc (.cells #[.int .i64 r, v] 66)).alloc (.cells #[.int .i64 s, u] 66)).cell? ⟨w.heap.size, 0, none⟩ = some (.int .i64 r) by simp [go_sem])
  have G1 := Aft.cell (B := ((w.alloc (.cells #[.int .i64 r, v] 66)).alloc (.cells #[.int .i64 s, u] 66)).heap.size) (by omega) (show ((w.alloc (.cells #[.int .i64 r, v] 66)).alloc (.cells #[.int .i64 s, u] 66)).cell? ⟨w.heap.size, 1, none⟩ = some (v) by simp [go_sem])
  have G2 := Aft.cell (B := ((w.alloc (.cells #[.int .i64 r, v] 66)).alloc (.cells #[.int .i64 s, u] 66)).heap.size) (by omega) (show ((w.alloc (.cells #[.int .i64 r, v] 66)).alloc (.cells #[.int .i64 s, u] 66)).cell? ⟨w.heap.size + 1, 0, none⟩ = some (.int .i64 s) by simp [go_sem])
  have G3 := Aft.cell (B := ((w.alloc (.cells #[.int .i64 r, v] 66)).alloc (.cells #[.int .i64 s, u] 66)).heap.size) (by omega) (show ((w.alloc (.cells #[.int .i64 r, v] 66)).alloc (.cells #[.int .i64 s, u] 66)).cell? ⟨w.heap.size + 1, 1, none⟩ = some (u) by simp [go_sem])
  obtain ⟨X, hC⟩ : ∃ X : Int, (if r < s then -1 else if s < r then 1 else 0 : Int) = X := ⟨_, rfl⟩
  have HX : Hid ((if X = 0 then cmpInts a b else X) = cmpFact r a s b) := Lib.hid (by
    subst hC; unfold cmpFact
    by_cases h1 : r < s
    · simp [h1]
    · by_cases h2 : s < r <;> simp [h1, h2])
  have HC := Lib.hid hC
  have HB1 := Lib.hid (show Below ((w.alloc (.cells #[.int .i64 r, v] 66)).alloc (.cells #[.int .i64 s, u] 66)).heap.size ((w.alloc (.cells #[.int .i64 r, v] 66)).alloc (.cells #[.int .i64 s, u] 66)) (((w.alloc (.cells #[.int .i64 r, v] 66)).alloc (.cells #[.int .i64 s, u] 66)).drew.alloc (.cells #[.int .i64 X, .int .i64 (cmpInts a b)] 3)) from (Below.refl ((w.alloc (.cells #[.int .i64 r, v] 66)).alloc (.cells #[.int .i64 s, u] 66)).heap.size ((w.alloc (.cells #[.int .i64 r, v] 66)).alloc (.cells #[.int .i64 s, u] 66))).drew.alloc (show ((w.alloc (.cells #[.int .i64 r, v] 66)).alloc (.cells #[.int .i64 s, u] 66)).heap.size ≤ ((w.alloc (.cells #[.int .i64 r, v] 66)).alloc (.cells #[.int .i64 s, u] 66)).drew.heap.size from Nat.le_refl _) _)
  have HEz := Lib.hid hEz
  clear hC hl hm hEz
  go_enter Tryz.func73, Tryz.ntmps73
  go_wp2
  refine wp_region_planL (C := fun w' => ∃ u : Aft ((w.alloc (.cells #[.int .i64 r, v] 66)).alloc (.cells #[.int .i64 s, u] 66)).heap.size ((w.alloc (.cells #[.int .i64 r, v] 66)).alloc (.cells #[.int .i64 s, u] 66)), w' = u.now) (.still 0 (.still 1 (.still 2 (.still 3 (.still 5 (.still 6 (.still 7 (.still 8 (.move true 4 (.move true 9 (.move true 10 (.move true 11 (.still 12 .done) .none) .none) .none) .none))))))))) (by kernel_rfl) (by kernel_rfl) (by kernel_rfl) (fun _ => ⟨⟨_, (Below.refl _ _).drew⟩, rfl⟩) ?_
  iterate 8
    refine plan_look _ rfl rfl ?_
    go_big_quiet_step (fail)
    refine wpQuiet_nil ?_
  refine plan_call _ 131 _ _ _ _ _ rfl _ Tryz.func131 (by kernel_rfl) (by kernel_rfl) ?_ True.intro
  refine (compareInt_at r s X HC.out _).mono ?_
  rintro _ _ ⟨rfl, rfl⟩
  refine ⟨_, rfl, fun _ => ⟨⟨_, (Below.refl _ _).drew⟩, rfl⟩, ?_⟩
  refine plan_put ?_ (by simp only [Act.put, List.setIfInBounds_toArray, List.set_cons_succ, List.set_cons_zero]; rfl)
  refine plan_call _ 132 _ _ _ _ _ rfl _ Tryz.func132 (by kernel_rfl) (by kernel_rfl) ?_ True.intro
  refine (implInts_any v u a b _ hcl hcm).mono ?_
  rintro _ _ ⟨rfl, rfl⟩
  refine ⟨_, rfl, fun _ => ⟨⟨_, (Below.refl _ _).drew⟩, rfl⟩, ?_⟩
  refine plan_put ?_ (by simp only [Act.put, List.setIfInBounds_toArray, List.set_cons_succ, List.set_cons_zero]; rfl)
  refine plan_value (u := .slice (some ⟨((w.alloc (.cells #[.int .i64 r, v] 66)).alloc (.cells #[.int .i64 s, u] 66)).heap.size, 0, none⟩) 2 2) (w' := ((w.alloc (.cells #[.int .i64 r, v] 66)).alloc (.cells #[.int .i64 s, u] 66)).drew.alloc (.cells #[.int .i64 X, .int .i64 (cmpInts a b)] 3)) _ rfl rfl rfl (by simp [go_sem]) (fun _ => ⟨⟨_, HB1.out⟩, rfl⟩) ?_ True.intro
  refine plan_put ?_ (by simp only [Act.put, List.setIfInBounds_toArray, List.set_cons_succ, List.set_cons_zero]; rfl)
  refine plan_call _ 130 _ _ _ _ _ rfl _ Tryz.func130 (by kernel_rfl) (by kernel_rfl) ?_ True.intro
  refine (orInt_any X (cmpInts a b) (cmpFact r a s b) HX.out ((w.alloc (.cells #[.int .i64 r, v] 66)).alloc (.cells #[.int .i64 s, u] 66)).heap.size _ (box_cell ((w.alloc (.cells #[.int .i64 r, v] 66)).alloc (.cells #[.int .i64 s, u] 66)).drew #[.int .i64 X, .int .i64 (cmpInts a b)] _ 0) (box_cell ((w.alloc (.cells #[.int .i64 r, v] 66)).alloc (.cells #[.int .i64 s, u] 66)).drew #[.int .i64 X, .int .i64 (cmpInts a b)] _ 1)).mono ?_
  rintro _ _ ⟨rfl, rfl⟩
  refine ⟨_, rfl, fun _ => ⟨⟨_, HB1.out⟩, rfl⟩, ?_⟩
  refine plan_put ?_ (by simp only [Act.put, List.setIfInBounds_toArray, List.set_cons_succ, List.set_cons_zero]; rfl)
  refine plan_look _ rfl rfl ?_
  go_big_quiet_step (fail)
  refine wpQuiet_nil ?_
  refine plan_done ?_
  go_wp2
  go_ret
  exact ⟨rfl, hE.trans (HB1.out.mono hE.size), _, _, _, rfl⟩
theorem implCompareFacts_any (r s : Int) (v u : Value) (a b : List Int) (w : World) (hl : IntsAt w w.heap.size v a) (hm : IntsAt w w.heap.size u b) :
    Calls Tryz.prog 73 #[.agg #[.int .i64 r, v], .agg #[.int .i64 s, u]] w fun e w' => e = .returned (.int .i64 (cmpFact r a s b)) ∧ Below w.heap.size w w' :=
  (implCompareFacts_eq r s v u a b w hl hm).mono fun _ _ ⟨he, hb, _⟩ => ⟨he, hb⟩
theorem implCompareFacts_c (v : Value) (x : Fct) (u : Value) (y : Fct) (w : World) (h : Fact_at w w.heap.size v x) (_ : Fact_wf x) (_ : Fact_sz x ≤ 1048576) (h' : Fact_at w w.heap.size u y) (_ : Fact_wf y) (_ : Fact_sz y ≤ 1048576) :
    Calls Tryz.prog 73 #[v, u] w fun e w' => e = .returned (.int .i64 (cmpFact x.rel x.vals y.rel y.vals)) ∧ Below w.heap.size w w' := by
  obtain ⟨V, rfl, h⟩ := h
  obtain ⟨U, rfl, h'⟩ := h'
  exact implCompareFacts_any x.rel y.rel V U x.vals y.vals w h h'

end Go.Proofs.YtobdijcnfmgidaaGreat
