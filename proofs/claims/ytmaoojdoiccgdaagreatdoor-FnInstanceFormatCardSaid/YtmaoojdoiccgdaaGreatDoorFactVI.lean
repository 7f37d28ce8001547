/-
  Walks and plain lemmas for the laws of this seat: what single Go functions return, for every argument.
-/
import Derived.Test.YtmaoojdoiccgdaaGreatDoorBase
import Derived.Test.YtmaoojdoiccgdaaGreatDoorInts
import Derived.Test.YtmaoojdoiccgdaaGreatDoorRels
import Derived.Test.YtmaoojdoiccgdaaGreatDoorTyInst
import Derived.Test.YtmaoojdoiccgdaaGreatDoorNum
import Derived.Test.YtmaoojdoiccgdaaGreatDoorMInst
import Derived.Test.YtmaoojdoiccgdaaGreatDoorFmtV
import Derived.Test.YtmaoojdoiccgdaaGreatDoorFactI
namespace Go.Proofs.YtmaoojdoiccgdaaGreatDoor
open Go.RowKit

theorem implIsValid_at (r : Rel) (b : Bool) (h : relOk r.name r.arity = b) (w : World) :
    Calls Tryz.prog 113 #[.agg #[.string r.name, .int .i64 r.arity, .bool r.source]] w fun e w' => e = .returned (.bool b) ∧ Below w.heap.size w w' := by
  subst h; exact implIsValidRelation_any _ _ _ w
set_option maxHeartbeats 3200000 in
theorem implAreValidRelations_any (v : Value) (l : List Rel) (w : World) (hl : RelsAt w w.heap.size v l) :
    Calls Tryz.prog 45 #[v] w fun e w' => e = .returned (.bool (validRels l)) ∧ Below w.heap.size w w' := by
  have HL := Lib.hid hl
  obtain ⟨A, c, rfl, hlc, hcm, -⟩ := hl
  unfold maxLen at hcm
  by_cases h6 : l.length ≤ 6
  · go_enter Tryz.func45, Tryz.ntmps45
    go_wp2
    go_loopw [10] (fun i wr => ∃ k : Nat, k ≤ l.length ∧ i = .int .i64 k ∧ Hid (okTo l k = true) ∧ Below w.heap.size w wr) (fun i _ => l.length - (intOf i).toNat)
    case atStart => exact ⟨0, by omega, rfl, Lib.hid rfl, Below.refl _ _⟩
    case round =>
      obtain ⟨k, hk, rfl, HT, hW⟩ := hrel
      have hz := hW.size
      by_cases hlt : k < l.length
      · obtain ⟨b, off, rfl, hb, c0, c1, c2⟩ := RelsAt.elem (HL.out.below hW (Nat.le_refl _)) k hlt
        cases hr : relOk l[k].name l[k].arity with
        | false =>
          have HV := Lib.hid (validRels_no l k hlt (okAt_bad l k hlt hr))
          have hcon := implIsValid_at l[k] false hr
          clear hr
          go_wp2
          refine wp_region_at (fun w0 => Below w.heap.size w w0 ∧ wr.heap.size < w0.heap.size ∧ w0.cell? ⟨wr.heap.size, 0, none⟩ = some (.string l[k].name) ∧ w0.cell? ⟨wr.heap.size, 1, none⟩ = some (.int .i64 l[k].arity) ∧ w0.cell? ⟨wr.heap.size, 2, none⟩ = some (.bool l[k].source)) ⟨hW.alloc hz _, by simp, box_cell _ _ _ 0, box_cell _ _ _ 1, box_cell _ _ _ 2⟩ (by kernel_rfl) (by kernel_rfl) ?_
          rintro w0 ⟨hW0, hlt0, e0, e1, e2⟩
          have hz0 := hW0.size
          replace e0 := Aft.cell hlt0 e0
          replace e1 := Aft.cell hlt0 e1
          replace e2 := Aft.cell hlt0 e2
          repeat (go_big_quiet_step (((go_at_call 113; exact calls_aft (Nat.le_refl _) (hcon _)))))
          refine wpQuiet_nil ?_
          refine aft_end ?_
          intro w1 hh
          replace hh := hW0.trans (hh.mono hz0)
          go_wp2
          go_ret
          exact ⟨ret_bool HV.out.symm, hh⟩
        | true =>
          have hcon := implIsValid_at l[k] true hr
          rcases Nat.eq_zero_or_pos k with h0 | h0
          · have HT' := Lib.hid (show okTo l (k + 1) = true by rw [okTo_succ, HT.out]; subst h0; rw [okAt_zero l hlt hr]; rfl)
            have hg1 : decide ((0 : Int) < (k : Int)) = false := decide_eq_false (by omega)
            have hg2 : decide (0 < k) = false := decide_eq_false (by omega)
            clear hr h0
            go_wp2
            refine wp_region_at (fun w0 => Below w.heap.size w w0 ∧ wr.heap.size < w0.heap.size ∧ w0.cell? ⟨wr.heap.size, 0, none⟩ = some (.string l[k].name) ∧ w0.cell? ⟨wr.heap.size, 1, none⟩ = some (.int .i64 l[k].arity) ∧ w0.cell? ⟨wr.heap.size, 2, none⟩ = some (.bool l[k].source)) ⟨hW.alloc hz _, by simp, box_cell _ _ _ 0, box_cell _ _ _ 1, box_cell _ _ _ 2⟩ (by kernel_rfl) (by kernel_rfl) ?_
            rintro w0 ⟨hW0, hlt0, e0, e1, e2⟩
            have hz0 := hW0.size
            replace e0 := Aft.cell hlt0 e0
            replace e1 := Aft.cell hlt0 e1
            replace e2 := Aft.cell hlt0 e2
            repeat (go_big_quiet_step (((go_at_call 113; exact calls_aft (Nat.le_refl _) (hcon _)))))
            refine wpQuiet_nil ?_
            refine aft_end ?_
            intro w1 hh
            replace hh := hW0.trans (hh.mono hz0)
            go_wp2
            go_roundw
            case rel => exact ⟨k + 1, by omega, by go_num, HT', hh⟩
            case measure => simp [intOf]; omega
          · obtain ⟨j, rfl⟩ : ∃ j, k = j + 1 := ⟨k - 1, by omega⟩
            have hj : j < l.length := by omega
            have HS := Lib.hid (show okTo l (j + 1 + 1) = Op.bytesLess l[j].name.toList l[j + 1].name.toList by rw [okTo_succ, HT.out, okAt_succ l j hlt hr]; rfl)
            have HS2 := Lib.hid (okAt_succ l j hlt hr)
            clear hr
            cases hlss : Op.bytesLess l[j].name.toList l[j + 1].name.toList with
            | true =>
              have HT' := Lib.hid (HS.out.trans hlss)
              go_wp2
              refine wp_region_at (fun w0 => Below w.heap.size w w0 ∧ wr.heap.size < w0.heap.size ∧ w0.cell? ⟨wr.heap.size, 0, none⟩ = some (.string l[j + 1].name) ∧ w0.cell? ⟨wr.heap.size, 1, none⟩ = some (.int .i64 l[j + 1].arity) ∧ w0.cell? ⟨wr.heap.size, 2, none⟩ = some (.bool l[j + 1].source)) ⟨hW.alloc hz _, by simp, box_cell _ _ _ 0, box_cell _ _ _ 1, box_cell _ _ _ 2⟩ (by kernel_rfl) (by kernel_rfl) ?_
              rintro w0 ⟨hW0, hlt0, e0, e1, e2⟩
              have hz0 := hW0.size
              replace e0 := Aft.cell hlt0 e0
              replace e1 := Aft.cell hlt0 e1
              replace e2 := Aft.cell hlt0 e2
              obtain ⟨b', off', hA, hb', d0, -, -⟩ := RelsAt.elem (HL.out.below hW0 (Nat.le_refl _)) j hj
              obtain ⟨rfl, rfl⟩ : b = b' ∧ off = off' := by simpa using hA
              have D0 := Aft.cell (show b < w0.heap.size by omega) d0
              clear hA d0
              repeat (go_big_quiet_step (((go_at_call 113; exact calls_aft (Nat.le_refl _) (hcon _)))))
              refine wpQuiet_nil ?_
              refine aft_end ?_
              intro w1 hh
              replace hh := hW0.trans (hh.mono hz0)
              go_wp2
              go_roundw
              case rel => exact ⟨j + 1 + 1, by omega, by go_num, HT', hh⟩
              case measure => simp [intOf]; omega
            | false =>
              have HV := Lib.hid (validRels_no l (j + 1) hlt (HS2.out.trans hlss))
              go_wp2
              refine wp_region_at (fun w0 => Below w.heap.size w w0 ∧ wr.heap.size < w0.heap.size ∧ w0.cell? ⟨wr.heap.size, 0, none⟩ = some (.string l[j + 1].name) ∧ w0.cell? ⟨wr.heap.size, 1, none⟩ = some (.int .i64 l[j + 1].arity) ∧ w0.cell? ⟨wr.heap.size, 2, none⟩ = some (.bool l[j + 1].source)) ⟨hW.alloc hz _, by simp, box_cell _ _ _ 0, box_cell _ _ _ 1, box_cell _ _ _ 2⟩ (by kernel_rfl) (by kernel_rfl) ?_
              rintro w0 ⟨hW0, hlt0, e0, e1, e2⟩
              have hz0 := hW0.size
              replace e0 := Aft.cell hlt0 e0
              replace e1 := Aft.cell hlt0 e1
              replace e2 := Aft.cell hlt0 e2
              obtain ⟨b', off', hA, hb', d0, -, -⟩ := RelsAt.elem (HL.out.below hW0 (Nat.le_refl _)) j hj
              obtain ⟨rfl, rfl⟩ : b = b' ∧ off = off' := by simpa using hA
              have D0 := Aft.cell (show b < w0.heap.size by omega) d0
              clear hA d0
              repeat (go_big_quiet_step (((go_at_call 113; exact calls_aft (Nat.le_refl _) (hcon _)))))
              refine wpQuiet_nil ?_
              refine aft_end ?_
              intro w1 hh
              replace hh := hW0.trans (hh.mono hz0)
              go_wp2
              go_ret
              exact ⟨ret_bool HV.out.symm, hh⟩
      · obtain rfl : k = l.length := by omega
        have HV := Lib.hid ((validRels_yes l HT.out).trans (decide_eq_true h6))
        go_wp2
        go_ret
        exact ⟨ret_bool HV.out.symm, hW⟩
  · have HV := Lib.hid (validRels_long l h6)
    go_enter Tryz.func45, Tryz.ntmps45
    go_wp2
    go_ret
    exact ⟨ret_bool HV.out.symm, Below.refl _ _⟩

theorem implAreValid_at2 (l : List Rel) (b : Bool) (h : validRels l = b) (v : Value) (w : World) (hl : RelsAt w w.heap.size v l) :
    Calls Tryz.prog 45 #[v] w fun e w' => e = .returned (.bool b) ∧ Below w.heap.size w w' := by
  subst h; exact implAreValidRelations_any v l w hl
set_option maxHeartbeats 3200000 in
set_option maxRecDepth 100000 in
theorem implIsValidFact_any (v : Value) (l : List Rel) (r : Int) (V : Value) (vs : List Int) (w : World) (hl : RelsAt w w.heap.size v l) (hV : IntsAt w w.heap.size V vs) (hw : IntsWf vs) :
    Calls Tryz.prog 46 #[v, .agg #[.int .i64 r, V]] w fun e w' => e = .returned (.bool (factOk l r vs)) ∧ Below w.heap.size w w' := by
  have HL := Lib.hid hl
  have HV := Lib.hid hV
  obtain ⟨A, c, rfl, hlc, hcm, -⟩ := hl
  obtain ⟨A', c', rfl, hlc', hcm', -⟩ := hV
  unfold maxLen at hcm hcm'
  have hE : Below w.heap.size w (w.alloc (.cells #[.int .i64 r, .slice A' vs.length c'] 58)) := (Below.refl _ _).alloc (Nat.le_refl _) _
  have hEz : w.heap.size + 1 ≤ (w.alloc (.cells #[.int .i64 r, .slice A' vs.length c'] 58)).heap.size := by simp
  have K0 := Lib.hid (show (w.alloc (.cells #[.int .i64 r, .slice A' vs.length c'] 58)).cell? ⟨w.heap.size, 0, none⟩ = some (.int .i64 r) by simp [go_sem])
  have K1 := Lib.hid (show (w.alloc (.cells #[.int .i64 r, .slice A' vs.length c'] 58)).cell? ⟨w.heap.size, 1, none⟩ = some (.slice A' vs.length c') by simp [go_sem])
  have hcon := fun b h => implAreValid_at2 l b h (.slice A l.length c) (w.alloc (.cells #[.int .i64 r, .slice A' vs.length c'] 58)) ((HL.out.below hE (Nat.le_refl _)).more hE.size)
  cases hr : validRels l with
  | false =>
    have HF := Lib.hid (factOk_rels (r := r) (vs := vs) hr)
    replace hcon := hcon false hr
    clear hr
    go_enter Tryz.func46, Tryz.ntmps46
    go_wp2_with (go_at_call 45; refine hcon.mono ?_; rintro e w1 ⟨rfl, hb1⟩)
    go_ret
    exact ⟨ret_bool HF.out.symm, hE.trans (hb1.mono hE.size)⟩
  | true =>
    have HR := Lib.hid hr
    replace hcon := hcon true hr
    clear hr
    by_cases hin : 0 ≤ r ∧ r < l.length
    · obtain ⟨k, rfl⟩ : ∃ k : Nat, r = (k : Int) := ⟨r.toNat, by omega⟩
      have hk : k < l.length := by omega
      have HIN := Lib.hid hin
      have hd1 : decide ((k : Int) < 0) = false := decide_eq_false (by omega)
      have hd2 : decide ((l.length : Int) ≤ (k : Int)) = false := decide_eq_false (by omega)
      have hd3 : decide (l.length ≤ k) = false := decide_eq_false (by omega)
      obtain ⟨b, off, rfl, hb, -, c1, -⟩ := RelsAt.elem HL.out k hk
      have ha : Hid (l[k].arity = arityAt l (k : Int)) := Lib.hid (by rw [arityAt_in (by omega)]; rfl)
      have C1 := Lib.hid c1
      clear c1 hin
      go_enter Tryz.func46, Tryz.ntmps46
      go_wp2_with fail
      refine hcon.mono ?_
      rintro e w1 ⟨rfl, hb1⟩
      have hz1 := hb1.size
      have f0 := (hb1.cell (p := ⟨w.heap.size, 0, none⟩) hEz).trans K0.out
      have f1 := (hb1.cell (p := ⟨w.heap.size, 1, none⟩) hEz).trans K1.out
      have f2 := ((hE.trans (hb1.mono hE.size)).cell (p := ⟨b, off + k * 3 + 1, none⟩) hb).trans C1.out
      have hlt0 : w.heap.size < w1.heap.size := by omega
      have G0 := Aft.cell hlt0 f0
      have G1 := Aft.cell hlt0 f1
      have G2 := Aft.cell (show b < w1.heap.size by omega) f2
      have F1 := Lib.hid f1
      clear hcon f1 f2
      go_wp2
      clear f0
      by_cases hlen : (vs.length : Int) = l[k].arity
      · have HLEN := Lib.hid (hlen.trans ha.out)
        have hbn : ((vs.length : Int) != l[k].arity) = false := by rw [hlen]; simp
        clear hlen
        generalize l[k].arity = q at *
        refine wp_region_aft (Below.refl w1.heap.size w1) (by kernel_rfl) (by kernel_rfl) ?_
        repeat (go_big_quiet_step (fail))
        refine wpQuiet_nil ?_
        refine aft_end ?_
        intro w2 hh
        clear G0 G1 G2
        have f1 := (hh.cell (p := ⟨w.heap.size, 1, none⟩) hlt0).trans F1.out
        go_wp2
        clear f1
        go_loopw [35] (fun i wr => ∃ j : Nat, j ≤ vs.length ∧ i = .int .i64 j ∧ Hid (ValsTo vs j) ∧ Below w1.heap.size w1 wr) (fun i _ => vs.length - (intOf i).toNat)
        case atStart => exact ⟨0, by omega, rfl, Lib.hid (ValsTo.zero vs), hh⟩
        case round =>
          obtain ⟨j, hj, rfl, HT, hW⟩ := hrel
          by_cases hlt : j < vs.length
          · obtain ⟨b', off', rfl, hb', d0⟩ := IntsAt.elem HV.out j hlt
            replace d0 := ((hE.trans ((hb1.trans (hW.mono hz1)).mono hE.size)).cell (p := ⟨b', off' + j, none⟩) hb').trans d0
            cases hv : validV vs[j] with
            | false =>
              have hvc := implIsValidValue_at vs[j] false hv wr (hw j hlt).1 (hw j hlt).2
              have HF := Lib.hid (factOk_val (l := l) (r := (k : Int)) j hlt hv)
              clear hv
              go_wp2_with (go_at_call 70; refine hvc.mono ?_; rintro e w3 ⟨rfl, rfl⟩)
              go_ret
              exact ⟨ret_bool HF.out.symm, hE.trans ((hb1.trans (hW.mono hz1)).mono hE.size)⟩
            | true =>
              have hvc := implIsValidValue_at vs[j] true hv wr (hw j hlt).1 (hw j hlt).2
              have HN := Lib.hid (HT.out.next hlt hv)
              clear hv
              go_wp2_with (go_at_call 70; refine hvc.mono ?_; rintro e w3 ⟨rfl, rfl⟩)
              go_roundw
              case rel => exact ⟨j + 1, by omega, by go_num, HN, hW⟩
              case measure => simp [intOf]; omega
          · obtain rfl : j = vs.length := by omega
            have HF := Lib.hid (factOk_yes HR.out HIN.out HLEN.out HT.out)
            go_wp2
            go_ret
            exact ⟨ret_bool HF.out.symm, hE.trans ((hb1.trans (hW.mono hz1)).mono hE.size)⟩
      · have HF := Lib.hid (factOk_len (l := l) (r := (k : Int)) (vs := vs) (fun e => hlen (e.trans ha.out.symm)))
        have hbn : ((vs.length : Int) != l[k].arity) = true := bne_iff_ne.2 hlen
        clear hlen
        generalize l[k].arity = q at *
        refine wp_region_aft (Below.refl w1.heap.size w1) (by kernel_rfl) (by kernel_rfl) ?_
        repeat (go_big_quiet_step (fail))
        refine wpQuiet_nil ?_
        refine aft_end ?_
        intro w2 hh
        go_wp2
        go_ret
        exact ⟨ret_bool HF.out.symm, hE.trans ((hb1.trans (hh.mono hz1)).mono hE.size)⟩
    · have HF := Lib.hid (factOk_idx (l := l) (r := r) (vs := vs) hin)
      by_cases hneg : r < 0
      · clear hin
        have hd1 : decide (r < 0) = true := decide_eq_true hneg
        go_enter Tryz.func46, Tryz.ntmps46
        go_wp2_with fail
        refine hcon.mono ?_
        rintro e w1 ⟨rfl, hb1⟩
        have f0 := (hb1.cell (p := ⟨w.heap.size, 0, none⟩) hEz).trans K0.out
        clear hcon
        go_wp2
        go_ret
        exact ⟨ret_bool HF.out.symm, hE.trans (hb1.mono hE.size)⟩
      · have hge : (l.length : Int) ≤ r := by omega
        clear hin
        have hd1 : decide (r < 0) = false := decide_eq_false hneg
        have hd2 : decide ((l.length : Int) ≤ r) = true := decide_eq_true hge
        go_enter Tryz.func46, Tryz.ntmps46
        go_wp2_with fail
        refine hcon.mono ?_
        rintro e w1 ⟨rfl, hb1⟩
        have f0 := (hb1.cell (p := ⟨w.heap.size, 0, none⟩) hEz).trans K0.out
        clear hcon
        go_wp2
        go_ret
        exact ⟨ret_bool HF.out.symm, hE.trans (hb1.mono hE.size)⟩
theorem implIsValidFact_c (v : Value) (l : List Rel) (u : Value) (x : Fct) (w : World) (h : RelationS_at w w.heap.size v l) (_ : RelationS_wf l) (_ : RelationS_sz l ≤ 1048576) (h' : Fact_at w w.heap.size u x) (hw : Fact_wf x) (_ : Fact_sz x ≤ 1048576) :
    Calls Tryz.prog 46 #[v, u] w fun e w' => e = .returned (.bool (factOk l x.rel x.vals)) ∧ Below w.heap.size w w' := by
  obtain ⟨V, rfl, h'⟩ := h'
  exact implIsValidFact_any v l x.rel V x.vals w h h' hw.2

theorem implCompareFacts_at (a b : Fct) (q : Int) (hq : cmpF a b = q) (v u : Value) (w : World) (h : Fact_at w w.heap.size v a) (h' : Fact_at w w.heap.size u b) :
    Calls Tryz.prog 44 #[v, u] w fun e w' => e = .returned (.int .i64 q) ∧ Below w.heap.size w w' := by
  subst hq
  obtain ⟨V, rfl, h⟩ := h
  obtain ⟨U, rfl, h'⟩ := h'
  exact implCompareFacts_any _ _ _ _ _ _ w h h'

end Go.Proofs.YtmaoojdoiccgdaaGreatDoor
