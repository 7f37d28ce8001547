/-
  Walks and plain lemmas for the laws of this seat: what single Go functions return, for every argument.
-/
import Derived.Test.YtakflmaeclneiaaGreatBase
import Derived.Test.YtakflmaeclneiaaGreatInts
import Derived.Test.YtakflmaeclneiaaGreatRels
import Derived.Test.YtakflmaeclneiaaGreatRelsC
import Derived.Test.YtakflmaeclneiaaGreatFact
namespace Go.Proofs.YtakflmaeclneiaaGreat
open Go.RowKit

theorem implIsValid_at (r : Rel) (b : Bool) (h : relOk r.name r.arity = b) (w : World) :
    Calls Tryz.prog 55 #[.agg #[.string r.name, .int .i64 r.arity, .bool r.source]] w fun e w' => e = .returned (.bool b) ∧ Below w.heap.size w w' := by
  subst h; exact implIsValidRelation_any _ _ _ w
set_option maxHeartbeats 3200000 in
theorem implAreValidRelations_any (v : Value) (l : List Rel) (w : World) (hl : RelsAt w w.heap.size v l) :
    Calls Tryz.prog 41 #[v] w fun e w' => e = .returned (.bool (validRels l)) ∧ Below w.heap.size w w' := by
  have HL := Lib.hid hl
  obtain ⟨A, c, rfl, hlc, hcm, -⟩ := hl
  unfold maxLen at hcm
  by_cases h6 : l.length ≤ 6
  · go_enter Tryz.func41, Tryz.ntmps41
    go_wp2
    go_loopw [10] (fun i wr => ∃ k : Nat, k ≤ l.length ∧ i = .int .i64 k ∧ Hid (okTo l k = true) ∧ Below w.heap.size w wr) (fun i _ => l.length - (intOf i).toNat)
    case atStart => exact ⟨0, by omega, rfl, Lib.hid rfl, Below.refl _ _⟩
    case round =>
      obtain ⟨k, hk, rfl, HT, hW⟩ := hrel
      have hz := hW.size
      by_cases hlt : k < l.length
      · obtain ⟨b, off, rfl, hb, c0, c1, c2⟩ := RelsAt.elem (HL.out.below hW (Nat.le_refl _)) k hlt
        cases hr : relOk l[k].name l[k].arity with
        | false =>
          have HV := Lib.hid (validRels_no l k hlt (okAt_bad l k hlt hr))
          have hcon := implIsValid_at l[k] false hr
          clear hr
          go_wp2
          refine wp_region_at (fun w0 => Below w.heap.size w w0 ∧ wr.heap.size < w0.heap.size ∧ w0.cell? ⟨wr.heap.size, 0, none⟩ = some (.string l[k].name) ∧ w0.cell? ⟨wr.heap.size, 1, none⟩ = some (.int .i64 l[k].arity) ∧ w0.cell? ⟨wr.heap.size, 2, none⟩ = some (.bool l[k].source)) ⟨hW.alloc hz _, by simp, box_cell _ _ _ 0, box_cell _ _ _ 1, box_cell _ _ _ 2⟩ (by kernel_rfl) (by kernel_rfl) ?_
          rintro w0 ⟨hW0, hlt0, e0, e1, e2⟩
          have hz0 := hW0.size
          replace e0 := Aft.cell hlt0 e0
          replace e1 := Aft.cell hlt0 e1
          replace e2 := Aft.cell hlt0 e2
          repeat (go_big_quiet_step (((go_at_call 55; exact calls_aft (Nat.le_refl _) (hcon _)))))
          refine wpQuiet_nil ?_
          refine aft_end ?_
          intro w1 hh
          replace hh := hW0.trans (hh.mono hz0)
          go_wp2
          go_ret
          exact ⟨ret_bool HV.out.symm, hh⟩
        | true =>
          have hcon := implIsValid_at l[k] true hr
          rcases Nat.eq_zero_or_pos k with h0 | h0
          · have HT' := Lib.hid (show okTo l (k + 1) = true by rw [okTo_succ, HT.out]; subst h0; rw [okAt_zero l hlt hr]; rfl)
            have hg1 : decide ((0 : Int) < (k : Int)) = false := decide_eq_false (by omega)
            have hg2 : decide (0 < k) = false := decide_eq_false (by omega)
            clear hr h0
            go_wp2
            refine wp_region_at (fun w0 => Below w.heap.size w w0 ∧ wr.heap.size < w0.heap.size ∧ w0.cell? ⟨wr.heap.size, 0, none⟩ = some (.string l[k].name) ∧ w0.cell? ⟨wr.heap.size, 1, none⟩ = some (.int .i64 l[k].arity) ∧ w0.cell? ⟨wr.heap.size, 2, none⟩ = some (.bool l[k].source)) ⟨hW.alloc hz _, by simp, box_cell _ _ _ 0, box_cell _ _ _ 1, box_cell _ _ _ 2⟩ (by kernel_rfl) (by kernel_rfl) ?_
            rintro w0 ⟨hW0, hlt0, e0, e1, e2⟩
            have hz0 := hW0.size
            replace e0 := Aft.cell hlt0 e0
            replace e1 := Aft.cell hlt0 e1
            replace e2 := Aft.cell hlt0 e2
            repeat (go_big_quiet_step (((go_at_call 55; exact calls_aft (Nat.le_refl _) (hcon _)))))
            refine wpQuiet_nil ?_
            refine aft_end ?_
            intro w1 hh
            replace hh := hW0.trans (hh.mono hz0)
            go_wp2
            go_roundw
            case rel => exact ⟨k + 1, by omega, by go_num, HT', hh⟩
            case measure => simp [intOf]; omega
          · obtain ⟨j, rfl⟩ : ∃ j, k = j + 1 := ⟨k - 1, by omega⟩
            have hj : j < l.length := by omega
            have HS := Lib.hid (show okTo l (j + 1 + 1) = Op.bytesLess l[j].name.toList l[j + 1].name.toList by rw [okTo_succ, HT.out, okAt_succ l j hlt hr]; rfl)
            have HS2 := Lib.hid (okAt_succ l j hlt hr)
            clear hr
            cases hlss : Op.bytesLess l[j].name.toList l[j + 1].name.toList with
            | true =>
              have HT' := Lib.hid (HS.out.trans hlss)
              go_wp2
              refine wp_region_at (fun w0 => Below w.heap.size w w0 ∧ wr.heap.size < w0.heap.size ∧ w0.cell? ⟨wr.heap.size, 0, none⟩ = some (.string l[j + 1].name) ∧ w0.cell? ⟨wr.heap.size, 1, none⟩ = some (.int .i64 l[j + 1].arity) ∧ w0.cell? ⟨wr.heap.size, 2, none⟩ = some (.bool l[j + 1].source)) ⟨hW.alloc hz _, by simp, box_cell _ _ _ 0, box_cell _ _ _ 1, box_cell _ _ _ 2⟩ (by kernel_rfl) (by kernel_rfl) ?_
              rintro w0 ⟨hW0, hlt0, e0, e1, e2⟩
              have hz0 := hW0.size
              replace e0 := Aft.cell hlt0 e0
              replace e1 := Aft.cell hlt0 e1
              replace e2 := Aft.cell hlt0 e2
              obtain ⟨b', off', hA, hb', d0, -, -⟩ := RelsAt.elem (HL.out.below hW0 (Nat.le_refl _)) j hj
              obtain ⟨rfl, rfl⟩ : b = b' ∧ off = off' := by simpa using hA
              have D0 := Aft.cell (show b < w0.heap.size by omega) d0
              clear hA d0
              repeat (go_big_quiet_step (((go_at_call 55; exact calls_aft (Nat.le_refl _) (hcon _)))))
              refine wpQuiet_nil ?_
              refine aft_end ?_
              intro w1 hh
              replace hh := hW0.trans (hh.mono hz0)
              go_wp2
              go_roundw
              case rel => exact ⟨j + 1 + 1, by omega, by go_num, HT', hh⟩
              case measure => simp [intOf]; omega
            | false =>
              have HV := Lib.hid (validRels_no l (j + 1) hlt (HS2.out.trans hlss))
              go_wp2
              refine wp_region_at (fun w0 => Below w.heap.size w w0 ∧ wr.heap.size < w0.heap.size ∧ w0.cell? ⟨wr.heap.size, 0, none⟩ = some (.string l[j + 1].name) ∧ w0.cell? ⟨wr.heap.size, 1, none⟩ = some (.int .i64 l[j + 1].arity) ∧ w0.cell? ⟨wr.heap.size, 2, none⟩ = some (.bool l[j + 1].source)) ⟨hW.alloc hz _, by simp, box_cell _ _ _ 0, box_cell _ _ _ 1, box_cell _ _ _ 2⟩ (by kernel_rfl) (by kernel_rfl) ?_
              rintro w0 ⟨hW0, hlt0, e0, e1, e2⟩
              have hz0 := hW0.size
              replace e0 := Aft.cell hlt0 e0
              replace e1 := Aft.cell hlt0 e1
              replace e2 := Aft.cell hlt0 e2
              obtain ⟨b', off', hA, hb', d0, -, -⟩ := RelsAt.elem (HL.out.below hW0 (Nat.le_refl _)) j hj
              obtain ⟨rfl, rfl⟩ : b = b' ∧ off = off' := by simpa using hA
              have D0 := Aft.cell (show b < w0.heap.size by omega) d0
              clear hA d0
              repeat (go_big_quiet_step (((go_at_call 55; exact calls_aft (Nat.le_refl _) (hcon _)))))
              refine wpQuiet_nil ?_
              refine aft_end ?_
              intro w1 hh
              replace hh := hW0.trans (hh.mono hz0)
              go_wp2
              go_ret
              exact ⟨ret_bool HV.out.symm, hh⟩
      · obtain rfl : k = l.length := by omega
        have HV := Lib.hid ((validRels_yes l HT.out).trans (decide_eq_true h6))
        go_wp2
        go_ret
        exact ⟨ret_bool HV.out.symm, hW⟩
  · have HV := Lib.hid (validRels_long l h6)
    go_enter Tryz.func41, Tryz.ntmps41
    go_wp2
    go_ret
    exact ⟨ret_bool HV.out.symm, Below.refl _ _⟩

theorem implAreValid_at2 (l : List Rel) (b : Bool) (h : validRels l = b) (v : Value) (w : World) (hl : RelsAt w w.heap.size v l) :
    Calls Tryz.prog 41 #[v] w fun e w' => e = .returned (.bool b) ∧ Below w.heap.size w w' := by
  subst h; exact implAreValidRelations_any v l w hl

set_option maxHeartbeats 1600000 in
set_option maxRecDepth 100000 in
theorem implRelOf_any (v : Value) (l : List Rel) (r n : Int) (w : World) (hl : RelsAt w w.heap.size v l) :
    Calls Tryz.prog 77 #[v, .int .i64 r, .int .i64 n] w fun e w' => e = .returned (.bool (relOf l r n)) ∧ Below w.heap.size w w' := by
  have HL := Lib.hid hl
  obtain ⟨A, c, rfl, hlc, hcm, -⟩ := hl
  unfold maxLen at hcm
  have hcon := fun b h => implAreValid_at2 l b h (.slice A l.length c) w HL.out
  cases hr : validRels l with
  | false =>
    have HF := Lib.hid (relOf_rels (r := r) (n := n) hr)
    replace hcon := hcon false hr
    clear hr
    go_enter Tryz.func77, Tryz.ntmps77
    go_wp2_with (go_at_call 41; refine hcon.mono ?_; rintro e w1 ⟨rfl, hb1⟩)
    go_ret
    exact ⟨ret_bool HF.out.symm, hb1⟩
  | true =>
    have HR := Lib.hid hr
    replace hcon := hcon true hr
    clear hr
    by_cases hneg : 0 ≤ r
    · have hd1 : decide (0 ≤ r) = true := decide_eq_true hneg
      by_cases hlt : r < l.length
      · obtain ⟨k, rfl⟩ : ∃ k : Nat, r = (k : Int) := ⟨r.toNat, by omega⟩
        have hk : k < l.length := by omega
        have HF := Lib.hid (relOf_in (n := n) HR.out ⟨hneg, hlt⟩)
        have hd2 : decide (k < l.length) = true := decide_eq_true hk
        obtain ⟨b, off, rfl, hb, -, c1, -⟩ := RelsAt.elem HL.out k hk
        have ha : l[k].arity = arityAt l (k : Int) := by rw [arityAt_in (by omega)]; rfl
        have HE := Lib.hid (show (l[k].arity == n) = decide (n = arityAt l (k : Int)) by
          rw [ha]
          by_cases e : n = arityAt l (k : Int)
          · rw [decide_eq_true e, e]; exact beq_self_eq_true _
          · rw [decide_eq_false e]; exact beq_eq_false_iff_ne.2 (fun e1 => e e1.symm))
        have C1 := Lib.hid c1
        clear c1 ha
        generalize l[k].arity = q at *
        go_enter Tryz.func77, Tryz.ntmps77
        go_wp2_with fail
        refine hcon.mono ?_
        rintro e w1 ⟨rfl, hb1⟩
        have f2 := (hb1.cell (p := ⟨b, off + k * 3 + 1, none⟩) hb).trans C1.out
        go_wp2
        go_ret
        exact ⟨ret_bool (HE.out.trans HF.out.symm), hb1⟩
      · have HF := Lib.hid (relOf_idx (l := l) (r := r) (n := n) (fun h => hlt h.2))
        have hd2 : decide (r < (l.length : Int)) = false := decide_eq_false hlt
        clear hlt
        go_enter Tryz.func77, Tryz.ntmps77
        go_wp2_with (go_at_call 41; refine hcon.mono ?_; rintro e w1 ⟨rfl, hb1⟩)
        go_ret
        exact ⟨ret_bool HF.out.symm, hb1⟩
    · have hd1 : decide (0 ≤ r) = false := decide_eq_false hneg
      have HF := Lib.hid (relOf_idx (l := l) (r := r) (n := n) (fun h => hneg h.1))
      clear hneg
      go_enter Tryz.func77, Tryz.ntmps77
      go_wp2_with (go_at_call 41; refine hcon.mono ?_; rintro e w1 ⟨rfl, hb1⟩)
      go_ret
      exact ⟨ret_bool HF.out.symm, hb1⟩
theorem implRelOf_at (l : List Rel) (r n : Int) (q : Bool) (hq : relOf l r n = q) (v : Value) (w : World) (hl : RelsAt w w.heap.size v l) :
    Calls Tryz.prog 77 #[v, .int .i64 r, .int .i64 n] w fun e w' => e = .returned (.bool q) ∧ Below w.heap.size w w' := by
  subst hq; exact implRelOf_any v l r n w hl

end Go.Proofs.YtakflmaeclneiaaGreat
