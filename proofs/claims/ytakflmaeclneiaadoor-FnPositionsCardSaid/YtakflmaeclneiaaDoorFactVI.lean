/-
  Walks and plain lemmas for the laws of this seat: what single Go functions return, for every argument.
-/
import Derived.Test.YtakflmaeclneiaaDoorBase
import Derived.Test.YtakflmaeclneiaaDoorRels
import Derived.Test.YtakflmaeclneiaaDoorGst
namespace Go.Proofs.YtakflmaeclneiaaDoor
open Go.RowKit

theorem implIsValid_at (r : Rel) (b : Bool) (h : relOk r.name r.arity = b) (w : World) :
    Calls Tryd.prog 39 #[.agg #[.string r.name, .int .i64 r.arity, .bool r.source]] w fun e w' => e = .returned (.bool b) ∧ Below w.heap.size w w' := by
  subst h; exact implIsValidRelation_any _ _ _ w
set_option maxHeartbeats 3200000 in
theorem implAreValidRelations_any (v : Value) (l : List Rel) (w : World) (hl : RelsAt w w.heap.size v l) :
    Calls Tryd.prog 23 #[v] w fun e w' => e = .returned (.bool (validRels l)) ∧ Below w.heap.size w w' := by
  have HL := Lib.hid hl
  obtain ⟨A, c, rfl, hlc, hcm, -⟩ := hl
  unfold maxLen at hcm
  by_cases h6 : l.length ≤ 6
  · go_enter Tryd.func23, Tryd.ntmps23
    go_wp2
    go_loopw [10] (fun i wr => ∃ k : Nat, k ≤ l.length ∧ i = .int .i64 k ∧ Hid (okTo l k = true) ∧ Below w.heap.size w wr) (fun i _ => l.length - (intOf i).toNat)
    case atStart => exact ⟨0, by omega, rfl, Lib.hid rfl, Below.refl _ _⟩
    case round =>
      obtain ⟨k, hk, rfl, HT, hW⟩ := hrel
      have hz := hW.size
      by_cases hlt : k < l.length
      · obtain ⟨b, off, rfl, hb, c0, c1, c2⟩ := RelsAt.elem (HL.out.below hW (Nat.le_refl _)) k hlt
        cases hr : relOk l[k].name l[k].arity with
        | false =>
          have HV := Lib.hid (validRels_no l k hlt (okAt_bad l k hlt hr))
          have hcon := implIsValid_at l[k] false hr
          clear hr
          go_wp2
          refine wp_region_at (fun w0 => Below w.heap.size w w0 ∧ wr.heap.size < w0.heap.size ∧ w0.cell? ⟨wr.heap.size, 0, none⟩ = some (.string l[k].name) ∧ w0.cell? ⟨wr.heap.size, 1, none⟩ = some (.int .i64 l[k].arity) ∧ w0.cell? ⟨wr.heap.size, 2, none⟩ = some (.bool l[k].source)) ⟨hW.alloc hz _, by simp, box_cell _ _ _ 0, box_cell _ _ _ 1, box_cell _ _ _ 2⟩ (by kernel_rfl) (by kernel_rfl) ?_
          rintro w0 ⟨hW0, hlt0, e0, e1, e2⟩
          have hz0 := hW0.size
          replace e0 := Aft.cell hlt0 e0
          replace e1 := Aft.cell hlt0 e1
          replace e2 := Aft.cell hlt0 e2
          repeat (go_big_quiet_step (((go_at_call 39; exact calls_aft (Nat.le_refl _) (hcon _)))))
          refine wpQuiet_nil ?_
          refine aft_end ?_
          intro w1 hh
          replace hh := hW0.trans (hh.mono hz0)
          go_wp2
          go_ret
          exact ⟨ret_bool HV.out.symm, hh⟩
        | true =>
          have hcon := implIsValid_at l[k] true hr
          rcases Nat.eq_zero_or_pos k with h0 | h0
          · have HT' := Lib.hid (show okTo l (k + 1) = true by rw [okTo_succ, HT.out]; subst h0; rw [okAt_zero l hlt hr]; rfl)
            have hg1 : decide ((0 : Int) < (k : Int)) = false := decide_eq_false (by omega)
            have hg2 : decide (0 < k) = false := decide_eq_false (by omega)
            clear hr h0
            go_wp2
            refine wp_region_at (fun w0 => Below w.heap.size w w0 ∧ wr.heap.size < w0.heap.size ∧ w0.cell? ⟨wr.heap.size, 0, none⟩ = some (.string l[k].name) ∧ w0.cell? ⟨wr.heap.size, 1, none⟩ = some (.int .i64 l[k].arity) ∧ w0.cell? ⟨wr.heap.size, 2, none⟩ = some (.bool l[k].source)) ⟨hW.alloc hz _, by simp, box_cell _ _ _ 0, box_cell _ _ _ 1, box_cell _ _ _ 2⟩ (by kernel_rfl) (by kernel_rfl) ?_
            rintro w0 ⟨hW0, hlt0, e0, e1, e2⟩
            have hz0 := hW0.size
            replace e0 := Aft.cell hlt0 e0
            replace e1 := Aft.cell hlt0 e1
            replace e2 := Aft.cell hlt0 e2
            repeat (go_big_quiet_step (((go_at_call 39; exact calls_aft (Nat.le_refl _) (hcon _)))))
            refine wpQuiet_nil ?_
            refine aft_end ?_
            intro w1 hh
            replace hh := hW0.trans (hh.mono hz0)
            go_wp2
            go_roundw
            case rel => exact ⟨k + 1, by omega, by go_num, HT', hh⟩
            case measure => simp [intOf]; omega
          · obtain ⟨j, rfl⟩ : ∃ j, k = j + 1 := ⟨k - 1, by omega⟩
            have hj : j < l.length := by omega
            have HS := Lib.hid (show okTo l (j + 1 + 1) = Op.bytesLess l[j].name.toList l[j + 1].name.toList by rw [okTo_succ, HT.out, okAt_succ l j hlt hr]; rfl)
            have HS2 := Lib.hid (okAt_succ l j hlt hr)
            clear hr
            cases hlss : Op.bytesLess l[j].name.toList l[j + 1].name.toList with
            | true =>
              have HT' := Lib.hid (HS.out.trans hlss)
              go_wp2
              refine wp_region_at (fun w0 => Below w.heap.size w w0 ∧ wr.heap.size < w0.heap.size ∧ w0.cell? ⟨wr.heap.size, 0, none⟩ = some (.string l[j + 1].name) ∧ w0.cell? ⟨wr.heap.size, 1, none⟩ = some (.int .i64 l[j + 1].arity) ∧ w0.cell? ⟨wr.heap.size, 2, none⟩ = some (.bool l[j + 1].source)) ⟨hW.alloc hz _, by simp, box_cell _ _ _ 0, box_cell _ _ _ 1, box_cell _ _ _ 2⟩ (by kernel_rfl) (by kernel_rfl) ?_
              rintro w0 ⟨hW0, hlt0, e0, e1, e2⟩
              have hz0 := hW0.size
              replace e0 := Aft.cell hlt0 e0
              replace e1 := Aft.cell hlt0 e1
              replace e2 := Aft.cell hlt0 e2
              obtain ⟨b', off', hA, hb', d0, -, -⟩ := RelsAt.elem (HL.out.below hW0 (Nat.le_refl _)) j hj
              obtain ⟨rfl, rfl⟩ : b = b' ∧ off = off' := by simpa using hA
              have D0 := Aft.cell (show b < w0.heap.size by omega) d0
              clear hA d0
              repeat (go_big_quiet_step (((go_at_call 39; exact calls_aft (Nat.le_refl _) (hcon _)))))
              refine wpQuiet_nil ?_
              refine aft_end ?_
              intro w1 hh
              replace hh := hW0.trans (hh.mono hz0)
              go_wp2
              go_roundw
              case rel => exact ⟨j + 1 + 1, by omega, by go_num, HT', hh⟩
              case measure => simp [intOf]; omega
            | false =>
              have HV := Lib.hid (validRels_no l (j + 1) hlt (HS2.out.trans hlss))
              go_wp2
              refine wp_region_at (fun w0 => Below w.heap.size w w0 ∧ wr.heap.size < w0.heap.size ∧ w0.cell? ⟨wr.heap.size, 0, none⟩ = some (.string l[j + 1].name) ∧ w0.cell? ⟨wr.heap.size, 1, none⟩ = some (.int .i64 l[j + 1].arity) ∧ w0.cell? ⟨wr.heap.size, 2, none⟩ = some (.bool l[j + 1].source)) ⟨hW.alloc hz _, by simp, box_cell _ _ _ 0, box_cell _ _ _ 1, box_cell _ _ _ 2⟩ (by kernel_rfl) (by kernel_rfl) ?_
              rintro w0 ⟨hW0, hlt0, e0, e1, e2⟩
              have hz0 := hW0.size
              replace e0 := Aft.cell hlt0 e0
              replace e1 := Aft.cell hlt0 e1
              replace e2 := Aft.cell hlt0 e2
              obtain ⟨b', off', hA, hb', d0, -, -⟩ := RelsAt.elem (HL.out.below hW0 (Nat.le_refl _)) j hj
              obtain ⟨rfl, rfl⟩ : b = b' ∧ off = off' := by simpa using hA
              have D0 := Aft.cell (show b < w0.heap.size by omega) d0
              clear hA d0
              repeat (go_big_quiet_step (((go_at_call 39; exact calls_aft (Nat.le_refl _) (hcon _)))))
              refine wpQuiet_nil ?_
              refine aft_end ?_
              intro w1 hh
              replace hh := hW0.trans (hh.mono hz0)
              go_wp2
              go_ret
              exact ⟨ret_bool HV.out.symm, hh⟩
      · obtain rfl : k = l.length := by omega
        have HV := Lib.hid ((validRels_yes l HT.out).trans (decide_eq_true h6))
        go_wp2
        go_ret
        exact ⟨ret_bool HV.out.symm, hW⟩
  · have HV := Lib.hid (validRels_long l h6)
    go_enter Tryd.func23, Tryd.ntmps23
    go_wp2
    go_ret
    exact ⟨ret_bool HV.out.symm, Below.refl _ _⟩

theorem implAreValid_at2 (l : List Rel) (b : Bool) (h : validRels l = b) (v : Value) (w : World) (hl : RelsAt w w.heap.size v l) :
    Calls Tryd.prog 23 #[v] w fun e w' => e = .returned (.bool b) ∧ Below w.heap.size w w' := by
  subst h; exact implAreValidRelations_any v l w hl

end Go.Proofs.YtakflmaeclneiaaDoor
