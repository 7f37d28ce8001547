/-
  Walks and plain lemmas for the laws of this seat: what single Go functions return, for every argument.
-/
import Derived.Test.YtijpcplhbmmffaaGreatDoorBase
import Derived.Test.YtijpcplhbmmffaaGreatDoorInts
import Derived.Test.YtijpcplhbmmffaaGreatDoorTyInst
import Derived.Test.YtijpcplhbmmffaaGreatDoorRels
import Derived.Test.YtijpcplhbmmffaaGreatDoorNum
import Derived.Test.YtijpcplhbmmffaaGreatDoorRelsC
import Derived.Test.YtijpcplhbmmffaaGreatDoorFact
namespace Go.Proofs.YtijpcplhbmmffaaGreatDoor
open Go.RowKit

theorem specIsValid_at (r : Rel) (b : Bool) (h : relOk r.name r.arity = b) (w : World) :
    Calls Tryz.prog 60 #[.agg #[.string r.name, .int .i64 r.arity, .bool r.source]] w fun e w' => e = .returned (.bool b) ∧ Below w.heap.size w w' := by
  subst h; exact specIsValidRelation_any _ _ _ w
set_option maxHeartbeats 3200000 in
theorem specAreValidRelations_any (v : Value) (l : List Rel) (w : World) (hl : RelsAt w w.heap.size v l) :
    Calls Tryz.prog 46 #[v] w fun e w' => e = .returned (.bool (validRels l)) ∧ Below w.heap.size w w' := by
  have HL := Lib.hid hl
  obtain ⟨A, c, rfl, hlc, hcm, -⟩ := hl
  unfold maxLen at hcm
  go_enter Tryz.func46, Tryz.ntmps46
  go_wp2
  go_loopw [3] (fun i wr => ∃ k : Nat, k ≤ l.length ∧ i = .int .i64 k ∧ Hid (okTo l k = true) ∧ Below w.heap.size w wr) (fun i _ => l.length - (intOf i).toNat)
  case atStart => exact ⟨0, by omega, rfl, Lib.hid rfl, Below.refl _ _⟩
  case round =>
    obtain ⟨k, hk, rfl, HT, hW⟩ := hrel
    have hz := hW.size
    by_cases hlt : k < l.length
    · obtain ⟨b, off, rfl, hb, c0, c1, c2⟩ := RelsAt.elem HL.out k hlt
      have C0 := Aft.cell hb c0
      have C1 := Aft.cell hb c1
      have C2 := Aft.cell hb c2
      clear c0 c1 c2
      cases hr : relOk l[k].name l[k].arity with
      | false =>
        have HV := Lib.hid (validRels_no l k hlt (okAt_bad l k hlt hr))
        have hcon := specIsValid_at l[k] false hr
        clear hr
        go_wp2
        refine wp_region_aft hW (by kernel_rfl) (by kernel_rfl) ?_
        repeat (go_big_quiet_step (((go_at_call 60; exact calls_aft (Nat.le_refl _) (hcon _)))))
        refine wpQuiet_nil ?_
        refine aft_end ?_
        intro w1 hh
        go_wp2
        go_ret
        exact ⟨by rw [HV.out]; rfl, hh⟩
      | true =>
        have hcon := specIsValid_at l[k] true hr
        rcases Nat.eq_zero_or_pos k with h0 | h0
        · have HT' := Lib.hid (show okTo l (k + 1) = true by rw [okTo_succ, HT.out]; subst h0; rw [okAt_zero l hlt hr]; rfl)
          have hg1 : decide ((0 : Int) < (k : Int)) = false := decide_eq_false (by omega)
          have hg2 : decide (0 < k) = false := decide_eq_false (by omega)
          clear hr h0
          go_wp2
          refine wp_region_aft hW (by kernel_rfl) (by kernel_rfl) ?_
          repeat (go_big_quiet_step (((go_at_call 60; exact calls_aft (Nat.le_refl _) (hcon _)))))
          refine wpQuiet_nil ?_
          refine aft_end ?_
          intro w1 hh
          go_wp2
          go_roundw
          case rel => exact ⟨k + 1, by omega, by go_num, HT', hh⟩
          case measure => simp [intOf]; omega
        · obtain ⟨j, rfl⟩ : ∃ j, k = j + 1 := ⟨k - 1, by omega⟩
          have hj : j < l.length := by omega
          have HS := Lib.hid (show okTo l (j + 1 + 1) = Op.bytesLess l[j].name.toList l[j + 1].name.toList by rw [okTo_succ, HT.out, okAt_succ l j hlt hr]; rfl)
          have HS2 := Lib.hid (okAt_succ l j hlt hr)
          obtain ⟨b', off', hA, hb', d0, -, -⟩ := RelsAt.elem HL.out j hj
          obtain ⟨rfl, rfl⟩ : b = b' ∧ off = off' := by simpa using hA
          have D0 := Aft.cell hb' d0
          clear hA d0
          clear hr
          cases hlss : Op.bytesLess l[j].name.toList l[j + 1].name.toList with
          | true =>
            have HT' := Lib.hid (HS.out.trans hlss)
            go_wp2
            refine wp_region_aft hW (by kernel_rfl) (by kernel_rfl) ?_
            repeat (go_big_quiet_step (((go_at_call 60; exact calls_aft (Nat.le_refl _) (hcon _)))))
            refine wpQuiet_nil ?_
            refine aft_end ?_
            intro w1 hh
            go_wp2
            go_roundw
            case rel => exact ⟨j + 1 + 1, by omega, by go_num, HT', hh⟩
            case measure => simp [intOf]; omega
          | false =>
            have HV := Lib.hid (validRels_no l (j + 1) hlt (HS2.out.trans hlss))
            go_wp2
            refine wp_region_aft hW (by kernel_rfl) (by kernel_rfl) ?_
            repeat (go_big_quiet_step (((go_at_call 60; exact calls_aft (Nat.le_refl _) (hcon _)))))
            refine wpQuiet_nil ?_
            refine aft_end ?_
            intro w1 hh
            go_wp2
            go_ret
            exact ⟨by rw [HV.out]; rfl, hh⟩
    · obtain rfl : k = l.length := by omega
      have HV := Lib.hid (validRels_yes l HT.out)
      go_wp2
      go_ret
      exact ⟨ret_bool (by rw [HV.out]; exact decide_eq_decide.2 (by omega)), hW⟩

theorem specAreValid_at2 (l : List Rel) (b : Bool) (h : validRels l = b) (v : Value) (w : World) (hl : RelsAt w w.heap.size v l) :
    Calls Tryz.prog 46 #[v] w fun e w' => e = .returned (.bool b) ∧ Below w.heap.size w w' := by
  subst h; exact specAreValidRelations_any v l w hl
set_option maxHeartbeats 3200000 in
set_option maxRecDepth 100000 in
theorem specIsValidFact_any (v : Value) (l : List Rel) (r : Int) (V : Value) (vs : List Int) (w : World) (hl : RelsAt w w.heap.size v l) (hn : l.length ≤ 1048576) (hV : IntsAt w w.heap.size V vs) (hw : IntsWf vs) :
    Calls Tryz.prog 31 #[v, .agg #[.int .i64 r, V]] w fun e w' => e = .returned (.bool (factOk l r vs)) ∧ Below w.heap.size w w' := by
  have HL := Lib.hid hl
  have HV := Lib.hid hV
  obtain ⟨A, c, rfl, hlc, hcm, -⟩ := hl
  obtain ⟨A', c', rfl, hlc', hcm', -⟩ := hV
  unfold maxLen at hcm hcm'
  have hE : Below w.heap.size w (w.alloc (.cells #[.int .i64 r, .slice A' vs.length c'] 26)) := (Below.refl _ _).alloc (Nat.le_refl _) _
  have hEz : w.heap.size + 1 ≤ (w.alloc (.cells #[.int .i64 r, .slice A' vs.length c'] 26)).heap.size := by simp
  have k0 : (w.alloc (.cells #[.int .i64 r, .slice A' vs.length c'] 26)).cell? ⟨w.heap.size, 0, none⟩ = some (.int .i64 r) := by simp [go_sem]
  have k1 : (w.alloc (.cells #[.int .i64 r, .slice A' vs.length c'] 26)).cell? ⟨w.heap.size, 1, none⟩ = some (.slice A' vs.length c') := by simp [go_sem]
  have G0 := Aft.cell hEz k0
  have G1 := Aft.cell hEz k1
  have K1 := Lib.hid k1
  have hcon := fun b h (u : Aft (w.alloc (.cells #[.int .i64 r, .slice A' vs.length c'] 26)).heap.size (w.alloc (.cells #[.int .i64 r, .slice A' vs.length c'] 26))) => specAreValid_at2 l b h (.slice A l.length c) u.now ((HL.out.below (hE.trans (u.is.mono hE.size)) (Nat.le_refl _)).more (hE.trans (u.is.mono hE.size)).size)
  clear k0 k1
  cases hr : validRels l with
  | false =>
    have HF := Lib.hid (factOk_rels (r := r) (vs := vs) hr)
    replace hcon := hcon false hr
    clear hr
    go_enter Tryz.func31, Tryz.ntmps31
    go_wp2
    refine wp_region_aft (Below.refl (w.alloc (.cells #[.int .i64 r, .slice A' vs.length c'] 26)).heap.size (w.alloc (.cells #[.int .i64 r, .slice A' vs.length c'] 26))) (by kernel_rfl) (by kernel_rfl) ?_
    repeat (go_big_quiet_step (((go_at_call 46; exact calls_aft (Nat.le_refl _) (hcon _)))))
    refine wpQuiet_nil ?_
    refine aft_end ?_
    intro w1 hh
    go_wp2
    go_ret
    exact ⟨ret_bool HF.out.symm, hE.trans (hh.mono hE.size)⟩
  | true =>
    have HR := Lib.hid hr
    replace hcon := hcon true hr
    clear hr
    by_cases hin : 0 ≤ r ∧ r < l.length
    · obtain ⟨k, rfl⟩ : ∃ k : Nat, r = (k : Int) := ⟨r.toNat, by omega⟩
      have hk : k < l.length := by omega
      have HIN := Lib.hid hin
      have hin' := fun w => l1In_at (k : Int) 0 ((l.length : Int) - 1) true (inB_true (by omega)) w
      obtain ⟨b, off, rfl, hb, -, c1, -⟩ := RelsAt.elem HL.out k hk
      have C1 := Aft.cell (B := (w.alloc (.cells #[.int .i64 (k : Int), .slice A' vs.length c'] 26)).heap.size) (w := (w.alloc (.cells #[.int .i64 (k : Int), .slice A' vs.length c'] 26))) (by omega) ((hE.cell (p := ⟨b, off + k * 3 + 1, none⟩) hb).trans c1)
      have ha : Hid (l[k].arity = arityAt l (k : Int)) := Lib.hid (by rw [arityAt_in (by omega)]; rfl)
      clear c1 hin
      by_cases hlen : (vs.length : Int) = l[k].arity
      · have HLEN := Lib.hid (hlen.trans ha.out)
        have hbn : ((vs.length : Int) != l[k].arity) = false := by rw [hlen]; simp
        clear hlen
        generalize l[k].arity = q at *
        go_enter Tryz.func31, Tryz.ntmps31
        go_wp2
        refine wp_region_aft (Below.refl (w.alloc (.cells #[.int .i64 (k : Int), .slice A' vs.length c'] 26)).heap.size (w.alloc (.cells #[.int .i64 (k : Int), .slice A' vs.length c'] 26))) (by kernel_rfl) (by kernel_rfl) ?_
        repeat (go_big_quiet_step (first | ((go_at_call 46; exact calls_aft (Nat.le_refl _) (hcon _))) | ((go_at_call 45; exact calls_aft_same (hin' _)))))
        refine wpQuiet_nil ?_
        refine aft_end ?_
        intro w1 hh
        clear hcon hin' C1 G0 G1
        go_wp2
        go_loopw [5] (fun i wr => ∃ j : Nat, j ≤ vs.length ∧ i = .int .i64 j ∧ Hid (ValsTo vs j) ∧ Below (w.alloc (.cells #[.int .i64 (k : Int), .slice A' vs.length c'] 26)).heap.size (w.alloc (.cells #[.int .i64 (k : Int), .slice A' vs.length c'] 26)) wr) (fun i _ => vs.length - (intOf i).toNat)
        case atStart => exact ⟨0, by omega, rfl, Lib.hid (ValsTo.zero vs), hh⟩
        case round =>
          obtain ⟨j, hj, rfl, HT, hW⟩ := hrel
          have f1 := (hW.cell (p := ⟨w.heap.size, 1, none⟩) hEz).trans K1.out
          by_cases hlt : j < vs.length
          · obtain ⟨b', off', rfl, hb', d0⟩ := IntsAt.elem HV.out j hlt
            replace d0 := ((hE.trans (hW.mono hE.size)).cell (p := ⟨b', off' + j, none⟩) hb').trans d0
            cases hv : validV vs[j] with
            | false =>
              have hvc := specIsValidValue_at vs[j] false hv wr (hw j hlt).1 (hw j hlt).2
              have HF := Lib.hid (factOk_val (l := l) (r := (k : Int)) j hlt hv)
              clear hv
              go_wp2_with (go_at_call 47; refine hvc.mono ?_; rintro e w2 ⟨rfl, rfl⟩)
              go_ret
              exact ⟨ret_bool HF.out.symm, hE.trans (hW.mono hE.size)⟩
            | true =>
              have hvc := specIsValidValue_at vs[j] true hv wr (hw j hlt).1 (hw j hlt).2
              have HN := Lib.hid (HT.out.next hlt hv)
              clear hv
              go_wp2_with (go_at_call 47; refine hvc.mono ?_; rintro e w2 ⟨rfl, rfl⟩)
              go_roundw
              case rel => exact ⟨j + 1, by omega, by go_num, HN, hW⟩
              case measure => simp [intOf]; omega
          · obtain rfl : j = vs.length := by omega
            have HF := Lib.hid (factOk_yes HR.out HIN.out HLEN.out HT.out)
            go_wp2
            go_ret
            exact ⟨ret_bool HF.out.symm, hE.trans (hW.mono hE.size)⟩
      · have HF := Lib.hid (factOk_len (l := l) (r := (k : Int)) (vs := vs) (fun e => hlen (e.trans ha.out.symm)))
        have hbn : ((vs.length : Int) != l[k].arity) = true := bne_iff_ne.2 hlen
        clear hlen
        generalize l[k].arity = q at *
        go_enter Tryz.func31, Tryz.ntmps31
        go_wp2
        refine wp_region_aft (Below.refl (w.alloc (.cells #[.int .i64 (k : Int), .slice A' vs.length c'] 26)).heap.size (w.alloc (.cells #[.int .i64 (k : Int), .slice A' vs.length c'] 26))) (by kernel_rfl) (by kernel_rfl) ?_
        repeat (go_big_quiet_step (first | ((go_at_call 46; exact calls_aft (Nat.le_refl _) (hcon _))) | ((go_at_call 45; exact calls_aft_same (hin' _)))))
        refine wpQuiet_nil ?_
        refine aft_end ?_
        intro w1 hh
        go_wp2
        go_ret
        exact ⟨ret_bool HF.out.symm, hE.trans (hh.mono hE.size)⟩
    · have HF := Lib.hid (factOk_idx (l := l) (r := r) (vs := vs) hin)
      have hin' := fun w => l1In_at r 0 ((l.length : Int) - 1) false (inB_false (by omega)) w
      clear hin
      go_enter Tryz.func31, Tryz.ntmps31
      go_wp2
      refine wp_region_aft (Below.refl (w.alloc (.cells #[.int .i64 r, .slice A' vs.length c'] 26)).heap.size (w.alloc (.cells #[.int .i64 r, .slice A' vs.length c'] 26))) (by kernel_rfl) (by kernel_rfl) ?_
      repeat (go_big_quiet_step (first | ((go_at_call 46; exact calls_aft (Nat.le_refl _) (hcon _))) | ((go_at_call 45; exact calls_aft_same (hin' _)))))
      refine wpQuiet_nil ?_
      refine aft_end ?_
      intro w1 hh
      go_wp2
      go_ret
      exact ⟨ret_bool HF.out.symm, hE.trans (hh.mono hE.size)⟩
theorem specIsValidFact_at (v : Value) (l : List Rel) (r : Int) (V : Value) (vs : List Int) (b : Bool) (h : factOk l r vs = b) (w : World) (hl : RelsAt w w.heap.size v l) (hn : l.length ≤ 1048576) (hV : IntsAt w w.heap.size V vs) (hw : IntsWf vs) :
    Calls Tryz.prog 31 #[v, .agg #[.int .i64 r, V]] w fun e w' => e = .returned (.bool b) ∧ Below w.heap.size w w' := by
  subst h; exact specIsValidFact_any v l r V vs w hl hn hV hw
theorem specIsValidFact_c (v : Value) (l : List Rel) (u : Value) (x : Fct) (w : World) (h : RelationS_at w w.heap.size v l) (_ : RelationS_wf l) (hn : RelationS_sz l ≤ 1048576) (h' : Fact_at w w.heap.size u x) (hw : Fact_wf x) (_ : Fact_sz x ≤ 1048576) :
    Calls Tryz.prog 31 #[v, u] w fun e w' => e = .returned (.bool (factOk l x.rel x.vals)) ∧ Below w.heap.size w w' := by
  obtain ⟨V, rfl, h'⟩ := h'
  exact specIsValidFact_any v l x.rel V x.vals w h (by unfold RelationS_sz at hn; omega) h' hw.2

end Go.Proofs.YtijpcplhbmmffaaGreatDoor
