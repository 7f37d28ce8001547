/-
  Walks and plain lemmas for the laws of this seat: what single Go functions return, for every argument.
-/
import Derived.Test.YtakflmaeclneiaaGreatInts
import Derived.Test.YtakflmaeclneiaaGreatTyAtom
import Derived.Test.YtakflmaeclneiaaGreatRels
import Derived.Test.YtakflmaeclneiaaGreatFact
import Derived.Test.YtakflmaeclneiaaGreatMInst
import Derived.Test.YtakflmaeclneiaaGreatGraph
import Derived.Test.YtakflmaeclneiaaGreatGst
import Derived.Test.YtakflmaeclneiaaGreatFactVI
import Derived.Test.YtakflmaeclneiaaGreatRelOfI
namespace Go.Proofs.YtakflmaeclneiaaGreat
open Go.RowKit

set_option maxHeartbeats 3200000 in
set_option maxRecDepth 100000 in
theorem implIndexE_any (v : Value) (e : List Edg) (x : Edg) (w : World) (hl : EdgsAt w w.heap.size v e) :
    Calls Tryz.prog 46 #[v, .agg #[.int .i64 x.src, .int .i64 x.dst, .bool x.spec]] w fun ex w' => ex = .returned (.int .i64 (ixOf (fun y => decide (x = y)) e)) ∧ Below w.heap.size w w' := by
  have HL := Lib.hid hl
  obtain ⟨A, c, rfl, hlc, hcm, -⟩ := hl
  unfold maxLen at hcm
  obtain ⟨W1, hEq⟩ : ∃ W1, W1 = w.alloc (.cells #[.int .i64 x.src, .int .i64 x.dst, .bool x.spec] 55) := ⟨_, rfl⟩
  have HB1 := Lib.hid (show Below w.heap.size w W1 by rw [hEq]; exact below_more (Below.refl _ _) _)
  have HZ1 := Lib.hid (show W1.heap.size = w.heap.size + 1 by rw [hEq]; simp)
  have X0 := Lib.hid (show W1.cell? ⟨w.heap.size, 0, none⟩ = some (.int .i64 x.src) by rw [hEq]; simp [go_sem])
  have X1 := Lib.hid (show W1.cell? ⟨w.heap.size, 1, none⟩ = some (.int .i64 x.dst) by rw [hEq]; simp [go_sem])
  have X2 := Lib.hid (show W1.cell? ⟨w.heap.size, 2, none⟩ = some (.bool x.spec) by rw [hEq]; simp [go_sem])
  go_enter Tryz.func46, Tryz.ntmps46
  go_upto_region 1 with fail
  rw [← hEq]
  clear hEq
  go_wp2
  go_loopw [8] (fun i wr => ∃ k : Nat, k ≤ e.length ∧ i = .int .i64 (k : Int) ∧ Hid (IxTo (fun y => decide (x = y)) e k) ∧ Hid (Below W1.heap.size W1 wr)) (fun i _ => e.length - (intOf i).toNat)
  case atStart => exact ⟨0, by omega, rfl, Lib.hid (IxTo.zero _ _), Lib.hid (Below.refl _ _)⟩
  case round =>
    obtain ⟨k, hk, rfl, HT, HW⟩ := hrel
    have hz1 := HZ1.out
    have hz2 := HW.out.size
    have x0 := (HW.out.cell (p := ⟨w.heap.size, 0, none⟩) (by show w.heap.size < _; omega)).trans X0.out
    have x1 := (HW.out.cell (p := ⟨w.heap.size, 1, none⟩) (by show w.heap.size < _; omega)).trans X1.out
    have x2 := (HW.out.cell (p := ⟨w.heap.size, 2, none⟩) (by show w.heap.size < _; omega)).trans X2.out
    have HWw := Lib.hid (HB1.out.trans (HW.out.mono (by omega)))
    by_cases hlt : k < e.length
    · obtain ⟨b, off, rfl, hb, c0, c1, c2⟩ := EdgsAt.elem (HL.out.below HWw.out (Nat.le_refl _)) k hlt
      have HN := Lib.hid (fun h => HT.out.next hlt h)
      have HV := Lib.hid (fun h => HT.out.hit hlt h)
      generalize e[k] = r at *
      have C0 := Aft.cell (B := wr.heap.size) (w := wr) (by omega) c0
      have C1 := Aft.cell (B := wr.heap.size) (w := wr) (by omega) c1
      have C2 := Aft.cell (B := wr.heap.size) (w := wr) (by omega) c2
      have D0 := Aft.cell (B := wr.heap.size) (w := wr) (by omega) x0
      have D1 := Aft.cell (B := wr.heap.size) (w := wr) (by omega) x1
      have D2 := Aft.cell (B := wr.heap.size) (w := wr) (by omega) x2
      clear c0 c1 c2 x0 x1 x2
      cases hd : decide (x = r) with
      | true =>
        have HV2 := Lib.hid (HV.out hd)
        go_upto_region 4 with fail
        refine wp_region_aft (Below.refl wr.heap.size wr) (by kernel_rfl) (by kernel_rfl) ?_
        repeat (go_big_quiet_step (fail))
        go_big_quiet_want
        refine quiet_eql_edg x r _ _ _ rfl rfl rfl true hd ?_
        go_big_quiet_on
        refine wpQuiet_nil ?_
        refine aft_end ?_
        intro w1 hh
        have HF := Lib.hid (HWw.out.trans (hh.mono (by omega)))
        clear hd hh C0 C1 C2 D0 D1 D2
        go_wp2
        go_ret
        exact ⟨ret_int HV2.out.symm, HF.out⟩
      | false =>
        have HN2 := Lib.hid (HN.out hd)
        go_upto_region 4 with fail
        refine wp_region_aft (Below.refl wr.heap.size wr) (by kernel_rfl) (by kernel_rfl) ?_
        repeat (go_big_quiet_step (fail))
        go_big_quiet_want
        refine quiet_eql_edg x r _ _ _ rfl rfl rfl false hd ?_
        go_big_quiet_on
        refine wpQuiet_nil ?_
        refine aft_end ?_
        intro w1 hh
        have HF := Lib.hid (HW.out.trans (hh.mono (by omega)))
        clear hd hh C0 C1 C2 D0 D1 D2
        go_wp2
        go_roundw
        case rel => exact ⟨k + 1, by omega, by go_num, HN2, HF⟩
        case measure => simp [intOf]; omega
    · obtain rfl : k = e.length := by omega
      have HV := Lib.hid HT.out.miss
      go_wp2
      go_ret
      exact ⟨ret_int HV.out.symm, HWw.out⟩
theorem any_edg (e : List Edg) (x : Edg) : e.any (fun y => decide (x = y)) = decide (x ∈ e) := by
  by_cases h : x ∈ e
  · rw [decide_eq_true h]; exact List.any_eq_true.2 ⟨x, h, decide_eq_true rfl⟩
  · rw [decide_eq_false h]; exact List.any_eq_false.2 fun y hy he => h (by have := of_decide_eq_true he; rwa [this])
theorem implContainsE_at (e : List Edg) (x : Edg) (q : Bool) (hq : decide (x ∈ e) = q) (v : Value) (w : World) (hl : EdgsAt w w.heap.size v e) :
    Calls Tryz.prog 28 #[v, .agg #[.int .i64 x.src, .int .i64 x.dst, .bool x.spec]] w fun ex w' => ex = .returned (.bool q) ∧ Below w.heap.size w w' := by
  subst hq
  obtain ⟨W1, hEq⟩ : ∃ W1, W1 = w.alloc (.cells #[.int .i64 x.src, .int .i64 x.dst, .bool x.spec] 55) := ⟨_, rfl⟩
  have HB1 := Lib.hid (show Below w.heap.size w W1 by rw [hEq]; exact below_more (Below.refl _ _) _)
  have hi := implIndexE_any v e x W1 ((hl.below HB1.out (Nat.le_refl _)).more HB1.out.size)
  have HV := Lib.hid ((ixOf_any (fun y => decide (x = y)) e).trans (any_edg e x))
  generalize ixOf (fun y => decide (x = y)) e = q at *
  rw [hEq] at hi
  obtain ⟨A, c, rfl, hlc, hcm, -⟩ := hl
  go_enter Tryz.func28, Tryz.ntmps28
  go_wp2_with (go_at_call 46; refine hi.mono ?_; rintro e w1 ⟨rfl, hb1⟩)
  rw [← hEq] at hb1
  go_ret
  exact ⟨ret_bool HV.out, HB1.out.trans (hb1.mono HB1.out.size)⟩

theorem atomOk_relOf (l : List Rel) (r : Int) (vs : List Int) : atomOk l r vs = (relOf l r (vs.length : Nat) && vs.all validT) := by unfold atomOk relOf; simp only [Bool.and_assoc]
set_option maxHeartbeats 3200000 in
set_option maxRecDepth 100000 in
theorem implIsValidAtom_any (v : Value) (l : List Rel) (r : Int) (V : Value) (vs : List Int) (w : World) (hl : RelsAt w w.heap.size v l) (hV : IntsAt w w.heap.size V vs) :
    Calls Tryz.prog 66 #[v, .agg #[.int .i64 r, V]] w fun e w' => e = .returned (.bool (atomOk l r vs)) ∧ Below w.heap.size w w' := by
  have HL := Lib.hid hl
  have HV := Lib.hid hV
  obtain ⟨A, c, rfl, hlc, hcm, -⟩ := hl
  obtain ⟨A', c', rfl, hlc', hcm', -⟩ := hV
  unfold maxLen at hcm hcm'
  have hE : Below w.heap.size w (w.alloc (.cells #[.int .i64 r, .slice A' vs.length c'] 72)) := (Below.refl _ _).alloc (Nat.le_refl _) _
  have hEz : w.heap.size < (w.alloc (.cells #[.int .i64 r, .slice A' vs.length c'] 72)).heap.size := by simp
  have K1 := Lib.hid (show (w.alloc (.cells #[.int .i64 r, .slice A' vs.length c'] 72)).cell? ⟨w.heap.size, 1, none⟩ = some (.slice A' vs.length c') by simp [go_sem])
  have hcon := fun q hq => implRelOf_at l r (vs.length : Nat) q hq (.slice A l.length c) (w.alloc (.cells #[.int .i64 r, .slice A' vs.length c'] 72)) ((HL.out.below hE (Nat.le_refl _)).more hE.size)
  cases hr : relOf l r (vs.length : Nat) with
  | false =>
    have HF := Lib.hid (show atomOk l r vs = false by rw [atomOk_relOf, hr]; rfl)
    replace hcon := hcon false hr
    clear hr
    go_enter Tryz.func66, Tryz.ntmps66
    go_wp2_with (go_at_call 77; refine hcon.mono ?_; rintro e w1 ⟨rfl, hb1⟩)
    go_ret
    exact ⟨ret_bool HF.out.symm, hE.trans (hb1.mono hE.size)⟩
  | true =>
    have HA := Lib.hid (show atomOk l r vs = vs.all validT by rw [atomOk_relOf, hr]; rfl)
    replace hcon := hcon true hr
    clear hr
    go_enter Tryz.func66, Tryz.ntmps66
    go_wp2_with fail
    refine hcon.mono ?_
    rintro e w1 ⟨rfl, hb1⟩
    have hz1 := hb1.size
    have f1 := (hb1.cell (p := ⟨w.heap.size, 1, none⟩) hEz).trans K1.out
    clear hcon
    go_wp2
    clear f1
    go_loopw [18] (fun i wr => ∃ j : Nat, j ≤ vs.length ∧ i = .int .i64 j ∧ Hid (TermsTo vs j) ∧ Below w1.heap.size w1 wr) (fun i _ => vs.length - (intOf i).toNat)
    case atStart => exact ⟨0, by omega, rfl, Lib.hid (TermsTo.zero vs), Below.refl _ _⟩
    case round =>
      obtain ⟨j, hj, rfl, HT, hW⟩ := hrel
      have hWW := hE.trans ((hb1.trans (hW.mono hz1)).mono hE.size)
      by_cases hlt : j < vs.length
      · obtain ⟨b', off', rfl, hb', d0⟩ := IntsAt.elem HV.out j hlt
        replace d0 := (hWW.cell (p := ⟨b', off' + j, none⟩) hb').trans d0
        cases hv : validT vs[j] with
        | false =>
          have hvc := implIsValidTerm_at vs[j] false hv wr
          have HF := Lib.hid (all_no (p := validT) hlt hv)
          clear hv
          go_wp2_with (go_at_call 78; refine hvc.mono ?_; rintro e w3 ⟨rfl, rfl⟩)
          go_ret
          exact ⟨ret_bool (HA.out.trans HF.out).symm, hWW⟩
        | true =>
          have hvc := implIsValidTerm_at vs[j] true hv wr
          have HN := Lib.hid (HT.out.next hlt hv)
          clear hv
          go_wp2_with (go_at_call 78; refine hvc.mono ?_; rintro e w3 ⟨rfl, rfl⟩)
          go_roundw
          case rel => exact ⟨j + 1, by omega, by go_num, HN, hW⟩
          case measure => simp [intOf]; omega
      · obtain rfl : j = vs.length := by omega
        have HF := Lib.hid (show vs.all validT = true by have := HT.out; unfold TermsTo at this; rwa [List.take_of_length_le (Nat.le_refl _)] at this)
        go_wp2
        go_ret
        exact ⟨ret_bool (HA.out.trans HF.out).symm, hWW⟩
theorem implIsValidAtom_at (l : List Rel) (x : Atm) (q : Bool) (hq : atomB l x = q) (v u : Value) (w : World) (hl : RelsAt w w.heap.size v l) (hf : Atom_at w w.heap.size u x) :
    Calls Tryz.prog 66 #[v, u] w fun e w' => e = .returned (.bool q) ∧ Below w.heap.size w w' := by
  subst hq
  obtain ⟨V, rfl, hV⟩ := hf
  exact implIsValidAtom_any v l x.rel V x.vals w hl hV
theorem implIsValidAtom_c (v : Value) (l : List Rel) (u : Value) (x : Atm) (w : World) (h : RelationS_at w w.heap.size v l) (_ : RelationS_wf l) (_ : RelationS_sz l ≤ 1048576) (h' : Atom_at w w.heap.size u x) (_ : Atom_wf x) (_ : Atom_sz x ≤ 1048576) :
    Calls Tryz.prog 66 #[v, u] w fun e w' => e = .returned (.bool (atomOk l x.rel x.vals)) ∧ Below w.heap.size w w' := by
  obtain ⟨V, rfl, h'⟩ := h'
  exact implIsValidAtom_any v l x.rel V x.vals w h h'

end Go.Proofs.YtakflmaeclneiaaGreat
