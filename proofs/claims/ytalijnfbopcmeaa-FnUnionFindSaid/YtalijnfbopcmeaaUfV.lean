/-
  Walks and plain lemmas for the laws of this seat: what single Go functions return, for every argument.
-/
import Derived.Test.YtalijnfbopcmeaaNum
import Derived.Test.YtalijnfbopcmeaaInts
import Derived.Test.YtalijnfbopcmeaaTyInst
import Derived.Test.YtalijnfbopcmeaaMUf
import Derived.Test.YtalijnfbopcmeaaAft
namespace Go.Proofs.Ytalijnfbopcmeaa
open Go.RowKit

theorem specNN_yes (v : Int) (m : Nat) (h : -40 ≤ v ∧ v < 0) (hm : -1 - v = (m : Int)) (w : World) :
    Calls Try.prog 50 #[.int .i64 v] w fun e w' => e = .returned (.tuple #[.int .i64 (m : Int), .bool true]) ∧ w = w' := by
  have := specNullNumber_any v w (by omega) (by omega)
  rwa [nullNum_yes v h, hm] at this
theorem specNN_no (v : Int) (h : ¬(-40 ≤ v ∧ v < 0)) (h0 : -9223372036854775808 ≤ v) (h1 : v ≤ 9223372036854775807) (w : World) :
    Calls Try.prog 50 #[.int .i64 v] w fun e w' => e = .returned (.tuple #[.int .i64 0, .bool false]) ∧ w = w' := by
  have := specNullNumber_any v w h0 h1
  rwa [nullNum_no v h] at this
theorem specL1In_is (v lo hi : Int) (b : Bool) (h : inB v lo hi = b) (w : World) :
    Calls Try.prog 56 #[.int .i64 v, .int .i64 lo, .int .i64 hi] w fun e w' => e = .returned (.bool b) ∧ w = w' := by
  subst h; exact l1In_any v lo hi w
theorem specNV_is (k q : Int) (hq : -1 - k = q) (h0 : -9223372036854775808 ≤ k) (h1 : k ≤ 9223372036854775807) (w : World) :
    Calls Try.prog 57 #[.int .i64 k] w fun e w' => e = .returned (.int .i64 q) ∧ w = w' := by
  subst hq; exact specNullValue_any k w h0 h1
set_option maxHeartbeats 3200000 in
set_option maxRecDepth 100000 in
theorem specIsValidUf_any (v : Value) (x : List Int) (w : World) (h : UnionFind_at w w.heap.size v x) (hw : UnionFind_wf x) :
    Calls Try.prog 19 #[v] w fun e w' => e = .returned (.bool (ufOk x)) ∧ Below w.heap.size w w' := by
  obtain ⟨P, c, rfl⟩ := UnionFind_form h
  have hN := h.ints
  clear h
  obtain ⟨_, _, hv1, hc1, hc2⟩ := hN.form
  injection hv1 with e1 _ e2
  subst e1 e2
  unfold maxLen at hc2
  have HNl := Lib.hid hN
  clear hN
  obtain ⟨E, hEq⟩ : ∃ E, E = w.alloc (.cells #[.slice P x.length c] 26) := ⟨_, rfl⟩
  have hE : Below w.heap.size w E := by rw [hEq]; exact (Below.refl _ _).alloc (Nat.le_refl _) _
  have HE := Lib.hid (show w.heap.size + 1 = E.heap.size by rw [hEq]; simp)
  have K0 := Lib.hid (show E.cell? ⟨w.heap.size, 0, none⟩ = some (.slice P x.length c) by rw [hEq]; simp [go_sem])
  go_enter Try.func19, Try.ntmps19
  go_wp2
  rw [← hEq]
  clear hEq
  go_loopw [3] (fun i wr => ∃ k : Nat, k ≤ x.length ∧ i = .int .i64 k ∧ Hid (UfTo x k) ∧ Below E.heap.size E wr) (fun i _ => x.length - (intOf i).toNat)
  case atStart => exact ⟨0, by omega, rfl, Lib.hid (UfTo.zero x), Below.refl _ _⟩
  case round =>
    obtain ⟨k, hk, rfl, HT, hW⟩ := hrel
    have hWw := hE.trans (hW.mono hE.size)
    have hzw : w.heap.size < wr.heap.size := by have h1 := hW.size; have h2 := HE.out; omega
    have f0 := (hW.cell (p := ⟨w.heap.size, 0, none⟩) (by show w.heap.size < _; have := HE.out; omega)).trans K0.out
    have G0 := Aft.cell (B := wr.heap.size) (w := wr) hzw f0
    by_cases hlt : k < x.length
    · obtain ⟨b, off, rfl, hb, c0⟩ := IntsAt.elem HNl.out k hlt
      have C := (hWw.cell (p := ⟨b, off + k, none⟩) hb).trans c0
      have C0 := Aft.cell (B := wr.heap.size) (w := wr) (by omega) C
      have hbd := hw k hlt
      clear c0
      by_cases hnull : -40 ≤ x[k] ∧ x[k] < 0
      · obtain ⟨m, hm⟩ : ∃ m : Nat, -1 - x[k] = (m : Int) := ⟨(-1 - x[k]).toNat, by omega⟩
        have hnn := specNN_yes x[k] m hnull hm
        have hin : ∀ W, Calls Try.prog 56 #[.int .i64 x[k], .int .i64 0, .int .i64 9] W fun e w' => e = .returned (.bool false) ∧ W = w' := specL1In_is x[k] 0 9 false (inB_false (by omega))
        have hnv := specNV_is (m : Int) x[k] (by omega) (by omega) (by omega)
        by_cases hf : k < m
        · have HV := Lib.hid (ufOk_no _ hlt (ufElem_far hlt hnull hm hf))
          have hg1 : decide ((k : Int) < (m : Int)) = true := decide_eq_true (by omega)
          have hg2 : decide (k < m) = true := decide_eq_true hf
          clear HT hnull hm hbd
          go_wp2_with (go_at_call 50; refine (hnn _).mono ?_; rintro e w1 ⟨rfl, rfl⟩)
          refine wp_region_aft (Below.refl wr.heap.size wr) (by kernel_rfl) (by kernel_rfl) ?_
          repeat (go_big_quiet_step (first | (go_at_call 56; exact calls_aft_same (hin _)) | (go_at_call 57; exact calls_aft_same (hnv _))))
          refine wpQuiet_nil ?_
          refine aft_end ?_
          intro w1 hh
          go_wp2
          go_ret
          exact ⟨ret_bool HV.out.symm, hWw.trans (hh.mono hWw.size)⟩
        · have hml : m < x.length := by omega
          obtain ⟨b2, off2, hA, -, c1⟩ := IntsAt.elem HNl.out m hml
          obtain ⟨rfl, rfl⟩ : b = b2 ∧ off = off2 := by simpa using hA
          have C1 := Aft.cell (B := wr.heap.size) (w := wr) (by omega) ((hWw.cell (p := ⟨b, off + m, none⟩) hb).trans c1)
          have hg1 : decide ((k : Int) < (m : Int)) = false := decide_eq_false (by omega)
          have hg2 : decide (k < m) = false := decide_eq_false hf
          clear hA c1
          by_cases he : x[m] = x[k]
          · have HN := Lib.hid (HT.out.next (ufElem_eq hlt hnull hm hml he (by omega)))
            have hq : (x[m] != x[k]) = false := by rw [he]; simp
            clear HT hnull hm hbd he
            go_wp2_with (go_at_call 50; refine (hnn _).mono ?_; rintro e w1 ⟨rfl, rfl⟩)
            refine wp_region_aft (Below.refl wr.heap.size wr) (by kernel_rfl) (by kernel_rfl) ?_
            repeat (go_big_quiet_step (first | (go_at_call 56; exact calls_aft_same (hin _)) | (go_at_call 57; exact calls_aft_same (hnv _))))
            refine wpQuiet_nil ?_
            refine aft_end ?_
            intro w1 hh
            go_wp2
            go_roundw
            case rel => exact ⟨k + 1, by omega, by go_num, HN, hW.trans (hh.mono hW.size)⟩
            case measure => simp [intOf]; omega
          · have HV := Lib.hid (ufOk_no _ hlt (ufElem_ne hlt hnull hm hml he))
            have hq : (x[m] != x[k]) = true := bne_iff_ne.2 he
            clear HT hnull hm hbd he
            go_wp2_with (go_at_call 50; refine (hnn _).mono ?_; rintro e w1 ⟨rfl, rfl⟩)
            refine wp_region_aft (Below.refl wr.heap.size wr) (by kernel_rfl) (by kernel_rfl) ?_
            repeat (go_big_quiet_step (first | (go_at_call 56; exact calls_aft_same (hin _)) | (go_at_call 57; exact calls_aft_same (hnv _))))
            refine wpQuiet_nil ?_
            refine aft_end ?_
            intro w1 hh
            go_wp2
            go_ret
            exact ⟨ret_bool HV.out.symm, hWw.trans (hh.mono hWw.size)⟩
      · have hnn := specNN_no x[k] hnull hbd.1 hbd.2
        cases hv : validV x[k] with
        | true =>
          have hv' : -40 ≤ x[k] ∧ x[k] ≤ 9 := of_decide_eq_true hv
          have hin := specL1In_is x[k] 0 9 true (inB_true (by omega))
          have HN := Lib.hid (HT.out.next (ufElem_const hlt hv (by omega)))
          clear HT hnull hv hbd hv'
          go_wp2_with (go_at_call 50; refine (hnn _).mono ?_; rintro e w1 ⟨rfl, rfl⟩)
          refine wp_region_aft (Below.refl wr.heap.size wr) (by kernel_rfl) (by kernel_rfl) ?_
          repeat (go_big_quiet_step (((go_at_call 56; exact calls_aft_same (hin _)))))
          refine wpQuiet_nil ?_
          refine aft_end ?_
          intro w1 hh
          go_wp2
          go_roundw
          case rel => exact ⟨k + 1, by omega, by go_num, HN, hW.trans (hh.mono hW.size)⟩
          case measure => simp [intOf]; omega
        | false =>
          have hv' : ¬(-40 ≤ x[k] ∧ x[k] ≤ 9) := of_decide_eq_false hv
          have hin := specL1In_is x[k] 0 9 false (inB_false (by omega))
          have HV := Lib.hid (ufOk_no _ hlt (ufElem_bad hlt hv))
          clear HT hnull hv hbd hv'
          go_wp2_with (go_at_call 50; refine (hnn _).mono ?_; rintro e w1 ⟨rfl, rfl⟩)
          refine wp_region_aft (Below.refl wr.heap.size wr) (by kernel_rfl) (by kernel_rfl) ?_
          repeat (go_big_quiet_step (((go_at_call 56; exact calls_aft_same (hin _)))))
          refine wpQuiet_nil ?_
          refine aft_end ?_
          intro w1 hh
          go_wp2
          go_ret
          exact ⟨ret_bool HV.out.symm, hWw.trans (hh.mono hWw.size)⟩
    · obtain rfl : k = x.length := by omega
      have HV := Lib.hid (ufOk_to HT.out)
      clear HT
      by_cases hl : x.length ≤ 40
      · have hd1 : decide (x.length ≤ 40) = true := decide_eq_true hl
        have hd2 : decide ((x.length : Int) ≤ 40) = true := decide_eq_true (by omega)
        rw [hd1] at HV
        go_wp2
        go_ret
        exact ⟨ret_bool HV.out.symm, hWw⟩
      · have hd1 : decide (x.length ≤ 40) = false := decide_eq_false hl
        have hd2 : decide ((x.length : Int) ≤ 40) = false := decide_eq_false (by omega)
        rw [hd1] at HV
        go_wp2
        go_ret
        exact ⟨ret_bool HV.out.symm, hWw⟩
theorem specIsValidUf_at (x : List Int) (b : Bool) (hb : ufOk x = b) (v : Value) (w : World) (h : UnionFind_at w w.heap.size v x) (hw : UnionFind_wf x) :
    Calls Try.prog 19 #[v] w fun e w' => e = .returned (.bool b) ∧ Below w.heap.size w w' := by
  subst hb; exact specIsValidUf_any v x w h hw
theorem specIsValidUnionFind_c (v : Value) (x : List Int) (w : World) (h : UnionFind_at w w.heap.size v x) (hw : UnionFind_wf x) (_ : UnionFind_sz x ≤ 1048576) :
    Calls Try.prog 19 #[v] w fun e w' => e = .returned (.bool (ufOk x)) ∧ Below w.heap.size w w' := specIsValidUf_any v x w h hw

end Go.Proofs.Ytalijnfbopcmeaa
