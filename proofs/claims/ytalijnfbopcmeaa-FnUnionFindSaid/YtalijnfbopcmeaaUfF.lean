/-
  Walks and plain lemmas for the laws of this seat: what single Go functions return, for every argument.
-/
import Derived.Test.YtalijnfbopcmeaaUfV
namespace Go.Proofs.Ytalijnfbopcmeaa
open Go.RowKit

set_option maxHeartbeats 3200000 in
set_option maxRecDepth 100000 in
theorem specFind_any (v : Value) (x : List Int) (z : Int) (w : World) (h : UnionFind_at w w.heap.size v x) (hw : UnionFind_wf x) (h0 : -9223372036854775808 ≤ z) (h1 : z ≤ 9223372036854775807) :
    Calls Try.prog 21 #[v, .int .i64 z] w fun e w' => e = .returned (.int .i64 (ufFind x z)) ∧ Below w.heap.size w w' := by
  obtain ⟨P, c, rfl⟩ := UnionFind_form h
  have HX := Lib.hid h
  have hN := h.ints
  clear h
  obtain ⟨_, _, hv1, hc1, hc2⟩ := hN.form
  injection hv1 with e1 _ e2
  subst e1 e2
  unfold maxLen at hc2
  have HNl := Lib.hid hN
  clear hN
  obtain ⟨E, hEq⟩ : ∃ E, E = w.alloc (.cells #[.slice P x.length c] 26) := ⟨_, rfl⟩
  have hE : Below w.heap.size w E := by rw [hEq]; exact (Below.refl _ _).alloc (Nat.le_refl _) _
  have HE := Lib.hid (show w.heap.size + 1 = E.heap.size by rw [hEq]; simp)
  have K0 := Lib.hid (show E.cell? ⟨w.heap.size, 0, none⟩ = some (.slice P x.length c) by rw [hEq]; simp [go_sem])
  have hval := fun (b : Bool) (hb : ufOk x = b) => specIsValidUf_at x b hb (.agg #[.slice P x.length c]) E ((HX.out.below hE (Nat.le_refl _)).more hE.size) hw
  by_cases hnull : -40 ≤ z ∧ z < 0
  · obtain ⟨m, hm⟩ : ∃ m : Nat, -1 - z = (m : Int) := ⟨(-1 - z).toNat, by omega⟩
    have hnn := specNN_yes z m hnull hm
    by_cases hml : m < x.length
    · have hd1 : decide ((x.length : Int) ≤ (m : Int)) = false := decide_eq_false (by omega)
      have hd2 : decide (x.length ≤ m) = false := decide_eq_false (by omega)
      cases hok : ufOk x with
      | true =>
        obtain ⟨b, off, rfl, hb, c0⟩ := IntsAt.elem HNl.out m hml
        have HV := Lib.hid (ufFind_yes hok hnull hm hml)
        have hv := hval true hok
        clear hval hnull hm h0 h1 hok
        rw [hEq] at hv
        go_enter Try.func21, Try.ntmps21
        go_wp2_with (first | (go_at_call 50; refine (hnn _).mono ?_; rintro e w1 ⟨rfl, rfl⟩) | (go_at_call 19; refine hv.mono ?_; rintro e w1 ⟨rfl, hb1⟩; rw [← hEq] at hb1; have f1 := (hb1.cell (p := ⟨w.heap.size, 0, none⟩) (by show w.heap.size < _; have := HE.out; omega)).trans K0.out; have hW1 := hE.trans (hb1.mono hE.size); have c1 := (hW1.cell (p := ⟨b, off + m, none⟩) hb).trans c0))
        go_ret
        exact ⟨ret_int HV.out.symm, hW1⟩
      | false =>
        have HV := Lib.hid (ufFind_bad (v := z) hok)
        have hv := hval false hok
        clear hval hnull hm h0 h1 hok
        rw [hEq] at hv
        go_enter Try.func21, Try.ntmps21
        go_wp2_with (first | (go_at_call 50; refine (hnn _).mono ?_; rintro e w1 ⟨rfl, rfl⟩) | (go_at_call 19; refine hv.mono ?_; rintro e w1 ⟨rfl, hb1⟩; rw [← hEq] at hb1))
        go_ret
        exact ⟨ret_int HV.out.symm, hE.trans (hb1.mono hE.size)⟩
    · have hd1 : decide ((x.length : Int) ≤ (m : Int)) = true := decide_eq_true (by omega)
      have hd2 : decide (x.length ≤ m) = true := decide_eq_true (by omega)
      have HV := Lib.hid (ufFind_far (x := x) (v := z) (by omega))
      have hv := hval _ rfl
      clear hval hnull hm h0 h1
      rw [hEq] at hv
      cases hok : ufOk x with
      | true =>
        rw [hok] at hv
        go_enter Try.func21, Try.ntmps21
        go_wp2_with (first | (go_at_call 50; refine (hnn _).mono ?_; rintro e w1 ⟨rfl, rfl⟩) | (go_at_call 19; refine hv.mono ?_; rintro e w1 ⟨rfl, hb1⟩; rw [← hEq] at hb1; have f1 := (hb1.cell (p := ⟨w.heap.size, 0, none⟩) (by show w.heap.size < _; have := HE.out; omega)).trans K0.out))
        go_ret
        exact ⟨ret_int HV.out.symm, hE.trans (hb1.mono hE.size)⟩
      | false =>
        rw [hok] at hv
        go_enter Try.func21, Try.ntmps21
        go_wp2_with (first | (go_at_call 50; refine (hnn _).mono ?_; rintro e w1 ⟨rfl, rfl⟩) | (go_at_call 19; refine hv.mono ?_; rintro e w1 ⟨rfl, hb1⟩; rw [← hEq] at hb1))
        go_ret
        exact ⟨ret_int HV.out.symm, hE.trans (hb1.mono hE.size)⟩
  · have hnn := specNN_no z hnull h0 h1
    have HV := Lib.hid (ufFind_const (x := x) hnull)
    clear hval hnull h0 h1
    go_enter Try.func21, Try.ntmps21
    go_wp2_with (go_at_call 50; refine (hnn _).mono ?_; rintro e w1 ⟨rfl, rfl⟩)
    rw [← hEq]
    go_ret
    exact ⟨ret_int HV.out.symm, hE⟩
theorem specFind_c (v : Value) (x : List Int) (z : Int) (w : World) (h : UnionFind_at w w.heap.size v x) (hw : UnionFind_wf x) (_ : UnionFind_sz x ≤ 1048576) (hz : -9223372036854775808 ≤ z ∧ z ≤ 9223372036854775807) :
    Calls Try.prog 21 #[v, .int .i64 z] w fun e w' => e = .returned (.int .i64 (ufFind x z)) ∧ Below w.heap.size w w' := specFind_any v x z w h hw hz.1 hz.2

end Go.Proofs.Ytalijnfbopcmeaa
