/-
  Walks and plain lemmas for the laws of this seat: what single Go functions return, for every argument.
-/
import Derived.Test.YtalijnfbopcmeaaNum
import Derived.Test.YtalijnfbopcmeaaUfVI
namespace Go.Proofs.Ytalijnfbopcmeaa
open Go.RowKit

set_option maxHeartbeats 1600000 in
theorem implIsOne_any (v : Value) (x : List Int) (z : Int) (w : World) (h : UnionFind_at w w.heap.size v x) (h0 : -9223372036854775808 ≤ z) (h1 : z ≤ 9223372036854775807) :
    Calls Try.prog 58 #[v, .int .i64 z] w fun e w' => e = .returned (.bool (ufOne x z)) ∧ Below w.heap.size w w' := by
  obtain ⟨P, c, rfl⟩ := UnionFind_form h
  have hN := h.ints
  clear h
  obtain ⟨_, _, hv1, hc1, hc2⟩ := hN.form
  injection hv1 with e1 _ e2
  subst e1 e2
  unfold maxLen at hc2
  clear hN
  have hE : Below w.heap.size w (w.alloc (.cells #[.slice P x.length c] 26)) := (Below.refl _ _).alloc (Nat.le_refl _) _
  by_cases hnull : -40 ≤ z ∧ z < 0
  · obtain ⟨m, hm⟩ : ∃ m : Nat, -1 - z = (m : Int) := ⟨(-1 - z).toNat, by omega⟩
    have hnn := implNN_yes z m hnull hm
    by_cases hml : m < x.length
    · have hd1 : decide ((m : Int) < (x.length : Int)) = true := decide_eq_true (by omega)
      have hd2 : decide (m < x.length) = true := decide_eq_true hml
      have HV := Lib.hid (show ufOne x z = true from decide_eq_true (by omega))
      clear hnull hm h0 h1
      go_enter Try.func58, Try.ntmps58
      go_wp2_with (go_at_call 55; refine (hnn _).mono ?_; rintro e w1 ⟨rfl, rfl⟩)
      go_ret
      exact ⟨ret_bool HV.out.symm, hE⟩
    · have hd1 : decide ((m : Int) < (x.length : Int)) = false := decide_eq_false (by omega)
      have hd2 : decide (m < x.length) = false := decide_eq_false hml
      have HV := Lib.hid (show ufOne x z = false from decide_eq_false (by omega))
      clear hnull hm h0 h1
      go_enter Try.func58, Try.ntmps58
      go_wp2_with (go_at_call 55; refine (hnn _).mono ?_; rintro e w1 ⟨rfl, rfl⟩)
      go_ret
      exact ⟨ret_bool HV.out.symm, hE⟩
  · have hnn := implNN_no z hnull h0 h1
    have HV := Lib.hid (show ufOne x z = false from decide_eq_false (fun e => hnull e.1))
    clear hnull h0 h1
    go_enter Try.func58, Try.ntmps58
    go_wp2_with (go_at_call 55; refine (hnn _).mono ?_; rintro e w1 ⟨rfl, rfl⟩)
    go_ret
    exact ⟨ret_bool HV.out.symm, hE⟩
theorem implIsOne_at (x : List Int) (z : Int) (b : Bool) (hb : ufOne x z = b) (v : Value) (w : World) (h : UnionFind_at w w.heap.size v x) (h0 : -9223372036854775808 ≤ z) (h1 : z ≤ 9223372036854775807) :
    Calls Try.prog 58 #[v, .int .i64 z] w fun e w' => e = .returned (.bool b) ∧ Below w.heap.size w w' := by
  subst hb; exact implIsOne_any v x z w h h0 h1

set_option maxHeartbeats 1600000 in
theorem implCanUnite_any (v : Value) (x : List Int) (z : Int) (w : World) (h : UnionFind_at w w.heap.size v x) (h0 : -9223372036854775808 ≤ z) (h1 : z ≤ 9223372036854775807) :
    Calls Try.prog 48 #[v, .int .i64 z] w fun e w' => e = .returned (.bool (canU x z)) ∧ Below w.heap.size w w' := by
  obtain ⟨P, c, rfl⟩ := UnionFind_form h
  obtain ⟨E, hEq⟩ : ∃ E, E = w.alloc (.cells #[.slice P x.length c] 26) := ⟨_, rfl⟩
  have hE : Below w.heap.size w E := by rw [hEq]; exact (Below.refl _ _).alloc (Nat.le_refl _) _
  have hone := implIsOne_any (.agg #[.slice P x.length c]) x z E ((h.below hE (Nat.le_refl _)).more hE.size) h0 h1
  rw [hEq] at hone
  clear h
  have hnu : ∀ W, Calls Try.prog 49 #[.int .i64 z] W fun e w' => e = .returned (.bool (decide (z < 0))) ∧ W = w' := fun W => implIsNull_any z W
  by_cases hz : z < 0
  · rw [decide_eq_true hz] at hnu
    have HV := Lib.hid (canU_null (x := x) hz)
    clear hz h0 h1
    go_enter Try.func48, Try.ntmps48
    go_wp2_with (first | (go_at_call 49; refine (hnu _).mono ?_; rintro e w1 ⟨rfl, rfl⟩) | (go_at_call 58; refine hone.mono ?_; rintro e w1 ⟨rfl, hb1⟩; rw [← hEq] at hb1))
    go_ret
    exact ⟨ret_bool HV.out.symm, hE.trans (hb1.mono hE.size)⟩
  · rw [decide_eq_false hz] at hnu
    have HV := Lib.hid (canU_const (x := x) hz)
    have hvv := fun W => implIsValidValue_any z W h0 h1
    clear hz h0 h1
    go_enter Try.func48, Try.ntmps48
    go_wp2_with (first | (go_at_call 49; refine (hnu _).mono ?_; rintro e w1 ⟨rfl, rfl⟩) | (go_at_call 54; refine (hvv _).mono ?_; rintro e w1 ⟨rfl, rfl⟩))
    rw [← hEq]
    go_ret
    exact ⟨ret_bool HV.out.symm, hE⟩
theorem implCanUnite_at (x : List Int) (z : Int) (b : Bool) (hb : canU x z = b) (v : Value) (w : World) (h : UnionFind_at w w.heap.size v x) (h0 : -9223372036854775808 ≤ z) (h1 : z ≤ 9223372036854775807) :
    Calls Try.prog 48 #[v, .int .i64 z] w fun e w' => e = .returned (.bool b) ∧ Below w.heap.size w w' := by
  subst hb; exact implCanUnite_any v x z w h h0 h1

set_option maxHeartbeats 3200000 in
set_option maxRecDepth 100000 in
theorem implFind_any (v : Value) (x : List Int) (z : Int) (w : World) (h : UnionFind_at w w.heap.size v x) (hw : UnionFind_wf x) (h0 : -9223372036854775808 ≤ z) (h1 : z ≤ 9223372036854775807) :
    Calls Try.prog 20 #[v, .int .i64 z] w fun e w' => e = .returned (.int .i64 (ufFind x z)) ∧ Below w.heap.size w w' := by
  obtain ⟨P, c, rfl⟩ := UnionFind_form h
  have HX := Lib.hid h
  have hN := h.ints
  clear h
  obtain ⟨_, _, hv1, hc1, hc2⟩ := hN.form
  injection hv1 with e1 _ e2
  subst e1 e2
  unfold maxLen at hc2
  have HNl := Lib.hid hN
  clear hN
  obtain ⟨E, hEq⟩ : ∃ E, E = w.alloc (.cells #[.slice P x.length c] 26) := ⟨_, rfl⟩
  have hE : Below w.heap.size w E := by rw [hEq]; exact (Below.refl _ _).alloc (Nat.le_refl _) _
  have HE := Lib.hid (show w.heap.size + 1 = E.heap.size by rw [hEq]; simp)
  have K0 := Lib.hid (show E.cell? ⟨w.heap.size, 0, none⟩ = some (.slice P x.length c) by rw [hEq]; simp [go_sem])
  have hval := fun (b : Bool) (hb : ufOk x = b) => implIsValidUf_at x b hb (.agg #[.slice P x.length c]) E ((HX.out.below hE (Nat.le_refl _)).more hE.size) hw
  have hone := fun (b : Bool) (hb : ufOne x z = b) (W : World) (hW : Below w.heap.size w W) => implIsOne_at x z b hb (.agg #[.slice P x.length c]) W ((HX.out.below hW (Nat.le_refl _)).more hW.size) h0 h1
  cases hok : ufOk x with
  | false =>
    have HV := Lib.hid (ufFind_bad (v := z) hok)
    have hv := hval false hok
    clear hval hone h0 h1 hok
    rw [hEq] at hv
    go_enter Try.func20, Try.ntmps20
    go_wp2_with (go_at_call 18; refine hv.mono ?_; rintro e w1 ⟨rfl, hb1⟩; rw [← hEq] at hb1)
    go_ret
    exact ⟨ret_int HV.out.symm, hE.trans (hb1.mono hE.size)⟩
  | true =>
    have hv := hval true hok
    rw [hEq] at hv
    clear hval
    by_cases hq : (-40 ≤ z ∧ z < 0) ∧ -1 - z < x.length
    · have ho := hone true (decide_eq_true hq)
      obtain ⟨hnull, hlt⟩ := hq
      obtain ⟨m, hm⟩ : ∃ m : Nat, -1 - z = (m : Int) := ⟨(-1 - z).toNat, by omega⟩
      have hml : m < x.length := by omega
      have hnn := implNN_yes z m hnull hm
      obtain ⟨b, off, rfl, hb, c0⟩ := IntsAt.elem HNl.out m hml
      have HV := Lib.hid (ufFind_yes hok hnull hm hml)
      clear hone hnull hm h0 h1 hok hlt
      go_enter Try.func20, Try.ntmps20
      go_wp2_with fail
      refine hv.mono ?_; rintro e w1 ⟨rfl, hb1⟩; rw [← hEq] at hb1
      have f1 := (hb1.cell (p := ⟨w.heap.size, 0, none⟩) (by show w.heap.size < _; have := HE.out; omega)).trans K0.out
      have hW1 := hE.trans (hb1.mono hE.size)
      replace ho := ho w1 hW1
      clear hv hEq
      go_wp2_with fail
      refine ho.mono ?_; rintro e w2 ⟨rfl, hb2⟩
      have hW2 := hW1.trans (hb2.mono hW1.size)
      have f2 := (hb2.cell (p := ⟨w.heap.size, 0, none⟩) (by show w.heap.size < _; have := HE.out; have := hb1.size; omega)).trans f1
      have c2 := (hW2.cell (p := ⟨b, off + m, none⟩) hb).trans c0
      go_wp2_with (go_at_call 55; refine (hnn _).mono ?_; rintro e w3 ⟨rfl, rfl⟩)
      go_ret
      exact ⟨ret_int HV.out.symm, hW2⟩
    · have ho := hone false (decide_eq_false hq)
      have HV := Lib.hid (show ufFind x z = z from if_neg (fun e => hq e.2))
      clear hone hq h0 h1 hok
      go_enter Try.func20, Try.ntmps20
      go_wp2_with fail
      refine hv.mono ?_; rintro e w1 ⟨rfl, hb1⟩; rw [← hEq] at hb1
      have f1 := (hb1.cell (p := ⟨w.heap.size, 0, none⟩) (by show w.heap.size < _; have := HE.out; omega)).trans K0.out
      have hW1 := hE.trans (hb1.mono hE.size)
      replace ho := ho w1 hW1
      clear hv hEq
      go_wp2_with (go_at_call 58; refine ho.mono ?_; rintro e w2 ⟨rfl, hb2⟩)
      go_ret
      exact ⟨ret_int HV.out.symm, hW1.trans (hb2.mono hW1.size)⟩
theorem implFind_c (v : Value) (x : List Int) (z : Int) (w : World) (h : UnionFind_at w w.heap.size v x) (hw : UnionFind_wf x) (_ : UnionFind_sz x ≤ 1048576) (hz : -9223372036854775808 ≤ z ∧ z ≤ 9223372036854775807) :
    Calls Try.prog 20 #[v, .int .i64 z] w fun e w' => e = .returned (.int .i64 (ufFind x z)) ∧ Below w.heap.size w w' := implFind_any v x z w h hw hz.1 hz.2

end Go.Proofs.Ytalijnfbopcmeaa
