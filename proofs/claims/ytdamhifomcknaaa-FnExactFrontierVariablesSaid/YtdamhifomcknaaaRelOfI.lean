/-
  Walks and plain lemmas for the laws of this seat: what single Go functions return, for every argument.
-/
import Derived.Test.YtdamhifomcknaaaInts
import Derived.Test.YtdamhifomcknaaaRels
import Derived.Test.YtdamhifomcknaaaFact
import Derived.Test.YtdamhifomcknaaaAtomM
import Derived.Test.YtdamhifomcknaaaFactVI
namespace Go.Proofs.Ytdamhifomcknaaa
open Go.RowKit

theorem implAreValid_at2 (l : List Rel) (b : Bool) (h : validRels l = b) (v : Value) (w : World) (hl : RelsAt w w.heap.size v l) :
    Calls Try.prog 57 #[v] w fun e w' => e = .returned (.bool b) ∧ Below w.heap.size w w' := by
  subst h; exact implAreValidRelations_any v l w hl
set_option maxHeartbeats 1600000 in
set_option maxRecDepth 100000 in
theorem implRelOf_any (v : Value) (l : List Rel) (r n : Int) (w : World) (hl : RelsAt w w.heap.size v l) :
    Calls Try.prog 50 #[v, .int .i64 r, .int .i64 n] w fun e w' => e = .returned (.bool (relOf l r n)) ∧ Below w.heap.size w w' := by
  have HL := Lib.hid hl
  obtain ⟨A, c, rfl, hlc, hcm, -⟩ := hl
  unfold maxLen at hcm
  have hcon := fun b h => implAreValid_at2 l b h (.slice A l.length c) w HL.out
  cases hr : validRels l with
  | false =>
    have HF := Lib.hid (relOf_rels (r := r) (n := n) hr)
    replace hcon := hcon false hr
    clear hr
    go_enter Try.func50, Try.ntmps50
    go_wp2_with (go_at_call 57; refine hcon.mono ?_; rintro e w1 ⟨rfl, hb1⟩)
    go_ret
    exact ⟨ret_bool HF.out.symm, hb1⟩
  | true =>
    have HR := Lib.hid hr
    replace hcon := hcon true hr
    clear hr
    by_cases hneg : 0 ≤ r
    · have hd1 : decide (0 ≤ r) = true := decide_eq_true hneg
      by_cases hlt : r < l.length
      · obtain ⟨k, rfl⟩ : ∃ k : Nat, r = (k : Int) := ⟨r.toNat, by omega⟩
        have hk : k < l.length := by omega
        have HF := Lib.hid (relOf_in (n := n) HR.out ⟨hneg, hlt⟩)
        have hd2 : decide (k < l.length) = true := decide_eq_true hk
        obtain ⟨b, off, rfl, hb, -, c1, -⟩ := RelsAt.elem HL.out k hk
        have ha : l[k].arity = arityAt l (k : Int) := by rw [arityAt_in (by omega)]; rfl
        have HE := Lib.hid (show (l[k].arity == n) = decide (n = arityAt l (k : Int)) by
          rw [ha]
          by_cases e : n = arityAt l (k : Int)
          · rw [decide_eq_true e, e]; exact beq_self_eq_true _
          · rw [decide_eq_false e]; exact beq_eq_false_iff_ne.2 (fun e1 => e e1.symm))
        have C1 := Lib.hid c1
        clear c1 ha
        generalize l[k].arity = q at *
        go_enter Try.func50, Try.ntmps50
        go_wp2_with fail
        refine hcon.mono ?_
        rintro e w1 ⟨rfl, hb1⟩
        have f2 := (hb1.cell (p := ⟨b, off + k * 3 + 1, none⟩) hb).trans C1.out
        go_wp2
        go_ret
        exact ⟨ret_bool (HE.out.trans HF.out.symm), hb1⟩
      · have HF := Lib.hid (relOf_idx (l := l) (r := r) (n := n) (fun h => hlt h.2))
        have hd2 : decide (r < (l.length : Int)) = false := decide_eq_false hlt
        clear hlt
        go_enter Try.func50, Try.ntmps50
        go_wp2_with (go_at_call 57; refine hcon.mono ?_; rintro e w1 ⟨rfl, hb1⟩)
        go_ret
        exact ⟨ret_bool HF.out.symm, hb1⟩
    · have hd1 : decide (0 ≤ r) = false := decide_eq_false hneg
      have HF := Lib.hid (relOf_idx (l := l) (r := r) (n := n) (fun h => hneg h.1))
      clear hneg
      go_enter Try.func50, Try.ntmps50
      go_wp2_with (go_at_call 57; refine hcon.mono ?_; rintro e w1 ⟨rfl, hb1⟩)
      go_ret
      exact ⟨ret_bool HF.out.symm, hb1⟩
theorem implRelOf_at (l : List Rel) (r n : Int) (q : Bool) (hq : relOf l r n = q) (v : Value) (w : World) (hl : RelsAt w w.heap.size v l) :
    Calls Try.prog 50 #[v, .int .i64 r, .int .i64 n] w fun e w' => e = .returned (.bool q) ∧ Below w.heap.size w w' := by
  subst hq; exact implRelOf_any v l r n w hl

theorem implIsValidTerm_at (t : Int) (q : Bool) (hq : validT t = q) (w : World) :
    Calls Try.prog 51 #[.int .i64 t] w fun e w' => e = .returned (.bool q) ∧ w = w' := by
  subst hq
  by_cases h1 : -10 ≤ t
  · have hd1 : decide (-10 ≤ t) = true := decide_eq_true h1
    have HV := Lib.hid (show decide (t < 5) = validT t by unfold validT inB; rw [decide_eq_decide]; omega)
    clear h1
    go_enter Try.func51, Try.ntmps51
    go_wp2
    go_ret
    exact ⟨ret_bool HV.out, rfl⟩
  · have hd1 : decide (-10 ≤ t) = false := decide_eq_false h1
    have HV := Lib.hid (show validT t = false by unfold validT inB; exact decide_eq_false (by omega))
    clear h1
    go_enter Try.func51, Try.ntmps51
    go_wp2
    go_ret
    exact ⟨ret_bool HV.out.symm, rfl⟩
theorem implIsVariable_any (t : Int) (w : World) :
    Calls Try.prog 59 #[.int .i64 t] w fun e w' => e = .returned (.bool (decide (0 ≤ t))) ∧ w = w' := by
  go_enter Try.func59, Try.ntmps59
  go_wp2
  go_ret
  exact ⟨rfl, rfl⟩

end Go.Proofs.Ytdamhifomcknaaa
