/-
  Walks and plain lemmas for the laws of this seat: what single Go functions return, for every argument.
-/
import Derived.Test.YtakflmaeclneiaaDoorBase
import Derived.Test.YtakflmaeclneiaaDoorInts
import Derived.Test.YtakflmaeclneiaaDoorDepSM
import Derived.Test.YtakflmaeclneiaaDoorFactV
import Derived.Test.YtakflmaeclneiaaDoorDepK
namespace Go.Proofs.YtakflmaeclneiaaDoor
open Go.RowKit

set_option maxHeartbeats 3200000 in
set_option maxRecDepth 100000 in
theorem specAreValidDeps_any (v : Value) (l : List Rel) (u : Value) (xs : List Dep) (w : World) (hl : RelsAt w w.heap.size v l) (hln : l.length ≤ 1048576) (h : DependencyS_at w w.heap.size u xs) (hw : DependencyS_wf xs) :
    Calls Tryd.prog 42 #[v, u] w fun e w' => e = .returned (.bool (depsOk l xs)) ∧ Below w.heap.size w w' := by
  have HL := Lib.hid hl
  have HX := Lib.hid h
  obtain ⟨A, a0, rfl, hlc, hcm, -⟩ := hl
  obtain ⟨A', c, rfl, hc1, hc2⟩ := h.form
  unfold maxLen at hc2
  clear h
  go_enter Tryd.func42, Tryd.ntmps42
  go_wp2
  go_loopw [5] (fun i wr => ∃ j : Nat, j ≤ xs.length ∧ i = .int .i64 j ∧ Hid (AllTo (depOk l) xs j) ∧ Below w.heap.size w wr) (fun i _ => xs.length - (intOf i).toNat)
  case atStart => exact ⟨0, by omega, rfl, Lib.hid (AllTo.zero _ _), Below.refl _ _⟩
  case round =>
    obtain ⟨j, hj, rfl, HT, hW⟩ := hrel
    have hz := hW.size
    by_cases hlt : j < xs.length
    · obtain ⟨b, off, V, U, rfl, hb, c0, c1, c2, c3, c4, hV, hU⟩ := DependencyS_at.elem HX.out j hlt
      obtain ⟨PV, cV, rfl, -, -⟩ := hV.form
      obtain ⟨PU, cU, rfl, -, -⟩ := hU.form
      replace c0 := (hW.cell (p := ⟨b, off + j * 5, none⟩) hb).trans c0
      replace c1 := (hW.cell (p := ⟨b, off + j * 5 + 1, none⟩) hb).trans c1
      replace c2 := (hW.cell (p := ⟨b, off + j * 5 + 2, none⟩) hb).trans c2
      replace c3 := (hW.cell (p := ⟨b, off + j * 5 + 3, none⟩) hb).trans c3
      replace c4 := (hW.cell (p := ⟨b, off + j * 5 + 4, none⟩) hb).trans c4
      have hcon := fun (q : Bool) (hq : depOk l xs[j] = q) => specIsValidDependency_at (.slice A l.length a0) l (.agg #[.slice PV xs[j].body.length cV, .slice PU xs[j].head.length cU, .bool xs[j].egd, .int .i64 xs[j].left, .int .i64 xs[j].right]) xs[j] q hq wr ((HL.out.below hW (Nat.le_refl _)).more hz) hln ⟨_, _, rfl, (hV.below hW (Nat.le_refl _)).more hz, (hU.below hW (Nat.le_refl _)).more hz⟩ (hw j hlt)
      clear hV hU
      cases hv : depOk l xs[j] with
      | false =>
        have HV := Lib.hid (show depsOk l xs = false by unfold depsOk; rw [all_no hlt hv]; simp)
        replace hcon := hcon false hv
        clear hv
        go_wp2_with (go_at_call 53; refine hcon.mono ?_; rintro e w3 ⟨rfl, hb3⟩)
        go_ret
        exact ⟨ret_bool HV.out.symm, hW.trans (hb3.mono hz)⟩
      | true =>
        have HN := Lib.hid (HT.out.next hlt hv)
        replace hcon := hcon true hv
        clear hv
        go_wp2_with (go_at_call 53; refine hcon.mono ?_; rintro e w3 ⟨rfl, hb3⟩)
        go_roundw
        case rel => exact ⟨j + 1, by omega, by go_num, HN, hW.trans (hb3.mono hz)⟩
        case measure => simp [intOf]; omega
    · obtain rfl : j = xs.length := by omega
      have HA := Lib.hid (show depsOk l xs = (validRels l && decide (((xs.length : Nat) : Int) ≤ 5)) by
        unfold depsOk; rw [HT.out.full, Bool.and_true]
        congr 1
        exact decide_eq_decide.2 (by omega))
      cases hr : validRels l with
      | false =>
        have hcon := specAreValid_at2 l false hr (.slice A l.length a0) wr ((HL.out.below hW (Nat.le_refl _)).more hz)
        have HV := Lib.hid (HA.out.trans (by rw [hr]; rfl : _ = false))
        clear hr
        go_wp2_with (go_at_call 30; refine hcon.mono ?_; rintro e w3 ⟨rfl, hb3⟩)
        go_ret
        exact ⟨ret_bool HV.out.symm, hW.trans (hb3.mono hz)⟩
      | true =>
        have hcon := specAreValid_at2 l true hr (.slice A l.length a0) wr ((HL.out.below hW (Nat.le_refl _)).more hz)
        have HV := Lib.hid (HA.out.trans (by rw [hr]; rfl : _ = decide (((xs.length : Nat) : Int) ≤ 5)))
        clear hr
        go_wp2_with (go_at_call 30; refine hcon.mono ?_; rintro e w3 ⟨rfl, hb3⟩)
        go_ret
        exact ⟨ret_bool HV.out.symm, hW.trans (hb3.mono hz)⟩
theorem specAreValidDependencies_c (v : Value) (l : List Rel) (u : Value) (x : List Dep) (w : World) (h : RelationS_at w w.heap.size v l) (_ : RelationS_wf l) (hn : RelationS_sz l ≤ 1048576) (h' : DependencyS_at w w.heap.size u x) (hw : DependencyS_wf x) (_ : DependencyS_sz x ≤ 1048576) :
    Calls Tryd.prog 42 #[v, u] w fun e w' => e = .returned (.bool (depsOk l x)) ∧ Below w.heap.size w w' :=
  specAreValidDeps_any v l u x w h (by unfold RelationS_sz at hn; omega) h' hw

theorem IntS_at.later {w w' : World} {v : Value} {l : List Int} (h : IntS_at w w.heap.size v l) (hb : Below w.heap.size w w') : IntS_at w' w'.heap.size v l := (h.below hb (Nat.le_refl _)).more hb.size

end Go.Proofs.YtakflmaeclneiaaDoor
