/-
  Walks and plain lemmas for the laws of this seat: what single Go functions return, for every argument.
-/
import Derived.Test.YtakflmaeclneiaaGreatVarsM
import Derived.Test.YtakflmaeclneiaaGreatDepVI
namespace Go.Proofs.YtakflmaeclneiaaGreat
open Go.RowKit

set_option maxHeartbeats 3200000 in
set_option maxRecDepth 100000 in
theorem implAreValidDeps_any (v : Value) (l : List Rel) (u : Value) (xs : List Dep) (w : World) (hl : RelsAt w w.heap.size v l) (h : DependencyS_at w w.heap.size u xs) (hn : DependencyS_sz xs ≤ 1048576) :
    Calls Tryz.prog 26 #[v, u] w fun e w' => e = .returned (.bool (depsOk l xs)) ∧ Below w.heap.size w w' := by
  have HL := Lib.hid hl
  have HX := Lib.hid h
  obtain ⟨A, a0, rfl, hlc, hcm, -⟩ := hl
  obtain ⟨A', c, rfl, hc1, hc2⟩ := h.form
  unfold maxLen at hc2
  have hel : ∀ k (h : k < xs.length), Dependency_sz xs[k] ≤ 1048576 := fun k h => by
    have h1 := depsLen_take xs k h
    have h2 := depsLen_le xs (k + 1)
    unfold DependencyS_sz at hn; omega
  clear h
  have hcon := fun b h => implAreValid_at2 l b h (.slice A l.length a0) w HL.out
  cases hr : validRels l with
  | false =>
    have HV := Lib.hid (show depsOk l xs = false by unfold depsOk; rw [hr]; rfl)
    replace hcon := hcon false hr
    clear hr
    go_enter Tryz.func26, Tryz.ntmps26
    go_wp2_with (go_at_call 41; refine hcon.mono ?_; rintro e w1 ⟨rfl, hb1⟩)
    go_ret
    exact ⟨ret_bool HV.out.symm, hb1⟩
  | true =>
    replace hcon := hcon true hr
    by_cases h5 : (5 : Int) < xs.length
    · have HV := Lib.hid (show depsOk l xs = false by unfold depsOk; rw [hr, decide_eq_false (by omega)]; rfl)
      have hd5 : decide ((5 : Int) < xs.length) = true := decide_eq_true h5
      clear hr
      go_enter Tryz.func26, Tryz.ntmps26
      go_wp2_with (go_at_call 41; refine hcon.mono ?_; rintro e w1 ⟨rfl, hb1⟩)
      go_ret
      exact ⟨ret_bool HV.out.symm, hb1⟩
    · have HA := Lib.hid (show depsOk l xs = xs.all (depOk l) by unfold depsOk; rw [hr, decide_eq_true (by omega)]; rfl)
      have hd5 : decide ((5 : Int) < xs.length) = false := decide_eq_false h5
      have H5 := Lib.hid h5
      clear hr h5
      go_enter Tryz.func26, Tryz.ntmps26
      go_wp2_with (go_at_call 41; refine hcon.mono ?_; rintro e w1 ⟨rfl, hb1⟩)
      clear hcon
      go_loopw [17] (fun i wr => ∃ j : Nat, j ≤ xs.length ∧ i = .int .i64 j ∧ Hid (AllTo (depOk l) xs j) ∧ Below w.heap.size w wr) (fun i _ => xs.length - (intOf i).toNat)
      case atStart => exact ⟨0, by omega, rfl, Lib.hid (AllTo.zero _ _), hb1⟩
      case round =>
        obtain ⟨j, hj, rfl, HT, hW⟩ := hrel
        have hz := hW.size
        by_cases hlt : j < xs.length
        · obtain ⟨b, off, V, U, rfl, hb, c0, c1, c2, c3, c4, hV, hU⟩ := DependencyS_at.elem HX.out j hlt
          obtain ⟨PV, cV, rfl, -, -⟩ := hV.form
          obtain ⟨PU, cU, rfl, -, -⟩ := hU.form
          replace c0 := (hW.cell (p := ⟨b, off + j * 5, none⟩) hb).trans c0
          replace c1 := (hW.cell (p := ⟨b, off + j * 5 + 1, none⟩) hb).trans c1
          replace c2 := (hW.cell (p := ⟨b, off + j * 5 + 2, none⟩) hb).trans c2
          replace c3 := (hW.cell (p := ⟨b, off + j * 5 + 3, none⟩) hb).trans c3
          replace c4 := (hW.cell (p := ⟨b, off + j * 5 + 4, none⟩) hb).trans c4
          have hE : Below wr.heap.size wr (wr.alloc (.cells #[.slice PV xs[j].body.length cV, .slice PU xs[j].head.length cU, .bool xs[j].egd, .int .i64 xs[j].left, .int .i64 xs[j].right] 51)) := below_more (Below.refl _ _) _
          have hWE := hW.trans (hE.mono hz)
          have hcon := fun (q : Bool) (hq : depOk l xs[j] = q) => implIsValidDependency_at l xs[j] q hq (.slice A l.length a0) (.agg #[.slice PV xs[j].body.length cV, .slice PU xs[j].head.length cU, .bool xs[j].egd, .int .i64 xs[j].left, .int .i64 xs[j].right]) _ ((HL.out.below hWE (Nat.le_refl _)).more hWE.size) ⟨_, _, rfl, (hV.below hWE (Nat.le_refl _)).more hWE.size, (hU.below hWE (Nat.le_refl _)).more hWE.size⟩ (hel j hlt)
          have HWE := Lib.hid hWE
          clear hE hWE hV hU
          cases hv : depOk l xs[j] with
          | false =>
            have HV := Lib.hid (HA.out.trans (all_no hlt hv))
            replace hcon := hcon false hv
            clear hv
            go_wp2_with (go_at_call 42; refine hcon.mono ?_; rintro e w3 ⟨rfl, hb3⟩)
            go_ret
            exact ⟨ret_bool HV.out.symm, HWE.out.trans (hb3.mono HWE.out.size)⟩
          | true =>
            have HN := Lib.hid (HT.out.next hlt hv)
            replace hcon := hcon true hv
            clear hv
            go_wp2_with (go_at_call 42; refine hcon.mono ?_; rintro e w3 ⟨rfl, hb3⟩)
            go_roundw
            case rel => exact ⟨j + 1, by omega, by go_num, HN, HWE.out.trans (hb3.mono HWE.out.size)⟩
            case measure => simp [intOf]; omega
        · obtain rfl : j = xs.length := by omega
          have HV := Lib.hid (HA.out.trans HT.out.full)
          go_wp2
          go_ret
          exact ⟨ret_bool HV.out.symm, hW⟩
theorem implAreValidDependencies_c (v : Value) (l : List Rel) (u : Value) (x : List Dep) (w : World) (h : RelationS_at w w.heap.size v l) (_ : RelationS_wf l) (_ : RelationS_sz l ≤ 1048576) (h' : DependencyS_at w w.heap.size u x) (_ : DependencyS_wf x) (hn : DependencyS_sz x ≤ 1048576) :
    Calls Tryz.prog 26 #[v, u] w fun e w' => e = .returned (.bool (depsOk l x)) ∧ Below w.heap.size w w' := implAreValidDeps_any v l u x w h h' hn

end Go.Proofs.YtakflmaeclneiaaGreat
