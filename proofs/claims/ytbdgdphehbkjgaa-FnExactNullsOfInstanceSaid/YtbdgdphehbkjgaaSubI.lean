/-
  Walks and plain lemmas for the laws of this seat: what single Go functions return, for every argument.
-/
import Derived.Test.YtbdgdphehbkjgaaHasI
namespace Go.Proofs.Ytbdgdphehbkjgaa
open Go.RowKit

theorem FactS_at.later {w w' : World} {v : Value} {l : List Fct} (h : FactS_at w w.heap.size v l) (hb : Below w.heap.size w w') : FactS_at w' w'.heap.size v l := (h.below hb (Nat.le_refl _)).more hb.size
theorem IntS_at.later {w w' : World} {v : Value} {l : List Int} (h : IntS_at w w.heap.size v l) (hb : Below w.heap.size w w') : IntS_at w' w'.heap.size v l := (h.below hb (Nat.le_refl _)).more hb.size
theorem subTo_no {x y : List Fct} (k : Nat) (hk : k < x.length) (h : y.any (sameP x[k]) = false) (X Y : Inst) (hx : X.facts = x) (hy : Y.facts = y) : subInst X Y = false := by
  subst hx hy
  refine subInst_no k hk ?_
  rw [anySame] at h
  exact of_decide_eq_false h
theorem subTo_next {x y : List Fct} {k : Nat} (hk : k < x.length) (h : y.any (sameP x[k]) = true) (hT : SubTo x y k) : SubTo x y (k + 1) := by
  refine hT.next hk ?_
  rw [anySame] at h
  exact of_decide_eq_true h
set_option maxHeartbeats 1600000 in
set_option maxRecDepth 100000 in
theorem implIsSubset_any (v u : Value) (x y : Inst) (w : World) (h : Instance_at w w.heap.size v x) (h' : Instance_at w w.heap.size u y) :
    Calls Try.prog 24 #[v, u] w fun e w' => e = .returned (.bool (subInst x y)) ∧ Below w.heap.size w w' := by
  obtain ⟨P, c, Q, d, rfl⟩ := Instance_form h
  obtain ⟨P', c', Q', d', rfl⟩ := Instance_form h'
  obtain ⟨V1, V2, hv, hR, hF⟩ := h
  obtain ⟨U1, U2, hu, hR', hF'⟩ := h'
  simp only [Value.agg.injEq, Array.mk.injEq, List.cons.injEq, and_true] at hv hu
  obtain ⟨rfl, rfl⟩ := hv
  obtain ⟨rfl, rfl⟩ := hu
  obtain ⟨_, _, hv2, hd1, hd2⟩ := hF.form
  injection hv2 with e1 _ e2
  subst e1 e2
  unfold maxLen at hd2
  have HF := Lib.hid hF
  have HF' := Lib.hid hF'
  clear hR hF hR' hF'
  obtain ⟨E, hEq⟩ : ∃ E, E = ((w.alloc (.cells #[.slice P x.rels.length c, .slice Q x.facts.length d] 27)).alloc (.cells #[.slice P' y.rels.length c', .slice Q' y.facts.length d'] 27)) := ⟨_, rfl⟩
  have hE : Below w.heap.size w E := by rw [hEq]; exact below_more (below_more (Below.refl _ _) _) _
  have HE := Lib.hid (show w.heap.size + 2 = E.heap.size by rw [hEq]; simp)
  have L1 := Lib.hid (show E.cell? ⟨w.heap.size + 1, 1, none⟩ = some (.slice Q' y.facts.length d') by rw [hEq]; simp [go_sem])
  go_enter Try.func24, Try.ntmps24
  go_wp2
  rw [← hEq]
  clear hEq
  go_loopw [10] (fun i wr => ∃ k : Nat, k ≤ x.facts.length ∧ i = .int .i64 k ∧ Hid (SubTo x.facts y.facts k) ∧ Below E.heap.size E wr) (fun i _ => x.facts.length - (intOf i).toNat)
  case atStart => exact ⟨0, by omega, rfl, Lib.hid (SubTo.zero _ _), Below.refl _ _⟩
  case round =>
    obtain ⟨k, hk, rfl, HT, hW⟩ := hrel
    have hWw := hE.trans (hW.mono hE.size)
    have hz := hW.size
    have l1 := (hW.cell (p := ⟨w.heap.size + 1, 1, none⟩) (by show w.heap.size + 1 < _; have := HE.out; omega)).trans L1.out
    by_cases hlt : k < x.facts.length
    · obtain ⟨b, off, V, rfl, hb, c0, c1, hV⟩ := FactS_at.elem HF.out k hlt
      obtain ⟨PV, cV, rfl, -⟩ := id hV
      replace c0 := (hWw.cell (p := ⟨b, off + k * 2, none⟩) hb).trans c0
      replace c1 := (hWw.cell (p := ⟨b, off + k * 2 + 1, none⟩) hb).trans c1
      have l2 := ((below_more (Below.refl wr.heap.size wr) (.cells #[.int .i64 x.facts[k].rel, .slice PV x.facts[k].vals.length cV] 30)).cell (p := ⟨w.heap.size + 1, 1, none⟩) (by show w.heap.size + 1 < _; have := HE.out; omega)).trans l1
      have hcon := fun (q : Bool) (hq : y.facts.any (sameP x.facts[k]) = q) (W : World) (hb : Below wr.heap.size wr W) => implHasFact_at y.facts x.facts[k] q hq (.slice Q' y.facts.length d') (.agg #[.int .i64 x.facts[k].rel, .slice PV x.facts[k].vals.length cV]) W ((HF'.out.later hWw).later hb) ⟨_, rfl, (hV.later hWw).later hb⟩
      cases hq : y.facts.any (sameP x.facts[k]) with
      | true =>
        have HN := Lib.hid (subTo_next hlt hq HT.out)
        replace hcon := hcon true hq
        clear hq hV
        go_wp2_with fail
        refine (hcon _ (below_more (Below.refl _ _) _)).mono ?_
        rintro e w2 ⟨rfl, hb2⟩
        have hb3 : Below wr.heap.size wr w2 := (below_more (Below.refl _ _) _).trans (hb2.mono (by simp))
        go_wp2
        go_roundw
        case rel => exact ⟨k + 1, by omega, by go_num, HN, hW.trans (hb3.mono hz)⟩
        case measure => simp [intOf]; omega
      | false =>
        have HN := Lib.hid (subTo_no k hlt hq x y rfl rfl)
        replace hcon := hcon false hq
        clear hq hV
        go_wp2_with fail
        refine (hcon _ (below_more (Below.refl _ _) _)).mono ?_
        rintro e w2 ⟨rfl, hb2⟩
        have hb3 : Below wr.heap.size wr w2 := (below_more (Below.refl _ _) _).trans (hb2.mono (by simp))
        go_wp2
        go_ret
        exact ⟨ret_bool HN.out.symm, hWw.trans (hb3.mono hWw.size)⟩
    · obtain rfl : k = x.facts.length := by omega
      have HX := Lib.hid (subInst_yes HT.out)
      go_wp2
      go_ret
      exact ⟨ret_bool HX.out.symm, hWw⟩
theorem implIsSubset_c (v : Value) (x : Inst) (u : Value) (y : Inst) (w : World) (h : Instance_at w w.heap.size v x) (_ : Instance_wf x) (_ : Instance_sz x ≤ 1048576) (h' : Instance_at w w.heap.size u y) (_ : Instance_wf y) (_ : Instance_sz y ≤ 1048576) :
    Calls Try.prog 24 #[v, u] w fun e w' => e = .returned (.bool (subInst x y)) ∧ Below w.heap.size w w' := implIsSubset_any v u x y w h h'

end Go.Proofs.Ytbdgdphehbkjgaa
