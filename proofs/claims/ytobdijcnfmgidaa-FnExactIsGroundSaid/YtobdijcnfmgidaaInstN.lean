/-
  Walks and plain lemmas for the laws of this seat: what single Go functions return, for every argument.
-/
import Derived.Test.YtobdijcnfmgidaaAft
import Derived.Test.YtobdijcnfmgidaaTyInst
import Derived.Test.YtobdijcnfmgidaaMInst
import Derived.Test.YtobdijcnfmgidaaFactV
namespace Go.Proofs.Ytobdijcnfmgidaa
open Go.RowKit

set_option maxHeartbeats 3200000 in
set_option maxRecDepth 100000 in
theorem specNullsOfInstance_any (v : Value) (x : Inst) (w : World) (h : Instance_at w w.heap.size v x) (hw : Instance_wf x) :
    Calls Try.prog 11 #[v] w fun e w' => ∃ u, e = .returned u ∧ OwnInts w.heap.size u (nullsI x.facts) w' ∧ Below w.heap.size w w' := by
  obtain ⟨P, c, Q, d, rfl⟩ := Instance_form h
  obtain ⟨V1, V2, hv, hR, hF⟩ := h
  simp only [Value.agg.injEq, Array.mk.injEq, List.cons.injEq, and_true] at hv
  obtain ⟨rfl, rfl⟩ := hv
  obtain ⟨_, _, hv2, hd1, hd2⟩ := hF.form
  injection hv2 with e1 _ e2
  subst e1 e2
  unfold maxLen at hd2
  have HF := Lib.hid hF
  obtain ⟨-, hwF⟩ := hw
  clear hF hR
  have hE : Below w.heap.size w (w.alloc (.cells #[.slice P x.rels.length c, .slice Q x.facts.length d] 27)) := (Below.refl _ _).alloc (Nat.le_refl _) _
  have HE := Lib.hid (show w.heap.size + 1 = (w.alloc (.cells #[.slice P x.rels.length c, .slice Q x.facts.length d] 27)).heap.size by simp)
  have K1 := Lib.hid (show (w.alloc (.cells #[.slice P x.rels.length c, .slice Q x.facts.length d] 27)).cell? ⟨w.heap.size, 1, none⟩ = some (.slice Q x.facts.length d) by simp [go_sem])
  go_enter Try.func11, Try.ntmps11
  go_wp2
  go_loopw [3, 4] (fun o i wr => ∃ k g cap : Nat, k ≤ x.facts.length ∧ i = .int .i64 k ∧ o = .slice (some ⟨g, 0, none⟩) (nullsI (x.facts.take k)).length cap ∧ OwnInts (w.heap.size + 1) o (nullsI (x.facts.take k)) wr ∧ Below (w.heap.size + 1) (w.alloc (.cells #[.slice P x.rels.length c, .slice Q x.facts.length d] 27)) wr) (fun _ i _ => x.facts.length - (intOf i).toNat)
  case atStart => exact ⟨0, _, _, by omega, rfl, rfl, by simpa [nullsI] using OwnInts.empty (w.alloc (.cells #[.slice P x.rels.length c, .slice Q x.facts.length d] 27)) (w.heap.size + 1) (by simp), (Below.refl _ _).alloc (by simp) _⟩
  case round =>
    obtain ⟨k, g, cap, hk, rfl, rfl, hO, hW⟩ := hrel
    have hz := hW.size
    rw [← HE.out] at hz
    have hWw : Below w.heap.size w wr := hE.trans (hW.mono (by omega))
    have f1 := (hW.cell (p := ⟨w.heap.size, 1, none⟩) (by show w.heap.size < _; omega)).trans K1.out
    by_cases hlt : k < x.facts.length
    · obtain ⟨b, off, V, rfl, hb, c0, c1, hV⟩ := FactS_at.elem HF.out k hlt
      replace c0 := (hWw.cell (p := ⟨b, off + k * 2, none⟩) hb).trans c0
      replace c1 := (hWw.cell (p := ⟨b, off + k * 2 + 1, none⟩) hb).trans c1
      have hcon := specNullsOfFact_any x.facts[k].rel V x.facts[k].vals wr ((hV.below hWw (Nat.le_refl _)).more hWw.size) (hwF k hlt).2
      have HN := Lib.hid (show nullsI (x.facts.take (k + 1)) = (nullsOf x.facts[k].vals).foldl putI (nullsI (x.facts.take k)) from nullsI_take x.facts k hlt)
      have hAs := asc_nulls x.facts[k].vals
      have hAo := asc_nullsI (x.facts.take k)
      have HAs := Lib.hid hAs
      have HAo := Lib.hid hAo
      have HO := Lib.hid hO
      clear hV hAs hAo hO
      go_wp2_with fail
      refine hcon.mono ?_
      rintro e w1 ⟨u, rfl, hU, hb1⟩
      clear hcon c0 c1 f1
      have hz1 := hb1.size
      obtain ⟨Pn, cn, rfl, -, hcn, -⟩ := hU.at_
      unfold maxLen at hcn
      have HU := Lib.hid hU
      have HO1 := Lib.hid (HO.out.below hb1 (Nat.le_refl _))
      have hln := (HAs.out).len
      clear hU
      generalize nullsOf x.facts[k].vals = L at *
      generalize nullsI (x.facts.take k) = S at *
      go_wp2
      go_loopw [3, 6] (fun o i wq => ∃ m g2 cap2 : Nat, m ≤ L.length ∧ i = .int .i64 m ∧ o = .slice (some ⟨g2, 0, none⟩) ((L.take m).foldl putI S).length cap2 ∧ OwnInts (w.heap.size + 1) o ((L.take m).foldl putI S) wq ∧ Below w1.heap.size w1 wq) (fun _ i _ => L.length - (intOf i).toNat)
      case atStart => exact ⟨0, g, cap, by omega, rfl, rfl, HO1.out, Below.refl _ _⟩
      case round =>
        obtain ⟨m, g2, cap2, hm, rfl, rfl, hO2, hW2⟩ := hrel
        have hz2 := hW2.size
        by_cases hlm : m < L.length
        · obtain ⟨b', off', rfl, hb', d0⟩ := IntsAt.elem (HU.out.at_.below hW2 (Nat.le_refl _)) m hlm
          have HP := Lib.hid (foldPut_take S L m hlm)
          have hAm := (HAo.out.fold (L.take m) (fun y hy => HAs.out.2 y (List.mem_of_mem_take hy))).len
          have hput := specPut_any (w.heap.size + 1) g2 cap2 ((L.take m).foldl putI S) L[m] wr hO2 (by omega) (by omega)
          rw [← HP.out] at hput
          clear hO2
          go_wp2_with (go_at_call 44; refine hput.mono ?_; rintro e w3 ⟨g3, cap3, rfl, hO3, hb3⟩)
          go_roundw
          case rel => exact ⟨m + 1, g3, cap3, by omega, by go_num, rfl, hO3, hW2.trans (hb3.mono hz2)⟩
          case measure => simp [intOf]; omega
        · obtain rfl : m = L.length := by omega
          have he : (L.take L.length).foldl putI S = nullsI (x.facts.take (k + 1)) := by
            rw [List.take_of_length_le (Nat.le_refl _), HN.out]
          go_wp2
          go_roundw
          case rel => exact ⟨k + 1, g2, cap2, by omega, by go_num, by rw [← he], by rw [← he]; exact hO2, hW.trans ((hb1.trans (hW2.mono hz1)).mono hz)⟩
          case measure => simp [intOf]; omega
    · obtain rfl : k = x.facts.length := by omega
      have he : nullsI (x.facts.take x.facts.length) = nullsI x.facts := by rw [List.take_of_length_le (Nat.le_refl _)]
      rw [he] at hO
      have HO := Lib.hid (hO.mono (B' := w.heap.size) (by omega))
      clear hO
      go_wp2
      go_ret
      exact ⟨_, by rw [he]; rfl, HO.out, hWw⟩
def NullsOfInstance_r0 (x : Inst) : List Int := nullsI x.facts
theorem specNullsOfInstance_c (v : Value) (x : Inst) (w : World) (h : Instance_at w w.heap.size v x) (hw : Instance_wf x) (_ : Instance_sz x ≤ 1048576) :
    Calls Try.prog 11 #[v] w fun e w' => ∃ u, e = .returned u ∧ IntS_at w' w'.heap.size u (NullsOfInstance_r0 x) ∧ Below w.heap.size w w' :=
  (specNullsOfInstance_any v x w h hw).mono fun _ _ ⟨u, he, ho, hb⟩ => ⟨u, he, ho.at_, hb⟩

end Go.Proofs.Ytobdijcnfmgidaa
