/-
  Walks and plain lemmas for the laws of this seat: what single Go functions return, for every argument.
-/
import Derived.Test.YtobdijcnfmgidaaMInst
import Derived.Test.YtobdijcnfmgidaaFactV
namespace Go.Proofs.Ytobdijcnfmgidaa
open Go.RowKit

set_option maxHeartbeats 1600000 in
set_option maxRecDepth 100000 in
theorem specL5Place_any (v u : Value) (x : Inst) (y : Fct) (w : World) (h : Instance_at w w.heap.size v x) (h' : Fact_at w w.heap.size u y) :
    Calls Try.prog 50 #[v, u] w fun e w' => e = .returned (.int .i64 (placeF y x.facts)) ∧ Below w.heap.size w w' := by
  obtain ⟨P, c, Q, d, rfl⟩ := Instance_form h
  obtain ⟨P', c', rfl⟩ := Fact_form h'
  obtain ⟨V1, V2, hv, hR, hF⟩ := h
  simp only [Value.agg.injEq, Array.mk.injEq, List.cons.injEq, and_true] at hv
  obtain ⟨rfl, rfl⟩ := hv
  obtain ⟨_, _, hv2, hd1, hd2⟩ := hF.form
  injection hv2 with e1 _ e2
  subst e1 e2
  unfold maxLen at hd2
  have HF := Lib.hid hF
  have HY := Lib.hid h'
  clear hR hF h'
  have hE : Below w.heap.size w ((w.alloc (.cells #[.slice P x.rels.length c, .slice Q x.facts.length d] 27)).alloc (.cells #[.int .i64 y.rel, .slice P' y.vals.length c'] 44)) := below_more (below_more (Below.refl _ _) _) _
  have HE := Lib.hid (show w.heap.size + 2 = ((w.alloc (.cells #[.slice P x.rels.length c, .slice Q x.facts.length d] 27)).alloc (.cells #[.int .i64 y.rel, .slice P' y.vals.length c'] 44)).heap.size by simp)
  have K1 := Lib.hid (show ((w.alloc (.cells #[.slice P x.rels.length c, .slice Q x.facts.length d] 27)).alloc (.cells #[.int .i64 y.rel, .slice P' y.vals.length c'] 44)).cell? ⟨w.heap.size, 1, none⟩ = some (.slice Q x.facts.length d) by simp [go_sem])
  have L0 := Lib.hid (show ((w.alloc (.cells #[.slice P x.rels.length c, .slice Q x.facts.length d] 27)).alloc (.cells #[.int .i64 y.rel, .slice P' y.vals.length c'] 44)).cell? ⟨w.heap.size + 1, 0, none⟩ = some (.int .i64 y.rel) by simp [go_sem])
  have L1 := Lib.hid (show ((w.alloc (.cells #[.slice P x.rels.length c, .slice Q x.facts.length d] 27)).alloc (.cells #[.int .i64 y.rel, .slice P' y.vals.length c'] 44)).cell? ⟨w.heap.size + 1, 1, none⟩ = some (.slice P' y.vals.length c') by simp [go_sem])
  go_enter Try.func50, Try.ntmps50
  go_wp2
  go_loopw [5] (fun i wr => ∃ k : Nat, k ≤ x.facts.length ∧ i = .int .i64 k ∧ Hid (PlaceTo y x.facts k) ∧ Below ((w.alloc (.cells #[.slice P x.rels.length c, .slice Q x.facts.length d] 27)).alloc (.cells #[.int .i64 y.rel, .slice P' y.vals.length c'] 44)).heap.size ((w.alloc (.cells #[.slice P x.rels.length c, .slice Q x.facts.length d] 27)).alloc (.cells #[.int .i64 y.rel, .slice P' y.vals.length c'] 44)) wr) (fun i _ => x.facts.length - (intOf i).toNat)
  case atStart => exact ⟨0, by omega, rfl, Lib.hid (PlaceTo.zero _ _), Below.refl _ _⟩
  case round =>
    obtain ⟨k, hk, rfl, HT, hW⟩ := hrel
    have hWw := hE.trans (hW.mono hE.size)
    have f1 := (hW.cell (p := ⟨w.heap.size, 1, none⟩) (by show w.heap.size < _; have := HE.out; omega)).trans K1.out
    by_cases hlt : k < x.facts.length
    · obtain ⟨b, off, V, rfl, hb, c0, c1, hV⟩ := FactS_at.elem HF.out k hlt
      have G1 := Aft.cell (B := ((w.alloc (.cells #[.slice P x.rels.length c, .slice (some ⟨b, off, none⟩) x.facts.length d] 27)).alloc (.cells #[.int .i64 y.rel, .slice P' y.vals.length c'] 44)).heap.size) (by show w.heap.size < _; have := HE.out; omega) K1.out
      have G2 := Aft.cell (B := ((w.alloc (.cells #[.slice P x.rels.length c, .slice (some ⟨b, off, none⟩) x.facts.length d] 27)).alloc (.cells #[.int .i64 y.rel, .slice P' y.vals.length c'] 44)).heap.size) (by show w.heap.size + 1 < _; have := HE.out; omega) L0.out
      have G3 := Aft.cell (B := ((w.alloc (.cells #[.slice P x.rels.length c, .slice (some ⟨b, off, none⟩) x.facts.length d] 27)).alloc (.cells #[.int .i64 y.rel, .slice P' y.vals.length c'] 44)).heap.size) (by show w.heap.size + 1 < _; have := HE.out; omega) L1.out
      have C0 := Aft.cell (B := ((w.alloc (.cells #[.slice P x.rels.length c, .slice (some ⟨b, off, none⟩) x.facts.length d] 27)).alloc (.cells #[.int .i64 y.rel, .slice P' y.vals.length c'] 44)).heap.size) (w := ((w.alloc (.cells #[.slice P x.rels.length c, .slice (some ⟨b, off, none⟩) x.facts.length d] 27)).alloc (.cells #[.int .i64 y.rel, .slice P' y.vals.length c'] 44))) (by have := HE.out; omega) ((hE.cell (p := ⟨b, off + k * 2, none⟩) hb).trans c0)
      have C1 := Aft.cell (B := ((w.alloc (.cells #[.slice P x.rels.length c, .slice (some ⟨b, off, none⟩) x.facts.length d] 27)).alloc (.cells #[.int .i64 y.rel, .slice P' y.vals.length c'] 44)).heap.size) (w := ((w.alloc (.cells #[.slice P x.rels.length c, .slice (some ⟨b, off, none⟩) x.facts.length d] 27)).alloc (.cells #[.int .i64 y.rel, .slice P' y.vals.length c'] 44))) (by have := HE.out; omega) ((hE.cell (p := ⟨b, off + k * 2 + 1, none⟩) hb).trans c1)
      have hcon := fun (q : Int) (hq : cmpF x.facts[k] y = q) (u : Aft ((w.alloc (.cells #[.slice P x.rels.length c, .slice (some ⟨b, off, none⟩) x.facts.length d] 27)).alloc (.cells #[.int .i64 y.rel, .slice P' y.vals.length c'] 44)).heap.size ((w.alloc (.cells #[.slice P x.rels.length c, .slice (some ⟨b, off, none⟩) x.facts.length d] 27)).alloc (.cells #[.int .i64 y.rel, .slice P' y.vals.length c'] 44))) => specCompareFacts_at x.facts[k] y q hq (.agg #[.int .i64 x.facts[k].rel, V]) (.agg #[.int .i64 y.rel, .slice P' y.vals.length c']) u.now ⟨V, rfl, (hV.below (hE.trans (u.is.mono hE.size)) (Nat.le_refl _)).more (hE.trans (u.is.mono hE.size)).size⟩ ((HY.out.below (hE.trans (u.is.mono hE.size)) (Nat.le_refl _)).more (hE.trans (u.is.mono hE.size)).size)
      clear c0 c1
      by_cases he : x.facts[k] = y
      · have hq := (cmpF_zero x.facts[k] y).2 he
        have HV := Lib.hid (HT.out.hit hlt he)
        have hcon' := hcon 0 hq
        clear hcon hq he
        go_wp2
        refine wp_region_aft hW (by kernel_rfl) (by kernel_rfl) ?_
        repeat (go_big_quiet_step (((go_at_call 30; exact calls_aft (Nat.le_refl _) (hcon' _)))))
        refine wpQuiet_nil ?_
        refine aft_end ?_
        intro w1 hh
        go_wp2
        go_ret
        exact ⟨ret_int HV.out.symm, hE.trans (hh.mono hE.size)⟩
      · obtain ⟨q, hq⟩ : ∃ q, cmpF x.facts[k] y = q := ⟨_, rfl⟩
        have hq0 : (q == 0) = false := beq_eq_false_iff_ne.2 (fun e => he ((cmpF_zero _ _).1 (hq.trans e)))
        have HV := Lib.hid (HT.out.next hlt he)
        have hcon' := hcon q hq
        clear hcon hq he
        go_wp2
        refine wp_region_aft hW (by kernel_rfl) (by kernel_rfl) ?_
        repeat (go_big_quiet_step (((go_at_call 30; exact calls_aft (Nat.le_refl _) (hcon' _)))))
        refine wpQuiet_nil ?_
        refine aft_end ?_
        intro w1 hh
        go_wp2
        go_roundw
        case rel => exact ⟨k + 1, by omega, by go_num, HV, hh⟩
        case measure => simp [intOf]; omega
    · obtain rfl : k = x.facts.length := by omega
      have HV := Lib.hid HT.out.miss
      go_wp2
      go_ret
      exact ⟨ret_int HV.out.symm, hWw⟩

end Go.Proofs.Ytobdijcnfmgidaa
