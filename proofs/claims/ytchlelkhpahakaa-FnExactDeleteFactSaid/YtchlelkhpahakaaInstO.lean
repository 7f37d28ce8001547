/-
  Walks and plain lemmas for the laws of this seat: what single Go functions return, for every argument.
-/
import Derived.Test.YtchlelkhpahakaaTyInst
import Derived.Test.YtchlelkhpahakaaMInst
import Derived.Test.YtchlelkhpahakaaInstV
import Derived.Test.YtchlelkhpahakaaInstP
namespace Go.Proofs.Ytchlelkhpahakaa
open Go.RowKit

set_option maxHeartbeats 1600000 in
set_option maxRecDepth 100000 in
theorem specContainsFact_any (v u : Value) (x : Inst) (y : Fct) (w : World) (h : Instance_at w w.heap.size v x) (hw : Instance_wf x) (hn : Instance_sz x ≤ 1048576) (h' : Fact_at w w.heap.size u y) :
    Calls Try.prog 23 #[v, u] w fun e w' => e = .returned (.bool (hasInst x y)) ∧ Below w.heap.size w w' := by
  obtain ⟨P, c, Q, d, rfl⟩ := Instance_form h
  obtain ⟨P', c', rfl⟩ := Fact_form h'
  have HX := Lib.hid h
  have HY := Lib.hid h'
  clear h h'
  have hE : Below w.heap.size w ((w.alloc (.cells #[.slice P x.rels.length c, .slice Q x.facts.length d] 43)).alloc (.cells #[.int .i64 y.rel, .slice P' y.vals.length c'] 31)) := below_more (below_more (Below.refl _ _) _) _
  have hEz : w.heap.size + 2 = ((w.alloc (.cells #[.slice P x.rels.length c, .slice Q x.facts.length d] 43)).alloc (.cells #[.int .i64 y.rel, .slice P' y.vals.length c'] 31)).heap.size := by simp
  have K0 := Lib.hid (show ((w.alloc (.cells #[.slice P x.rels.length c, .slice Q x.facts.length d] 43)).alloc (.cells #[.int .i64 y.rel, .slice P' y.vals.length c'] 31)).cell? ⟨w.heap.size, 0, none⟩ = some (.slice P x.rels.length c) by simp [go_sem])
  have K1 := Lib.hid (show ((w.alloc (.cells #[.slice P x.rels.length c, .slice Q x.facts.length d] 43)).alloc (.cells #[.int .i64 y.rel, .slice P' y.vals.length c'] 31)).cell? ⟨w.heap.size, 1, none⟩ = some (.slice Q x.facts.length d) by simp [go_sem])
  have L0 := Lib.hid (show ((w.alloc (.cells #[.slice P x.rels.length c, .slice Q x.facts.length d] 43)).alloc (.cells #[.int .i64 y.rel, .slice P' y.vals.length c'] 31)).cell? ⟨w.heap.size + 1, 0, none⟩ = some (.int .i64 y.rel) by simp [go_sem])
  have L1 := Lib.hid (show ((w.alloc (.cells #[.slice P x.rels.length c, .slice Q x.facts.length d] 43)).alloc (.cells #[.int .i64 y.rel, .slice P' y.vals.length c'] 31)).cell? ⟨w.heap.size + 1, 1, none⟩ = some (.slice P' y.vals.length c') by simp [go_sem])
  have HEz := Lib.hid hEz
  have hcon := fun bb hb => specIsValidInstance_at x bb hb _ _ (HX.out.later hE) hw hn
  clear hEz
  cases ho : instOk x with
  | false =>
    have HV : Hid (hasInst x y = false) := Lib.hid (by unfold hasInst; rw [ho]; rfl)
    replace hcon := hcon false ho
    clear ho
    go_enter Try.func23, Try.ntmps23
    go_wp2_with (go_at_call 19; refine hcon.mono ?_; rintro e w1 ⟨rfl, hb1⟩)
    go_ret
    exact ⟨ret_bool HV.out.symm, hE.trans (hb1.mono hE.size)⟩
  | true =>
    have HV : Hid (hasInst x y = decide (0 ≤ placeF y x.facts)) := Lib.hid (by unfold hasInst; rw [ho]; rfl)
    replace hcon := hcon true ho
    clear ho
    go_enter Try.func23, Try.ntmps23
    go_wp2_with fail
    refine hcon.mono ?_; rintro e w1 ⟨rfl, hb1⟩
    have hez := HEz.out
    have f0 := (hb1.cell (p := ⟨w.heap.size, 0, none⟩) (by show w.heap.size < _; omega)).trans K0.out
    have f1 := (hb1.cell (p := ⟨w.heap.size, 1, none⟩) (by show w.heap.size < _; omega)).trans K1.out
    have g0 := (hb1.cell (p := ⟨w.heap.size + 1, 0, none⟩) (by show w.heap.size + 1 < _; omega)).trans L0.out
    have g1 := (hb1.cell (p := ⟨w.heap.size + 1, 1, none⟩) (by show w.heap.size + 1 < _; omega)).trans L1.out
    have hW := hE.trans (hb1.mono hE.size)
    have hpl := specL5Place_any _ _ x y w1 (HX.out.later hW) (HY.out.later hW)
    clear hcon hez
    by_cases hp : 0 ≤ placeF y x.facts
    · have HV' := Lib.hid (HV.out.trans (decide_eq_true hp))
      generalize placeF y x.facts = q at *
      have hd : decide (0 ≤ q) = true := decide_eq_true hp
      clear hp
      go_wp2_with (go_at_call 58; refine hpl.mono ?_; rintro e w2 ⟨rfl, hb2⟩)
      go_ret
      exact ⟨ret_bool HV'.out.symm, hW.trans (hb2.mono hW.size)⟩
    · have HV' := Lib.hid (HV.out.trans (decide_eq_false hp))
      generalize placeF y x.facts = q at *
      have hd : decide (0 ≤ q) = false := decide_eq_false hp
      clear hp
      go_wp2_with (go_at_call 58; refine hpl.mono ?_; rintro e w2 ⟨rfl, hb2⟩)
      go_ret
      exact ⟨ret_bool HV'.out.symm, hW.trans (hb2.mono hW.size)⟩
theorem specContainsFact_c (v : Value) (x : Inst) (u : Value) (y : Fct) (w : World) (h : Instance_at w w.heap.size v x) (hw : Instance_wf x) (hn : Instance_sz x ≤ 1048576) (h' : Fact_at w w.heap.size u y) (_ : Fact_wf y) (_ : Fact_sz y ≤ 1048576) :
    Calls Try.prog 23 #[v, u] w fun e w' => e = .returned (.bool (hasInst x y)) ∧ Below w.heap.size w w' := specContainsFact_any v u x y w h hw hn h'

end Go.Proofs.Ytchlelkhpahakaa
