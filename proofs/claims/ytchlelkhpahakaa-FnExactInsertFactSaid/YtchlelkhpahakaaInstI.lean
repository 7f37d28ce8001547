/-
  Walks and plain lemmas for the laws of this seat: what single Go functions return, for every argument.
-/
import Derived.Test.YtchlelkhpahakaaTyInst
import Derived.Test.YtchlelkhpahakaaInstCp
import Derived.Test.YtchlelkhpahakaaMInst
import Derived.Test.YtchlelkhpahakaaInstO
import Derived.Test.YtchlelkhpahakaaInstU
namespace Go.Proofs.Ytchlelkhpahakaa
open Go.RowKit

def InsertFact_r0 (x : Inst) (f : Fct) : Inst := insInst x f
def InsertFact_ok (x : Inst) (f : Fct) : Bool := insOk x f
def GivesIns (x : Inst) (f : Fct) (w : World) (e : Ending) (w' : World) : Prop := ∃ u, e = .returned (.tuple #[u, .bool (InsertFact_ok x f)]) ∧ Instance_own w.heap.size w'.heap.size u (InsertFact_r0 x f) w' ∧ Below w.heap.size w w'
theorem putF_mem {l : List Fct} {f g : Fct} (h : g ∈ putF l f) : g = f ∨ g ∈ l := by
  unfold putF at h
  split at h
  · exact .inr h
  · rcases List.mem_append.1 h with h | h
    · exact .inr (List.mem_of_mem_take h)
    · rcases List.mem_cons.1 h with h | h
      · exact .inl h
      · exact .inr (List.mem_of_mem_drop h)
theorem putF_len (l : List Fct) (f : Fct) : (putF l f).length ≤ l.length + 1 := by
  unfold putF
  split
  · omega
  · have := putPos_le f l
    simp; omega
theorem put_wf {x : Inst} {f : Fct} (hw : Instance_wf x) (hf : Fact_wf f) : Instance_wf ⟨x.rels, putF x.facts f⟩ := by
  refine ⟨hw.1, fun i hi => ?_⟩
  rcases putF_mem (List.getElem_mem hi) with h | h
  · rw [h]; exact hf
  · obtain ⟨j, hj, e⟩ := List.getElem_of_mem h
    have := hw.2 j hj
    rw [e] at this; exact this
theorem insOk_of {x : Inst} {f : Fct} (h1 : instOk x = true) (h2 : hasInst x f = false) : insOk x f = instOk ⟨x.rels, putF x.facts f⟩ := by unfold insOk; rw [h1, h2]; rfl
theorem insOk_not {x : Inst} {f : Fct} (h : instOk x = false ∨ hasInst x f = true) : insOk x f = false := by
  unfold insOk
  rcases h with h | h
  · rw [h]; rfl
  · rw [h]; simp
theorem specContainsFact_at (v u : Value) (x : Inst) (y : Fct) (bb : Bool) (hb : hasInst x y = bb) (w : World) (h : Instance_at w w.heap.size v x) (hw : Instance_wf x) (hn : Instance_sz x ≤ 1048576) (h' : Fact_at w w.heap.size u y) :
    Calls Try.prog 23 #[v, u] w fun e w' => e = .returned (.bool bb) ∧ Below w.heap.size w w' := by
  subst hb; exact specContainsFact_any v u x y w h hw hn h'
set_option maxHeartbeats 3200000 in
set_option maxRecDepth 100000 in
theorem specInsertFact_of (hput : ∀ (v u : Value) (x : Inst) (y : Fct) (w : World), (∃ B C, C ≤ w.heap.size ∧ Instance_own B C v x w) → Instance_sz x ≤ 1048576 → Fact_at w w.heap.size u y → Fact_sz y ≤ 1048576 → Calls Try.prog 61 #[v, u] w (GivesPut x y w))
    (v u : Value) (x : Inst) (y : Fct) (w : World) (h : Instance_at w w.heap.size v x) (hw : Instance_wf x) (hn : Instance_sz x ≤ 1048576) (h' : Fact_at w w.heap.size u y) (hy : Fact_wf y) (hyn : Fact_sz y ≤ 1048576) :
    Calls Try.prog 25 #[v, u] w (GivesIns x y w) := by
  obtain ⟨P, c, Q, d, rfl⟩ := Instance_form h
  obtain ⟨P', c', rfl⟩ := Fact_form h'
  have HX := Lib.hid h
  have HY := Lib.hid h'
  clear h h'
  obtain ⟨E, hEq⟩ : ∃ E, E = ((w.alloc (.cells #[.slice P x.rels.length c, .slice Q x.facts.length d] 43)).alloc (.cells #[.int .i64 y.rel, .slice P' y.vals.length c'] 31)).alloc (.cells #[.slice none 0 0, .slice none 0 0] 43) := ⟨_, rfl⟩
  have hE : Below w.heap.size w E := by rw [hEq]; exact below_more (below_more (below_more (Below.refl _ _) _) _) _
  have hEz : w.heap.size + 3 = E.heap.size := by rw [hEq]; simp
  have K0 := Lib.hid (show E.cell? ⟨w.heap.size, 0, none⟩ = some (.slice P x.rels.length c) by rw [hEq]; simp [go_sem])
  have K1 := Lib.hid (show E.cell? ⟨w.heap.size, 1, none⟩ = some (.slice Q x.facts.length d) by rw [hEq]; simp [go_sem])
  have L0 := Lib.hid (show E.cell? ⟨w.heap.size + 1, 0, none⟩ = some (.int .i64 y.rel) by rw [hEq]; simp [go_sem])
  have L1 := Lib.hid (show E.cell? ⟨w.heap.size + 1, 1, none⟩ = some (.slice P' y.vals.length c') by rw [hEq]; simp [go_sem])
  have R0 := Lib.hid (show E.cell? ⟨w.heap.size + 1 + 1, 0, none⟩ = some (.slice none 0 0) by rw [hEq]; simp [go_sem])
  have R1 := Lib.hid (show E.cell? ⟨w.heap.size + 1 + 1, 1, none⟩ = some (.slice none 0 0) by rw [hEq]; simp [go_sem])
  have R2 := fun o => Lib.hid (show E.frozen? ⟨w.heap.size + 1 + 1, o, none⟩ = false by rw [hEq]; simp [go_sem])
  have hcp := specL5Copy_any _ x E (HX.out.later hE) hn
  have HEz := Lib.hid hEz
  rw [hEq] at hcp
  clear hEz
  go_enter Try.func25, Try.ntmps25
  go_wp2_with fail
  refine hcp.mono ?_
  rintro e w1 ⟨vy, rfl, hOy, hb1⟩
  rw [← hEq] at hb1 hOy
  obtain ⟨P1, c1, Q1, d1, rfl⟩ := Instance_form (hOy.at_ (Nat.le_refl _))
  have HYO := Lib.hid hOy
  have E2 := Lib.hid (show Below w1.heap.size w1 (w1.alloc (.cells #[.slice P1 x.rels.length c1, .slice Q1 x.facts.length d1] 43)) from (Below.refl _ _).alloc (Nat.le_refl _) _)
  have HZ2 := Lib.hid (show w1.heap.size < (w1.alloc (.cells #[.slice P1 x.rels.length c1, .slice Q1 x.facts.length d1] 43)).heap.size by simp)
  have Y0 := Lib.hid (show (w1.alloc (.cells #[.slice P1 x.rels.length c1, .slice Q1 x.facts.length d1] 43)).cell? ⟨w1.heap.size, 0, none⟩ = some (.slice P1 x.rels.length c1) by simp [go_sem])
  have Y1 := Lib.hid (show (w1.alloc (.cells #[.slice P1 x.rels.length c1, .slice Q1 x.facts.length d1] 43)).cell? ⟨w1.heap.size, 1, none⟩ = some (.slice Q1 x.facts.length d1) by simp [go_sem])
  have HEW := Lib.hid (show Below E.heap.size E (w1.alloc (.cells #[.slice P1 x.rels.length c1, .slice Q1 x.facts.length d1] 43)) from hb1.trans (E2.out.mono hb1.size))
  have b2 := Below.refl (w1.alloc (.cells #[.slice P1 x.rels.length c1, .slice Q1 x.facts.length d1] 43)).heap.size (w1.alloc (.cells #[.slice P1 x.rels.length c1, .slice Q1 x.facts.length d1] 43))
  have hEN := HEW.out.trans (b2.mono HEW.out.size)
  have f0 := (hEN.cell (p := ⟨w.heap.size, 0, none⟩) (by show w.heap.size < _; have := HEz.out; omega)).trans K0.out
  have f1 := (hEN.cell (p := ⟨w.heap.size, 1, none⟩) (by show w.heap.size < _; have := HEz.out; omega)).trans K1.out
  have g0 := (hEN.cell (p := ⟨w.heap.size + 1, 0, none⟩) (by show w.heap.size + 1 < _; have := HEz.out; omega)).trans L0.out
  have g1 := (hEN.cell (p := ⟨w.heap.size + 1, 1, none⟩) (by show w.heap.size + 1 < _; have := HEz.out; omega)).trans L1.out
  have y0 := (b2.cell (p := ⟨w1.heap.size, 0, none⟩) HZ2.out).trans Y0.out
  have y1 := (b2.cell (p := ⟨w1.heap.size, 1, none⟩) HZ2.out).trans Y1.out
  have hiv := fun bb hb => specIsValidInstance_at x bb hb _ _ (HX.out.later (hE.trans (hEN.mono hE.size))) hw hn
  clear hOy hb1 hcp b2 hEN g0 g1 y0 y1 hEq
  cases ho : instOk x with
  | false =>
    have HV := Lib.hid (insOk_not (f := y) (.inl ho))
    replace hiv := hiv false ho
    clear ho
    go_wp2_with fail
    refine hiv.mono ?_
    rintro e w3 ⟨rfl, b3⟩
    clear hiv f0 f1
    have hEN := HEW.out.trans (b3.mono HEW.out.size)
    have r0 := (hEN.cell (p := ⟨w.heap.size + 1 + 1, 0, none⟩) (by show w.heap.size + 1 + 1 < _; have := HEz.out; omega)).trans R0.out
    have r1 := (hEN.cell (p := ⟨w.heap.size + 1 + 1, 1, none⟩) (by show w.heap.size + 1 + 1 < _; have := HEz.out; omega)).trans R1.out
    have r2 := fun o => (hEN.frozen (p := ⟨w.heap.size + 1 + 1, o, none⟩) (by show w.heap.size + 1 + 1 < _; have := HEz.out; omega)).trans (R2 o).out
    have y0 := (b3.cell (p := ⟨w1.heap.size, 0, none⟩) HZ2.out).trans Y0.out
    have y1 := (b3.cell (p := ⟨w1.heap.size, 1, none⟩) HZ2.out).trans Y1.out
    have HST : ∀ u1 u2, Chg (Mid (w.heap.size + 1 + 1) (w.heap.size + 1 + 1 + 1)) w3 ((w3.setCell ⟨w.heap.size + 1 + 1, 0, none⟩ u1).setCell ⟨w.heap.size + 1 + 1, 1, none⟩ u2) := fun u1 u2 => ((Chg.refl _ w3).setCell (p := ⟨w.heap.size + 1 + 1, 0, none⟩) (show w.heap.size + 1 + 1 ≤ w.heap.size + 1 + 1 ∧ w.heap.size + 1 + 1 < w.heap.size + 1 + 1 + 1 by omega) _).setCell (p := ⟨w.heap.size + 1 + 1, 1, none⟩) (show w.heap.size + 1 + 1 ≤ w.heap.size + 1 + 1 ∧ w.heap.size + 1 + 1 < w.heap.size + 1 + 1 + 1 by omega) _
    have HBN := Lib.hid b3
    have HWN := Lib.hid (hE.trans (hEN.mono hE.size))
    clear hEN
    go_wp2
    refine bodyPost_ret (v := .tuple #[.agg #[.slice P1 x.rels.length c1, .slice Q1 x.facts.length d1], .bool false]) (by simp [results, Try.results25, go_sem, r0, r1]) rfl ⟨_, by rw [InsertFact_ok, HV.out], ?_, ?_⟩
    · rw [show InsertFact_r0 x y = x by unfold InsertFact_r0 insInst; rw [HV.out]; rfl]
      exact (((HYO.out.below E2.out (Nat.le_refl _)).below HBN.out (by have := HZ2.out; omega)).chg (HST _ _) (.inr (by have := HEz.out; omega))).mono (by have := HEz.out; omega) (by have h1 := HBN.out.size; have h2 := HZ2.out; simp [World.setCell] at *; omega)
    · exact (HWN.out.setCell (p := ⟨w.heap.size + 1 + 1, 0, none⟩) (by show w.heap.size ≤ w.heap.size + 1 + 1; omega) _).setCell (p := ⟨w.heap.size + 1 + 1, 1, none⟩) (by show w.heap.size ≤ w.heap.size + 1 + 1; omega) _
  | true =>
    have HOK := Lib.hid ho
    replace hiv := hiv true ho
    clear ho
    go_wp2_with fail
    refine hiv.mono ?_
    rintro e w3 ⟨rfl, b3⟩
    clear hiv f0 f1
    have hEN := HEW.out.trans (b3.mono HEW.out.size)
    have f0 := (hEN.cell (p := ⟨w.heap.size, 0, none⟩) (by show w.heap.size < _; have := HEz.out; omega)).trans K0.out
    have f1 := (hEN.cell (p := ⟨w.heap.size, 1, none⟩) (by show w.heap.size < _; have := HEz.out; omega)).trans K1.out
    have g0 := (hEN.cell (p := ⟨w.heap.size + 1, 0, none⟩) (by show w.heap.size + 1 < _; have := HEz.out; omega)).trans L0.out
    have g1 := (hEN.cell (p := ⟨w.heap.size + 1, 1, none⟩) (by show w.heap.size + 1 < _; have := HEz.out; omega)).trans L1.out
    have y0 := (b3.cell (p := ⟨w1.heap.size, 0, none⟩) HZ2.out).trans Y0.out
    have y1 := (b3.cell (p := ⟨w1.heap.size, 1, none⟩) HZ2.out).trans Y1.out
    have hcf := fun bb hb => specContainsFact_at _ _ x y bb hb w3 (HX.out.later (hE.trans (hEN.mono hE.size))) hw hn (HY.out.later (hE.trans (hEN.mono hE.size)))
    clear y0 y1 hEN
    cases hh : hasInst x y with
    | true =>
      have HV := Lib.hid (insOk_not (x := x) (f := y) (.inr hh))
      replace hcf := hcf true hh
      clear hh
      go_wp2_with fail
      refine hcf.mono ?_
      rintro e w4 ⟨rfl, b4'⟩
      have b4 := b3.trans (b4'.mono b3.size)
      clear hcf f0 f1 g0 g1 b4'
      have hEN := HEW.out.trans (b4.mono HEW.out.size)
      have r0 := (hEN.cell (p := ⟨w.heap.size + 1 + 1, 0, none⟩) (by show w.heap.size + 1 + 1 < _; have := HEz.out; omega)).trans R0.out
      have r1 := (hEN.cell (p := ⟨w.heap.size + 1 + 1, 1, none⟩) (by show w.heap.size + 1 + 1 < _; have := HEz.out; omega)).trans R1.out
      have r2 := fun o => (hEN.frozen (p := ⟨w.heap.size + 1 + 1, o, none⟩) (by show w.heap.size + 1 + 1 < _; have := HEz.out; omega)).trans (R2 o).out
      have y0 := (b4.cell (p := ⟨w1.heap.size, 0, none⟩) HZ2.out).trans Y0.out
      have y1 := (b4.cell (p := ⟨w1.heap.size, 1, none⟩) HZ2.out).trans Y1.out
      have HST : ∀ u1 u2, Chg (Mid (w.heap.size + 1 + 1) (w.heap.size + 1 + 1 + 1)) w4 ((w4.setCell ⟨w.heap.size + 1 + 1, 0, none⟩ u1).setCell ⟨w.heap.size + 1 + 1, 1, none⟩ u2) := fun u1 u2 => ((Chg.refl _ w4).setCell (p := ⟨w.heap.size + 1 + 1, 0, none⟩) (show w.heap.size + 1 + 1 ≤ w.heap.size + 1 + 1 ∧ w.heap.size + 1 + 1 < w.heap.size + 1 + 1 + 1 by omega) _).setCell (p := ⟨w.heap.size + 1 + 1, 1, none⟩) (show w.heap.size + 1 + 1 ≤ w.heap.size + 1 + 1 ∧ w.heap.size + 1 + 1 < w.heap.size + 1 + 1 + 1 by omega) _
      have HBN := Lib.hid b4
      have HWN := Lib.hid (hE.trans (hEN.mono hE.size))
      clear hEN
      go_wp2
      refine bodyPost_ret (v := .tuple #[.agg #[.slice P1 x.rels.length c1, .slice Q1 x.facts.length d1], .bool false]) (by simp [results, Try.results25, go_sem, r0, r1]) rfl ⟨_, by rw [InsertFact_ok, HV.out], ?_, ?_⟩
      · rw [show InsertFact_r0 x y = x by unfold InsertFact_r0 insInst; rw [HV.out]; rfl]
        exact (((HYO.out.below E2.out (Nat.le_refl _)).below HBN.out (by have := HZ2.out; omega)).chg (HST _ _) (.inr (by have := HEz.out; omega))).mono (by have := HEz.out; omega) (by have h1 := HBN.out.size; have h2 := HZ2.out; simp [World.setCell] at *; omega)
      · exact (HWN.out.setCell (p := ⟨w.heap.size + 1 + 1, 0, none⟩) (by show w.heap.size ≤ w.heap.size + 1 + 1; omega) _).setCell (p := ⟨w.heap.size + 1 + 1, 1, none⟩) (by show w.heap.size ≤ w.heap.size + 1 + 1; omega) _
    | false =>
      have HI := Lib.hid (insOk_of HOK.out hh)
      replace hcf := hcf false hh
      clear hh
      go_wp2_with fail
      refine hcf.mono ?_
      rintro e w4 ⟨rfl, b4'⟩
      have b4 := b3.trans (b4'.mono b3.size)
      clear hcf f0 f1 g0 g1 b4'
      have hEN := HEW.out.trans (b4.mono HEW.out.size)
      have f0 := (hEN.cell (p := ⟨w.heap.size, 0, none⟩) (by show w.heap.size < _; have := HEz.out; omega)).trans K0.out
      have f1 := (hEN.cell (p := ⟨w.heap.size, 1, none⟩) (by show w.heap.size < _; have := HEz.out; omega)).trans K1.out
      have g0 := (hEN.cell (p := ⟨w.heap.size + 1, 0, none⟩) (by show w.heap.size + 1 < _; have := HEz.out; omega)).trans L0.out
      have g1 := (hEN.cell (p := ⟨w.heap.size + 1, 1, none⟩) (by show w.heap.size + 1 < _; have := HEz.out; omega)).trans L1.out
      have y0 := (b4.cell (p := ⟨w1.heap.size, 0, none⟩) HZ2.out).trans Y0.out
      have y1 := (b4.cell (p := ⟨w1.heap.size, 1, none⟩) HZ2.out).trans Y1.out
      have hz4 := b4.size
      have hpt := hput _ _ x y w4 ⟨_, _, (show w1.heap.size ≤ w4.heap.size by have := HZ2.out; omega), ((HYO.out.below E2.out (Nat.le_refl _)).below b4 (by have := HZ2.out; omega))⟩ hn (HY.out.later (hE.trans (hEN.mono hE.size))) hyn
      clear hEN f0 f1
      go_wp2_with fail
      refine hpt.mono ?_
      rintro e w5 ⟨vp, rfl, hP, b5'⟩
      have b5 := b4.trans (b5'.mono b4.size)
      have hrl : x.rels.length ≤ 1048576 := by unfold Instance_sz RelationS_sz at hn; omega
      have hc2 := specL5Copy_len vp ⟨x.rels, putF x.facts y⟩ w5 hP hrl (by have h1 := putF_len x.facts y; have h2 := (instOk_parts HOK.out).2.2; show (putF x.facts y).length ≤ _; omega) (fun f hf => by
        rcases putF_mem hf with h | h
        · rw [h]; exact hyn
        · have h1 := factSz_le x.facts f h
          unfold Instance_sz FactS_sz at hn; omega)
      clear hpt b5' hP g0 g1 y0 y1
      go_wp2_with fail
      refine hc2.mono ?_
      rintro e w6 ⟨vz, rfl, hOz, b6'⟩
      have b6 := b5.trans (b6'.mono b5.size)
      obtain ⟨P2, c2, Q2, d2, rfl⟩ := Instance_form (hOz.at_ (Nat.le_refl _))
      have HOZ := Lib.hid hOz
      have e7 : Below w6.heap.size w6 (w6.alloc (.cells #[.slice P2 x.rels.length c2, .slice Q2 (putF x.facts y).length d2] 43)) := (Below.refl _ _).alloc (Nat.le_refl _) _
      have hz7 : w6.heap.size < (w6.alloc (.cells #[.slice P2 x.rels.length c2, .slice Q2 (putF x.facts y).length d2] 43)).heap.size := by simp
      have z0 : (w6.alloc (.cells #[.slice P2 x.rels.length c2, .slice Q2 (putF x.facts y).length d2] 43)).cell? ⟨w6.heap.size, 0, none⟩ = some (.slice P2 x.rels.length c2) := by simp [go_sem]
      have z1 : (w6.alloc (.cells #[.slice P2 x.rels.length c2, .slice Q2 (putF x.facts y).length d2] 43)).cell? ⟨w6.heap.size, 1, none⟩ = some (.slice Q2 (putF x.facts y).length d2) := by simp [go_sem]
      have b7 := b6.trans (e7.mono b6.size)
      have hiz := fun bb hb => specIsValidInstance_at1 ⟨x.rels, putF x.facts y⟩ bb hb _ (w6.alloc (.cells #[.slice P2 x.rels.length c2, .slice Q2 (putF x.facts y).length d2] 43)) ((HOZ.out.below e7 (Nat.le_refl _)).at_ (D := (w6.alloc (.cells #[.slice P2 x.rels.length c2, .slice Q2 (putF x.facts y).length d2] 43)).heap.size) (by omega)) (put_wf hw hy) hrl
      have hz5 := b5.size
      have HE7 := Lib.hid e7
      have HZ7 := Lib.hid hz7
      have Z0 := Lib.hid z0
      have Z1 := Lib.hid z1
      have HZ65 := Lib.hid b6'.size
      clear hc2 b6' hOz e7 hz7
      cases hz : instOk ⟨x.rels, putF x.facts y⟩ with
      | false =>
        have HV := Lib.hid (HI.out.trans hz)
        replace hiz := hiz false hz
        clear hz
        go_wp2_with fail
        refine hiz.mono ?_
        rintro e w8 ⟨rfl, b8'⟩
        have b8 := b7.trans (b8'.mono b7.size)
        clear hiz z0 z1 b8'
        have hEN := HEW.out.trans (b8.mono HEW.out.size)
        have r0 := (hEN.cell (p := ⟨w.heap.size + 1 + 1, 0, none⟩) (by show w.heap.size + 1 + 1 < _; have := HEz.out; omega)).trans R0.out
        have r1 := (hEN.cell (p := ⟨w.heap.size + 1 + 1, 1, none⟩) (by show w.heap.size + 1 + 1 < _; have := HEz.out; omega)).trans R1.out
        have r2 := fun o => (hEN.frozen (p := ⟨w.heap.size + 1 + 1, o, none⟩) (by show w.heap.size + 1 + 1 < _; have := HEz.out; omega)).trans (R2 o).out
        have y0 := (b8.cell (p := ⟨w1.heap.size, 0, none⟩) HZ2.out).trans Y0.out
        have y1 := (b8.cell (p := ⟨w1.heap.size, 1, none⟩) HZ2.out).trans Y1.out
        have HST : ∀ u1 u2, Chg (Mid (w.heap.size + 1 + 1) (w.heap.size + 1 + 1 + 1)) w8 ((w8.setCell ⟨w.heap.size + 1 + 1, 0, none⟩ u1).setCell ⟨w.heap.size + 1 + 1, 1, none⟩ u2) := fun u1 u2 => ((Chg.refl _ w8).setCell (p := ⟨w.heap.size + 1 + 1, 0, none⟩) (show w.heap.size + 1 + 1 ≤ w.heap.size + 1 + 1 ∧ w.heap.size + 1 + 1 < w.heap.size + 1 + 1 + 1 by omega) _).setCell (p := ⟨w.heap.size + 1 + 1, 1, none⟩) (show w.heap.size + 1 + 1 ≤ w.heap.size + 1 + 1 ∧ w.heap.size + 1 + 1 < w.heap.size + 1 + 1 + 1 by omega) _
        have HBN := Lib.hid b8
        have HWN := Lib.hid (hE.trans (hEN.mono hE.size))
        clear hEN
        go_wp2
        refine bodyPost_ret (v := .tuple #[.agg #[.slice P1 x.rels.length c1, .slice Q1 x.facts.length d1], .bool false]) (by simp [results, Try.results25, go_sem, r0, r1]) rfl ⟨_, by rw [InsertFact_ok, HV.out], ?_, ?_⟩
        · rw [show InsertFact_r0 x y = x by unfold InsertFact_r0 insInst; rw [HV.out]; rfl]
          exact (((HYO.out.below E2.out (Nat.le_refl _)).below HBN.out (by have := HZ2.out; omega)).chg (HST _ _) (.inr (by have := HEz.out; omega))).mono (by have := HEz.out; omega) (by have h1 := HBN.out.size; have h2 := HZ2.out; simp [World.setCell] at *; omega)
        · exact (HWN.out.setCell (p := ⟨w.heap.size + 1 + 1, 0, none⟩) (by show w.heap.size ≤ w.heap.size + 1 + 1; omega) _).setCell (p := ⟨w.heap.size + 1 + 1, 1, none⟩) (by show w.heap.size ≤ w.heap.size + 1 + 1; omega) _
      | true =>
        have HV := Lib.hid (HI.out.trans hz)
        replace hiz := hiz true hz
        clear hz
        go_wp2_with fail
        refine hiz.mono ?_
        rintro e w8 ⟨rfl, b8'⟩
        have b8 := b7.trans (b8'.mono b7.size)
        have HB8 := Lib.hid b8'
        replace z0 := (b8'.cell (p := ⟨w6.heap.size, 0, none⟩) HZ7.out).trans Z0.out
        replace z1 := (b8'.cell (p := ⟨w6.heap.size, 1, none⟩) HZ7.out).trans Z1.out
        clear hiz b8'
        have hEN := HEW.out.trans (b8.mono HEW.out.size)
        have r0 := (hEN.cell (p := ⟨w.heap.size + 1 + 1, 0, none⟩) (by show w.heap.size + 1 + 1 < _; have := HEz.out; omega)).trans R0.out
        have r1 := (hEN.cell (p := ⟨w.heap.size + 1 + 1, 1, none⟩) (by show w.heap.size + 1 + 1 < _; have := HEz.out; omega)).trans R1.out
        have r2 := fun o => (hEN.frozen (p := ⟨w.heap.size + 1 + 1, o, none⟩) (by show w.heap.size + 1 + 1 < _; have := HEz.out; omega)).trans (R2 o).out
        have y0 := (b8.cell (p := ⟨w1.heap.size, 0, none⟩) HZ2.out).trans Y0.out
        have y1 := (b8.cell (p := ⟨w1.heap.size, 1, none⟩) HZ2.out).trans Y1.out
        have HST : ∀ u1 u2, Chg (Mid (w.heap.size + 1 + 1) (w.heap.size + 1 + 1 + 1)) w8 ((w8.setCell ⟨w.heap.size + 1 + 1, 0, none⟩ u1).setCell ⟨w.heap.size + 1 + 1, 1, none⟩ u2) := fun u1 u2 => ((Chg.refl _ w8).setCell (p := ⟨w.heap.size + 1 + 1, 0, none⟩) (show w.heap.size + 1 + 1 ≤ w.heap.size + 1 + 1 ∧ w.heap.size + 1 + 1 < w.heap.size + 1 + 1 + 1 by omega) _).setCell (p := ⟨w.heap.size + 1 + 1, 1, none⟩) (show w.heap.size + 1 + 1 ≤ w.heap.size + 1 + 1 ∧ w.heap.size + 1 + 1 < w.heap.size + 1 + 1 + 1 by omega) _
        have HBN := Lib.hid b8
        have HWN := Lib.hid (hE.trans (hEN.mono hE.size))
        clear hEN y0 y1
        go_wp2
        refine bodyPost_ret (v := .tuple #[.agg #[.slice P2 x.rels.length c2, .slice Q2 (putF x.facts y).length d2], .bool true]) (by simp [results, Try.results25, go_sem, r0, r1]) rfl ⟨_, by rw [InsertFact_ok, HV.out], ?_, ?_⟩
        · rw [show InsertFact_r0 x y = ⟨x.rels, putF x.facts y⟩ by unfold InsertFact_r0 insInst; rw [HV.out]; rfl]
          exact (((HOZ.out.below HE7.out (Nat.le_refl _)).below HB8.out (by have := HZ7.out; omega)).chg (HST _ _) (.inr (by have h1 := HEz.out; have h2 := HEW.out.size; omega))).mono (by have h1 := HEz.out; have h2 := HEW.out.size; omega) (by have h1 := HB8.out.size; have h2 := HZ7.out; simp [World.setCell] at *; omega)
        · exact (HWN.out.setCell (p := ⟨w.heap.size + 1 + 1, 0, none⟩) (by show w.heap.size ≤ w.heap.size + 1 + 1; omega) _).setCell (p := ⟨w.heap.size + 1 + 1, 1, none⟩) (by show w.heap.size ≤ w.heap.size + 1 + 1; omega) _

end Go.Proofs.Ytchlelkhpahakaa
