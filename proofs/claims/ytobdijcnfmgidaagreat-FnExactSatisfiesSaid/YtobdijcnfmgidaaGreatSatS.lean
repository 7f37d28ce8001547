/-
  Walks and plain lemmas for the laws of this seat: what single Go functions return, for every argument.
-/
import Derived.Test.YtobdijcnfmgidaaGreatInstV
import Derived.Test.YtobdijcnfmgidaaGreatDepsV
import Derived.Test.YtobdijcnfmgidaaGreatDepVI
import Derived.Test.YtobdijcnfmgidaaGreatActsI
namespace Go.Proofs.YtobdijcnfmgidaaGreat
open Go.RowKit

set_option maxHeartbeats 3200000 in
set_option maxRecDepth 100000 in
theorem specSat_any (v u : Value) (x : Inst) (l : List Dep) (w : World) (hx : Instance_at w w.heap.size v x) (hxw : Instance_wf x) (hxn : x.rels.length ≤ 1048576) (hd : DependencyS_at w w.heap.size u l) (hdw : DependencyS_wf l) (hn : DependencyS_sz l ≤ 1048576) :
    Calls Tryz.prog 13 #[v, u] w fun e w' => e = .returned (.bool (satM x l)) ∧ Below w.heap.size w w' := by
  have HX := Lib.hid hx
  have HD := Lib.hid hd
  obtain ⟨P, c, Q, d1, rfl⟩ := Instance_form hx
  have HR := Lib.hid (show RelationS_at w w.heap.size (.slice P x.rels.length c) x.rels by
    obtain ⟨V1, V2, hv, hR, hF⟩ := hx
    simp only [Value.agg.injEq, Array.mk.injEq, List.cons.injEq, and_true] at hv
    obtain ⟨rfl, rfl⟩ := hv
    exact hR)
  obtain ⟨A, c0, rfl, hc1, hc2⟩ := hd.form
  unfold maxLen at hc2
  clear hx hd
  obtain ⟨E, hEq⟩ : ∃ E, E = w.alloc (.cells #[.slice P x.rels.length c, .slice Q x.facts.length d1] 27) := ⟨_, rfl⟩
  have hE : Below w.heap.size w E := by rw [hEq]; exact below_more (Below.refl _ _) _
  have hzE : w.heap.size < E.heap.size := by rw [hEq]; simp
  have X0 := Lib.hid (show E.cell? ⟨w.heap.size, 0, none⟩ = some (.slice P x.rels.length c) by rw [hEq]; simp [go_sem])
  have X1 := Lib.hid (show E.cell? ⟨w.heap.size, 1, none⟩ = some (.slice Q x.facts.length d1) by rw [hEq]; simp [go_sem])
  have HE := Lib.hid hE
  have HVI := Lib.hid (fun (W : World) (hW : Below w.heap.size w W) => specIsValidInstance_at1 x _ rfl (.agg #[.slice P x.rels.length c, .slice Q x.facts.length d1]) W ((HX.out.below hW (Nat.le_refl _)).more hW.size) hxw hxn)
  have HVD := Lib.hid (fun (W : World) (hW : Below w.heap.size w W) => specAreValidDeps_any (.slice P x.rels.length c) x.rels (.slice A l.length c0) l W ((HR.out.below hW (Nat.le_refl _)).more hW.size) hxn ((HD.out.below hW (Nat.le_refl _)).more hW.size) hdw)
  have hfv := specFirst_any (.agg #[.slice P x.rels.length c, .slice Q x.facts.length d1]) (.slice A l.length c0) x l E ((HX.out.below hE (Nat.le_refl _)).more hE.size) hxw hxn ((HD.out.below hE (Nat.le_refl _)).more hE.size) hdw hn
  have HNo1 := Lib.hid (fun h => satM_no1 (x := x) (l := l) h)
  have HNo2 := Lib.hid (fun h => satM_no2 (x := x) (l := l) h)
  have HOn := Lib.hid (fun h h2 => satM_on (x := x) (l := l) h h2)
  rw [hEq] at hfv
  clear hE
  obtain ⟨bb, hbb⟩ : ∃ bb, FirstViolation_r2 x l = bb := ⟨_, rfl⟩
  rw [hbb] at hfv HOn
  clear hbb
  go_enter Tryz.func13, Tryz.ntmps13
  go_wp2_with fail
  refine hfv.mono ?_
  rintro e w1 ⟨r, rfl, -, hb1⟩
  rw [← hEq] at hb1
  have HB1 := Lib.hid hb1
  have HZ := Lib.hid (HE.out.trans (hb1.mono HE.out.size))
  have x0 := (hb1.cell (p := ⟨w.heap.size, 0, none⟩) hzE).trans X0.out
  have x1 := (hb1.cell (p := ⟨w.heap.size, 1, none⟩) hzE).trans X1.out
  clear hfv hEq hb1
  have hvi := HVI.out _ HZ.out
  cases k1 : instOk x with
  | false =>
    have HG := Lib.hid (HNo1.out k1)
    rw [k1] at hvi
    clear k1
    go_wp2_with fail
    refine hvi.mono ?_
    rintro e w2 ⟨rfl, hb2⟩
    have HZ2 := Lib.hid (HZ.out.trans (hb2.mono HZ.out.size))
    clear hb2 x0 x1 hvi
    go_wp2
    go_ret
    exact ⟨ret_bool HG.out.symm, HZ2.out⟩
  | true =>
    rw [k1] at hvi
    cases k2 : depsOk x.rels l with
    | false =>
      have HG := Lib.hid (HNo2.out k2)
      have HVD := Lib.hid (show ∀ W, Below w.heap.size w W → Calls Tryz.prog 15 #[.slice P x.rels.length c, (.slice A l.length c0)] W fun e w' => e = .returned (.bool false) ∧ Below W.heap.size W w' from fun W hW => k2 ▸ HVD.out W hW)
      clear k1 k2
      go_wp2_with fail
      refine hvi.mono ?_
      rintro e w2 ⟨rfl, hb2⟩
      have HB2 := Lib.hid (HB1.out.trans (hb2.mono HB1.out.size))
      have HZ2 := Lib.hid (HZ.out.trans (hb2.mono HZ.out.size))
      clear hb2 x0 x1 hvi
      have x0 := (HB2.out.cell (p := ⟨w.heap.size, 0, none⟩) hzE).trans X0.out
      have x1 := (HB2.out.cell (p := ⟨w.heap.size, 1, none⟩) hzE).trans X1.out
      go_wp2_with fail
      refine (HVD.out _ HZ2.out).mono ?_
      rintro e w3 ⟨rfl, hb3⟩
      have HZ3 := Lib.hid (HZ2.out.trans (hb3.mono HZ2.out.size))
      clear hb3 x0 x1
      go_wp2
      go_ret
      exact ⟨ret_bool HG.out.symm, HZ3.out⟩
    | true =>
      have HG := Lib.hid (HOn.out k1 k2)
      have HVD := Lib.hid (show ∀ W, Below w.heap.size w W → Calls Tryz.prog 15 #[.slice P x.rels.length c, (.slice A l.length c0)] W fun e w' => e = .returned (.bool true) ∧ Below W.heap.size W w' from fun W hW => k2 ▸ HVD.out W hW)
      clear k1 k2
      go_wp2_with fail
      refine hvi.mono ?_
      rintro e w2 ⟨rfl, hb2⟩
      have HB2 := Lib.hid (HB1.out.trans (hb2.mono HB1.out.size))
      have HZ2 := Lib.hid (HZ.out.trans (hb2.mono HZ.out.size))
      clear hb2 x0 x1 hvi
      have x0 := (HB2.out.cell (p := ⟨w.heap.size, 0, none⟩) hzE).trans X0.out
      have x1 := (HB2.out.cell (p := ⟨w.heap.size, 1, none⟩) hzE).trans X1.out
      go_wp2_with fail
      refine (HVD.out _ HZ2.out).mono ?_
      rintro e w3 ⟨rfl, hb3⟩
      have HZ3 := Lib.hid (HZ2.out.trans (hb3.mono HZ2.out.size))
      clear hb3 x0 x1
      go_wp2
      go_ret
      exact ⟨ret_bool HG.out.symm, HZ3.out⟩
theorem specSatisfies_c (v : Value) (x : Inst) (u : Value) (l : List Dep) (w : World) (h : Instance_at w w.heap.size v x) (hw : Instance_wf x) (hi : Instance_sz x ≤ 1048576) (h' : DependencyS_at w w.heap.size u l) (hw' : DependencyS_wf l) (hn : DependencyS_sz l ≤ 1048576) :
    Calls Tryz.prog 13 #[v, u] w fun e w' => e = .returned (.bool (satM x l)) ∧ Below w.heap.size w w' := specSat_any v u x l w h hw (by unfold Instance_sz RelationS_sz at hi; omega) h' hw' hn

set_option maxHeartbeats 3200000 in
set_option maxRecDepth 100000 in
theorem implSat_any (v u : Value) (x : Inst) (l : List Dep) (w : World) (hx : Instance_at w w.heap.size v x) (hxw : Instance_wf x) (hd : DependencyS_at w w.heap.size u l) (hdw : DependencyS_wf l) (hn : DependencyS_sz l ≤ 1048576) :
    Calls Tryz.prog 11 #[v, u] w fun e w' => e = .returned (.bool (satM x l)) ∧ Below w.heap.size w w' := by
  have HX := Lib.hid hx
  have HD := Lib.hid hd
  obtain ⟨P, c, Q, d1, rfl⟩ := Instance_form hx
  have HR := Lib.hid (show RelationS_at w w.heap.size (.slice P x.rels.length c) x.rels by
    obtain ⟨V1, V2, hv, hR, hF⟩ := hx
    simp only [Value.agg.injEq, Array.mk.injEq, List.cons.injEq, and_true] at hv
    obtain ⟨rfl, rfl⟩ := hv
    exact hR)
  obtain ⟨A, c0, rfl, hc1, hc2⟩ := hd.form
  unfold maxLen at hc2
  clear hx hd
  obtain ⟨E, hEq⟩ : ∃ E, E = w.alloc (.cells #[.slice P x.rels.length c, .slice Q x.facts.length d1] 27) := ⟨_, rfl⟩
  have hE : Below w.heap.size w E := by rw [hEq]; exact below_more (Below.refl _ _) _
  have hzE : w.heap.size < E.heap.size := by rw [hEq]; simp
  have X0 := Lib.hid (show E.cell? ⟨w.heap.size, 0, none⟩ = some (.slice P x.rels.length c) by rw [hEq]; simp [go_sem])
  have X1 := Lib.hid (show E.cell? ⟨w.heap.size, 1, none⟩ = some (.slice Q x.facts.length d1) by rw [hEq]; simp [go_sem])
  have HE := Lib.hid hE
  have HVI := Lib.hid (fun (W : World) (hW : Below w.heap.size w W) => implIsValidInstance_at x _ rfl (.agg #[.slice P x.rels.length c, .slice Q x.facts.length d1]) W ((HX.out.below hW (Nat.le_refl _)).more hW.size) hxw)
  have HVD := Lib.hid (fun (W : World) (hW : Below w.heap.size w W) => implAreValidDeps_any (.slice P x.rels.length c) x.rels (.slice A l.length c0) l W ((HR.out.below hW (Nat.le_refl _)).more hW.size) ((HD.out.below hW (Nat.le_refl _)).more hW.size) hn)
  have HFV := Lib.hid (fun (W : World) (hW : Below w.heap.size w W) => implFirst_any (.agg #[.slice P x.rels.length c, .slice Q x.facts.length d1]) (.slice A l.length c0) x l W ((HX.out.below hW (Nat.le_refl _)).more hW.size) hxw ((HD.out.below hW (Nat.le_refl _)).more hW.size) hdw hn)
  have hvi := HVI.out E hE
  rw [hEq] at hvi
  clear hE
  cases k1 : instOk x with
  | false =>
    have HG := Lib.hid (satM_no1 (l := l) k1)
    rw [k1] at hvi
    clear k1
    go_enter Tryz.func11, Tryz.ntmps11
    go_wp2_with fail
    refine hvi.mono ?_
    rintro e w1 ⟨rfl, hb1⟩
    rw [← hEq] at hb1
    have HZ := Lib.hid (HE.out.trans (hb1.mono HE.out.size))
    go_wp2
    go_ret
    exact ⟨ret_bool HG.out.symm, HZ.out⟩
  | true =>
    rw [k1] at hvi
    cases k2 : depsOk x.rels l with
    | false =>
      have HG := Lib.hid (satM_no2 k2)
      have HVD := Lib.hid (show ∀ W, Below w.heap.size w W → Calls Tryz.prog 32 #[.slice P x.rels.length c, (.slice A l.length c0)] W fun e w' => e = .returned (.bool false) ∧ Below W.heap.size W w' from fun W hW => k2 ▸ HVD.out W hW)
      clear k1 k2
      go_enter Tryz.func11, Tryz.ntmps11
      go_wp2_with fail
      refine hvi.mono ?_
      rintro e w1 ⟨rfl, hb1⟩
      rw [← hEq] at hb1
      have HZ := Lib.hid (HE.out.trans (hb1.mono HE.out.size))
      have x0 := (hb1.cell (p := ⟨w.heap.size, 0, none⟩) hzE).trans X0.out
      have x1 := (hb1.cell (p := ⟨w.heap.size, 1, none⟩) hzE).trans X1.out
      clear hvi hEq hb1
      go_wp2_with fail
      refine (HVD.out _ HZ.out).mono ?_
      rintro e w2 ⟨rfl, hb2⟩
      have HZ2 := Lib.hid (HZ.out.trans (hb2.mono HZ.out.size))
      clear hb2 x0 x1
      go_wp2
      go_ret
      exact ⟨ret_bool HG.out.symm, HZ2.out⟩
    | true =>
      have HG := Lib.hid (satM_on k1 k2)
      have HVD := Lib.hid (show ∀ W, Below w.heap.size w W → Calls Tryz.prog 32 #[.slice P x.rels.length c, (.slice A l.length c0)] W fun e w' => e = .returned (.bool true) ∧ Below W.heap.size W w' from fun W hW => k2 ▸ HVD.out W hW)
      clear k1 k2
      go_enter Tryz.func11, Tryz.ntmps11
      go_wp2_with fail
      refine hvi.mono ?_
      rintro e w1 ⟨rfl, hb1⟩
      rw [← hEq] at hb1
      have HB1 := Lib.hid hb1
      have HZ := Lib.hid (HE.out.trans (hb1.mono HE.out.size))
      have x0 := (hb1.cell (p := ⟨w.heap.size, 0, none⟩) hzE).trans X0.out
      have x1 := (hb1.cell (p := ⟨w.heap.size, 1, none⟩) hzE).trans X1.out
      clear hvi hEq hb1
      go_wp2_with fail
      refine (HVD.out _ HZ.out).mono ?_
      rintro e w2 ⟨rfl, hb2⟩
      have HB2 := Lib.hid (HB1.out.trans (hb2.mono HB1.out.size))
      have HZ2 := Lib.hid (HZ.out.trans (hb2.mono HZ.out.size))
      clear hb2 x0 x1
      have x0 := (HB2.out.cell (p := ⟨w.heap.size, 0, none⟩) hzE).trans X0.out
      have x1 := (HB2.out.cell (p := ⟨w.heap.size, 1, none⟩) hzE).trans X1.out
      go_wp2_with fail
      refine (HFV.out _ HZ2.out).mono ?_
      rintro e w3 ⟨r, rfl, -, hb3⟩
      have HZ3 := Lib.hid (HZ2.out.trans (hb3.mono HZ2.out.size))
      clear hb3 x0 x1
      generalize FirstViolation_r2 x l = bb at *
      go_wp2
      go_ret
      exact ⟨ret_bool HG.out.symm, HZ3.out⟩
theorem implSatisfies_c (v : Value) (x : Inst) (u : Value) (l : List Dep) (w : World) (h : Instance_at w w.heap.size v x) (hw : Instance_wf x) (_ : Instance_sz x ≤ 1048576) (h' : DependencyS_at w w.heap.size u l) (hw' : DependencyS_wf l) (hn : DependencyS_sz l ≤ 1048576) :
    Calls Tryz.prog 11 #[v, u] w fun e w' => e = .returned (.bool (satM x l)) ∧ Below w.heap.size w w' := implSat_any v u x l w h hw h' hw' hn

end Go.Proofs.YtobdijcnfmgidaaGreat
