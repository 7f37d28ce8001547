/-
  Walks and plain lemmas for the laws of this seat: what single Go functions return, for every argument.
-/
import Derived.Deep.Quiet
import Derived.Test.YtmecdjincmkofaaGreatDoorDraw
import Derived.Test.YtmecdjincmkofaaGreatDoorLift
import Derived.Test.YtmecdjincmkofaaGreatDoorPlan
import Derived.Test.YtmecdjincmkofaaGreatDoorFact
import Derived.Test.YtmecdjincmkofaaGreatDoorTyInst
import Derived.Test.YtmecdjincmkofaaGreatDoorDrawT
import Derived.Test.YtmecdjincmkofaaGreatDoorMHom
import Derived.Test.YtmecdjincmkofaaGreatDoorSubsV
import Derived.Test.YtmecdjincmkofaaGreatDoorInstV
import Derived.Test.YtmecdjincmkofaaGreatDoorSubsN
import Derived.Test.YtmecdjincmkofaaGreatDoorSubsVI
import Derived.Test.YtmecdjincmkofaaGreatDoorValInI
import Derived.Test.YtmecdjincmkofaaGreatDoorSubsNI
import Derived.Test.YtmecdjincmkofaaGreatDoorSubsK
import Derived.Test.YtmecdjincmkofaaGreatDoorSubsKI
import Derived.Test.YtmecdjincmkofaaGreatDoorFmtUS
import Derived.Test.YtmecdjincmkofaaGreatDoorSubsE
import Derived.Test.YtmecdjincmkofaaGreatDoorNulInI
import Derived.Test.YtmecdjincmkofaaGreatDoorInstE
namespace Go.Proofs.YtmecdjincmkofaaGreatDoor
open Go.RowKit

theorem instOk_wfS {x : Inst} (h : instOk x = true) : Instance_wf x := by
  obtain ⟨h1, _, h3, _⟩ := (instOk_iff x).1 h
  refine ⟨fun i hi => ?_, fun i hi => ?_⟩
  · have := (relOk_bd _ _ (validRels_at x.rels h3 i hi)).1
    unfold maxLen; omega
  · obtain ⟨hv, hin, -, hvs⟩ := factOk_parts (h1 _ (List.getElem_mem hi)).1
    have hl : x.rels.length ≤ 6 := by unfold validRels at hv; simp only [Bool.and_eq_true, decide_eq_true_eq] at hv; exact hv.2
    refine ⟨⟨by omega, by omega⟩, fun j hj => ?_⟩
    have := hvs j hj
    unfold validV at this
    have := of_decide_eq_true this
    omega
theorem applyI_wf (s : Sbst) (x : Inst) : Instance_wf (ApplyToInstance_r0 s x) := by
  cases h : applyI_ok s x with
  | false =>
    unfold ApplyToInstance_r0 applyI
    rw [h]
    exact ⟨fun i hi => by simp at hi, fun i hi => by simp at hi⟩
  | true =>
    unfold applyI_ok at h
    rw [Bool.and_eq_true] at h
    exact instOk_wfS (instOk_apply h.1 h.2)
theorem comp_wf (a b : Sbst) : Substitution_wf (Compose_r0 a b) := by
  cases h : composeOk a b with
  | false =>
    unfold Compose_r0
    rw [composeS_no h]
    exact ⟨fun i hi => by simp at hi, fun i hi => by simp at hi⟩
  | true =>
    have hp := subOk_parts (comp_ok h)
    show Substitution_wf (composeS a b)
    generalize composeS a b = S at *
    refine ⟨fun i hi => ?_, fun i hi => ?_⟩
    · have := hp.bd i hi; omega
    · have := hp.ok i hi
      unfold validV at this
      have := of_decide_eq_true this
      omega
theorem eqInst_same (x : Inst) : eqInst x x = true := by unfold eqInst; simp
theorem specEqInst_at5 (x y : Inst) (q : Bool) (hq : eqInst x y = q) (v u : Value) (w : World) (h : Instance_at w w.heap.size v x) (h' : Instance_at w w.heap.size u y) :
    Calls Tryz.prog 27 #[v, u] w fun e w' => e = .returned (.bool q) ∧ Below w.heap.size w w' := by
  subst hq; exact specEqualInstances_any v u x y w h h'
theorem nil_at (w : World) (B : Nat) : Substitution_at w B (.agg #[.slice none 0 0, .slice none 0 0]) ⟨[], []⟩ :=
  ⟨_, _, rfl, ⟨none, 0, rfl, Nat.le_refl _, by decide, fun h => absurd h (by simp), fun _ => rfl⟩, ⟨none, 0, rfl, Nat.le_refl _, by decide, fun h => absurd h (by simp), fun _ => rfl⟩⟩
set_option maxHeartbeats 25600000 in
set_option maxRecDepth 100000 in
theorem walkSub (q : Option Addr) (code : List UInt8) (c : Nat) (_ : code.length ≤ maxLen) (w : World) (hc : CodeAt w w.heap.size (.slice q code.length c) code) (ht : Tab w) :
    Calls Tryz.prog 9 #[.slice q code.length c] w fun e w' => e = .returned (.bool true) ∧ Below w.heap.size w w' := by
  by_cases hbig : 1048576 < code.length
  · have hd : decide (1048576 < ((code.length : Nat) : Int)) = true := by simp; omega
    go_enter Tryz.func9, Tryz.ntmps9
    go_wp2_with fail
    refine (big_any q _ c _).mono ?_; rintro e w1 ⟨rfl, rfl⟩
    go_wp2_with fail
    go_ret
    exact ⟨rfl, Below.refl _ _⟩
  · have hlen : code.length ≤ 1048576 := by omega
    have hd : decide (1048576 < ((code.length : Nat) : Int)) = false := by simp; omega
    clear hbig
    go_enter Tryz.func9, Tryz.ntmps9
    go_wp2_with fail
    refine (big_any q _ c _).mono ?_; rintro e w1 ⟨rfl, rfl⟩
    go_wp2_with fail
    refine (drawApplyInst_c _ code _ hc hlen).mono ?_; rintro e w1 ⟨V, s, U, x, rfl, hVs, hs, hlo, hx, hb⟩
    have hUx := hlo.at_
    obtain ⟨P1, c1, Q1, d1, rfl⟩ := Substitution_form hVs
    obtain ⟨P2, c2, Q2, d2, rfl⟩ := Instance_form hUx
    have HS := Lib.hid hs
    have HX := Lib.hid hx
    clear hd hs hx hlo
    have hz := hb.size
    go_upto_region 4 with fail
    obtain ⟨a1, ha1⟩ : ∃ b, b = w1.heap.size := ⟨_, rfl⟩
    obtain ⟨W1, hE1⟩ : ∃ W, W = (w1.alloc (.cells #[.slice P1 s.nulls.length c1, .slice Q1 s.vals.length d1] 81)).alloc (.cells #[.slice P2 x.rels.length c2, .slice Q2 x.facts.length d2] 40) := ⟨_, rfl⟩
    have Cs0 := Lib.hid (show W1.cell? ⟨a1, 0, none⟩ = some (.slice P1 s.nulls.length c1) by rw [hE1, ha1]; simp [go_sem])
    have Cs1 := Lib.hid (show W1.cell? ⟨a1, 1, none⟩ = some (.slice Q1 s.vals.length d1) by rw [hE1, ha1]; simp [go_sem])
    have Cx0 := Lib.hid (show W1.cell? ⟨a1 + 1, 0, none⟩ = some (.slice P2 x.rels.length c2) by rw [hE1, ha1]; simp [go_sem])
    have Cx1 := Lib.hid (show W1.cell? ⟨a1 + 1, 1, none⟩ = some (.slice Q2 x.facts.length d2) by rw [hE1, ha1]; simp [go_sem])
    have hAl : Below w1.heap.size w1 W1 := by rw [hE1]; exact below_more (below_more (Below.refl _ _) _) _
    have hlt1 : a1 + 1 < W1.heap.size := by rw [hE1, ha1]; simp
    rw [← ha1, ← hE1]
    have As := Lib.hid (hVs.later hAl)
    have Ax := Lib.hid (hUx.later hAl)
    have hstep := hb.trans (hAl.mono hz)
    have HW := Lib.hid hstep
    clear hstep
    clear hAl hE1 ha1 hb hz
    clear hVs hUx
    have hcw := hc.later HW.out
    go_wp2_with fail
    refine (drawCompose_c _ code _ hcw hlen).mono ?_; rintro e w2 ⟨V, a, U, b, rfl, hVa, ha, hUb, hbs, hb⟩
    obtain ⟨P3, c3, Q3, d3, rfl⟩ := Substitution_form hVa
    obtain ⟨P4, c4, Q4, d4, rfl⟩ := Substitution_form hUb
    have HSA := Lib.hid ha
    have HSB := Lib.hid hbs
    clear ha hbs hcw
    have hz := hb.size
    go_upto_region 5 with fail
    obtain ⟨a2, ha2⟩ : ∃ b, b = w2.heap.size := ⟨_, rfl⟩
    obtain ⟨W2, hE2⟩ : ∃ W, W = (w2.alloc (.cells #[.slice P3 a.nulls.length c3, .slice Q3 a.vals.length d3] 81)).alloc (.cells #[.slice P4 b.nulls.length c4, .slice Q4 b.vals.length d4] 81) := ⟨_, rfl⟩
    have Ca0 := Lib.hid (show W2.cell? ⟨a2, 0, none⟩ = some (.slice P3 a.nulls.length c3) by rw [hE2, ha2]; simp [go_sem])
    have Ca1 := Lib.hid (show W2.cell? ⟨a2, 1, none⟩ = some (.slice Q3 a.vals.length d3) by rw [hE2, ha2]; simp [go_sem])
    have Cb0 := Lib.hid (show W2.cell? ⟨a2 + 1, 0, none⟩ = some (.slice P4 b.nulls.length c4) by rw [hE2, ha2]; simp [go_sem])
    have Cb1 := Lib.hid (show W2.cell? ⟨a2 + 1, 1, none⟩ = some (.slice Q4 b.vals.length d4) by rw [hE2, ha2]; simp [go_sem])
    have hAl : Below w2.heap.size w2 W2 := by rw [hE2]; exact below_more (below_more (Below.refl _ _) _) _
    have hlt2 : a2 + 1 < W2.heap.size := by rw [hE2, ha2]; simp
    rw [← ha2, ← hE2]
    have Aa := Lib.hid (hVa.later hAl)
    have Ab := Lib.hid (hUb.later hAl)
    have hstep := hb.trans (hAl.mono hz)
    have HW := Lib.hid (HW.out.trans (hstep.mono HW.out.size))
    have HW1 := Lib.hid hstep
    have hzW1 := HW1.out.size
    clear hstep
    clear hAl hE2 ha2 hb hz
    clear hVa hUb hlen
    obtain ⟨is, his⟩ : ∃ r, ApplyToInstance_ok s x = r := ⟨_, rfl⟩
    obtain ⟨y, hy⟩ : ∃ r, ApplyToInstance_r0 s x = r := ⟨_, rfl⟩
    have cs0 := (HW1.out.cell (p := ⟨a1, 0, none⟩) (by show a1 < _; omega)).trans Cs0.out
    have cs1 := (HW1.out.cell (p := ⟨a1, 1, none⟩) (by show a1 < _; omega)).trans Cs1.out
    have cx0 := (HW1.out.cell (p := ⟨a1 + 1, 0, none⟩) (by show a1 + 1 < _; omega)).trans Cx0.out
    have cx1 := (HW1.out.cell (p := ⟨a1 + 1, 1, none⟩) (by show a1 + 1 < _; omega)).trans Cx1.out
    have hcon := implApplyToInstance_c _ s _ x W2 (As.out.later HW1.out) HS.out.wf (by have := HS.out.sz; omega) (Ax.out.later HW1.out) HX.out.wf (by have := HX.out.sz (by decide); omega)
    rw [his, hy] at hcon
    go_wp2_with fail
    refine hcon.mono ?_
    rintro e w3 ⟨r, rfl, hO, hsz, hb⟩
    have HZy := Lib.hid hsz
    clear hsz
    have hOa := hO.at_ (Nat.le_refl _)
    obtain ⟨P5, c5, Q5, d5, rfl⟩ := Instance_form hOa
    clear hO hcon
    have hz := hb.size
    clear cs0 cs1 cx0 cx1
    go_upto_region 6 with fail
    obtain ⟨a3, ha3⟩ : ∃ b, b = w3.heap.size := ⟨_, rfl⟩
    obtain ⟨W3, hE3⟩ : ∃ W, W = w3.alloc (.cells #[.slice P5 y.rels.length c5, .slice Q5 y.facts.length d5] 40) := ⟨_, rfl⟩
    have Cy0 := Lib.hid (show W3.cell? ⟨a3, 0, none⟩ = some (.slice P5 y.rels.length c5) by rw [hE3, ha3]; simp [go_sem])
    have Cy1 := Lib.hid (show W3.cell? ⟨a3, 1, none⟩ = some (.slice Q5 y.facts.length d5) by rw [hE3, ha3]; simp [go_sem])
    have hAl : Below w3.heap.size w3 W3 := by rw [hE3]; exact below_more (Below.refl _ _) _
    have hlt3 : a3 + 0 < W3.heap.size := by rw [hE3, ha3]; simp
    rw [← ha3, ← hE3]
    have Ay := Lib.hid (hOa.later hAl)
    have hstep := hb.trans (hAl.mono hz)
    have HW := Lib.hid (HW.out.trans (hstep.mono HW.out.size))
    have HW1 := Lib.hid (HW1.out.trans (hstep.mono HW1.out.size))
    have hzW1 := HW1.out.size
    have HW2 := Lib.hid hstep
    have hzW2 := HW2.out.size
    clear hstep
    clear hAl hE3 ha3 hb hz
    clear hOa
    have cs0 := (HW1.out.cell (p := ⟨a1, 0, none⟩) (by show a1 < _; omega)).trans Cs0.out
    have cs1 := (HW1.out.cell (p := ⟨a1, 1, none⟩) (by show a1 < _; omega)).trans Cs1.out
    have cx0 := (HW1.out.cell (p := ⟨a1 + 1, 0, none⟩) (by show a1 + 1 < _; omega)).trans Cx0.out
    have cx1 := (HW1.out.cell (p := ⟨a1 + 1, 1, none⟩) (by show a1 + 1 < _; omega)).trans Cx1.out
    have hcon := specApplyToInstance_o _ s _ x W3 (As.out.later HW1.out) HS.out.wf (by have := HS.out.sz; omega) (Ax.out.later HW1.out) HX.out.wf (by have := HX.out.sz (by decide); omega)
    rw [his, hy] at hcon
    go_wp2_with fail
    refine hcon.mono ?_
    rintro e w4 ⟨r, rfl, hO, hb⟩
    have hOa := hO.at_ (Nat.le_refl _)
    obtain ⟨P6, c6, Q6, d6, rfl⟩ := Instance_form hOa
    clear hO hcon
    have hz := hb.size
    clear cs0 cs1 cx0 cx1
    go_upto_region 7 with fail
    obtain ⟨a4, ha4⟩ : ∃ b, b = w4.heap.size := ⟨_, rfl⟩
    obtain ⟨W4, hE4⟩ : ∃ W, W = w4.alloc (.cells #[.slice P6 y.rels.length c6, .slice Q6 y.facts.length d6] 40) := ⟨_, rfl⟩
    have Cy20 := Lib.hid (show W4.cell? ⟨a4, 0, none⟩ = some (.slice P6 y.rels.length c6) by rw [hE4, ha4]; simp [go_sem])
    have Cy21 := Lib.hid (show W4.cell? ⟨a4, 1, none⟩ = some (.slice Q6 y.facts.length d6) by rw [hE4, ha4]; simp [go_sem])
    have hAl : Below w4.heap.size w4 W4 := by rw [hE4]; exact below_more (Below.refl _ _) _
    have hlt4 : a4 + 0 < W4.heap.size := by rw [hE4, ha4]; simp
    rw [← ha4, ← hE4]
    have Ay2 := Lib.hid (hOa.later hAl)
    have hstep := hb.trans (hAl.mono hz)
    have HW := Lib.hid (HW.out.trans (hstep.mono HW.out.size))
    have HW1 := Lib.hid (HW1.out.trans (hstep.mono HW1.out.size))
    have hzW1 := HW1.out.size
    have HW2 := Lib.hid (HW2.out.trans (hstep.mono HW2.out.size))
    have hzW2 := HW2.out.size
    have HW3 := Lib.hid hstep
    have hzW3 := HW3.out.size
    clear hstep
    clear hAl hE4 ha4 hb hz
    clear hOa
    obtain ⟨fine, hfi⟩ : ∃ r, Compose_ok a b = r := ⟨_, rfl⟩
    obtain ⟨z, hz⟩ : ∃ r, Compose_r0 a b = r := ⟨_, rfl⟩
    have ca0 := (HW2.out.cell (p := ⟨a2, 0, none⟩) (by show a2 < _; omega)).trans Ca0.out
    have ca1 := (HW2.out.cell (p := ⟨a2, 1, none⟩) (by show a2 < _; omega)).trans Ca1.out
    have cb0 := (HW2.out.cell (p := ⟨a2 + 1, 0, none⟩) (by show a2 + 1 < _; omega)).trans Cb0.out
    have cb1 := (HW2.out.cell (p := ⟨a2 + 1, 1, none⟩) (by show a2 + 1 < _; omega)).trans Cb1.out
    have hcon := implCompose_c _ a _ b W4 (Aa.out.later HW2.out) HSA.out.wf (by have := HSA.out.sz; omega) (Ab.out.later HW2.out) HSB.out.wf (by have := HSB.out.sz; omega)
    rw [hfi, hz] at hcon
    go_wp2_with fail
    refine hcon.mono ?_
    rintro e w5 ⟨r, rfl, hO, hsz, hb⟩
    have HZz := Lib.hid hsz
    clear hsz
    have hOa := hO.at_ (Nat.le_refl _)
    obtain ⟨P7, c7, Q7, d7, rfl⟩ := Substitution_form hOa
    clear hO hcon
    have hz := hb.size
    clear ca0 ca1 cb0 cb1
    go_upto_region 8 with fail
    obtain ⟨a5, ha5⟩ : ∃ b, b = w5.heap.size := ⟨_, rfl⟩
    obtain ⟨W5, hE5⟩ : ∃ W, W = w5.alloc (.cells #[.slice P7 z.nulls.length c7, .slice Q7 z.vals.length d7] 81) := ⟨_, rfl⟩
    have Cz0 := Lib.hid (show W5.cell? ⟨a5, 0, none⟩ = some (.slice P7 z.nulls.length c7) by rw [hE5, ha5]; simp [go_sem])
    have Cz1 := Lib.hid (show W5.cell? ⟨a5, 1, none⟩ = some (.slice Q7 z.vals.length d7) by rw [hE5, ha5]; simp [go_sem])
    have hAl : Below w5.heap.size w5 W5 := by rw [hE5]; exact below_more (Below.refl _ _) _
    have hlt5 : a5 + 0 < W5.heap.size := by rw [hE5, ha5]; simp
    rw [← ha5, ← hE5]
    have Az := Lib.hid (hOa.later hAl)
    have hstep := hb.trans (hAl.mono hz)
    have HW := Lib.hid (HW.out.trans (hstep.mono HW.out.size))
    have HW1 := Lib.hid (HW1.out.trans (hstep.mono HW1.out.size))
    have hzW1 := HW1.out.size
    have HW2 := Lib.hid (HW2.out.trans (hstep.mono HW2.out.size))
    have hzW2 := HW2.out.size
    have HW3 := Lib.hid (HW3.out.trans (hstep.mono HW3.out.size))
    have hzW3 := HW3.out.size
    have HW4 := Lib.hid hstep
    have hzW4 := HW4.out.size
    clear hstep
    clear hAl hE5 ha5 hb hz
    clear hOa
    have ca0 := (HW2.out.cell (p := ⟨a2, 0, none⟩) (by show a2 < _; omega)).trans Ca0.out
    have ca1 := (HW2.out.cell (p := ⟨a2, 1, none⟩) (by show a2 < _; omega)).trans Ca1.out
    have cb0 := (HW2.out.cell (p := ⟨a2 + 1, 0, none⟩) (by show a2 + 1 < _; omega)).trans Cb0.out
    have cb1 := (HW2.out.cell (p := ⟨a2 + 1, 1, none⟩) (by show a2 + 1 < _; omega)).trans Cb1.out
    have hcon := specCompose_o _ a _ b W5 (Aa.out.later HW2.out) HSA.out.wf (by have := HSA.out.sz; omega) (Ab.out.later HW2.out) HSB.out.wf (by have := HSB.out.sz; omega)
    rw [hfi, hz] at hcon
    go_wp2_with fail
    refine hcon.mono ?_
    rintro e w6 ⟨r, rfl, hO, hb⟩
    have hOa := hO.at_ (Nat.le_refl _)
    obtain ⟨P8, c8, Q8, d8, rfl⟩ := Substitution_form hOa
    clear hO hcon
    have hz := hb.size
    clear ca0 ca1 cb0 cb1
    go_upto_region 9 with fail
    obtain ⟨a6, ha6⟩ : ∃ b, b = w6.heap.size := ⟨_, rfl⟩
    obtain ⟨W6, hE6⟩ : ∃ W, W = w6.alloc (.cells #[.slice P8 z.nulls.length c8, .slice Q8 z.vals.length d8] 81) := ⟨_, rfl⟩
    have Cz20 := Lib.hid (show W6.cell? ⟨a6, 0, none⟩ = some (.slice P8 z.nulls.length c8) by rw [hE6, ha6]; simp [go_sem])
    have Cz21 := Lib.hid (show W6.cell? ⟨a6, 1, none⟩ = some (.slice Q8 z.vals.length d8) by rw [hE6, ha6]; simp [go_sem])
    have hAl : Below w6.heap.size w6 W6 := by rw [hE6]; exact below_more (Below.refl _ _) _
    have hlt6 : a6 + 0 < W6.heap.size := by rw [hE6, ha6]; simp
    rw [← ha6, ← hE6]
    have Az2 := Lib.hid (hOa.later hAl)
    have hstep := hb.trans (hAl.mono hz)
    have HW := Lib.hid (HW.out.trans (hstep.mono HW.out.size))
    have HW1 := Lib.hid (HW1.out.trans (hstep.mono HW1.out.size))
    have hzW1 := HW1.out.size
    have HW2 := Lib.hid (HW2.out.trans (hstep.mono HW2.out.size))
    have hzW2 := HW2.out.size
    have HW3 := Lib.hid (HW3.out.trans (hstep.mono HW3.out.size))
    have hzW3 := HW3.out.size
    have HW4 := Lib.hid (HW4.out.trans (hstep.mono HW4.out.size))
    have hzW4 := HW4.out.size
    have HW5 := Lib.hid hstep
    have hzW5 := HW5.out.size
    clear hstep
    clear hAl hE6 ha6 hb hz
    clear hOa
    have HIS := Lib.hid his
    have HY := Lib.hid hy
    have HFI := Lib.hid hfi
    have HZ := Lib.hid hz
    clear his hy hfi hz
    have Gs0 := Aft.cell (B := W6.heap.size) (w := W6) (show a1 < _ by omega) ((HW1.out.cell (p := ⟨a1, 0, none⟩) (by show a1 < _; omega)).trans Cs0.out)
    have Gs1 := Aft.cell (B := W6.heap.size) (w := W6) (show a1 < _ by omega) ((HW1.out.cell (p := ⟨a1, 1, none⟩) (by show a1 < _; omega)).trans Cs1.out)
    have Ga0 := Aft.cell (B := W6.heap.size) (w := W6) (show a2 < _ by omega) ((HW2.out.cell (p := ⟨a2, 0, none⟩) (by show a2 < _; omega)).trans Ca0.out)
    have Ga1 := Aft.cell (B := W6.heap.size) (w := W6) (show a2 < _ by omega) ((HW2.out.cell (p := ⟨a2, 1, none⟩) (by show a2 < _; omega)).trans Ca1.out)
    have Gb0 := Aft.cell (B := W6.heap.size) (w := W6) (show a2 + 1 < _ by omega) ((HW2.out.cell (p := ⟨a2 + 1, 0, none⟩) (by show a2 + 1 < _; omega)).trans Cb0.out)
    have Gb1 := Aft.cell (B := W6.heap.size) (w := W6) (show a2 + 1 < _ by omega) ((HW2.out.cell (p := ⟨a2 + 1, 1, none⟩) (by show a2 + 1 < _; omega)).trans Cb1.out)
    obtain ⟨so, hso⟩ : ∃ r, subOk s = r := ⟨_, rfl⟩
    obtain ⟨qe, hqe⟩ : ∃ r, eqSub a b = r := ⟨_, rfl⟩
    obtain ⟨fs, hfs⟩ : ∃ r : ByteArray, r = ⟨(fmtS s).toArray⟩ := ⟨_, rfl⟩
    have hVi := fun (u : Aft W6.heap.size W6) => implIsValidSub_at s so hso _ u.now (As.out.later (HW1.out.trans (u.is.mono HW1.out.size))) HS.out.wf
    have hVs := fun (u : Aft W6.heap.size W6) => specIsValidSub_at s so hso _ u.now (As.out.later (HW1.out.trans (u.is.mono HW1.out.size))) HS.out.wf
    have hFi := fun (u : Aft W6.heap.size W6) => (hfs ▸ implFormatSubstitution_any _ s u.now (As.out.later (HW1.out.trans (u.is.mono HW1.out.size))) HS.out.wf (ht.below (HW.out.trans (u.is.mono HW.out.size))) : Calls Tryz.prog 67 #[_] u.now fun e w' => e = .returned (.string fs) ∧ Below u.now.heap.size u.now w')
    have hFs := fun (u : Aft W6.heap.size W6) => (hfs ▸ specFormatSubstitution_any _ s u.now (As.out.later (HW1.out.trans (u.is.mono HW1.out.size))) HS.out.wf : Calls Tryz.prog 68 #[_] u.now fun e w' => e = .returned (.string fs) ∧ Below u.now.heap.size u.now w')
    have hEi := fun (u : Aft W6.heap.size W6) => (hqe ▸ implEqualSubstitutions_any _ _ a b u.now (Aa.out.later (HW2.out.trans (u.is.mono HW2.out.size))) (Ab.out.later (HW2.out.trans (u.is.mono HW2.out.size))) : Calls Tryz.prog 69 #[_, _] u.now fun e w' => e = .returned (.bool qe) ∧ Below u.now.heap.size u.now w')
    have hEs := fun (u : Aft W6.heap.size W6) => (hqe ▸ specEqualSubstitutions_any _ _ a b u.now (Aa.out.later (HW2.out.trans (u.is.mono HW2.out.size))) (Ab.out.later (HW2.out.trans (u.is.mono HW2.out.size))) : Calls Tryz.prog 70 #[_, _] u.now fun e w' => e = .returned (.bool qe) ∧ Below u.now.heap.size u.now w')
    refine wp_region_aft (Below.refl W6.heap.size W6) (by kernel_rfl) (by kernel_rfl) ?_
    iterate 31 (go_big_quiet_step (first | (go_at_call 65; exact calls_aft (Nat.le_refl _) (hVi _)) | (go_at_call 66; exact calls_aft (Nat.le_refl _) (hVs _)) | (go_at_call 67; exact calls_aft (Nat.le_refl _) (hFi _)) | (go_at_call 68; exact calls_aft (Nat.le_refl _) (hFs _)) | (go_at_call 69; exact calls_aft (Nat.le_refl _) (hEi _)) | (go_at_call 70; exact calls_aft (Nat.le_refl _) (hEs _))))
    refine wpQuiet_nil ?_
    refine aft_end ?_
    intro w7 hstep0
    clear hVi hVs hFi hFs hEi hEs hso hqe hfs Gs0 Gs1 Ga0 Ga1 Gb0 Gb1
    have hstep := hstep0
    have HW := Lib.hid (HW.out.trans (hstep.mono HW.out.size))
    have HW1 := Lib.hid (HW1.out.trans (hstep.mono HW1.out.size))
    have hzW1 := HW1.out.size
    have HW2 := Lib.hid (HW2.out.trans (hstep.mono HW2.out.size))
    have hzW2 := HW2.out.size
    have HW3 := Lib.hid (HW3.out.trans (hstep.mono HW3.out.size))
    have hzW3 := HW3.out.size
    have HW4 := Lib.hid (HW4.out.trans (hstep.mono HW4.out.size))
    have hzW4 := HW4.out.size
    have HW5 := Lib.hid (HW5.out.trans (hstep.mono HW5.out.size))
    have hzW5 := HW5.out.size
    have HW6 := Lib.hid hstep
    have hzW6 := HW6.out.size
    clear hstep
    clear hstep0
    go_upto_region 11 with fail
    go_cut [117] from 90 (fun t wx => t = .bool false ∧ Below w7.heap.size w7 wx)
    case first =>
      cases is with
      | false =>
        go_wp2
        go_meet
        case rel => exact ⟨rfl, Below.refl _ _⟩
      | true =>
        obtain ⟨hs1, hx1⟩ : subOk s = true ∧ instOk x = true := by
          have h := HIS.out
          unfold ApplyToInstance_ok applyI_ok at h
          simpa only [Bool.and_eq_true] using h
        have hye : applyI s x = y := HY.out
        have hyo : instOk y = true := by rw [← hye]; exact instOk_apply hs1 hx1
        have hyl : y.facts.length ≤ x.facts.length := by rw [← hye]; exact applyI_len hs1 hx1
        have hyw : Instance_wf y := by rw [← hye]; exact applyI_wf s x
        have hle : decide ((x.facts.length : Int) < (y.facts.length : Int)) = false := decide_eq_false (by omega)
        have hle2 : decide (x.facts.length < y.facts.length) = false := decide_eq_false (by omega)
        have hVy := fun (u : Aft w7.heap.size w7) => implIsValidInstance_at y true hyo _ u.now (Ay.out.later (HW3.out.trans (u.is.mono HW3.out.size))) hyw
        have hHm := fun (hm : Bool) (e : isHom x y ⟨[], []⟩ = hm) (u : Aft w7.heap.size w7) => (e ▸ implIsHomomorphism_c _ x _ y _ ⟨[], []⟩ u.now (Ax.out.later (HW1.out.trans (u.is.mono HW1.out.size))) HX.out.wf (by have := HX.out.sz (by decide); omega) (Ay.out.later (HW3.out.trans (u.is.mono HW3.out.size))) hyw HZy.out (nil_at _ _) ⟨fun i hi => absurd hi (by simp), fun i hi => absurd hi (by simp)⟩ (by decide) : Calls Tryz.prog 71 #[_, _, .agg #[.slice none 0 0, .slice none 0 0]] u.now fun e w' => e = .returned (.bool hm) ∧ Below u.now.heap.size u.now w')
        have hNx := fun (u : Aft w7.heap.size w7) => specNullsOfInstance_c _ x u.now (Ax.out.later (HW1.out.trans (u.is.mono HW1.out.size))) HX.out.wf (by have := HX.out.sz (by decide); omega)
        have hn0 := Lib.hid (fun (hhm : isHom x y ⟨[], []⟩ = false) => (beq_eq_false_iff_ne.2 (fun h0 => by
          have h1 : (nullsI x.facts).length = 0 := Int.ofNat.inj h0
          have h2 := isHom_none hs1 hx1 h1
          rw [hye, hhm] at h2
          cases h2) : (((NullsOfInstance_r0 x).length : Int) == 0) = false))
        obtain ⟨hm, hhm⟩ : ∃ r, isHom x y ⟨[], []⟩ = r := ⟨_, rfl⟩
        replace hHm := hHm hm hhm
        clear hye hyo hyl hs1 hx1
        have cy0 := ((Below.refl w7.heap.size w7).cell (p := ⟨a3, 0, none⟩) (by show a3 < _; omega)).trans ((HW3.out.cell (p := ⟨a3, 0, none⟩) (by show a3 < _; omega)).trans Cy0.out)
        have cy1 := ((Below.refl w7.heap.size w7).cell (p := ⟨a3, 1, none⟩) (by show a3 < _; omega)).trans ((HW3.out.cell (p := ⟨a3, 1, none⟩) (by show a3 < _; omega)).trans Cy1.out)
        go_wp2_with fail
        refine (hVy ⟨w7, Below.refl _ _⟩).mono ?_
        rintro e w8 ⟨rfl, hb8⟩
        replace hb8 : Below w7.heap.size w7 w8 := hb8
        have hz8 := hb8.size
        clear cy0 cy1
        have cx0 := (hb8.cell (p := ⟨a1 + 1, 0, none⟩) (by show a1 + 1 < _; omega)).trans ((HW1.out.cell (p := ⟨a1 + 1, 0, none⟩) (by show a1 + 1 < _; omega)).trans Cx0.out)
        have cx1 := (hb8.cell (p := ⟨a1 + 1, 1, none⟩) (by show a1 + 1 < _; omega)).trans ((HW1.out.cell (p := ⟨a1 + 1, 1, none⟩) (by show a1 + 1 < _; omega)).trans Cx1.out)
        have cy0 := (hb8.cell (p := ⟨a3, 0, none⟩) (by show a3 < _; omega)).trans ((HW3.out.cell (p := ⟨a3, 0, none⟩) (by show a3 < _; omega)).trans Cy0.out)
        have cy1 := (hb8.cell (p := ⟨a3, 1, none⟩) (by show a3 < _; omega)).trans ((HW3.out.cell (p := ⟨a3, 1, none⟩) (by show a3 < _; omega)).trans Cy1.out)
        go_wp2_with fail
        refine (hHm ⟨w8, hb8⟩).mono ?_
        rintro e w9 ⟨rfl, hb9⟩
        replace hb9 : Below w8.heap.size w8 w9 := hb9
        have hb9' := hb8.trans (hb9.mono hz8)
        have hz9 := hb9'.size
        clear cx0 cx1 cy0 cy1
        cases hm with
        | true =>
          go_wp2
          go_meet
          case rel => exact ⟨rfl, hb9'⟩
        | false =>
          replace hn0 := hn0.out hhm
          have cx0 := (hb9'.cell (p := ⟨a1 + 1, 0, none⟩) (by show a1 + 1 < _; omega)).trans ((HW1.out.cell (p := ⟨a1 + 1, 0, none⟩) (by show a1 + 1 < _; omega)).trans Cx0.out)
          have cx1 := (hb9'.cell (p := ⟨a1 + 1, 1, none⟩) (by show a1 + 1 < _; omega)).trans ((HW1.out.cell (p := ⟨a1 + 1, 1, none⟩) (by show a1 + 1 < _; omega)).trans Cx1.out)
          go_wp2_with fail
          refine (hNx ⟨w9, hb9'⟩).mono ?_
          rintro e w10 ⟨un, rfl, hOn, hb10⟩
          replace hb10 : Below w9.heap.size w9 w10 := hb10
          obtain ⟨Pn, cn, rfl, -⟩ := id hOn
          go_wp2
          go_meet
          case rel => exact ⟨rfl, hb9'.trans (hb10.mono hz9)⟩
    case rest =>
      obtain ⟨rfl, hbc⟩ := hcut
      have hstep := hbc
      have HW := Lib.hid (HW.out.trans (hstep.mono HW.out.size))
      have HW1 := Lib.hid (HW1.out.trans (hstep.mono HW1.out.size))
      have hzW1 := HW1.out.size
      have HW2 := Lib.hid (HW2.out.trans (hstep.mono HW2.out.size))
      have hzW2 := HW2.out.size
      have HW3 := Lib.hid (HW3.out.trans (hstep.mono HW3.out.size))
      have hzW3 := HW3.out.size
      have HW4 := Lib.hid (HW4.out.trans (hstep.mono HW4.out.size))
      have hzW4 := HW4.out.size
      have HW5 := Lib.hid (HW5.out.trans (hstep.mono HW5.out.size))
      have hzW5 := HW5.out.size
      have HW6 := Lib.hid (HW6.out.trans (hstep.mono HW6.out.size))
      have hzW6 := HW6.out.size
      have Hw7 := Lib.hid hstep
      have hzw7 := Hw7.out.size
      clear hstep
      clear hbc
      cases fine with
      | false =>
        go_wp2
        go_ret
        exact ⟨rfl, HW.out⟩
      | true =>
        obtain ⟨vx, hvx⟩ : ∃ q, instOk x = q := ⟨_, rfl⟩
        have cx0 := (HW1.out.cell (p := ⟨a1 + 1, 0, none⟩) (by show a1 + 1 < _; omega)).trans Cx0.out
        have cx1 := (HW1.out.cell (p := ⟨a1 + 1, 1, none⟩) (by show a1 + 1 < _; omega)).trans Cx1.out
        have hiv := specIsValidInstance_at x vx hvx _ wc (Ax.out.later HW1.out) HX.out.wf (by have := HX.out.sz (by decide); omega)
        cases vx with
        | false =>
          go_wp2_with (go_at_call 25; refine hiv.mono ?_; rintro e w8 ⟨rfl, hb8⟩)
          go_ret
          exact ⟨rfl, HW.out.trans (hb8.mono HW.out.size)⟩
        | true =>
          go_wp2_with fail
          refine hiv.mono ?_
          rintro e w8 ⟨rfl, hb8⟩
          clear hiv
          clear cx0 cx1
          have hstep := hb8
          have HW := Lib.hid (HW.out.trans (hstep.mono HW.out.size))
          have HW1 := Lib.hid (HW1.out.trans (hstep.mono HW1.out.size))
          have hzW1 := HW1.out.size
          have HW2 := Lib.hid (HW2.out.trans (hstep.mono HW2.out.size))
          have hzW2 := HW2.out.size
          have HW3 := Lib.hid (HW3.out.trans (hstep.mono HW3.out.size))
          have hzW3 := HW3.out.size
          have HW4 := Lib.hid (HW4.out.trans (hstep.mono HW4.out.size))
          have hzW4 := HW4.out.size
          have HW5 := Lib.hid (HW5.out.trans (hstep.mono HW5.out.size))
          have hzW5 := HW5.out.size
          have HW6 := Lib.hid (HW6.out.trans (hstep.mono HW6.out.size))
          have hzW6 := HW6.out.size
          have Hw7 := Lib.hid (Hw7.out.trans (hstep.mono Hw7.out.size))
          have hzw7 := Hw7.out.size
          have Hwc := Lib.hid hstep
          have hzwc := Hwc.out.size
          clear hstep
          clear hb8
          have ca0 := (HW2.out.cell (p := ⟨a2, 0, none⟩) (by show a2 < _; omega)).trans Ca0.out
          have ca1 := (HW2.out.cell (p := ⟨a2, 1, none⟩) (by show a2 < _; omega)).trans Ca1.out
          have cx0 := (HW1.out.cell (p := ⟨a1 + 1, 0, none⟩) (by show a1 + 1 < _; omega)).trans Cx0.out
          have cx1 := (HW1.out.cell (p := ⟨a1 + 1, 1, none⟩) (by show a1 + 1 < _; omega)).trans Cx1.out
          obtain ⟨k11, hk11⟩ : ∃ r, ApplyToInstance_ok a x = r := ⟨_, rfl⟩
          obtain ⟨p1, hp1⟩ : ∃ r, ApplyToInstance_r0 a x = r := ⟨_, rfl⟩
          have hcon := implApplyToInstance_c _ a _ x w8 (Aa.out.later HW2.out) HSA.out.wf (by have := HSA.out.sz; omega) (Ax.out.later HW1.out) HX.out.wf (by have := HX.out.sz (by decide); omega)
          rw [hk11, hp1] at hcon
          go_wp2_with fail
          refine hcon.mono ?_
          rintro e w9 ⟨r, rfl, hO, hsz, hb⟩
          have HZp1 := Lib.hid hsz
          clear hsz
          have hOa := hO.at_ (Nat.le_refl _)
          obtain ⟨P11, c11, Q11, d11, rfl⟩ := Instance_form hOa
          clear hO hcon
          have hz := hb.size
          clear ca0 ca1 cx0 cx1
          go_upto_region 16 with fail
          obtain ⟨a7, ha7⟩ : ∃ b, b = w9.heap.size := ⟨_, rfl⟩
          obtain ⟨W7, hE7⟩ : ∃ W, W = w9.alloc (.cells #[.slice P11 p1.rels.length c11, .slice Q11 p1.facts.length d11] 40) := ⟨_, rfl⟩
          have Cp10 := Lib.hid (show W7.cell? ⟨a7, 0, none⟩ = some (.slice P11 p1.rels.length c11) by rw [hE7, ha7]; simp [go_sem])
          have Cp11 := Lib.hid (show W7.cell? ⟨a7, 1, none⟩ = some (.slice Q11 p1.facts.length d11) by rw [hE7, ha7]; simp [go_sem])
          have hAl : Below w9.heap.size w9 W7 := by rw [hE7]; exact below_more (Below.refl _ _) _
          have hlt7 : a7 + 0 < W7.heap.size := by rw [hE7, ha7]; simp
          rw [← ha7, ← hE7]
          have Ap1 := Lib.hid (hOa.later hAl)
          have hstep := hb.trans (hAl.mono hz)
          have HW := Lib.hid (HW.out.trans (hstep.mono HW.out.size))
          have HW1 := Lib.hid (HW1.out.trans (hstep.mono HW1.out.size))
          have hzW1 := HW1.out.size
          have HW2 := Lib.hid (HW2.out.trans (hstep.mono HW2.out.size))
          have hzW2 := HW2.out.size
          have HW3 := Lib.hid (HW3.out.trans (hstep.mono HW3.out.size))
          have hzW3 := HW3.out.size
          have HW4 := Lib.hid (HW4.out.trans (hstep.mono HW4.out.size))
          have hzW4 := HW4.out.size
          have HW5 := Lib.hid (HW5.out.trans (hstep.mono HW5.out.size))
          have hzW5 := HW5.out.size
          have HW6 := Lib.hid (HW6.out.trans (hstep.mono HW6.out.size))
          have hzW6 := HW6.out.size
          have Hw7 := Lib.hid (Hw7.out.trans (hstep.mono Hw7.out.size))
          have hzw7 := Hw7.out.size
          have Hwc := Lib.hid (Hwc.out.trans (hstep.mono Hwc.out.size))
          have hzwc := Hwc.out.size
          have Hw8 := Lib.hid hstep
          have hzw8 := Hw8.out.size
          clear hstep
          clear hAl hE7 ha7 hb hz
          clear hOa
          have hwp1 : Instance_wf p1 := by rw [← hp1]; exact applyI_wf _ _
          have cb0 := (HW2.out.cell (p := ⟨a2 + 1, 0, none⟩) (by show a2 + 1 < _; omega)).trans Cb0.out
          have cb1 := (HW2.out.cell (p := ⟨a2 + 1, 1, none⟩) (by show a2 + 1 < _; omega)).trans Cb1.out
          have cp10 := Cp10.out
          have cp11 := Cp11.out
          obtain ⟨k12, hk12⟩ : ∃ r, ApplyToInstance_ok b p1 = r := ⟨_, rfl⟩
          obtain ⟨q1, hq1⟩ : ∃ r, ApplyToInstance_r0 b p1 = r := ⟨_, rfl⟩
          have hcon := implApplyToInstance_c _ b _ p1 W7 (Ab.out.later HW2.out) HSB.out.wf (by have := HSB.out.sz; omega) Ap1.out hwp1 HZp1.out
          rw [hk12, hq1] at hcon
          go_wp2_with fail
          refine hcon.mono ?_
          rintro e w10 ⟨r, rfl, hO, hsz, hb⟩
          have HZq1 := Lib.hid hsz
          clear hsz
          have hOa := hO.at_ (Nat.le_refl _)
          obtain ⟨P12, c12, Q12, d12, rfl⟩ := Instance_form hOa
          clear hO hcon
          have hz := hb.size
          clear cb0 cb1 cp10 cp11
          go_upto_region 17 with fail
          obtain ⟨a8, ha8⟩ : ∃ b, b = w10.heap.size := ⟨_, rfl⟩
          obtain ⟨W8, hE8⟩ : ∃ W, W = w10.alloc (.cells #[.slice P12 q1.rels.length c12, .slice Q12 q1.facts.length d12] 40) := ⟨_, rfl⟩
          have Cq10 := Lib.hid (show W8.cell? ⟨a8, 0, none⟩ = some (.slice P12 q1.rels.length c12) by rw [hE8, ha8]; simp [go_sem])
          have Cq11 := Lib.hid (show W8.cell? ⟨a8, 1, none⟩ = some (.slice Q12 q1.facts.length d12) by rw [hE8, ha8]; simp [go_sem])
          have hAl : Below w10.heap.size w10 W8 := by rw [hE8]; exact below_more (Below.refl _ _) _
          have hlt8 : a8 + 0 < W8.heap.size := by rw [hE8, ha8]; simp
          rw [← ha8, ← hE8]
          have Aq1 := Lib.hid (hOa.later hAl)
          have hstep := hb.trans (hAl.mono hz)
          have HW := Lib.hid (HW.out.trans (hstep.mono HW.out.size))
          have HW1 := Lib.hid (HW1.out.trans (hstep.mono HW1.out.size))
          have hzW1 := HW1.out.size
          have HW2 := Lib.hid (HW2.out.trans (hstep.mono HW2.out.size))
          have hzW2 := HW2.out.size
          have HW3 := Lib.hid (HW3.out.trans (hstep.mono HW3.out.size))
          have hzW3 := HW3.out.size
          have HW4 := Lib.hid (HW4.out.trans (hstep.mono HW4.out.size))
          have hzW4 := HW4.out.size
          have HW5 := Lib.hid (HW5.out.trans (hstep.mono HW5.out.size))
          have hzW5 := HW5.out.size
          have HW6 := Lib.hid (HW6.out.trans (hstep.mono HW6.out.size))
          have hzW6 := HW6.out.size
          have Hw7 := Lib.hid (Hw7.out.trans (hstep.mono Hw7.out.size))
          have hzw7 := Hw7.out.size
          have Hwc := Lib.hid (Hwc.out.trans (hstep.mono Hwc.out.size))
          have hzwc := Hwc.out.size
          have Hw8 := Lib.hid (Hw8.out.trans (hstep.mono Hw8.out.size))
          have hzw8 := Hw8.out.size
          have HW7 := Lib.hid hstep
          have hzW7 := HW7.out.size
          clear hstep
          clear hAl hE8 ha8 hb hz
          clear hOa
          have hwq1 : Instance_wf q1 := by rw [← hq1]; exact applyI_wf _ _
          have cz0 := (HW5.out.cell (p := ⟨a5, 0, none⟩) (by show a5 < _; omega)).trans Cz0.out
          have cz1 := (HW5.out.cell (p := ⟨a5, 1, none⟩) (by show a5 < _; omega)).trans Cz1.out
          have cx0 := (HW1.out.cell (p := ⟨a1 + 1, 0, none⟩) (by show a1 + 1 < _; omega)).trans Cx0.out
          have cx1 := (HW1.out.cell (p := ⟨a1 + 1, 1, none⟩) (by show a1 + 1 < _; omega)).trans Cx1.out
          obtain ⟨k13, hk13⟩ : ∃ r, ApplyToInstance_ok z x = r := ⟨_, rfl⟩
          obtain ⟨r1, hr1⟩ : ∃ r, ApplyToInstance_r0 z x = r := ⟨_, rfl⟩
          have hcon := implApplyToInstance_c _ z _ x W8 (Az.out.later HW5.out) (HZ.out ▸ comp_wf a b) HZz.out (Ax.out.later HW1.out) HX.out.wf (by have := HX.out.sz (by decide); omega)
          rw [hk13, hr1] at hcon
          go_wp2_with fail
          refine hcon.mono ?_
          rintro e w11 ⟨r, rfl, hO, hsz, hb⟩
          have HZr1 := Lib.hid hsz
          clear hsz
          have hOa := hO.at_ (Nat.le_refl _)
          obtain ⟨P13, c13, Q13, d13, rfl⟩ := Instance_form hOa
          clear hO hcon
          have hz := hb.size
          clear cz0 cz1 cx0 cx1
          go_upto_region 18 with fail
          obtain ⟨a9, ha9⟩ : ∃ b, b = w11.heap.size := ⟨_, rfl⟩
          obtain ⟨W9, hE9⟩ : ∃ W, W = w11.alloc (.cells #[.slice P13 r1.rels.length c13, .slice Q13 r1.facts.length d13] 40) := ⟨_, rfl⟩
          have Cr10 := Lib.hid (show W9.cell? ⟨a9, 0, none⟩ = some (.slice P13 r1.rels.length c13) by rw [hE9, ha9]; simp [go_sem])
          have Cr11 := Lib.hid (show W9.cell? ⟨a9, 1, none⟩ = some (.slice Q13 r1.facts.length d13) by rw [hE9, ha9]; simp [go_sem])
          have hAl : Below w11.heap.size w11 W9 := by rw [hE9]; exact below_more (Below.refl _ _) _
          have hlt9 : a9 + 0 < W9.heap.size := by rw [hE9, ha9]; simp
          rw [← ha9, ← hE9]
          have Ar1 := Lib.hid (hOa.later hAl)
          have hstep := hb.trans (hAl.mono hz)
          have HW := Lib.hid (HW.out.trans (hstep.mono HW.out.size))
          have HW1 := Lib.hid (HW1.out.trans (hstep.mono HW1.out.size))
          have hzW1 := HW1.out.size
          have HW2 := Lib.hid (HW2.out.trans (hstep.mono HW2.out.size))
          have hzW2 := HW2.out.size
          have HW3 := Lib.hid (HW3.out.trans (hstep.mono HW3.out.size))
          have hzW3 := HW3.out.size
          have HW4 := Lib.hid (HW4.out.trans (hstep.mono HW4.out.size))
          have hzW4 := HW4.out.size
          have HW5 := Lib.hid (HW5.out.trans (hstep.mono HW5.out.size))
          have hzW5 := HW5.out.size
          have HW6 := Lib.hid (HW6.out.trans (hstep.mono HW6.out.size))
          have hzW6 := HW6.out.size
          have Hw7 := Lib.hid (Hw7.out.trans (hstep.mono Hw7.out.size))
          have hzw7 := Hw7.out.size
          have Hwc := Lib.hid (Hwc.out.trans (hstep.mono Hwc.out.size))
          have hzwc := Hwc.out.size
          have Hw8 := Lib.hid (Hw8.out.trans (hstep.mono Hw8.out.size))
          have hzw8 := Hw8.out.size
          have HW7 := Lib.hid (HW7.out.trans (hstep.mono HW7.out.size))
          have hzW7 := HW7.out.size
          have HW8 := Lib.hid hstep
          have hzW8 := HW8.out.size
          clear hstep
          clear hAl hE9 ha9 hb hz
          clear hOa
          have hwr1 : Instance_wf r1 := by rw [← hr1]; exact applyI_wf _ _
          have cx0 := (HW1.out.cell (p := ⟨a1 + 1, 0, none⟩) (by show a1 + 1 < _; omega)).trans Cx0.out
          have cx1 := (HW1.out.cell (p := ⟨a1 + 1, 1, none⟩) (by show a1 + 1 < _; omega)).trans Cx1.out
          obtain ⟨k14, hk14⟩ : ∃ r, ApplyToInstance_ok ⟨[], []⟩ x = r := ⟨_, rfl⟩
          obtain ⟨z1, hz1⟩ : ∃ r, ApplyToInstance_r0 ⟨[], []⟩ x = r := ⟨_, rfl⟩
          have hcon := implApplyToInstance_c _ ⟨[], []⟩ _ x W9 (nil_at _ _) ⟨fun i hi => absurd hi (by simp), fun i hi => absurd hi (by simp)⟩ (by decide) (Ax.out.later HW1.out) HX.out.wf (by have := HX.out.sz (by decide); omega)
          rw [hk14, hz1] at hcon
          go_wp2_with fail
          refine hcon.mono ?_
          rintro e w12 ⟨r, rfl, hO, hsz, hb⟩
          have HZz1 := Lib.hid hsz
          clear hsz
          have hOa := hO.at_ (Nat.le_refl _)
          obtain ⟨P14, c14, Q14, d14, rfl⟩ := Instance_form hOa
          clear hO hcon
          have hz := hb.size
          clear cx0 cx1
          go_upto_region 19 with fail
          obtain ⟨a10, ha10⟩ : ∃ b, b = w12.heap.size := ⟨_, rfl⟩
          obtain ⟨W10, hE10⟩ : ∃ W, W = w12.alloc (.cells #[.slice P14 z1.rels.length c14, .slice Q14 z1.facts.length d14] 40) := ⟨_, rfl⟩
          have Cz10 := Lib.hid (show W10.cell? ⟨a10, 0, none⟩ = some (.slice P14 z1.rels.length c14) by rw [hE10, ha10]; simp [go_sem])
          have Cz11 := Lib.hid (show W10.cell? ⟨a10, 1, none⟩ = some (.slice Q14 z1.facts.length d14) by rw [hE10, ha10]; simp [go_sem])
          have hAl : Below w12.heap.size w12 W10 := by rw [hE10]; exact below_more (Below.refl _ _) _
          have hlt10 : a10 + 0 < W10.heap.size := by rw [hE10, ha10]; simp
          rw [← ha10, ← hE10]
          have Az1 := Lib.hid (hOa.later hAl)
          have hstep := hb.trans (hAl.mono hz)
          have HW := Lib.hid (HW.out.trans (hstep.mono HW.out.size))
          have HW1 := Lib.hid (HW1.out.trans (hstep.mono HW1.out.size))
          have hzW1 := HW1.out.size
          have HW2 := Lib.hid (HW2.out.trans (hstep.mono HW2.out.size))
          have hzW2 := HW2.out.size
          have HW3 := Lib.hid (HW3.out.trans (hstep.mono HW3.out.size))
          have hzW3 := HW3.out.size
          have HW4 := Lib.hid (HW4.out.trans (hstep.mono HW4.out.size))
          have hzW4 := HW4.out.size
          have HW5 := Lib.hid (HW5.out.trans (hstep.mono HW5.out.size))
          have hzW5 := HW5.out.size
          have HW6 := Lib.hid (HW6.out.trans (hstep.mono HW6.out.size))
          have hzW6 := HW6.out.size
          have Hw7 := Lib.hid (Hw7.out.trans (hstep.mono Hw7.out.size))
          have hzw7 := Hw7.out.size
          have Hwc := Lib.hid (Hwc.out.trans (hstep.mono Hwc.out.size))
          have hzwc := Hwc.out.size
          have Hw8 := Lib.hid (Hw8.out.trans (hstep.mono Hw8.out.size))
          have hzw8 := Hw8.out.size
          have HW7 := Lib.hid (HW7.out.trans (hstep.mono HW7.out.size))
          have hzW7 := HW7.out.size
          have HW8 := Lib.hid (HW8.out.trans (hstep.mono HW8.out.size))
          have hzW8 := HW8.out.size
          have HW9 := Lib.hid hstep
          have hzW9 := HW9.out.size
          clear hstep
          clear hAl hE10 ha10 hb hz
          clear hOa
          have hwz1 : Instance_wf z1 := by rw [← hz1]; exact applyI_wf _ _
          have hcOk : composeOk a b = true := HFI.out
          have hcz : composeS a b = z := HZ.out
          have hp1' : applyI a x = p1 := hp1
          have hq1' : applyI b p1 = q1 := hq1
          have hr1' : applyI z x = r1 := hr1
          have hz1' : applyI ⟨[], []⟩ x = z1 := hz1
          have E1 := Lib.hid (show eqInst q1 r1 = true by rw [← hq1', ← hp1', ← hr1', ← hcz, comp_applyI hcOk hvx]; exact eqInst_same _)
          have E2 := Lib.hid (show eqInst z1 x = true by rw [← hz1', applyI_nil hvx]; exact eqInst_same _)
          have cq10 := (HW8.out.cell (p := ⟨a8, 0, none⟩) (by show a8 < _; omega)).trans Cq10.out
          have cq11 := (HW8.out.cell (p := ⟨a8, 1, none⟩) (by show a8 < _; omega)).trans Cq11.out
          have cr10 := (HW9.out.cell (p := ⟨a9, 0, none⟩) (by show a9 < _; omega)).trans Cr10.out
          have cr11 := (HW9.out.cell (p := ⟨a9, 1, none⟩) (by show a9 < _; omega)).trans Cr11.out
          have he1 := specEqInst_at5 q1 r1 true E1.out _ _ W10 (Aq1.out.later HW8.out) (Ar1.out.later HW9.out)
          go_wp2_with fail
          refine he1.mono ?_
          rintro e w13 ⟨rfl, hb13⟩
          clear he1
          clear cq10 cq11 cr10 cr11
          have hstep := hb13
          have HW := Lib.hid (HW.out.trans (hstep.mono HW.out.size))
          have HW1 := Lib.hid (HW1.out.trans (hstep.mono HW1.out.size))
          have hzW1 := HW1.out.size
          have HW2 := Lib.hid (HW2.out.trans (hstep.mono HW2.out.size))
          have hzW2 := HW2.out.size
          have HW3 := Lib.hid (HW3.out.trans (hstep.mono HW3.out.size))
          have hzW3 := HW3.out.size
          have HW4 := Lib.hid (HW4.out.trans (hstep.mono HW4.out.size))
          have hzW4 := HW4.out.size
          have HW5 := Lib.hid (HW5.out.trans (hstep.mono HW5.out.size))
          have hzW5 := HW5.out.size
          have HW6 := Lib.hid (HW6.out.trans (hstep.mono HW6.out.size))
          have hzW6 := HW6.out.size
          have Hw7 := Lib.hid (Hw7.out.trans (hstep.mono Hw7.out.size))
          have hzw7 := Hw7.out.size
          have Hwc := Lib.hid (Hwc.out.trans (hstep.mono Hwc.out.size))
          have hzwc := Hwc.out.size
          have Hw8 := Lib.hid (Hw8.out.trans (hstep.mono Hw8.out.size))
          have hzw8 := Hw8.out.size
          have HW7 := Lib.hid (HW7.out.trans (hstep.mono HW7.out.size))
          have hzW7 := HW7.out.size
          have HW8 := Lib.hid (HW8.out.trans (hstep.mono HW8.out.size))
          have hzW8 := HW8.out.size
          have HW9 := Lib.hid (HW9.out.trans (hstep.mono HW9.out.size))
          have hzW9 := HW9.out.size
          have HW10 := Lib.hid hstep
          have hzW10 := HW10.out.size
          clear hstep
          clear hb13
          have cz10 := (HW10.out.cell (p := ⟨a10, 0, none⟩) (by show a10 < _; omega)).trans Cz10.out
          have cz11 := (HW10.out.cell (p := ⟨a10, 1, none⟩) (by show a10 < _; omega)).trans Cz11.out
          have cx0 := (HW1.out.cell (p := ⟨a1 + 1, 0, none⟩) (by show a1 + 1 < _; omega)).trans Cx0.out
          have cx1 := (HW1.out.cell (p := ⟨a1 + 1, 1, none⟩) (by show a1 + 1 < _; omega)).trans Cx1.out
          have he2 := specEqInst_at5 z1 x true E2.out _ _ w13 (Az1.out.later HW10.out) (Ax.out.later HW1.out)
          go_wp2_with fail
          refine he2.mono ?_
          rintro e w14 ⟨rfl, hb14⟩
          go_wp2
          go_ret
          exact ⟨rfl, HW.out.trans (hb14.mono HW.out.size)⟩

end Go.Proofs.YtmecdjincmkofaaGreatDoor
