/-
  Walks and plain lemmas for the laws of this seat: what single Go functions return, for every argument.
-/
import Derived.Test.YtoapphgahmofhaaGreatTyAtom
import Derived.Test.YtoapphgahmofhaaGreatTySS
import Derived.Test.YtoapphgahmofhaaGreatTrigM
import Derived.Test.YtoapphgahmofhaaGreatExtI
import Derived.Test.YtoapphgahmofhaaGreatCanI
import Derived.Test.YtoapphgahmofhaaGreatVarsI
import Derived.Test.YtoapphgahmofhaaGreatSideI
namespace Go.Proofs.YtoapphgahmofhaaGreat
open Go.RowKit

theorem head_split (l : List Rel) (ts : List Atm) : ts.all (headB l) = (ts.all (atomB l) && !(ts.any fun f => srcAt l f.rel)) := by
  induction ts with
  | nil => rfl
  | cons a t ih =>
    rw [List.all_cons, List.all_cons, List.any_cons, ih]
    unfold headB
    cases atomB l a <;> cases srcAt l a.rel <;> cases t.all (atomB l) <;> simp
theorem depOk_is (l : List Rel) (x : Dep) : depOk l x = (sideOk l x.body && (if x.egd then egdOk x else ((x.left == 0) && (x.right == 0)) && (sideOk l x.head && !(x.head.any fun f => srcAt l f.rel)))) := by
  unfold depOk sideOk egdOk
  rw [head_split]
  generalize x.body.all (atomB l) = p
  generalize x.head.all (atomB l) = r
  generalize (x.head.any fun f => srcAt l f.rel) = s
  generalize inB (x.body.length : Nat) 1 2 = a
  generalize inB (x.head.length : Nat) 1 2 = h
  generalize (x.left == 0) = e0
  generalize (x.right == 0) = e1
  cases x.egd
  · cases a <;> cases p <;> cases r <;> cases s <;> cases h <;> cases e0 <;> cases e1 <;> rfl
  · cases a <;> cases p <;> rfl
theorem side_rel {l : List Rel} {ts : List Atm} (h : sideOk l ts = true) : ∀ f ∈ ts, 0 ≤ f.rel ∧ f.rel < l.length := by
  unfold sideOk at h
  rw [Bool.and_eq_true, List.all_eq_true] at h
  intro f hf
  have := h.2 f hf
  exact (atomOk_parts this).2.1
theorem side_small {l : List Rel} {ts : List Atm} (h : sideOk l ts = true) : AtomS_sz ts ≤ 1048576 := by
  unfold sideOk at h
  rw [Bool.and_eq_true] at h
  have h1 := h.1
  unfold inB at h1
  have h1 := of_decide_eq_true h1
  have := side_sz h.2 (by omega)
  omega
set_option maxHeartbeats 3200000 in
set_option maxRecDepth 100000 in
theorem implIsValidDependency_z (l : List Rel) (x : Dep) (q : Bool) (hq : depOk l x = q) (v u : Value) (w : World) (hl : RelsAt w w.heap.size v l) (h : Dependency_at w w.heap.size u x) :
    Calls Tryz.prog 33 #[v, u] w fun e w' => e = .returned (.bool q) ∧ Below w.heap.size w w' := by
  subst hq
  have HL := Lib.hid hl
  obtain ⟨A, a0, rfl, hlc, hcm, -⟩ := hl
  obtain ⟨P, c, Q, d, rfl⟩ := Dependency_form h
  obtain ⟨V1, V2, hv, hR, hF⟩ := h
  simp only [Value.agg.injEq, Array.mk.injEq, List.cons.injEq, and_true] at hv
  obtain ⟨rfl, rfl⟩ := hv
  have hE : Below w.heap.size w (w.alloc (.cells #[.slice P x.body.length c, .slice Q x.head.length d, .bool x.egd, .int .i64 x.left, .int .i64 x.right] 30)) := below_more (Below.refl _ _) _
  have hEz : w.heap.size < (w.alloc (.cells #[.slice P x.body.length c, .slice Q x.head.length d, .bool x.egd, .int .i64 x.left, .int .i64 x.right] 30)).heap.size := by simp
  have K0 := Lib.hid (show (w.alloc (.cells #[.slice P x.body.length c, .slice Q x.head.length d, .bool x.egd, .int .i64 x.left, .int .i64 x.right] 30)).cell? ⟨w.heap.size, 0, none⟩ = some (.slice P x.body.length c) by simp [go_sem])
  have K1 := Lib.hid (show (w.alloc (.cells #[.slice P x.body.length c, .slice Q x.head.length d, .bool x.egd, .int .i64 x.left, .int .i64 x.right] 30)).cell? ⟨w.heap.size, 1, none⟩ = some (.slice Q x.head.length d) by simp [go_sem])
  have K2 := Lib.hid (show (w.alloc (.cells #[.slice P x.body.length c, .slice Q x.head.length d, .bool x.egd, .int .i64 x.left, .int .i64 x.right] 30)).cell? ⟨w.heap.size, 2, none⟩ = some (.bool x.egd) by simp [go_sem])
  have K3 := Lib.hid (show (w.alloc (.cells #[.slice P x.body.length c, .slice Q x.head.length d, .bool x.egd, .int .i64 x.left, .int .i64 x.right] 30)).cell? ⟨w.heap.size, 3, none⟩ = some (.int .i64 x.left) by simp [go_sem])
  have K4 := Lib.hid (show (w.alloc (.cells #[.slice P x.body.length c, .slice Q x.head.length d, .bool x.egd, .int .i64 x.left, .int .i64 x.right] 30)).cell? ⟨w.heap.size, 4, none⟩ = some (.int .i64 x.right) by simp [go_sem])
  have HR := Lib.hid hR
  have HF := Lib.hid hF
  clear hR hF
  have HD := Lib.hid (depOk_is l x)
  have cs := fun (q : Bool) (hq : sideOk l x.body = q) => implSide_at l x.body q hq (.slice A l.length a0) (.slice P x.body.length c) (w.alloc (.cells #[.slice P x.body.length c, .slice Q x.head.length d, .bool x.egd, .int .i64 x.left, .int .i64 x.right] 30)) ((HL.out.below hE (Nat.le_refl _)).more hE.size) ((HR.out.below hE (Nat.le_refl _)).more hE.size)
  have ch := fun (q : Bool) (hq : sideOk l x.head = q) (W : World) (hW : Below w.heap.size w W) => implSide_at l x.head q hq (.slice A l.length a0) (.slice Q x.head.length d) W ((HL.out.below hW (Nat.le_refl _)).more hW.size) ((HF.out.below hW (Nat.le_refl _)).more hW.size)
  have cr := fun (q : Bool) (hq : (x.head.any fun f => srcAt l f.rel) = q) (hin : ∀ f ∈ x.head, 0 ≤ f.rel ∧ f.rel < l.length) (W : World) (hW : Below w.heap.size w W) => implHasSource_at l x.head q hq hin (.slice A l.length a0) (.slice Q x.head.length d) W ((HL.out.below hW (Nat.le_refl _)).more hW.size) ((HF.out.below hW (Nat.le_refl _)).more hW.size)
  have ce := fun (q : Bool) (hq : egdOk x = q) (hg : x.egd = true) (hz : AtomS_sz x.body ≤ 1048576) (W : World) (hW : Below w.heap.size w W) => implEquality_at x q hq (.agg #[.slice P x.body.length c, .slice Q x.head.length d, .bool true, .int .i64 x.left, .int .i64 x.right]) W ⟨_, _, by rw [hg], (HR.out.below hW (Nat.le_refl _)).more hW.size, (HF.out.below hW (Nat.le_refl _)).more hW.size⟩ hz
  cases h1 : sideOk l x.body with
  | false =>
    have HV := Lib.hid (HD.out.trans (by rw [h1]; rfl : _ = false))
    replace cs := cs false h1
    clear h1 ch cr ce
    go_enter Tryz.func33, Tryz.ntmps33
    go_wp2_with fail
    refine cs.mono ?_
    rintro e w1 ⟨rfl, hb1⟩
    have hW1 := hE.trans (hb1.mono hE.size)
    clear cs
    go_wp2
    go_ret
    exact ⟨ret_bool HV.out.symm, hW1⟩
  | true =>
    replace cs := cs true h1
    cases hg : x.egd with
    | true =>
      have HV := Lib.hid (HD.out.trans (by rw [h1, hg]; rfl : _ = egdOk x))
      replace ce := ce _ rfl hg (side_small h1)
      have HG := Lib.hid hg
      rw [hg] at cs K2 hE hEz K0 K1 K3 K4
      clear h1 ch cr hg
      go_enter Tryz.func33, Tryz.ntmps33
      go_wp2_with fail
      refine cs.mono ?_
      rintro e w1 ⟨rfl, hb1⟩
      have hW1 := hE.trans (hb1.mono hE.size)
      have f0 := (hb1.cell (p := ⟨w.heap.size, 0, none⟩) hEz).trans K0.out
      have f1 := (hb1.cell (p := ⟨w.heap.size, 1, none⟩) hEz).trans K1.out
      have f2 := (hb1.cell (p := ⟨w.heap.size, 2, none⟩) hEz).trans K2.out
      have f3 := (hb1.cell (p := ⟨w.heap.size, 3, none⟩) hEz).trans K3.out
      have f4 := (hb1.cell (p := ⟨w.heap.size, 4, none⟩) hEz).trans K4.out
      replace ce := ce w1 hW1
      clear cs
      go_wp2_with (go_at_call 68; refine ce.mono ?_; rintro e w2 ⟨rfl, hb2⟩)
      go_ret
      exact ⟨ret_bool HV.out.symm, hW1.trans (hb2.mono hW1.size)⟩
    | false =>
      rw [hg] at cs K2 hE hEz K0 K1 K3 K4
      have HG := Lib.hid hg
      clear ce
      cases e0 : (x.left == 0) with
      | false =>
        have HV := Lib.hid (HD.out.trans (by rw [h1, hg, e0]; rfl : _ = false))
        clear h1 hg ch cr
        go_enter Tryz.func33, Tryz.ntmps33
        go_wp2_with fail
        refine cs.mono ?_
        rintro e w1 ⟨rfl, hb1⟩
        have hW1 := hE.trans (hb1.mono hE.size)
        have f1 := (hb1.cell (p := ⟨w.heap.size, 1, none⟩) hEz).trans K1.out
        have f2 := (hb1.cell (p := ⟨w.heap.size, 2, none⟩) hEz).trans K2.out
        have f3 := (hb1.cell (p := ⟨w.heap.size, 3, none⟩) hEz).trans K3.out
        have f4 := (hb1.cell (p := ⟨w.heap.size, 4, none⟩) hEz).trans K4.out
        clear cs
        go_wp2
        go_ret
        exact ⟨ret_bool HV.out.symm, hW1⟩
      | true =>
        cases e1 : (x.right == 0) with
        | false =>
          have HV := Lib.hid (HD.out.trans (by rw [h1, hg, e0, e1]; rfl : _ = false))
          clear h1 hg ch cr
          go_enter Tryz.func33, Tryz.ntmps33
          go_wp2_with fail
          refine cs.mono ?_
          rintro e w1 ⟨rfl, hb1⟩
          have hW1 := hE.trans (hb1.mono hE.size)
          have f1 := (hb1.cell (p := ⟨w.heap.size, 1, none⟩) hEz).trans K1.out
          have f2 := (hb1.cell (p := ⟨w.heap.size, 2, none⟩) hEz).trans K2.out
          have f3 := (hb1.cell (p := ⟨w.heap.size, 3, none⟩) hEz).trans K3.out
          have f4 := (hb1.cell (p := ⟨w.heap.size, 4, none⟩) hEz).trans K4.out
          clear cs
          go_wp2
          go_ret
          exact ⟨ret_bool HV.out.symm, hW1⟩
        | true =>
          cases h2 : sideOk l x.head with
          | false =>
            have HV := Lib.hid (HD.out.trans (by rw [h1, hg, e0, e1, h2]; rfl : _ = false))
            replace ch := ch false h2
            clear h1 hg cr h2
            go_enter Tryz.func33, Tryz.ntmps33
            go_wp2_with fail
            refine cs.mono ?_
            rintro e w1 ⟨rfl, hb1⟩
            have hW1 := hE.trans (hb1.mono hE.size)
            have f1 := (hb1.cell (p := ⟨w.heap.size, 1, none⟩) hEz).trans K1.out
            have f2 := (hb1.cell (p := ⟨w.heap.size, 2, none⟩) hEz).trans K2.out
            have f3 := (hb1.cell (p := ⟨w.heap.size, 3, none⟩) hEz).trans K3.out
            have f4 := (hb1.cell (p := ⟨w.heap.size, 4, none⟩) hEz).trans K4.out
            replace ch := ch w1 hW1
            clear cs
            go_wp2_with (go_at_call 67; refine ch.mono ?_; rintro e w2 ⟨rfl, hb2⟩)
            go_ret
            exact ⟨ret_bool HV.out.symm, hW1.trans (hb2.mono hW1.size)⟩
          | true =>
            have HV := Lib.hid (HD.out.trans (by rw [h1, hg, e0, e1, h2]; rfl : _ = (!(x.head.any fun f => srcAt l f.rel))))
            replace ch := ch true h2
            replace cr := cr _ rfl (side_rel h2)
            clear h1 hg h2
            generalize (x.head.any fun f => srcAt l f.rel) = z at *
            go_enter Tryz.func33, Tryz.ntmps33
            go_wp2_with fail
            refine cs.mono ?_
            rintro e w1 ⟨rfl, hb1⟩
            have hW1 := hE.trans (hb1.mono hE.size)
            have f1 := (hb1.cell (p := ⟨w.heap.size, 1, none⟩) hEz).trans K1.out
            have f2 := (hb1.cell (p := ⟨w.heap.size, 2, none⟩) hEz).trans K2.out
            have f3 := (hb1.cell (p := ⟨w.heap.size, 3, none⟩) hEz).trans K3.out
            have f4 := (hb1.cell (p := ⟨w.heap.size, 4, none⟩) hEz).trans K4.out
            replace ch := ch w1 hW1
            clear cs
            have f1' := Lib.hid f1
            go_wp2_with fail
            refine ch.mono ?_
            rintro e w2 ⟨rfl, hb2⟩
            have hW2 := hW1.trans (hb2.mono hW1.size)
            have g1 := (hb2.cell (p := ⟨w.heap.size, 1, none⟩) (by have := hb1.size; show w.heap.size < _; omega)).trans f1'.out
            replace cr := cr w2 hW2
            clear ch f1 f2 f3 f4
            go_wp2_with (go_at_call 69; refine cr.mono ?_; rintro e w3 ⟨rfl, hb3⟩)
            go_ret
            exact ⟨ret_bool HV.out.symm, hW2.trans (hb3.mono hW2.size)⟩
theorem implIsValidDependency_at (l : List Rel) (x : Dep) (q : Bool) (hq : depOk l x = q) (v u : Value) (w : World) (hl : RelsAt w w.heap.size v l) (h : Dependency_at w w.heap.size u x) (_ : Dependency_sz x ≤ 1048576) :
    Calls Tryz.prog 33 #[v, u] w fun e w' => e = .returned (.bool q) ∧ Below w.heap.size w w' := implIsValidDependency_z l x q hq v u w hl h
theorem implIsValidDependency_c (v : Value) (l : List Rel) (u : Value) (x : Dep) (w : World) (h : RelationS_at w w.heap.size v l) (_ : RelationS_wf l) (_ : RelationS_sz l ≤ 1048576) (h' : Dependency_at w w.heap.size u x) (_ : Dependency_wf x) (hn : Dependency_sz x ≤ 1048576) :
    Calls Tryz.prog 33 #[v, u] w fun e w' => e = .returned (.bool (depOk l x)) ∧ Below w.heap.size w w' := implIsValidDependency_at l x _ rfl v u w h h' hn

set_option maxHeartbeats 3200000 in
set_option maxRecDepth 100000 in
theorem implIsTrigger_any (v u : Value) (x : Inst) (d : Dep) (bv : Value) (b : List Int) (w : World) (hx : Instance_at w w.heap.size v x) (hxw : Instance_wf x) (hd : Dependency_at w w.heap.size u d) (hdw : Dependency_wf d) (hn : Dependency_sz d ≤ 1048576) (hb : IntsAt w w.heap.size bv b) :
    Calls Tryz.prog 10 #[v, u, bv] w fun e w' => e = .returned (.bool (trigOk x d b)) ∧ Below w.heap.size w w' := by
  have HX := Lib.hid hx
  have HD := Lib.hid hd
  have HB := Lib.hid hb
  obtain ⟨P, c, Q, d1, rfl⟩ := Instance_form hx
  have HR := Lib.hid (show RelationS_at w w.heap.size (.slice P x.rels.length c) x.rels by
    obtain ⟨V1, V2, hv, hR, hF⟩ := hx
    simp only [Value.agg.injEq, Array.mk.injEq, List.cons.injEq, and_true] at hv
    obtain ⟨rfl, rfl⟩ := hv
    exact hR)
  obtain ⟨R, q, S, t, rfl⟩ := Dependency_form hd
  have HBD := Lib.hid (show AtomS_at w w.heap.size (.slice R d.body.length q) d.body by
    obtain ⟨V1, V2, hv, h1, h2⟩ := hd
    simp only [Value.agg.injEq, Array.mk.injEq, List.cons.injEq, and_true] at hv
    obtain ⟨rfl, rfl⟩ := hv
    exact h1)
  obtain ⟨T, tc, rfl, -⟩ := id hb
  clear hx hd hb
  obtain ⟨E, hEq⟩ : ∃ E, E = (w.alloc (.cells #[.slice P x.rels.length c, .slice Q x.facts.length d1] 27)).alloc (.cells #[.slice R d.body.length q, .slice S d.head.length t, .bool d.egd, .int .i64 d.left, .int .i64 d.right] 30) := ⟨_, rfl⟩
  have hE : Below w.heap.size w E := by rw [hEq]; exact below_more (below_more (Below.refl _ _) _) _
  have hEz : E.heap.size = w.heap.size + 2 := by rw [hEq]; simp
  have X0 : E.cell? ⟨w.heap.size, 0, none⟩ = some (.slice P x.rels.length c) := by rw [hEq]; simp [go_sem]
  have X1 : E.cell? ⟨w.heap.size, 1, none⟩ = some (.slice Q x.facts.length d1) := by rw [hEq]; simp [go_sem]
  have D0 : E.cell? ⟨w.heap.size + 1, 0, none⟩ = some (.slice R d.body.length q) := by rw [hEq]; simp [go_sem]
  have hvd := fun qq (hq : depOk x.rels d = qq) => implIsValidDependency_z x.rels d qq hq (.slice P x.rels.length c) _ E ((HR.out.below hE (Nat.le_refl _)).more hE.size) ((HD.out.below hE (Nat.le_refl _)).more hE.size)
  rw [hEq] at hvd
  cases h1 : depOk x.rels d with
  | false =>
    have HF := Lib.hid (show trigOk x d b = false by rw [trig_is, h1]; rfl)
    replace hvd := hvd false h1
    clear h1
    go_enter Tryz.func10, Tryz.ntmps10
    go_wp2_with (go_at_call 33; refine hvd.mono ?_; rintro e w1 ⟨rfl, hb1⟩)
    rw [← hEq] at hb1
    go_ret
    exact ⟨ret_bool HF.out.symm, hE.trans (hb1.mono hE.size)⟩
  | true =>
    replace hvd := hvd true h1
    have hbs : AtomS_sz d.body ≤ 1048576 := by unfold Dependency_sz at hn; omega
    have HV := Lib.hid (fun (W : World) (hW : Below w.heap.size w W) => implVariables_any (.slice R d.body.length q) d.body W ((HBD.out.below hW (Nat.le_refl _)).more hW.size) hbs)
    have HBI := Lib.hid (fun (W : World) (hW : Below w.heap.size w W) (vv : Value) (hvv : OwnInts E.heap.size vv (varsOf d.body) W) => implBinds_any b (varsOf d.body) (.slice T b.length tc) vv W ((HB.out.below hW (Nat.le_refl _)).more hW.size) hvv.at_)
    cases h2 : bindsOk b (varsOf d.body) with
    | false =>
      have HF := Lib.hid (show trigOk x d b = false by rw [trig_is, h1, h2]; rfl)
      rw [h2] at HBI
      clear h1 h2
      go_enter Tryz.func10, Tryz.ntmps10
      go_wp2_with fail
      refine hvd.mono ?_
      rintro e w1 ⟨rfl, hb1⟩
      rw [← hEq] at hb1
      have hw1 := hE.trans (hb1.mono hE.size)
      have d0 := (hb1.cell (p := ⟨w.heap.size + 1, 0, none⟩) (by show w.heap.size + 1 < _; omega)).trans D0
      have hv2 := HV.out w1 hw1
      clear hvd hEq
      go_wp2_with fail
      refine hv2.mono ?_
      rintro e w2 ⟨vv, rfl, hO2, hb2⟩
      have hw2 := hw1.trans (hb2.mono hw1.size)
      have hbi := HBI.out w2 hw2 vv (OwnInts.mono hO2 hb1.size)
      obtain ⟨U, uc, rfl, -⟩ := id hO2.at_
      clear hv2
      go_wp2_with (go_at_call 34; refine hbi.mono ?_; rintro e w3 ⟨rfl, rfl⟩)
      go_ret
      exact ⟨ret_bool HF.out.symm, hw2⟩
    | true =>
      have HF := Lib.hid (show trigOk x d b = hasExt x d.body b by rw [trig_is, h1, h2]; rfl)
      rw [h2] at HBI
      clear h1 h2
      go_enter Tryz.func10, Tryz.ntmps10
      go_wp2_with fail
      refine hvd.mono ?_
      rintro e w1 ⟨rfl, hb1⟩
      rw [← hEq] at hb1
      have hw1 := hE.trans (hb1.mono hE.size)
      have d0 := (hb1.cell (p := ⟨w.heap.size + 1, 0, none⟩) (by show w.heap.size + 1 < _; omega)).trans D0
      have hv2 := HV.out w1 hw1
      clear hvd hEq
      go_wp2_with fail
      refine hv2.mono ?_
      rintro e w2 ⟨vv, rfl, hO2, hb2⟩
      have hw2 := hw1.trans (hb2.mono hw1.size)
      have hb12 : Below E.heap.size E w2 := hb1.trans (hb2.mono hb1.size)
      have hbi := HBI.out w2 hw2 vv (OwnInts.mono hO2 hb1.size)
      obtain ⟨U, uc, rfl, -⟩ := id hO2.at_
      have d02 := (hb12.cell (p := ⟨w.heap.size + 1, 0, none⟩) (by show w.heap.size + 1 < _; omega)).trans D0
      have x02 := (hb12.cell (p := ⟨w.heap.size, 0, none⟩) (by show w.heap.size < _; omega)).trans X0
      have x12 := (hb12.cell (p := ⟨w.heap.size, 1, none⟩) (by show w.heap.size < _; omega)).trans X1
      have hx2 := implHasExtension_any _ (.slice R d.body.length q) x d.body (.slice T b.length tc) b w2 ((HX.out.below hw2 (Nat.le_refl _)).more hw2.size) hxw ((HBD.out.below hw2 (Nat.le_refl _)).more hw2.size) hdw.1 ((HB.out.below hw2 (Nat.le_refl _)).more hw2.size)
      clear hv2
      go_wp2_with (first | (go_at_call 34; refine hbi.mono ?_; rintro e w3 ⟨rfl, rfl⟩) | (go_at_call 17; refine hx2.mono ?_; rintro e w4 ⟨rfl, hb4⟩))
      go_ret
      exact ⟨ret_bool HF.out.symm, hw2.trans (hb4.mono hw2.size)⟩
theorem implIsTrigger_c (v : Value) (x : Inst) (u : Value) (d : Dep) (bv : Value) (b : List Int) (w : World) (h : Instance_at w w.heap.size v x) (hw : Instance_wf x) (_ : Instance_sz x ≤ 1048576) (h' : Dependency_at w w.heap.size u d) (hw' : Dependency_wf d) (hn : Dependency_sz d ≤ 1048576) (h'' : IntS_at w w.heap.size bv b) (_ : IntS_wf b) (_ : IntS_sz b ≤ 1048576) :
    Calls Tryz.prog 10 #[v, u, bv] w fun e w' => e = .returned (.bool (trigOk x d b)) ∧ Below w.heap.size w w' :=
  implIsTrigger_any v u x d bv b w h hw h' hw' hn h''

end Go.Proofs.YtoapphgahmofhaaGreat
