/-
  Walks and plain lemmas for the laws of this seat: what single Go functions return, for every argument.
-/
import Derived.Test.YtakflmaeclneiaaGreatTyAtom
import Derived.Test.YtakflmaeclneiaaGreatFact
import Derived.Test.YtakflmaeclneiaaGreatSideI
namespace Go.Proofs.YtakflmaeclneiaaGreat
open Go.RowKit

theorem head_split (l : List Rel) (ts : List Atm) : ts.all (headB l) = (ts.all (atomB l) && !(ts.any fun f => srcAt l f.rel)) := by
  induction ts with
  | nil => rfl
  | cons a t ih =>
    rw [List.all_cons, List.all_cons, List.any_cons, ih]
    unfold headB
    cases atomB l a <;> cases srcAt l a.rel <;> cases t.all (atomB l) <;> simp
theorem depOk_is (l : List Rel) (x : Dep) : depOk l x = (sideOk l x.body && (if x.egd then egdOk x else ((x.left == 0) && (x.right == 0)) && (sideOk l x.head && !(x.head.any fun f => srcAt l f.rel)))) := by
  unfold depOk sideOk egdOk
  rw [head_split]
  generalize x.body.all (atomB l) = p
  generalize x.head.all (atomB l) = r
  generalize (x.head.any fun f => srcAt l f.rel) = s
  generalize inB (x.body.length : Nat) 1 2 = a
  generalize inB (x.head.length : Nat) 1 2 = h
  generalize (x.left == 0) = e0
  generalize (x.right == 0) = e1
  cases x.egd
  · cases a <;> cases p <;> cases r <;> cases s <;> cases h <;> cases e0 <;> cases e1 <;> rfl
  · cases a <;> cases p <;> rfl
theorem side_rel {l : List Rel} {ts : List Atm} (h : sideOk l ts = true) : ∀ f ∈ ts, 0 ≤ f.rel ∧ f.rel < l.length := by
  unfold sideOk at h
  rw [Bool.and_eq_true, List.all_eq_true] at h
  intro f hf
  have := h.2 f hf
  exact (atomOk_parts this).2.1
theorem side_small {l : List Rel} {ts : List Atm} (h : sideOk l ts = true) : AtomS_sz ts ≤ 1048576 := by
  unfold sideOk at h
  rw [Bool.and_eq_true] at h
  have h1 := h.1
  unfold inB at h1
  have h1 := of_decide_eq_true h1
  have := side_sz h.2 (by omega)
  omega
set_option maxHeartbeats 3200000 in
set_option maxRecDepth 100000 in
theorem implIsValidDependency_z (l : List Rel) (x : Dep) (q : Bool) (hq : depOk l x = q) (v u : Value) (w : World) (hl : RelsAt w w.heap.size v l) (h : Dependency_at w w.heap.size u x) :
    Calls Tryz.prog 42 #[v, u] w fun e w' => e = .returned (.bool q) ∧ Below w.heap.size w w' := by
  subst hq
  have HL := Lib.hid hl
  obtain ⟨A, a0, rfl, hlc, hcm, -⟩ := hl
  obtain ⟨P, c, Q, d, rfl⟩ := Dependency_form h
  obtain ⟨V1, V2, hv, hR, hF⟩ := h
  simp only [Value.agg.injEq, Array.mk.injEq, List.cons.injEq, and_true] at hv
  obtain ⟨rfl, rfl⟩ := hv
  have hE : Below w.heap.size w (w.alloc (.cells #[.slice P x.body.length c, .slice Q x.head.length d, .bool x.egd, .int .i64 x.left, .int .i64 x.right] 51)) := below_more (Below.refl _ _) _
  have hEz : w.heap.size < (w.alloc (.cells #[.slice P x.body.length c, .slice Q x.head.length d, .bool x.egd, .int .i64 x.left, .int .i64 x.right] 51)).heap.size := by simp
  have K0 := Lib.hid (show (w.alloc (.cells #[.slice P x.body.length c, .slice Q x.head.length d, .bool x.egd, .int .i64 x.left, .int .i64 x.right] 51)).cell? ⟨w.heap.size, 0, none⟩ = some (.slice P x.body.length c) by simp [go_sem])
  have K1 := Lib.hid (show (w.alloc (.cells #[.slice P x.body.length c, .slice Q x.head.length d, .bool x.egd, .int .i64 x.left, .int .i64 x.right] 51)).cell? ⟨w.heap.size, 1, none⟩ = some (.slice Q x.head.length d) by simp [go_sem])
  have K2 := Lib.hid (show (w.alloc (.cells #[.slice P x.body.length c, .slice Q x.head.length d, .bool x.egd, .int .i64 x.left, .int .i64 x.right] 51)).cell? ⟨w.heap.size, 2, none⟩ = some (.bool x.egd) by simp [go_sem])
  have K3 := Lib.hid (show (w.alloc (.cells #[.slice P x.body.length c, .slice Q x.head.length d, .bool x.egd, .int .i64 x.left, .int .i64 x.right] 51)).cell? ⟨w.heap.size, 3, none⟩ = some (.int .i64 x.left) by simp [go_sem])
  have K4 := Lib.hid (show (w.alloc (.cells #[.slice P x.body.length c, .slice Q x.head.length d, .bool x.egd, .int .i64 x.left, .int .i64 x.right] 51)).cell? ⟨w.heap.size, 4, none⟩ = some (.int .i64 x.right) by simp [go_sem])
  have HR := Lib.hid hR
  have HF := Lib.hid hF
  clear hR hF
  have HD := Lib.hid (depOk_is l x)
  have cs := fun (q : Bool) (hq : sideOk l x.body = q) => implSide_at l x.body q hq (.slice A l.length a0) (.slice P x.body.length c) (w.alloc (.cells #[.slice P x.body.length c, .slice Q x.head.length d, .bool x.egd, .int .i64 x.left, .int .i64 x.right] 51)) ((HL.out.below hE (Nat.le_refl _)).more hE.size) ((HR.out.below hE (Nat.le_refl _)).more hE.size)
  have ch := fun (q : Bool) (hq : sideOk l x.head = q) (W : World) (hW : Below w.heap.size w W) => implSide_at l x.head q hq (.slice A l.length a0) (.slice Q x.head.length d) W ((HL.out.below hW (Nat.le_refl _)).more hW.size) ((HF.out.below hW (Nat.le_refl _)).more hW.size)
  have cr := fun (q : Bool) (hq : (x.head.any fun f => srcAt l f.rel) = q) (hin : ∀ f ∈ x.head, 0 ≤ f.rel ∧ f.rel < l.length) (W : World) (hW : Below w.heap.size w W) => implHasSource_at l x.head q hq hin (.slice A l.length a0) (.slice Q x.head.length d) W ((HL.out.below hW (Nat.le_refl _)).more hW.size) ((HF.out.below hW (Nat.le_refl _)).more hW.size)
  have ce := fun (q : Bool) (hq : egdOk x = q) (hg : x.egd = true) (hz : AtomS_sz x.body ≤ 1048576) (W : World) (hW : Below w.heap.size w W) => implEquality_at x q hq (.agg #[.slice P x.body.length c, .slice Q x.head.length d, .bool true, .int .i64 x.left, .int .i64 x.right]) W ⟨_, _, by rw [hg], (HR.out.below hW (Nat.le_refl _)).more hW.size, (HF.out.below hW (Nat.le_refl _)).more hW.size⟩ hz
  cases h1 : sideOk l x.body with
  | false =>
    have HV := Lib.hid (HD.out.trans (by rw [h1]; rfl : _ = false))
    replace cs := cs false h1
    clear h1 ch cr ce
    go_enter Tryz.func42, Tryz.ntmps42
    go_wp2_with fail
    refine cs.mono ?_
    rintro e w1 ⟨rfl, hb1⟩
    have hW1 := hE.trans (hb1.mono hE.size)
    clear cs
    go_wp2
    go_ret
    exact ⟨ret_bool HV.out.symm, hW1⟩
  | true =>
    replace cs := cs true h1
    cases hg : x.egd with
    | true =>
      have HV := Lib.hid (HD.out.trans (by rw [h1, hg]; rfl : _ = egdOk x))
      replace ce := ce _ rfl hg (side_small h1)
      have HG := Lib.hid hg
      rw [hg] at cs K2 hE hEz K0 K1 K3 K4
      clear h1 ch cr hg
      go_enter Tryz.func42, Tryz.ntmps42
      go_wp2_with fail
      refine cs.mono ?_
      rintro e w1 ⟨rfl, hb1⟩
      have hW1 := hE.trans (hb1.mono hE.size)
      have f0 := (hb1.cell (p := ⟨w.heap.size, 0, none⟩) hEz).trans K0.out
      have f1 := (hb1.cell (p := ⟨w.heap.size, 1, none⟩) hEz).trans K1.out
      have f2 := (hb1.cell (p := ⟨w.heap.size, 2, none⟩) hEz).trans K2.out
      have f3 := (hb1.cell (p := ⟨w.heap.size, 3, none⟩) hEz).trans K3.out
      have f4 := (hb1.cell (p := ⟨w.heap.size, 4, none⟩) hEz).trans K4.out
      replace ce := ce w1 hW1
      clear cs
      go_wp2_with (go_at_call 57; refine ce.mono ?_; rintro e w2 ⟨rfl, hb2⟩)
      go_ret
      exact ⟨ret_bool HV.out.symm, hW1.trans (hb2.mono hW1.size)⟩
    | false =>
      rw [hg] at cs K2 hE hEz K0 K1 K3 K4
      have HG := Lib.hid hg
      clear ce
      cases e0 : (x.left == 0) with
      | false =>
        have HV := Lib.hid (HD.out.trans (by rw [h1, hg, e0]; rfl : _ = false))
        clear h1 hg ch cr
        go_enter Tryz.func42, Tryz.ntmps42
        go_wp2_with fail
        refine cs.mono ?_
        rintro e w1 ⟨rfl, hb1⟩
        have hW1 := hE.trans (hb1.mono hE.size)
        have f1 := (hb1.cell (p := ⟨w.heap.size, 1, none⟩) hEz).trans K1.out
        have f2 := (hb1.cell (p := ⟨w.heap.size, 2, none⟩) hEz).trans K2.out
        have f3 := (hb1.cell (p := ⟨w.heap.size, 3, none⟩) hEz).trans K3.out
        have f4 := (hb1.cell (p := ⟨w.heap.size, 4, none⟩) hEz).trans K4.out
        clear cs
        go_wp2
        go_ret
        exact ⟨ret_bool HV.out.symm, hW1⟩
      | true =>
        cases e1 : (x.right == 0) with
        | false =>
          have HV := Lib.hid (HD.out.trans (by rw [h1, hg, e0, e1]; rfl : _ = false))
          clear h1 hg ch cr
          go_enter Tryz.func42, Tryz.ntmps42
          go_wp2_with fail
          refine cs.mono ?_
          rintro e w1 ⟨rfl, hb1⟩
          have hW1 := hE.trans (hb1.mono hE.size)
          have f1 := (hb1.cell (p := ⟨w.heap.size, 1, none⟩) hEz).trans K1.out
          have f2 := (hb1.cell (p := ⟨w.heap.size, 2, none⟩) hEz).trans K2.out
          have f3 := (hb1.cell (p := ⟨w.heap.size, 3, none⟩) hEz).trans K3.out
          have f4 := (hb1.cell (p := ⟨w.heap.size, 4, none⟩) hEz).trans K4.out
          clear cs
          go_wp2
          go_ret
          exact ⟨ret_bool HV.out.symm, hW1⟩
        | true =>
          cases h2 : sideOk l x.head with
          | false =>
            have HV := Lib.hid (HD.out.trans (by rw [h1, hg, e0, e1, h2]; rfl : _ = false))
            replace ch := ch false h2
            clear h1 hg cr h2
            go_enter Tryz.func42, Tryz.ntmps42
            go_wp2_with fail
            refine cs.mono ?_
            rintro e w1 ⟨rfl, hb1⟩
            have hW1 := hE.trans (hb1.mono hE.size)
            have f1 := (hb1.cell (p := ⟨w.heap.size, 1, none⟩) hEz).trans K1.out
            have f2 := (hb1.cell (p := ⟨w.heap.size, 2, none⟩) hEz).trans K2.out
            have f3 := (hb1.cell (p := ⟨w.heap.size, 3, none⟩) hEz).trans K3.out
            have f4 := (hb1.cell (p := ⟨w.heap.size, 4, none⟩) hEz).trans K4.out
            replace ch := ch w1 hW1
            clear cs
            go_wp2_with (go_at_call 56; refine ch.mono ?_; rintro e w2 ⟨rfl, hb2⟩)
            go_ret
            exact ⟨ret_bool HV.out.symm, hW1.trans (hb2.mono hW1.size)⟩
          | true =>
            have HV := Lib.hid (HD.out.trans (by rw [h1, hg, e0, e1, h2]; rfl : _ = (!(x.head.any fun f => srcAt l f.rel))))
            replace ch := ch true h2
            replace cr := cr _ rfl (side_rel h2)
            clear h1 hg h2
            generalize (x.head.any fun f => srcAt l f.rel) = z at *
            go_enter Tryz.func42, Tryz.ntmps42
            go_wp2_with fail
            refine cs.mono ?_
            rintro e w1 ⟨rfl, hb1⟩
            have hW1 := hE.trans (hb1.mono hE.size)
            have f1 := (hb1.cell (p := ⟨w.heap.size, 1, none⟩) hEz).trans K1.out
            have f2 := (hb1.cell (p := ⟨w.heap.size, 2, none⟩) hEz).trans K2.out
            have f3 := (hb1.cell (p := ⟨w.heap.size, 3, none⟩) hEz).trans K3.out
            have f4 := (hb1.cell (p := ⟨w.heap.size, 4, none⟩) hEz).trans K4.out
            replace ch := ch w1 hW1
            clear cs
            have f1' := Lib.hid f1
            go_wp2_with fail
            refine ch.mono ?_
            rintro e w2 ⟨rfl, hb2⟩
            have hW2 := hW1.trans (hb2.mono hW1.size)
            have g1 := (hb2.cell (p := ⟨w.heap.size, 1, none⟩) (by have := hb1.size; show w.heap.size < _; omega)).trans f1'.out
            replace cr := cr w2 hW2
            clear ch f1 f2 f3 f4
            go_wp2_with (go_at_call 58; refine cr.mono ?_; rintro e w3 ⟨rfl, hb3⟩)
            go_ret
            exact ⟨ret_bool HV.out.symm, hW2.trans (hb3.mono hW2.size)⟩
theorem implIsValidDependency_at (l : List Rel) (x : Dep) (q : Bool) (hq : depOk l x = q) (v u : Value) (w : World) (hl : RelsAt w w.heap.size v l) (h : Dependency_at w w.heap.size u x) (_ : Dependency_sz x ≤ 1048576) :
    Calls Tryz.prog 42 #[v, u] w fun e w' => e = .returned (.bool q) ∧ Below w.heap.size w w' := implIsValidDependency_z l x q hq v u w hl h
theorem implIsValidDependency_c (v : Value) (l : List Rel) (u : Value) (x : Dep) (w : World) (h : RelationS_at w w.heap.size v l) (_ : RelationS_wf l) (_ : RelationS_sz l ≤ 1048576) (h' : Dependency_at w w.heap.size u x) (_ : Dependency_wf x) (hn : Dependency_sz x ≤ 1048576) :
    Calls Tryz.prog 42 #[v, u] w fun e w' => e = .returned (.bool (depOk l x)) ∧ Below w.heap.size w w' := implIsValidDependency_at l x _ rfl v u w h h' hn

end Go.Proofs.YtakflmaeclneiaaGreat
