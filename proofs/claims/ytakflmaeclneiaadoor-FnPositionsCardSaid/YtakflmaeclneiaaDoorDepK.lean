/-
  Walks and plain lemmas for the laws of this seat: what single Go functions return, for every argument.
-/
import Derived.Test.YtakflmaeclneiaaDoorRels
import Derived.Test.YtakflmaeclneiaaDoorTyAtom
import Derived.Test.YtakflmaeclneiaaDoorNum
import Derived.Test.YtakflmaeclneiaaDoorAtomV
import Derived.Test.YtakflmaeclneiaaDoorPlcS
namespace Go.Proofs.YtakflmaeclneiaaDoor
open Go.RowKit

set_option maxHeartbeats 6400000 in
set_option maxRecDepth 100000 in
theorem specIsValidDependency_z (v : Value) (l : List Rel) (u : Value) (x : Dep) (w : World) (hl : RelsAt w w.heap.size v l) (hn : l.length ≤ 1048576) (h : Dependency_at w w.heap.size u x) (hw : Dependency_wf x) :
    Calls Tryd.prog 53 #[v, u] w fun e w' => e = .returned (.bool (depOk l x)) ∧ Below w.heap.size w w' := by
  have HL := Lib.hid hl
  obtain ⟨A, cl, rfl, -⟩ := hl
  obtain ⟨P, c, Q, d, rfl⟩ := Dependency_form h
  obtain ⟨V1, V2, hv, hR, hF⟩ := h
  simp only [Value.agg.injEq, Array.mk.injEq, List.cons.injEq, and_true] at hv
  obtain ⟨rfl, rfl⟩ := hv
  obtain ⟨hwB, hwH, -, -⟩ := hw
  have HB := Lib.hid hR
  have HH := Lib.hid hF
  obtain ⟨_, _, hv1, hp1, hp2⟩ := hR.form
  injection hv1 with e1 _ e2
  subst e1 e2
  obtain ⟨_, _, hv2, hq1, hq2⟩ := hF.form
  injection hv2 with e1 _ e2
  subst e1 e2
  unfold maxLen at hp2 hq2
  clear hR hF
  have hE : Below w.heap.size w (w.alloc (.cells #[.slice P x.body.length c, .slice Q x.head.length d, .bool x.egd, .int .i64 x.left, .int .i64 x.right] 75)) := below_more (Below.refl _ _) _
  have HE := Lib.hid (show w.heap.size + 1 = (w.alloc (.cells #[.slice P x.body.length c, .slice Q x.head.length d, .bool x.egd, .int .i64 x.left, .int .i64 x.right] 75)).heap.size by simp)
  have K0 := Lib.hid (show (w.alloc (.cells #[.slice P x.body.length c, .slice Q x.head.length d, .bool x.egd, .int .i64 x.left, .int .i64 x.right] 75)).cell? ⟨w.heap.size, 0, none⟩ = some (.slice P x.body.length c) by simp [go_sem])
  have K1 := Lib.hid (show (w.alloc (.cells #[.slice P x.body.length c, .slice Q x.head.length d, .bool x.egd, .int .i64 x.left, .int .i64 x.right] 75)).cell? ⟨w.heap.size, 1, none⟩ = some (.slice Q x.head.length d) by simp [go_sem])
  have K2 := Lib.hid (show (w.alloc (.cells #[.slice P x.body.length c, .slice Q x.head.length d, .bool x.egd, .int .i64 x.left, .int .i64 x.right] 75)).cell? ⟨w.heap.size, 2, none⟩ = some (.bool x.egd) by simp [go_sem])
  have K3 := Lib.hid (show (w.alloc (.cells #[.slice P x.body.length c, .slice Q x.head.length d, .bool x.egd, .int .i64 x.left, .int .i64 x.right] 75)).cell? ⟨w.heap.size, 3, none⟩ = some (.int .i64 x.left) by simp [go_sem])
  have K4 := Lib.hid (show (w.alloc (.cells #[.slice P x.body.length c, .slice Q x.head.length d, .bool x.egd, .int .i64 x.left, .int .i64 x.right] 75)).cell? ⟨w.heap.size, 4, none⟩ = some (.int .i64 x.right) by simp [go_sem])
  cases q0 : inB (x.body.length : Nat) 1 2 with
  | false =>
    have HD := Lib.hid (show depOk l x = false by unfold depOk; rw [q0]; rfl)
    have f0 := K0.out
    have hin := fun w => l1In_at (x.body.length : Nat) 1 2 false q0 w
    clear q0
    go_enter Tryd.func53, Tryd.ntmps53
    go_wp2_with (go_at_call 31; refine (hin _).mono ?_; rintro e w' ⟨rfl, rfl⟩)
    go_ret
    exact ⟨ret_bool HD.out.symm, hE⟩
  | true =>
    have hin := fun w => l1In_at (x.body.length : Nat) 1 2 true q0 w
    have Q0 := Lib.hid q0
    have f0 := K0.out
    clear q0
    go_enter Tryd.func53, Tryd.ntmps53
    go_wp2_with (go_at_call 31; refine (hin _).mono ?_; rintro e w' ⟨rfl, rfl⟩)
    clear hin f0
    go_loopw [5] (fun i wr => ∃ k : Nat, k ≤ x.body.length ∧ i = .int .i64 k ∧ Hid (AllTo (atomB l) x.body k) ∧ Below (w.alloc (.cells #[.slice P x.body.length c, .slice Q x.head.length d, .bool x.egd, .int .i64 x.left, .int .i64 x.right] 75)).heap.size (w.alloc (.cells #[.slice P x.body.length c, .slice Q x.head.length d, .bool x.egd, .int .i64 x.left, .int .i64 x.right] 75)) wr) (fun i _ => x.body.length - (intOf i).toNat)
    case atStart => exact ⟨0, by omega, rfl, Lib.hid (AllTo.zero _ _), Below.refl _ _⟩
    case round =>
      obtain ⟨k, hk, rfl, HT, hW⟩ := hrel
      have hz := hW.size
      rw [← HE.out] at hz
      have hWw : Below w.heap.size w wr := hE.trans (hW.mono hE.size)
      have f0 := (hW.cell (p := ⟨w.heap.size, 0, none⟩) (by show w.heap.size < _; rw [← HE.out]; omega)).trans K0.out
      by_cases hlt : k < x.body.length
      · obtain ⟨b, off, V, rfl, hb, c0, c1, hV⟩ := AtomS_at.elem HB.out k hlt
        replace c0 := (hWw.cell (p := ⟨b, off + k * 2, none⟩) hb).trans c0
        replace c1 := (hWw.cell (p := ⟨b, off + k * 2 + 1, none⟩) hb).trans c1
        have hcon := fun bb (hq : atomOk l x.body[k].rel x.body[k].vals = bb) => specIsValidAtom_at (.slice A l.length cl) l x.body[k].rel V x.body[k].vals bb hq wr ((HL.out.below hWw (Nat.le_refl _)).more hWw.size) hn ((hV.below hWw (Nat.le_refl _)).more hWw.size) (hwB k hlt).2
        clear hV
        cases hv : atomOk l x.body[k].rel x.body[k].vals with
        | false =>
          have HD := Lib.hid (show depOk l x = false by unfold depOk; rw [Q0.out, all_no hlt (show atomB l x.body[k] = false from hv)]; rfl)
          replace hcon := hcon false hv
          clear hv
          go_wp2_with (go_at_call 58; refine hcon.mono ?_; rintro e w2 ⟨rfl, hb2⟩)
          go_ret
          exact ⟨ret_bool HD.out.symm, hWw.trans (hb2.mono hWw.size)⟩
        | true =>
          have HN := Lib.hid (HT.out.next hlt (show atomB l x.body[k] = true from hv))
          replace hcon := hcon true hv
          clear hv
          go_wp2_with (go_at_call 58; refine hcon.mono ?_; rintro e w2 ⟨rfl, hb2⟩)
          go_roundw
          case rel => exact ⟨k + 1, by omega, by go_num, HN, hW.trans (hb2.mono hW.size)⟩
          case measure => simp [intOf]; omega
      · obtain rfl : k = x.body.length := by omega
        have HA := Lib.hid HT.out.full
        clear HT
        have hlW : w.heap.size < (w.alloc (.cells #[.slice P x.body.length c, .slice Q x.head.length d, .bool x.egd, .int .i64 x.left, .int .i64 x.right] 75)).heap.size := by rw [← HE.out]; omega
        have f1 := (hW.cell (p := ⟨w.heap.size, 1, none⟩) hlW).trans K1.out
        have f2 := (hW.cell (p := ⟨w.heap.size, 2, none⟩) hlW).trans K2.out
        have f3 := (hW.cell (p := ⟨w.heap.size, 3, none⟩) hlW).trans K3.out
        have f4 := (hW.cell (p := ⟨w.heap.size, 4, none⟩) hlW).trans K4.out
        have HLW := Lib.hid hlW
        cases hg : x.egd with
        | true =>
          rw [hg] at f2
          have hvc := specVariables_any (.slice P x.body.length c) x.body wr ((HB.out.below hWw (Nat.le_refl _)).more hWw.size) (Nat.le_trans (side_sz HA.out (by have := Q0.out; unfold inB at this; have := of_decide_eq_true this; omega)) (by decide))
          have HV0 := Lib.hid (show depOk l x = (((x.head.length : Nat) : Int) == 0 && (decide (x.left ∈ varsOf x.body) && (decide (x.right ∈ varsOf x.body) && decide (x.left < x.right)))) by unfold depOk; rw [Q0.out, HA.out, hg]; simp)
          clear hg hlW
          cases q1 : (((x.head.length : Nat) : Int) == 0) with
          | false =>
            have HD := Lib.hid (show depOk l x = false by rw [HV0.out, q1]; rfl)
            go_wp2_with (first | (go_at_call 54; refine hvc.mono ?_; rintro e w2 ⟨U, rfl, hU, hb2⟩; replace f1 := (hb2.cell (p := ⟨w.heap.size, 1, none⟩) (Nat.lt_of_lt_of_le HLW.out hW.size)).trans f1; replace f3 := (hb2.cell (p := ⟨w.heap.size, 3, none⟩) (Nat.lt_of_lt_of_le HLW.out hW.size)).trans f3; replace f4 := (hb2.cell (p := ⟨w.heap.size, 4, none⟩) (Nat.lt_of_lt_of_le HLW.out hW.size)).trans f4; clear hvc))
            go_ret
            exact ⟨ret_bool HD.out.symm, hWw.trans (hb2.mono hWw.size)⟩
          | true =>
            cases q2 : decide (x.left ∈ varsOf x.body) with
            | false =>
              have HD := Lib.hid (show depOk l x = false by rw [HV0.out, q1, q2]; rfl)
              go_wp2_with (first | (go_at_call 54; refine hvc.mono ?_; rintro e w2 ⟨U, rfl, hU, hb2⟩; replace f1 := (hb2.cell (p := ⟨w.heap.size, 1, none⟩) (Nat.lt_of_lt_of_le HLW.out hW.size)).trans f1; replace f3 := (hb2.cell (p := ⟨w.heap.size, 3, none⟩) (Nat.lt_of_lt_of_le HLW.out hW.size)).trans f3; replace f4 := (hb2.cell (p := ⟨w.heap.size, 4, none⟩) (Nat.lt_of_lt_of_le HLW.out hW.size)).trans f4; have g0 := specHas_at U (varsOf x.body) x.left false q2 w2 hU.at_; clear hvc) | (go_at_call 55; refine g0.mono ?_; rintro e w3 ⟨rfl, rfl⟩; clear g0))
              go_ret
              exact ⟨ret_bool HD.out.symm, hWw.trans (hb2.mono hWw.size)⟩
            | true =>
              cases q3 : decide (x.right ∈ varsOf x.body) with
              | false =>
                have HD := Lib.hid (show depOk l x = false by rw [HV0.out, q1, q2, q3]; rfl)
                go_wp2_with (first | (go_at_call 54; refine hvc.mono ?_; rintro e w2 ⟨U, rfl, hU, hb2⟩; replace f1 := (hb2.cell (p := ⟨w.heap.size, 1, none⟩) (Nat.lt_of_lt_of_le HLW.out hW.size)).trans f1; replace f3 := (hb2.cell (p := ⟨w.heap.size, 3, none⟩) (Nat.lt_of_lt_of_le HLW.out hW.size)).trans f3; replace f4 := (hb2.cell (p := ⟨w.heap.size, 4, none⟩) (Nat.lt_of_lt_of_le HLW.out hW.size)).trans f4; have g0 := specHas_at U (varsOf x.body) x.left true q2 w2 hU.at_; have g1 := specHas_at U (varsOf x.body) x.right false q3 w2 hU.at_; clear hvc) | (go_at_call 55; refine g0.mono ?_; rintro e w3 ⟨rfl, rfl⟩; clear g0) | (go_at_call 55; refine g1.mono ?_; rintro e w3 ⟨rfl, rfl⟩; clear g1))
                go_ret
                exact ⟨ret_bool HD.out.symm, hWw.trans (hb2.mono hWw.size)⟩
              | true =>
                cases q4 : decide (x.left < x.right) with
                | false =>
                  have HD := Lib.hid (show depOk l x = false by rw [HV0.out, q1, q2, q3, q4]; rfl)
                  go_wp2_with (first | (go_at_call 54; refine hvc.mono ?_; rintro e w2 ⟨U, rfl, hU, hb2⟩; replace f1 := (hb2.cell (p := ⟨w.heap.size, 1, none⟩) (Nat.lt_of_lt_of_le HLW.out hW.size)).trans f1; replace f3 := (hb2.cell (p := ⟨w.heap.size, 3, none⟩) (Nat.lt_of_lt_of_le HLW.out hW.size)).trans f3; replace f4 := (hb2.cell (p := ⟨w.heap.size, 4, none⟩) (Nat.lt_of_lt_of_le HLW.out hW.size)).trans f4; have g0 := specHas_at U (varsOf x.body) x.left true q2 w2 hU.at_; have g1 := specHas_at U (varsOf x.body) x.right true q3 w2 hU.at_; clear hvc) | (go_at_call 55; refine g0.mono ?_; rintro e w3 ⟨rfl, rfl⟩; clear g0) | (go_at_call 55; refine g1.mono ?_; rintro e w3 ⟨rfl, rfl⟩; clear g1))
                  go_ret
                  exact ⟨ret_bool HD.out.symm, hWw.trans (hb2.mono hWw.size)⟩
                | true =>
                  have HD := Lib.hid (show depOk l x = true by rw [HV0.out, q1, q2, q3, q4]; rfl)
                  go_wp2_with (first | (go_at_call 54; refine hvc.mono ?_; rintro e w2 ⟨U, rfl, hU, hb2⟩; replace f1 := (hb2.cell (p := ⟨w.heap.size, 1, none⟩) (Nat.lt_of_lt_of_le HLW.out hW.size)).trans f1; replace f3 := (hb2.cell (p := ⟨w.heap.size, 3, none⟩) (Nat.lt_of_lt_of_le HLW.out hW.size)).trans f3; replace f4 := (hb2.cell (p := ⟨w.heap.size, 4, none⟩) (Nat.lt_of_lt_of_le HLW.out hW.size)).trans f4; have g0 := specHas_at U (varsOf x.body) x.left true q2 w2 hU.at_; have g1 := specHas_at U (varsOf x.body) x.right true q3 w2 hU.at_; clear hvc) | (go_at_call 55; refine g0.mono ?_; rintro e w3 ⟨rfl, rfl⟩; clear g0) | (go_at_call 55; refine g1.mono ?_; rintro e w3 ⟨rfl, rfl⟩; clear g1))
                  go_ret
                  exact ⟨ret_bool HD.out.symm, hWw.trans (hb2.mono hWw.size)⟩
        | false =>
          rw [hg] at f2
          have HV0 := Lib.hid (show depOk l x = (x.head.all (headB l) && (inB (x.head.length : Nat) 1 2 && ((x.left == 0) && (x.right == 0)))) by unfold depOk; rw [Q0.out, HA.out, hg]; simp)
          clear hg hlW f1 f3 f4
          go_wp2
          clear f2
          go_loopw [7] (fun i wr => ∃ k : Nat, k ≤ x.head.length ∧ i = .int .i64 k ∧ Hid (AllTo (headB l) x.head k) ∧ Below (w.alloc (.cells #[.slice P x.body.length c, .slice Q x.head.length d, .bool x.egd, .int .i64 x.left, .int .i64 x.right] 75)).heap.size (w.alloc (.cells #[.slice P x.body.length c, .slice Q x.head.length d, .bool x.egd, .int .i64 x.left, .int .i64 x.right] 75)) wr) (fun i _ => x.head.length - (intOf i).toNat)
          case atStart => exact ⟨0, by omega, rfl, Lib.hid (AllTo.zero _ _), hW⟩
          case round =>
            obtain ⟨m, hm, rfl, HT2, hW2⟩ := hrel
            have hWw2 : Below w.heap.size w wr := hE.trans (hW2.mono hE.size)
            have f1 := (hW2.cell (p := ⟨w.heap.size, 1, none⟩) HLW.out).trans K1.out
            by_cases hltm : m < x.head.length
            · obtain ⟨b, off, V, rfl, hb, c0, c1, hV⟩ := AtomS_at.elem HH.out m hltm
              replace c0 := (hWw2.cell (p := ⟨b, off + m * 2, none⟩) hb).trans c0
              replace c1 := (hWw2.cell (p := ⟨b, off + m * 2 + 1, none⟩) hb).trans c1
              have hcon := fun bb (hq : atomOk l x.head[m].rel x.head[m].vals = bb) => specIsValidAtom_at (.slice A l.length cl) l x.head[m].rel V x.head[m].vals bb hq wr ((HL.out.below hWw2 (Nat.le_refl _)).more hWw2.size) hn ((hV.below hWw2 (Nat.le_refl _)).more hWw2.size) (hwH m hltm).2
              clear hV
              cases hv : atomOk l x.head[m].rel x.head[m].vals with
              | false =>
                have HD := Lib.hid (show depOk l x = false by rw [HV0.out, all_no hltm (show headB l x.head[m] = false by unfold headB atomB; rw [hv]; rfl)]; rfl)
                replace hcon := hcon false hv
                clear hv
                go_wp2_with (go_at_call 58; refine hcon.mono ?_; rintro e w2 ⟨rfl, hb2⟩)
                go_ret
                exact ⟨ret_bool HD.out.symm, hWw2.trans (hb2.mono hWw2.size)⟩
              | true =>
                replace hcon := hcon true hv
                obtain ⟨-, hrl, -, -⟩ := atomOk_parts hv
                obtain ⟨j, hj⟩ : ∃ j : Nat, x.head[m].rel = (j : Int) := ⟨x.head[m].rel.toNat, by omega⟩
                have hjl : j < l.length := by omega
                have hsrc : srcAt l x.head[m].rel = l[j].source := by unfold srcAt; rw [hj, getD_at (by simpa using hjl)]; rfl
                have HB1 := Lib.hid (show headB l x.head[m] = !l[j].source by unfold headB atomB; rw [hv, hsrc]; rfl)
                obtain ⟨b', off', rfl, hb', -, -, r2⟩ := RelsAt.elem HL.out j hjl
                replace r2 := (hWw2.cell (p := ⟨b', off' + j * 3 + 2, none⟩) hb').trans r2
                rw [hj] at hcon c0
                clear hv hsrc hrl hj
                have hbw : b < wr.heap.size := Nat.lt_of_lt_of_le hb hWw2.size
                have hbw' : b' < wr.heap.size := Nat.lt_of_lt_of_le hb' hWw2.size
                have hlw : w.heap.size < wr.heap.size := Nat.lt_of_lt_of_le HLW.out hW2.size
                cases hs2 : l[j].source with
                | true =>
                  have HD := Lib.hid (show depOk l x = false by rw [HV0.out, all_no hltm (show headB l x.head[m] = false by rw [HB1.out, hs2]; rfl)]; rfl)
                  rw [hs2] at r2
                  clear hs2
                  go_wp2_with (go_at_call 58; refine hcon.mono ?_; rintro e w2 ⟨rfl, hb2⟩; replace r2 := (hb2.cell (p := ⟨b', off' + j * 3 + 2, none⟩) hbw').trans r2; replace c0 := (hb2.cell (p := ⟨b, off + m * 2, none⟩) hbw).trans c0; replace f1 := (hb2.cell (p := ⟨w.heap.size, 1, none⟩) hlw).trans f1)
                  go_ret
                  exact ⟨ret_bool HD.out.symm, hWw2.trans (hb2.mono hWw2.size)⟩
                | false =>
                  have HN := Lib.hid (HT2.out.next hltm (show headB l x.head[m] = true by rw [HB1.out, hs2]; rfl))
                  rw [hs2] at r2
                  clear hs2
                  go_wp2_with (go_at_call 58; refine hcon.mono ?_; rintro e w2 ⟨rfl, hb2⟩; replace r2 := (hb2.cell (p := ⟨b', off' + j * 3 + 2, none⟩) hbw').trans r2; replace c0 := (hb2.cell (p := ⟨b, off + m * 2, none⟩) hbw).trans c0; replace f1 := (hb2.cell (p := ⟨w.heap.size, 1, none⟩) hlw).trans f1)
                  go_roundw
                  case rel => exact ⟨m + 1, by omega, by go_num, HN, hW2.trans (hb2.mono hW2.size)⟩
                  case measure => simp [intOf]; omega
            · obtain rfl : m = x.head.length := by omega
              have HA2 := Lib.hid HT2.out.full
              have f3 := (hW2.cell (p := ⟨w.heap.size, 3, none⟩) HLW.out).trans K3.out
              have f4 := (hW2.cell (p := ⟨w.heap.size, 4, none⟩) HLW.out).trans K4.out
              clear HT2
              cases r1 : inB (x.head.length : Nat) 1 2 with
              | false =>
                have HD := Lib.hid (show depOk l x = false by rw [HV0.out, HA2.out, r1]; rfl)
                have hin := fun w => l1In_at (x.head.length : Nat) 1 2 false r1 w
                go_wp2_with (go_at_call 31; refine (hin _).mono ?_; rintro e w' ⟨rfl, rfl⟩)
                go_ret
                exact ⟨ret_bool HD.out.symm, hWw2⟩
              | true =>
                cases r2 : (x.left == 0) with
                | false =>
                  have HD := Lib.hid (show depOk l x = false by rw [HV0.out, HA2.out, r1, r2]; rfl)
                  have hin := fun w => l1In_at (x.head.length : Nat) 1 2 true r1 w
                  go_wp2_with (go_at_call 31; refine (hin _).mono ?_; rintro e w' ⟨rfl, rfl⟩)
                  go_ret
                  exact ⟨ret_bool HD.out.symm, hWw2⟩
                | true =>
                  cases r3 : (x.right == 0) with
                  | false =>
                    have HD := Lib.hid (show depOk l x = false by rw [HV0.out, HA2.out, r1, r2, r3]; rfl)
                    have hin := fun w => l1In_at (x.head.length : Nat) 1 2 true r1 w
                    go_wp2_with (go_at_call 31; refine (hin _).mono ?_; rintro e w' ⟨rfl, rfl⟩)
                    go_ret
                    exact ⟨ret_bool HD.out.symm, hWw2⟩
                  | true =>
                    have HD := Lib.hid (show depOk l x = true by rw [HV0.out, HA2.out, r1, r2, r3]; rfl)
                    have hin := fun w => l1In_at (x.head.length : Nat) 1 2 true r1 w
                    go_wp2_with (go_at_call 31; refine (hin _).mono ?_; rintro e w' ⟨rfl, rfl⟩)
                    go_ret
                    exact ⟨ret_bool HD.out.symm, hWw2⟩
theorem specIsValidDependency_at (v : Value) (l : List Rel) (u : Value) (x : Dep) (bb : Bool) (hq : depOk l x = bb) (w : World) (hl : RelsAt w w.heap.size v l) (hn : l.length ≤ 1048576) (h : Dependency_at w w.heap.size u x) (hw : Dependency_wf x) :
    Calls Tryd.prog 53 #[v, u] w fun e w' => e = .returned (.bool bb) ∧ Below w.heap.size w w' := by
  subst hq; exact specIsValidDependency_z v l u x w hl hn h hw
theorem specIsValidDependency_c (v : Value) (l : List Rel) (u : Value) (x : Dep) (w : World) (h : RelationS_at w w.heap.size v l) (_ : RelationS_wf l) (hn : RelationS_sz l ≤ 1048576) (h' : Dependency_at w w.heap.size u x) (hw : Dependency_wf x) (_ : Dependency_sz x ≤ 1048576) :
    Calls Tryd.prog 53 #[v, u] w fun e w' => e = .returned (.bool (depOk l x)) ∧ Below w.heap.size w w' :=
  specIsValidDependency_z v l u x w h (by unfold RelationS_sz at hn; omega) h' hw

end Go.Proofs.YtakflmaeclneiaaDoor
