/- Walks and plain lemmas for the laws of this seat. -/
import Derived.Test.YtobdijcnfmgidaaGreatBase
import Derived.Test.YtobdijcnfmgidaaGreatInts
import Derived.Test.YtobdijcnfmgidaaGreatDrawR
import Derived.Test.YtobdijcnfmgidaaGreatAft
import Derived.Test.YtobdijcnfmgidaaGreatTyAtom
import Derived.Test.YtobdijcnfmgidaaGreatDrawA9
import Derived.Test.YtobdijcnfmgidaaGreatParInI
import Derived.Test.YtobdijcnfmgidaaGreatDrawK
import Derived.Test.YtobdijcnfmgidaaGreatActsI
namespace Go.Proofs.YtobdijcnfmgidaaGreat
open Go.RowKit
set_option maxHeartbeats 6400000 in
set_option maxRecDepth 100000 in
theorem specIsValidDependency_z (v : Value) (l : List Rel) (u : Value) (x : Dep) (w : World) (hl : RelsAt w w.heap.size v l) (hn : l.length ≤ 1048576) (h : Dependency_at w w.heap.size u x) (hw : Dependency_wf x) :
 Calls Tryz.prog 39 #[v,u] w fun e w' => e = .returned (.bool (depOk l x)) ∧ Below w.heap.size w w' := by
 have HL := Lib.hid hl
 obtain ⟨A,cl,rfl,-⟩ := hl
 obtain ⟨P,c,Q,d,rfl⟩ := Dependency_form h
 obtain ⟨V1,V2,hv,hR,hF⟩ := h
 simp only [Value.agg.injEq,Array.mk.injEq,List.cons.injEq,and_true] at hv
 obtain ⟨rfl,rfl⟩ := hv
 obtain ⟨hwB,hwH,-,-⟩ := hw
 have HB := Lib.hid hR
 have HH := Lib.hid hF
 obtain ⟨_,_,hv1,hp1,hp2⟩ := hR.form
 injection hv1 with e1 _ e2
 subst e1 e2
 obtain ⟨_,_,hv2,hq1,hq2⟩ := hF.form
 injection hv2 with e1 _ e2
 subst e1 e2
 unfold maxLen at hp2 hq2
 clear hR hF
 have hE : Below w.heap.size w (w.alloc (.cells #[.slice P x.body.length c,.slice Q x.head.length d,.bool x.egd,.int .i64 x.left,.int .i64 x.right] 42)) := below_more (Below.refl _ _) _
 have HE := Lib.hid (show w.heap.size + 1 = (w.alloc (.cells #[.slice P x.body.length c,.slice Q x.head.length d,.bool x.egd,.int .i64 x.left,.int .i64 x.right] 42)).heap.size by simp)
 have K0 := Lib.hid (show (w.alloc (.cells #[.slice P x.body.length c,.slice Q x.head.length d,.bool x.egd,.int .i64 x.left,.int .i64 x.right] 42)).cell? ⟨w.heap.size,0,none⟩ = some (.slice P x.body.length c) by simp [go_sem])
 have K1 := Lib.hid (show (w.alloc (.cells #[.slice P x.body.length c,.slice Q x.head.length d,.bool x.egd,.int .i64 x.left,.int .i64 x.right] 42)).cell? ⟨w.heap.size,1,none⟩ = some (.slice Q x.head.length d) by simp [go_sem])
 have K2 := Lib.hid (show (w.alloc (.cells #[.slice P x.body.length c,.slice Q x.head.length d,.bool x.egd,.int .i64 x.left,.int .i64 x.right] 42)).cell? ⟨w.heap.size,2,none⟩ = some (.bool x.egd) by simp [go_sem])
 have K3 := Lib.hid (show (w.alloc (.cells #[.slice P x.body.length c,.slice Q x.head.length d,.bool x.egd,.int .i64 x.left,.int .i64 x.right] 42)).cell? ⟨w.heap.size,3,none⟩ = some (.int .i64 x.left) by simp [go_sem])
 have K4 := Lib.hid (show (w.alloc (.cells #[.slice P x.body.length c,.slice Q x.head.length d,.bool x.egd,.int .i64 x.left,.int .i64 x.right] 42)).cell? ⟨w.heap.size,4,none⟩ = some (.int .i64 x.right) by simp [go_sem])
 cases q0 : inB (x.body.length : Nat) 1 2 with
 | false =>
   have HD := Lib.hid (show depOk l x = false by unfold depOk; rw [q0]; rfl)
   have f0 := K0.out
   have hin := fun w => l1In_at (x.body.length : Nat) 1 2 false q0 w
   clear q0
   go_enter Tryz.func39,Tryz.ntmps39
   go_wp2_with (go_at_call 74; refine (hin _).mono ?_; rintro e w' ⟨rfl,rfl⟩)
   go_ret
   exact ⟨ret_bool HD.out.symm,hE⟩
 | true =>
   have hin := fun w => l1In_at (x.body.length : Nat) 1 2 true q0 w
   have Q0 := Lib.hid q0
   have f0 := K0.out
   clear q0
   go_enter Tryz.func39,Tryz.ntmps39
   go_wp2_with (go_at_call 74; refine (hin _).mono ?_; rintro e w' ⟨rfl,rfl⟩)
   clear hin f0
   go_loopw [5] (fun i wr => ∃ k : Nat,k ≤ x.body.length ∧ i = .int .i64 k ∧ Hid (AllTo (atomB l) x.body k) ∧ Below (w.alloc (.cells #[.slice P x.body.length c,.slice Q x.head.length d,.bool x.egd,.int .i64 x.left,.int .i64 x.right] 42)).heap.size (w.alloc (.cells #[.slice P x.body.length c,.slice Q x.head.length d,.bool x.egd,.int .i64 x.left,.int .i64 x.right] 42)) wr) (fun i _ => x.body.length - (intOf i).toNat)
   case atStart => exact ⟨0,by omega,rfl,Lib.hid (AllTo.zero _ _),Below.refl _ _⟩
   case round =>
    obtain ⟨k,hk,rfl,HT,hW⟩ := hrel
    have hz := hW.size
    rw [← HE.out] at hz
    have hWw : Below w.heap.size w wr := hE.trans (hW.mono hE.size)
    have f0 := (hW.cell (p := ⟨w.heap.size,0,none⟩) (by show w.heap.size < _; rw [← HE.out]; omega)).trans K0.out
    by_cases hlt : k < x.body.length
    · obtain ⟨b,off,V,rfl,hb,c0,c1,hV⟩ := AtomS_at.elem HB.out k hlt
      replace c0 := (hWw.cell (p := ⟨b,off + k * 2,none⟩) hb).trans c0
      replace c1 := (hWw.cell (p := ⟨b,off + k * 2 + 1,none⟩) hb).trans c1
      have hcon := fun bb (hq : atomOk l x.body[k].rel x.body[k].vals = bb) => specIsValidAtom_at (.slice A l.length cl) l x.body[k].rel V x.body[k].vals bb hq wr ((HL.out.below hWw (Nat.le_refl _)).more hWw.size) hn ((hV.below hWw (Nat.le_refl _)).more hWw.size) (hwB k hlt).2
      clear hV
      cases hv : atomOk l x.body[k].rel x.body[k].vals with
      | false =>
        have HD := Lib.hid (show depOk l x = false by unfold depOk; rw [Q0.out,all_no hlt (show atomB l x.body[k] = false from hv)]; rfl)
        replace hcon := hcon false hv
        clear hv
        go_wp2_with (go_at_call 80; refine hcon.mono ?_; rintro e w2 ⟨rfl,hb2⟩)
        go_ret
        exact ⟨ret_bool HD.out.symm,hWw.trans (hb2.mono hWw.size)⟩
      | true =>
        have HN := Lib.hid (HT.out.next hlt (show atomB l x.body[k] = true from hv))
        replace hcon := hcon true hv
        clear hv
        go_wp2_with (go_at_call 80; refine hcon.mono ?_; rintro e w2 ⟨rfl,hb2⟩)
        go_roundw
        case rel => exact ⟨k + 1,by omega,by go_num,HN,hW.trans (hb2.mono hW.size)⟩
        case measure => simp [intOf]; omega
    · obtain rfl : k = x.body.length := by omega
      have HA := Lib.hid HT.out.full
      clear HT
      have hlW : w.heap.size < (w.alloc (.cells #[.slice P x.body.length c,.slice Q x.head.length d,.bool x.egd,.int .i64 x.left,.int .i64 x.right] 42)).heap.size := by rw [← HE.out]; omega
      have f1 := (hW.cell (p := ⟨w.heap.size,1,none⟩) hlW).trans K1.out
      have f2 := (hW.cell (p := ⟨w.heap.size,2,none⟩) hlW).trans K2.out
      have f3 := (hW.cell (p := ⟨w.heap.size,3,none⟩) hlW).trans K3.out
      have f4 := (hW.cell (p := ⟨w.heap.size,4,none⟩) hlW).trans K4.out
      have HLW := Lib.hid hlW
      cases hg : x.egd with
      | true =>
        rw [hg] at f2
        have hvc := specVariables_any (.slice P x.body.length c) x.body wr ((HB.out.below hWw (Nat.le_refl _)).more hWw.size) (Nat.le_trans (side_sz HA.out (by have := Q0.out; unfold inB at this; have := of_decide_eq_true this; omega)) (by decide))
        have HV0 := Lib.hid (show depOk l x = (((x.head.length : Nat) : Int) == 0 && (decide (x.left ∈ varsOf x.body) && (decide (x.right ∈ varsOf x.body) && decide (x.left < x.right)))) by unfold depOk; rw [Q0.out,HA.out,hg]; simp)
        clear hg hlW
        cases q1 : (((x.head.length : Nat) : Int) == 0) with
        | false =>
          have HD := Lib.hid (show depOk l x = false by rw [HV0.out,q1]; rfl)
          go_wp2_with (first | (go_at_call 81; refine hvc.mono ?_; rintro e w2 ⟨U,rfl,hU,hb2⟩; replace f1 := (hb2.cell (p := ⟨w.heap.size,1,none⟩) (Nat.lt_of_lt_of_le HLW.out hW.size)).trans f1; replace f3 := (hb2.cell (p := ⟨w.heap.size,3,none⟩) (Nat.lt_of_lt_of_le HLW.out hW.size)).trans f3; replace f4 := (hb2.cell (p := ⟨w.heap.size,4,none⟩) (Nat.lt_of_lt_of_le HLW.out hW.size)).trans f4; clear hvc))
          go_ret
          exact ⟨ret_bool HD.out.symm,hWw.trans (hb2.mono hWw.size)⟩
        | true =>
          cases q2 : decide (x.left ∈ varsOf x.body) with
          | false =>
            have HD := Lib.hid (show depOk l x = false by rw [HV0.out,q1,q2]; rfl)
            go_wp2_with (first | (go_at_call 81; refine hvc.mono ?_; rintro e w2 ⟨U,rfl,hU,hb2⟩; replace f1 := (hb2.cell (p := ⟨w.heap.size,1,none⟩) (Nat.lt_of_lt_of_le HLW.out hW.size)).trans f1; replace f3 := (hb2.cell (p := ⟨w.heap.size,3,none⟩) (Nat.lt_of_lt_of_le HLW.out hW.size)).trans f3; replace f4 := (hb2.cell (p := ⟨w.heap.size,4,none⟩) (Nat.lt_of_lt_of_le HLW.out hW.size)).trans f4; have g0 := specHas_at U (varsOf x.body) x.left false q2 w2 hU.at_; clear hvc) | (go_at_call 82; refine g0.mono ?_; rintro e w3 ⟨rfl,rfl⟩; clear g0))
            go_ret
            exact ⟨ret_bool HD.out.symm,hWw.trans (hb2.mono hWw.size)⟩
          | true =>
            cases q3 : decide (x.right ∈ varsOf x.body) with
            | false =>
              have HD := Lib.hid (show depOk l x = false by rw [HV0.out,q1,q2,q3]; rfl)
              go_wp2_with (first | (go_at_call 81; refine hvc.mono ?_; rintro e w2 ⟨U,rfl,hU,hb2⟩; replace f1 := (hb2.cell (p := ⟨w.heap.size,1,none⟩) (Nat.lt_of_lt_of_le HLW.out hW.size)).trans f1; replace f3 := (hb2.cell (p := ⟨w.heap.size,3,none⟩) (Nat.lt_of_lt_of_le HLW.out hW.size)).trans f3; replace f4 := (hb2.cell (p := ⟨w.heap.size,4,none⟩) (Nat.lt_of_lt_of_le HLW.out hW.size)).trans f4; have g0 := specHas_at U (varsOf x.body) x.left true q2 w2 hU.at_; have g1 := specHas_at U (varsOf x.body) x.right false q3 w2 hU.at_; clear hvc) | (go_at_call 82; refine g0.mono ?_; rintro e w3 ⟨rfl,rfl⟩; clear g0) | (go_at_call 82; refine g1.mono ?_; rintro e w3 ⟨rfl,rfl⟩; clear g1))
              go_ret
              exact ⟨ret_bool HD.out.symm,hWw.trans (hb2.mono hWw.size)⟩
            | true =>
              cases q4 : decide (x.left < x.right) with
              | false =>
                have HD := Lib.hid (show depOk l x = false by rw [HV0.out,q1,q2,q3,q4]; rfl)
                go_wp2_with (first | (go_at_call 81; refine hvc.mono ?_; rintro e w2 ⟨U,rfl,hU,hb2⟩; replace f1 := (hb2.cell (p := ⟨w.heap.size,1,none⟩) (Nat.lt_of_lt_of_le HLW.out hW.size)).trans f1; replace f3 := (hb2.cell (p := ⟨w.heap.size,3,none⟩) (Nat.lt_of_lt_of_le HLW.out hW.size)).trans f3; replace f4 := (hb2.cell (p := ⟨w.heap.size,4,none⟩) (Nat.lt_of_lt_of_le HLW.out hW.size)).trans f4; have g0 := specHas_at U (varsOf x.body) x.left true q2 w2 hU.at_; have g1 := specHas_at U (varsOf x.body) x.right true q3 w2 hU.at_; clear hvc) | (go_at_call 82; refine g0.mono ?_; rintro e w3 ⟨rfl,rfl⟩; clear g0) | (go_at_call 82; refine g1.mono ?_; rintro e w3 ⟨rfl,rfl⟩; clear g1))
                go_ret
                exact ⟨ret_bool HD.out.symm,hWw.trans (hb2.mono hWw.size)⟩
              | true =>
                have HD := Lib.hid (show depOk l x = true by rw [HV0.out,q1,q2,q3,q4]; rfl)
                go_wp2_with (first | (go_at_call 81; refine hvc.mono ?_; rintro e w2 ⟨U,rfl,hU,hb2⟩; replace f1 := (hb2.cell (p := ⟨w.heap.size,1,none⟩) (Nat.lt_of_lt_of_le HLW.out hW.size)).trans f1; replace f3 := (hb2.cell (p := ⟨w.heap.size,3,none⟩) (Nat.lt_of_lt_of_le HLW.out hW.size)).trans f3; replace f4 := (hb2.cell (p := ⟨w.heap.size,4,none⟩) (Nat.lt_of_lt_of_le HLW.out hW.size)).trans f4; have g0 := specHas_at U (varsOf x.body) x.left true q2 w2 hU.at_; have g1 := specHas_at U (varsOf x.body) x.right true q3 w2 hU.at_; clear hvc) | (go_at_call 82; refine g0.mono ?_; rintro e w3 ⟨rfl,rfl⟩; clear g0) | (go_at_call 82; refine g1.mono ?_; rintro e w3 ⟨rfl,rfl⟩; clear g1))
                go_ret
                exact ⟨ret_bool HD.out.symm,hWw.trans (hb2.mono hWw.size)⟩
      | false =>
        rw [hg] at f2
        have HV0 := Lib.hid (show depOk l x = (x.head.all (headB l) && (inB (x.head.length : Nat) 1 2 && ((x.left == 0) && (x.right == 0)))) by unfold depOk; rw [Q0.out,HA.out,hg]; simp)
        clear hg hlW f1 f3 f4
        go_wp2
        clear f2
        go_loopw [7] (fun i wr => ∃ k : Nat,k ≤ x.head.length ∧ i = .int .i64 k ∧ Hid (AllTo (headB l) x.head k) ∧ Below (w.alloc (.cells #[.slice P x.body.length c,.slice Q x.head.length d,.bool x.egd,.int .i64 x.left,.int .i64 x.right] 42)).heap.size (w.alloc (.cells #[.slice P x.body.length c,.slice Q x.head.length d,.bool x.egd,.int .i64 x.left,.int .i64 x.right] 42)) wr) (fun i _ => x.head.length - (intOf i).toNat)
        case atStart => exact ⟨0,by omega,rfl,Lib.hid (AllTo.zero _ _),hW⟩
        case round =>
         obtain ⟨m,hm,rfl,HT2,hW2⟩ := hrel
         have hWw2 : Below w.heap.size w wr := hE.trans (hW2.mono hE.size)
         have f1 := (hW2.cell (p := ⟨w.heap.size,1,none⟩) HLW.out).trans K1.out
         by_cases hltm : m < x.head.length
         · obtain ⟨b,off,V,rfl,hb,c0,c1,hV⟩ := AtomS_at.elem HH.out m hltm
           replace c0 := (hWw2.cell (p := ⟨b,off + m * 2,none⟩) hb).trans c0
           replace c1 := (hWw2.cell (p := ⟨b,off + m * 2 + 1,none⟩) hb).trans c1
           have hcon := fun bb (hq : atomOk l x.head[m].rel x.head[m].vals = bb) => specIsValidAtom_at (.slice A l.length cl) l x.head[m].rel V x.head[m].vals bb hq wr ((HL.out.below hWw2 (Nat.le_refl _)).more hWw2.size) hn ((hV.below hWw2 (Nat.le_refl _)).more hWw2.size) (hwH m hltm).2
           clear hV
           cases hv : atomOk l x.head[m].rel x.head[m].vals with
           | false =>
             have HD := Lib.hid (show depOk l x = false by rw [HV0.out,all_no hltm (show headB l x.head[m] = false by unfold headB atomB; rw [hv]; rfl)]; rfl)
             replace hcon := hcon false hv
             clear hv
             go_wp2_with (go_at_call 80; refine hcon.mono ?_; rintro e w2 ⟨rfl,hb2⟩)
             go_ret
             exact ⟨ret_bool HD.out.symm,hWw2.trans (hb2.mono hWw2.size)⟩
           | true =>
             replace hcon := hcon true hv
             obtain ⟨-,hrl,-,-⟩ := atomOk_parts hv
             obtain ⟨j,hj⟩ : ∃ j : Nat,x.head[m].rel = (j : Int) := ⟨x.head[m].rel.toNat,by omega⟩
             have hjl : j < l.length := by omega
             have hsrc : srcAt l x.head[m].rel = l[j].source := by unfold srcAt; rw [hj,getD_at (by simpa using hjl)]; rfl
             have HB1 := Lib.hid (show headB l x.head[m] = !l[j].source by unfold headB atomB; rw [hv,hsrc]; rfl)
             obtain ⟨b',off',rfl,hb',-,-,r2⟩ := RelsAt.elem HL.out j hjl
             replace r2 := (hWw2.cell (p := ⟨b',off' + j * 3 + 2,none⟩) hb').trans r2
             rw [hj] at hcon c0
             clear hv hsrc hrl hj
             have hbw : b < wr.heap.size := Nat.lt_of_lt_of_le hb hWw2.size
             have hbw' : b' < wr.heap.size := Nat.lt_of_lt_of_le hb' hWw2.size
             have hlw : w.heap.size < wr.heap.size := Nat.lt_of_lt_of_le HLW.out hW2.size
             cases hs2 : l[j].source with
             | true =>
               have HD := Lib.hid (show depOk l x = false by rw [HV0.out,all_no hltm (show headB l x.head[m] = false by rw [HB1.out,hs2]; rfl)]; rfl)
               rw [hs2] at r2
               clear hs2
               go_wp2_with (go_at_call 80; refine hcon.mono ?_; rintro e w2 ⟨rfl,hb2⟩; replace r2 := (hb2.cell (p := ⟨b',off' + j * 3 + 2,none⟩) hbw').trans r2; replace c0 := (hb2.cell (p := ⟨b,off + m * 2,none⟩) hbw).trans c0; replace f1 := (hb2.cell (p := ⟨w.heap.size,1,none⟩) hlw).trans f1)
               go_ret
               exact ⟨ret_bool HD.out.symm,hWw2.trans (hb2.mono hWw2.size)⟩
             | false =>
               have HN := Lib.hid (HT2.out.next hltm (show headB l x.head[m] = true by rw [HB1.out,hs2]; rfl))
               rw [hs2] at r2
               clear hs2
               go_wp2_with (go_at_call 80; refine hcon.mono ?_; rintro e w2 ⟨rfl,hb2⟩; replace r2 := (hb2.cell (p := ⟨b',off' + j * 3 + 2,none⟩) hbw').trans r2; replace c0 := (hb2.cell (p := ⟨b,off + m * 2,none⟩) hbw).trans c0; replace f1 := (hb2.cell (p := ⟨w.heap.size,1,none⟩) hlw).trans f1)
               go_roundw
               case rel => exact ⟨m + 1,by omega,by go_num,HN,hW2.trans (hb2.mono hW2.size)⟩
               case measure => simp [intOf]; omega
         · obtain rfl : m = x.head.length := by omega
           have HA2 := Lib.hid HT2.out.full
           have f3 := (hW2.cell (p := ⟨w.heap.size,3,none⟩) HLW.out).trans K3.out
           have f4 := (hW2.cell (p := ⟨w.heap.size,4,none⟩) HLW.out).trans K4.out
           clear HT2
           cases r1 : inB (x.head.length : Nat) 1 2 with
           | false =>
             have HD := Lib.hid (show depOk l x = false by rw [HV0.out,HA2.out,r1]; rfl)
             have hin := fun w => l1In_at (x.head.length : Nat) 1 2 false r1 w
             go_wp2_with (go_at_call 74; refine (hin _).mono ?_; rintro e w' ⟨rfl,rfl⟩)
             go_ret
             exact ⟨ret_bool HD.out.symm,hWw2⟩
           | true =>
             cases r2 : (x.left == 0) with
             | false =>
               have HD := Lib.hid (show depOk l x = false by rw [HV0.out,HA2.out,r1,r2]; rfl)
               have hin := fun w => l1In_at (x.head.length : Nat) 1 2 true r1 w
               go_wp2_with (go_at_call 74; refine (hin _).mono ?_; rintro e w' ⟨rfl,rfl⟩)
               go_ret
               exact ⟨ret_bool HD.out.symm,hWw2⟩
             | true =>
               cases r3 : (x.right == 0) with
               | false =>
                 have HD := Lib.hid (show depOk l x = false by rw [HV0.out,HA2.out,r1,r2,r3]; rfl)
                 have hin := fun w => l1In_at (x.head.length : Nat) 1 2 true r1 w
                 go_wp2_with (go_at_call 74; refine (hin _).mono ?_; rintro e w' ⟨rfl,rfl⟩)
                 go_ret
                 exact ⟨ret_bool HD.out.symm,hWw2⟩
               | true =>
                 have HD := Lib.hid (show depOk l x = true by rw [HV0.out,HA2.out,r1,r2,r3]; rfl)
                 have hin := fun w => l1In_at (x.head.length : Nat) 1 2 true r1 w
                 go_wp2_with (go_at_call 74; refine (hin _).mono ?_; rintro e w' ⟨rfl,rfl⟩)
                 go_ret
                 exact ⟨ret_bool HD.out.symm,hWw2⟩
theorem specIsValidDependency_at (v : Value) (l : List Rel) (u : Value) (x : Dep) (bb : Bool) (hq : depOk l x = bb) (w : World) (hl : RelsAt w w.heap.size v l) (hn : l.length ≤ 1048576) (h : Dependency_at w w.heap.size u x) (hw : Dependency_wf x) :
 Calls Tryz.prog 39 #[v,u] w fun e w' => e = .returned (.bool bb) ∧ Below w.heap.size w w' := by
 subst hq; exact specIsValidDependency_z v l u x w hl hn h hw
set_option maxHeartbeats 6400000 in
set_option maxRecDepth 100000 in
theorem specInstantiate_any (v : Value) (a : Atm) (u : Value) (b : List Int) (w : World) (h : Atom_at w w.heap.size v a) (hw : Atom_wf a) (hn : Atom_sz a ≤ 1048576) (h' : IntsAt w w.heap.size u b) (hwb : IntsWf b) :
 Calls Tryz.prog 155 #[v,u] w fun e w' => ∃ V,e = .returned (.tuple #[.agg #[.int .i64 (Instantiate_r0 a b).rel,V],.bool (Instantiate_ok a b)]) ∧ OwnInts w.heap.size V (Instantiate_r0 a b).vals w' ∧ Below w.heap.size w w' := by
 obtain ⟨V0,rfl,hV⟩ := h
 have HV := Lib.hid hV
 have HB := Lib.hid h'
 obtain ⟨P,c,rfl,hc1,hc2,-⟩ := hV
 obtain ⟨Q,d,rfl,hd1,hd2,-⟩ := h'
 unfold maxLen at hc2 hd2
 obtain ⟨E,hEq⟩ : ∃ E,E = (((w.alloc (.cells #[.int .i64 a.rel,.slice P a.vals.length c] 111)).alloc (.cells #[.int .i64 0,.slice none 0 0] 66)).alloc (.cells #[.int .i64 a.rel,.slice none 0 0] 66)) := ⟨_,rfl⟩
 have hE : Below w.heap.size w E := by rw [hEq]; exact below_more (below_more (below_more (Below.refl _ _) _) _) _
 have HEz := Lib.hid (show E.heap.size = w.heap.size + 3 by rw [hEq]; simp)
 have HA1 := Lib.hid (show E.cell? ⟨w.heap.size,1,none⟩ = some (.slice P a.vals.length c) by rw [hEq]; simp [go_sem])
 have HR0 := Lib.hid (show E.cell? ⟨w.heap.size + 1,0,none⟩ = some (.int .i64 0) by rw [hEq]; simp [go_sem])
 have HR1 := Lib.hid (show E.cell? ⟨w.heap.size + 1,1,none⟩ = some (.slice none 0 0) by rw [hEq]; simp [go_sem])
 have HRz := Lib.hid (show ∀ o,E.frozen? ⟨w.heap.size + 1,o,none⟩ = false by intro o; rw [hEq]; simp [go_sem])
 have y0 : E.cell? ⟨w.heap.size + 2,0,none⟩ = some (.int .i64 a.rel) := by rw [hEq]; simp [go_sem]
 have y1 : E.cell? ⟨w.heap.size + 2,1,none⟩ = some (.slice none 0 0) := by rw [hEq]; simp [go_sem]
 have yz : ∀ o,E.frozen? ⟨w.heap.size + 2,o,none⟩ = false := by intro o; rw [hEq]; simp [go_sem]
 have HY := Lib.hid (And.intro y0 (And.intro y1 yz))
 clear y0 y1 yz
 have hn1 : a.vals.length ≤ 1048576 := hn
 go_enter Tryz.func155,Tryz.ntmps155
 go_wp2
 rw [← hEq]
 clear hEq
 go_loopw [7,8] (fun i _ wr => InstInv a b (w.heap.size + 2) E i wr) (fun i _ _ => a.vals.length - (intOf i).toNat)
 case atStart => exact InstInv.mk' 0 _ [] (by omega) rfl rfl HY.out.1 HY.out.2.1 HY.out.2.2 (OwnInts.nil _ _) (Chg.refl _ _)
 case round =>
  obtain ⟨k,V,vs,hk,rfl,HI,y0,y1,yz,hO,HC⟩ := hrel
  obtain ⟨P4,c4,rfl,hl4,hm4,-⟩ := id hO.at_
  unfold maxLen at hm4
  have hgq : w.heap.size + 3 ≤ wr.heap.size := by have h1 := HC.out.size; rw [HEz.out] at h1; exact h1
  have HWr := Lib.hid (show Below w.heap.size w wr from hE.trans ((HC.out.below (B := w.heap.size) (fun q hq => by omega) (by rw [HEz.out]; omega))))
  have a1 : wr.cell? ⟨w.heap.size,1,none⟩ = some (.slice P a.vals.length c) := (HC.out.cell (b := w.heap.size) (by rw [HEz.out]; omega) (by omega)).trans HA1.out
  have r0 : wr.cell? ⟨w.heap.size + 1,0,none⟩ = some (.int .i64 0) := (HC.out.cell (b := w.heap.size + 1) (by rw [HEz.out]; omega) (by omega)).trans HR0.out
  have r1 : wr.cell? ⟨w.heap.size + 1,1,none⟩ = some (.slice none 0 0) := (HC.out.cell (b := w.heap.size + 1) (by rw [HEz.out]; omega) (by omega)).trans HR1.out
  have rz : ∀ o,wr.frozen? ⟨w.heap.size + 1,o,none⟩ = false := fun o => (HC.out.frozen (b := w.heap.size + 1) (by rw [HEz.out]; omega) (by omega)).trans (HRz.out o)
  have hvl : vs.length ≤ 1048576 := by have := instL_len _ _ HI.out; rw [List.length_take] at this; omega
  have HO := Lib.hid hO
  clear hO
  by_cases hlt : k < a.vals.length
  · obtain ⟨b0,off0,rfl,hb0,e0⟩ := IntsAt.elem HV.out k hlt
    replace e0 := (HWr.out.cell (p := ⟨b0,off0 + k,none⟩) hb0).trans e0
    have hwt := hw.2 k hlt
    obtain ⟨t,ht⟩ : ∃ t,t = a.vals[k] := ⟨_,rfl⟩
    rw [← ht] at e0 hwt
    have hNx := fun (z : Int) (hz : instT b t = some z) => instL_next k hlt HI.out (by rw [← ht]; exact hz)
    have hSt := fun (hz : instT b t = none) => inst_no (instL_stop k hlt (by rw [← ht]; exact hz))
    clear ht
    by_cases hneg : 0 ≤ t
    · have hd1 : decide (0 ≤ t) = true := decide_eq_true hneg
      have hd1' : decide (t < 0) = false := decide_eq_false (by omega)
      obtain ⟨j,rfl⟩ : ∃ j : Nat,t = (j : Int) := ⟨t.toNat,by omega⟩
      by_cases hjb : j < b.length
      · have hd2 : decide ((b.length : Int) ≤ (j : Int)) = false := decide_eq_false (by omega)
        have hd3 : decide (b.length ≤ j) = false := decide_eq_false (by omega)
        obtain ⟨b1,off1,rfl,hb1,e1⟩ := IntsAt.elem HB.out j hjb
        replace e1 := (HWr.out.cell (p := ⟨b1,off1 + j,none⟩) hb1).trans e1
        have hwv := hwb j hjb
        have hit : instT b (j : Int) = if validV b[j] = true then some b[j] else none := by
         unfold instT; rw [if_pos hneg,dif_pos (show (j : Int).toNat < b.length by simpa using hjb)]; rfl
        obtain ⟨z,hz⟩ : ∃ z,z = b[j] := ⟨_,rfl⟩
        rw [← hz] at e1 hwv hit
        clear hz hneg
        cases hvz : validV z with
        | false =>
          have hvv := specIsValidValue_at z false hvz wr hwv.1 hwv.2
          have HF := Lib.hid (hSt (by rw [hit,hvz]; rfl))
          clear hNx hSt hit hvz
          go_wp2_with (go_at_call 75; refine hvv.mono ?_; rintro e w3 ⟨rfl,rfl⟩)
          refine bodyPost_ret (v := .tuple #[.agg #[.int .i64 0,.slice none 0 0],.bool false]) (by simp [results,Tryz.results155,go_sem,r0,r1]) rfl ⟨.slice none 0 0,by rw [HF.out.1,HF.out.2],by rw [HF.out.1]; exact OwnInts.nil _ _,?_⟩
          exact ((HWr.out.setCell (p := ⟨w.heap.size + 1,0,none⟩) (Nat.le_succ _) _).setCell (p := ⟨w.heap.size + 1,1,none⟩) (Nat.le_succ _) _)
        | true =>
          have hvv := specIsValidValue_at z true hvz wr hwv.1 hwv.2
          have HN := Lib.hid (hNx z (by rw [hit,hvz]; rfl))
          clear hNx hSt hit hvz
          go_wp2_with (first | (go_at_call 75; refine hvv.mono ?_; rintro e w3 ⟨rfl,rfl⟩) | (at_builtin; refine ints_app1 HO.out rfl _ _ rfl rfl _ _ _ rfl rfl (by omega) (by omega) ?_; intro v5 w5 hO5 hB5 hG5; obtain ⟨g5,c5,rfl,hg5,-,-,-⟩ := hO5.form (by simp); have hl5 : (vs ++ [z]).length = vs.length + 1 := (by simp); rw [hl5] at hO5; have q0 := (hG5.cell_far ⟨w.heap.size + 2,0,none⟩ (by show w.heap.size + 2 < _; omega) (fun e => by have h9 : w.heap.size + 3 ≤ w.heap.size + 2 := (HO.out.lt _ e.symm).1; omega)).trans y0; have q1 := (hG5.cell_far ⟨w.heap.size + 2,1,none⟩ (by show w.heap.size + 2 < _; omega) (fun e => by have h9 : w.heap.size + 3 ≤ w.heap.size + 2 := (HO.out.lt _ e.symm).1; omega)).trans y1; have qz := fun o => (hG5.frozen_far ⟨w.heap.size + 2,o,none⟩ (by show w.heap.size + 2 < _; omega) (fun e => by have h9 : w.heap.size + 3 ≤ w.heap.size + 2 := (HO.out.lt _ e.symm).1; omega)).trans (yz o)))
          have z0 : (w5.setCell ⟨w.heap.size + 2,1,none⟩ (.slice (some ⟨g5,0,none⟩) (vs.length + 1) c5)).cell? ⟨w.heap.size + 2,0,none⟩ = some (.int .i64 a.rel) := by simp [go_sem,q0]
          have z1 : (w5.setCell ⟨w.heap.size + 2,1,none⟩ (.slice (some ⟨g5,0,none⟩) (vs.length + 1) c5)).cell? ⟨w.heap.size + 2,1,none⟩ = some (.slice (some ⟨g5,0,none⟩) (vs.length + 1) c5) := by simp [go_sem,q1]
          have zz : ∀ o,(w5.setCell ⟨w.heap.size + 2,1,none⟩ (.slice (some ⟨g5,0,none⟩) (vs.length + 1) c5)).frozen? ⟨w.heap.size + 2,o,none⟩ = false := fun o => by simp [qz]
          go_roundw
          case rel => exact InstInv.mk' (k + 1) _ (vs ++ [z]) (by omega) (by go_num) HN.out z0 z1 zz (hO5.chg ((Chg.refl (fun q => q = w.heap.size + 2) w5).setCell (p := ⟨w.heap.size + 2,1,none⟩) rfl _) (fun q hq e => by have := (hO5.lt q hq).1; omega)) ((HC.out.then_below (hB5.mono (by rw [HEz.out]; omega))).setCell (p := ⟨w.heap.size + 2,1,none⟩) rfl _)
          case measure => simp [intOf]; omega
      · have hd2 : decide ((b.length : Int) ≤ (j : Int)) = true := decide_eq_true (by omega)
        have hd3 : decide (b.length ≤ j) = true := decide_eq_true (by omega)
        have HF := Lib.hid (hSt (by unfold instT; rw [if_pos hneg,dif_neg (show ¬ (j : Int).toNat < b.length by simpa using hjb)]))
        clear hNx hSt hneg
        go_wp2
        refine bodyPost_ret (v := .tuple #[.agg #[.int .i64 0,.slice none 0 0],.bool false]) (by simp [results,Tryz.results155,go_sem,r0,r1]) rfl ⟨.slice none 0 0,by rw [HF.out.1,HF.out.2],by rw [HF.out.1]; exact OwnInts.nil _ _,?_⟩
        exact ((HWr.out.setCell (p := ⟨w.heap.size + 1,0,none⟩) (Nat.le_succ _) _).setCell (p := ⟨w.heap.size + 1,1,none⟩) (Nat.le_succ _) _)
    · have hd1 : decide (0 ≤ t) = false := decide_eq_false hneg
      have hd1' : decide (t < 0) = true := decide_eq_true (by omega)
      have hit : instT b t = if validV (-1 - t) = true then some (-1 - t) else none := by
       unfold instT; rw [if_neg hneg]
      have hzb : 0 ≤ -1 - t := by omega
      have hdz : decide (-1 - t < 0) = false := decide_eq_false (by omega)
      cases hvz : validV (-1 - t) with
      | false =>
        have hvv := specIsValidValue_at (-1 - t) false hvz wr (by omega) (by omega)
        have HF := Lib.hid (hSt (by rw [hit,hvz]; rfl))
        clear hNx hSt hit hvz
        go_wp2_with (go_at_call 75; refine hvv.mono ?_; rintro e w3 ⟨rfl,rfl⟩)
        refine bodyPost_ret (v := .tuple #[.agg #[.int .i64 0,.slice none 0 0],.bool false]) (by simp [results,Tryz.results155,go_sem,r0,r1]) rfl ⟨.slice none 0 0,by rw [HF.out.1,HF.out.2],by rw [HF.out.1]; exact OwnInts.nil _ _,?_⟩
        exact ((HWr.out.setCell (p := ⟨w.heap.size + 1,0,none⟩) (Nat.le_succ _) _).setCell (p := ⟨w.heap.size + 1,1,none⟩) (Nat.le_succ _) _)
      | true =>
        have hvv := specIsValidValue_at (-1 - t) true hvz wr (by omega) (by omega)
        obtain ⟨z,hz⟩ : ∃ z,z = -1 - t := ⟨_,rfl⟩
        have HN := Lib.hid (hNx z (by rw [hit,hvz,hz]; rfl))
        have HZ := Lib.hid hz
        clear hNx hSt hit hvz hz
        go_wp2_with (first | (go_at_call 75; refine hvv.mono ?_; rintro e w3 ⟨rfl,rfl⟩) | (at_builtin; refine ints_app1 HO.out rfl _ _ rfl rfl _ _ _ rfl rfl (by omega) (by omega) ?_; intro v5 w5 hO5 hB5 hG5; obtain ⟨g5,c5,rfl,hg5,-,-,-⟩ := hO5.form (by simp); have hl5 : (vs ++ [-1 - t]).length = vs.length + 1 := (by simp); rw [hl5] at hO5; have q0 := (hG5.cell_far ⟨w.heap.size + 2,0,none⟩ (by show w.heap.size + 2 < _; omega) (fun e => by have h9 : w.heap.size + 3 ≤ w.heap.size + 2 := (HO.out.lt _ e.symm).1; omega)).trans y0; have q1 := (hG5.cell_far ⟨w.heap.size + 2,1,none⟩ (by show w.heap.size + 2 < _; omega) (fun e => by have h9 : w.heap.size + 3 ≤ w.heap.size + 2 := (HO.out.lt _ e.symm).1; omega)).trans y1; have qz := fun o => (hG5.frozen_far ⟨w.heap.size + 2,o,none⟩ (by show w.heap.size + 2 < _; omega) (fun e => by have h9 : w.heap.size + 3 ≤ w.heap.size + 2 := (HO.out.lt _ e.symm).1; omega)).trans (yz o)))
        have z0 : (w5.setCell ⟨w.heap.size + 2,1,none⟩ (.slice (some ⟨g5,0,none⟩) (vs.length + 1) c5)).cell? ⟨w.heap.size + 2,0,none⟩ = some (.int .i64 a.rel) := by simp [go_sem,q0]
        have z1 : (w5.setCell ⟨w.heap.size + 2,1,none⟩ (.slice (some ⟨g5,0,none⟩) (vs.length + 1) c5)).cell? ⟨w.heap.size + 2,1,none⟩ = some (.slice (some ⟨g5,0,none⟩) (vs.length + 1) c5) := by simp [go_sem,q1]
        have zz : ∀ o,(w5.setCell ⟨w.heap.size + 2,1,none⟩ (.slice (some ⟨g5,0,none⟩) (vs.length + 1) c5)).frozen? ⟨w.heap.size + 2,o,none⟩ = false := fun o => by simp [qz]
        go_roundw
        case rel =>
         rw [← HZ.out] at hO5
         exact InstInv.mk' (k + 1) _ (vs ++ [z]) (by omega) (by go_num) HN.out z0 z1 zz (hO5.chg ((Chg.refl (fun q => q = w.heap.size + 2) w5).setCell (p := ⟨w.heap.size + 2,1,none⟩) rfl _) (fun q hq e => by have := (hO5.lt q hq).1; omega)) ((HC.out.then_below (hB5.mono (by rw [HEz.out]; omega))).setCell (p := ⟨w.heap.size + 2,1,none⟩) rfl _)
        case measure => simp [intOf]; omega
  · obtain rfl : k = a.vals.length := by omega
    have HF := Lib.hid (inst_yes (a := a) (b := b) (vs := vs) (by have := HI.out; rwa [List.take_of_length_le (Nat.le_refl _)] at this))
    go_wp2
    refine bodyPost_ret (v := .tuple #[.agg #[.int .i64 a.rel,.slice P4 vs.length c4],.bool true]) (by simp [results,Tryz.results155,go_sem,r0,r1]) rfl ⟨_,by rw [HF.out.1,HF.out.2],?_,?_⟩
    · rw [HF.out.1]
      exact ((HO.out.chg (((Chg.refl (fun q => q = w.heap.size + 1) wr).setCell (p := ⟨w.heap.size + 1,0,none⟩) rfl (.int .i64 a.rel)).setCell (p := ⟨w.heap.size + 1,1,none⟩) rfl (.slice P4 vs.length c4)) (fun q hq e => by have := (HO.out.lt q hq).1; omega))).mono (by omega)
    · exact ((HWr.out.setCell (p := ⟨w.heap.size + 1,0,none⟩) (Nat.le_succ _) _).setCell (p := ⟨w.heap.size + 1,1,none⟩) (Nat.le_succ _) _)
end Go.Proofs.YtobdijcnfmgidaaGreat
