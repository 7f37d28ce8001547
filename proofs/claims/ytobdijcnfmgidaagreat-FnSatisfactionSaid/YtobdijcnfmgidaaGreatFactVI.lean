/- Walks and plain lemmas for the laws of this seat. -/
import Derived.Shelf.Abstract
import Derived.Test.YtobdijcnfmgidaaGreatBase
import Derived.Test.YtobdijcnfmgidaaGreatInts
import Derived.Test.YtobdijcnfmgidaaGreatDrawR
import Derived.Test.YtobdijcnfmgidaaGreatAft
import Derived.Test.YtobdijcnfmgidaaGreatTyAtom
import Derived.Test.YtobdijcnfmgidaaGreatDrawA9
import Derived.Test.YtobdijcnfmgidaaGreatParInI
import Derived.Test.YtobdijcnfmgidaaGreatMatB
import Derived.Test.YtobdijcnfmgidaaGreatMInst
namespace Go.Proofs.YtobdijcnfmgidaaGreat
open Go.RowKit
theorem implIsValid_at (r : Rel) (b : Bool) (h : relOk r.name r.arity = b) (w : World) :
 Calls Tryz.prog 121 #[.agg #[.string r.name,.int .i64 r.arity,.bool r.source]] w fun e w' => e = .returned (.bool b) ∧ Below w.heap.size w w' := by
 subst h; exact implIsValidRelation_any _ _ _ w
set_option maxHeartbeats 3200000 in
theorem implAreValidRelations_any (v : Value) (l : List Rel) (w : World) (hl : RelsAt w w.heap.size v l) :
 Calls Tryz.prog 69 #[v] w fun e w' => e = .returned (.bool (validRels l)) ∧ Below w.heap.size w w' := by
 have HL := Lib.hid hl
 obtain ⟨A,c,rfl,hlc,hcm,-⟩ := hl
 unfold maxLen at hcm
 by_cases h6 : l.length ≤ 6
 · go_enter Tryz.func69,Tryz.ntmps69
   go_wp2
   go_loopw [10] (fun i wr => ∃ k : Nat,k ≤ l.length ∧ i = .int .i64 k ∧ Hid (okTo l k = true) ∧ Below w.heap.size w wr) (fun i _ => l.length - (intOf i).toNat)
   case atStart => exact ⟨0,by omega,rfl,Lib.hid rfl,Below.refl _ _⟩
   case round =>
    obtain ⟨k,hk,rfl,HT,hW⟩ := hrel
    have hz := hW.size
    by_cases hlt : k < l.length
    · obtain ⟨b,off,rfl,hb,c0,c1,c2⟩ := RelsAt.elem (HL.out.below hW (Nat.le_refl _)) k hlt
      cases hr : relOk l[k].name l[k].arity with
      | false =>
        have HV := Lib.hid (validRels_no l k hlt (okAt_bad l k hlt hr))
        have hcon := implIsValid_at l[k] false hr
        clear hr
        go_wp2
        refine wp_region_at (fun w0 => Below w.heap.size w w0 ∧ wr.heap.size < w0.heap.size ∧ w0.cell? ⟨wr.heap.size,0,none⟩ = some (.string l[k].name) ∧ w0.cell? ⟨wr.heap.size,1,none⟩ = some (.int .i64 l[k].arity) ∧ w0.cell? ⟨wr.heap.size,2,none⟩ = some (.bool l[k].source)) ⟨hW.alloc hz _,by simp,box_cell _ _ _ 0,box_cell _ _ _ 1,box_cell _ _ _ 2⟩ (by kernel_rfl) (by kernel_rfl) ?_
        rintro w0 ⟨hW0,hlt0,e0,e1,e2⟩
        have hz0 := hW0.size
        replace e0 := Aft.cell hlt0 e0
        replace e1 := Aft.cell hlt0 e1
        replace e2 := Aft.cell hlt0 e2
        repeat (go_big_quiet_step (((go_at_call 121; exact calls_aft (Nat.le_refl _) (hcon _)))))
        refine wpQuiet_nil ?_
        refine aft_end ?_
        intro w1 hh
        replace hh := hW0.trans (hh.mono hz0)
        go_wp2
        go_ret
        exact ⟨ret_bool HV.out.symm,hh⟩
      | true =>
        have hcon := implIsValid_at l[k] true hr
        rcases Nat.eq_zero_or_pos k with h0 | h0
        · have HT' := Lib.hid (show okTo l (k + 1) = true by rw [okTo_succ,HT.out]; subst h0; rw [okAt_zero l hlt hr]; rfl)
          have hg1 : decide ((0 : Int) < (k : Int)) = false := decide_eq_false (by omega)
          have hg2 : decide (0 < k) = false := decide_eq_false (by omega)
          clear hr h0
          go_wp2
          refine wp_region_at (fun w0 => Below w.heap.size w w0 ∧ wr.heap.size < w0.heap.size ∧ w0.cell? ⟨wr.heap.size,0,none⟩ = some (.string l[k].name) ∧ w0.cell? ⟨wr.heap.size,1,none⟩ = some (.int .i64 l[k].arity) ∧ w0.cell? ⟨wr.heap.size,2,none⟩ = some (.bool l[k].source)) ⟨hW.alloc hz _,by simp,box_cell _ _ _ 0,box_cell _ _ _ 1,box_cell _ _ _ 2⟩ (by kernel_rfl) (by kernel_rfl) ?_
          rintro w0 ⟨hW0,hlt0,e0,e1,e2⟩
          have hz0 := hW0.size
          replace e0 := Aft.cell hlt0 e0
          replace e1 := Aft.cell hlt0 e1
          replace e2 := Aft.cell hlt0 e2
          repeat (go_big_quiet_step (((go_at_call 121; exact calls_aft (Nat.le_refl _) (hcon _)))))
          refine wpQuiet_nil ?_
          refine aft_end ?_
          intro w1 hh
          replace hh := hW0.trans (hh.mono hz0)
          go_wp2
          go_roundw
          case rel => exact ⟨k + 1,by omega,by go_num,HT',hh⟩
          case measure => simp [intOf]; omega
        · obtain ⟨j,rfl⟩ : ∃ j,k = j + 1 := ⟨k - 1,by omega⟩
          have hj : j < l.length := by omega
          have HS := Lib.hid (show okTo l (j + 1 + 1) = Op.bytesLess l[j].name.toList l[j + 1].name.toList by rw [okTo_succ,HT.out,okAt_succ l j hlt hr]; rfl)
          have HS2 := Lib.hid (okAt_succ l j hlt hr)
          clear hr
          cases hlss : Op.bytesLess l[j].name.toList l[j + 1].name.toList with
          | true =>
            have HT' := Lib.hid (HS.out.trans hlss)
            go_wp2
            refine wp_region_at (fun w0 => Below w.heap.size w w0 ∧ wr.heap.size < w0.heap.size ∧ w0.cell? ⟨wr.heap.size,0,none⟩ = some (.string l[j + 1].name) ∧ w0.cell? ⟨wr.heap.size,1,none⟩ = some (.int .i64 l[j + 1].arity) ∧ w0.cell? ⟨wr.heap.size,2,none⟩ = some (.bool l[j + 1].source)) ⟨hW.alloc hz _,by simp,box_cell _ _ _ 0,box_cell _ _ _ 1,box_cell _ _ _ 2⟩ (by kernel_rfl) (by kernel_rfl) ?_
            rintro w0 ⟨hW0,hlt0,e0,e1,e2⟩
            have hz0 := hW0.size
            replace e0 := Aft.cell hlt0 e0
            replace e1 := Aft.cell hlt0 e1
            replace e2 := Aft.cell hlt0 e2
            obtain ⟨b',off',hA,hb',d0,-,-⟩ := RelsAt.elem (HL.out.below hW0 (Nat.le_refl _)) j hj
            obtain ⟨rfl,rfl⟩ : b = b' ∧ off = off' := by simpa using hA
            have D0 := Aft.cell (show b < w0.heap.size by omega) d0
            clear hA d0
            repeat (go_big_quiet_step (((go_at_call 121; exact calls_aft (Nat.le_refl _) (hcon _)))))
            refine wpQuiet_nil ?_
            refine aft_end ?_
            intro w1 hh
            replace hh := hW0.trans (hh.mono hz0)
            go_wp2
            go_roundw
            case rel => exact ⟨j + 1 + 1,by omega,by go_num,HT',hh⟩
            case measure => simp [intOf]; omega
          | false =>
            have HV := Lib.hid (validRels_no l (j + 1) hlt (HS2.out.trans hlss))
            go_wp2
            refine wp_region_at (fun w0 => Below w.heap.size w w0 ∧ wr.heap.size < w0.heap.size ∧ w0.cell? ⟨wr.heap.size,0,none⟩ = some (.string l[j + 1].name) ∧ w0.cell? ⟨wr.heap.size,1,none⟩ = some (.int .i64 l[j + 1].arity) ∧ w0.cell? ⟨wr.heap.size,2,none⟩ = some (.bool l[j + 1].source)) ⟨hW.alloc hz _,by simp,box_cell _ _ _ 0,box_cell _ _ _ 1,box_cell _ _ _ 2⟩ (by kernel_rfl) (by kernel_rfl) ?_
            rintro w0 ⟨hW0,hlt0,e0,e1,e2⟩
            have hz0 := hW0.size
            replace e0 := Aft.cell hlt0 e0
            replace e1 := Aft.cell hlt0 e1
            replace e2 := Aft.cell hlt0 e2
            obtain ⟨b',off',hA,hb',d0,-,-⟩ := RelsAt.elem (HL.out.below hW0 (Nat.le_refl _)) j hj
            obtain ⟨rfl,rfl⟩ : b = b' ∧ off = off' := by simpa using hA
            have D0 := Aft.cell (show b < w0.heap.size by omega) d0
            clear hA d0
            repeat (go_big_quiet_step (((go_at_call 121; exact calls_aft (Nat.le_refl _) (hcon _)))))
            refine wpQuiet_nil ?_
            refine aft_end ?_
            intro w1 hh
            replace hh := hW0.trans (hh.mono hz0)
            go_wp2
            go_ret
            exact ⟨ret_bool HV.out.symm,hh⟩
    · obtain rfl : k = l.length := by omega
      have HV := Lib.hid ((validRels_yes l HT.out).trans (decide_eq_true h6))
      go_wp2
      go_ret
      exact ⟨ret_bool HV.out.symm,hW⟩
 · have HV := Lib.hid (validRels_long l h6)
   go_enter Tryz.func69,Tryz.ntmps69
   go_wp2
   go_ret
   exact ⟨ret_bool HV.out.symm,Below.refl _ _⟩
theorem implAreValid_at2 (l : List Rel) (b : Bool) (h : validRels l = b) (v : Value) (w : World) (hl : RelsAt w w.heap.size v l) :
 Calls Tryz.prog 69 #[v] w fun e w' => e = .returned (.bool b) ∧ Below w.heap.size w w' := by
 subst h; exact implAreValidRelations_any v l w hl
set_option maxHeartbeats 1600000 in
set_option maxRecDepth 100000 in
theorem implRelOf_any (v : Value) (l : List Rel) (r n : Int) (w : World) (hl : RelsAt w w.heap.size v l) :
 Calls Tryz.prog 156 #[v,.int .i64 r,.int .i64 n] w fun e w' => e = .returned (.bool (relOf l r n)) ∧ Below w.heap.size w w' := by
 have HL := Lib.hid hl
 obtain ⟨A,c,rfl,hlc,hcm,-⟩ := hl
 unfold maxLen at hcm
 have hcon := fun b h => implAreValid_at2 l b h (.slice A l.length c) w HL.out
 cases hr : validRels l with
 | false =>
   have HF := Lib.hid (relOf_rels (r := r) (n := n) hr)
   replace hcon := hcon false hr
   clear hr
   go_enter Tryz.func156,Tryz.ntmps156
   go_wp2_with (go_at_call 69; refine hcon.mono ?_; rintro e w1 ⟨rfl,hb1⟩)
   go_ret
   exact ⟨ret_bool HF.out.symm,hb1⟩
 | true =>
   have HR := Lib.hid hr
   replace hcon := hcon true hr
   clear hr
   by_cases hneg : 0 ≤ r
   · have hd1 : decide (0 ≤ r) = true := decide_eq_true hneg
     by_cases hlt : r < l.length
     · obtain ⟨k,rfl⟩ : ∃ k : Nat,r = (k : Int) := ⟨r.toNat,by omega⟩
       have hk : k < l.length := by omega
       have HF := Lib.hid (relOf_in (n := n) HR.out ⟨hneg,hlt⟩)
       have hd2 : decide (k < l.length) = true := decide_eq_true hk
       obtain ⟨b,off,rfl,hb,-,c1,-⟩ := RelsAt.elem HL.out k hk
       have ha : l[k].arity = arityAt l (k : Int) := by rw [arityAt_in (by omega)]; rfl
       have HE := Lib.hid (show (l[k].arity == n) = decide (n = arityAt l (k : Int)) by
        rw [ha]
        by_cases e : n = arityAt l (k : Int)
        · rw [decide_eq_true e,e]; exact beq_self_eq_true _
        · rw [decide_eq_false e]; exact beq_eq_false_iff_ne.2 (fun e1 => e e1.symm))
       have C1 := Lib.hid c1
       clear c1 ha
       generalize l[k].arity = q at *
       go_enter Tryz.func156,Tryz.ntmps156
       go_wp2_with fail
       refine hcon.mono ?_
       rintro e w1 ⟨rfl,hb1⟩
       have f2 := (hb1.cell (p := ⟨b,off + k * 3 + 1,none⟩) hb).trans C1.out
       go_wp2
       go_ret
       exact ⟨ret_bool (HE.out.trans HF.out.symm),hb1⟩
     · have HF := Lib.hid (relOf_idx (l := l) (r := r) (n := n) (fun h => hlt h.2))
       have hd2 : decide (r < (l.length : Int)) = false := decide_eq_false hlt
       clear hlt
       go_enter Tryz.func156,Tryz.ntmps156
       go_wp2_with (go_at_call 69; refine hcon.mono ?_; rintro e w1 ⟨rfl,hb1⟩)
       go_ret
       exact ⟨ret_bool HF.out.symm,hb1⟩
   · have hd1 : decide (0 ≤ r) = false := decide_eq_false hneg
     have HF := Lib.hid (relOf_idx (l := l) (r := r) (n := n) (fun h => hneg h.1))
     clear hneg
     go_enter Tryz.func156,Tryz.ntmps156
     go_wp2_with (go_at_call 69; refine hcon.mono ?_; rintro e w1 ⟨rfl,hb1⟩)
     go_ret
     exact ⟨ret_bool HF.out.symm,hb1⟩
theorem implRelOf_at (l : List Rel) (r n : Int) (q : Bool) (hq : relOf l r n = q) (v : Value) (w : World) (hl : RelsAt w w.heap.size v l) :
 Calls Tryz.prog 156 #[v,.int .i64 r,.int .i64 n] w fun e w' => e = .returned (.bool q) ∧ Below w.heap.size w w' := by
 subst hq; exact implRelOf_any v l r n w hl
set_option maxHeartbeats 3200000 in
set_option maxRecDepth 100000 in
theorem implIsValidFact_any (v : Value) (l : List Rel) (r : Int) (V : Value) (vs : List Int) (w : World) (hl : RelsAt w w.heap.size v l) (hV : IntsAt w w.heap.size V vs) (hw : IntsWf vs) :
 Calls Tryz.prog 127 #[v,.agg #[.int .i64 r,V]] w fun e w' => e = .returned (.bool (factOk l r vs)) ∧ Below w.heap.size w w' := by
 have HL := Lib.hid hl
 have HV := Lib.hid hV
 obtain ⟨A,c,rfl,hlc,hcm,-⟩ := hl
 obtain ⟨A',c',rfl,hlc',hcm',-⟩ := hV
 unfold maxLen at hcm hcm'
 have hE : Below w.heap.size w (w.alloc (.cells #[.int .i64 r,.slice A' vs.length c'] 66)) := (Below.refl _ _).alloc (Nat.le_refl _) _
 have hEz : w.heap.size < (w.alloc (.cells #[.int .i64 r,.slice A' vs.length c'] 66)).heap.size := by simp
 have K1 := Lib.hid (show (w.alloc (.cells #[.int .i64 r,.slice A' vs.length c'] 66)).cell? ⟨w.heap.size,1,none⟩ = some (.slice A' vs.length c') by simp [go_sem])
 have hcon := fun q hq => implRelOf_at l r (vs.length : Nat) q hq (.slice A l.length c) (w.alloc (.cells #[.int .i64 r,.slice A' vs.length c'] 66)) ((HL.out.below hE (Nat.le_refl _)).more hE.size)
 cases hr : relOf l r (vs.length : Nat) with
 | false =>
   have HF := Lib.hid (show factOk l r vs = false by rw [factOk_relOf,hr]; rfl)
   replace hcon := hcon false hr
   clear hr
   go_enter Tryz.func127,Tryz.ntmps127
   go_wp2_with (go_at_call 156; refine hcon.mono ?_; rintro e w1 ⟨rfl,hb1⟩)
   go_ret
   exact ⟨ret_bool HF.out.symm,hE.trans (hb1.mono hE.size)⟩
 | true =>
   have HA := Lib.hid (show factOk l r vs = vs.all validV by rw [factOk_relOf,hr]; rfl)
   replace hcon := hcon true hr
   clear hr
   go_enter Tryz.func127,Tryz.ntmps127
   go_wp2_with fail
   refine hcon.mono ?_
   rintro e w1 ⟨rfl,hb1⟩
   have hz1 := hb1.size
   have f1 := (hb1.cell (p := ⟨w.heap.size,1,none⟩) hEz).trans K1.out
   clear hcon
   go_wp2
   clear f1
   go_loopw [18] (fun i wr => ∃ j : Nat,j ≤ vs.length ∧ i = .int .i64 j ∧ Hid (ValsTo vs j) ∧ Below w1.heap.size w1 wr) (fun i _ => vs.length - (intOf i).toNat)
   case atStart => exact ⟨0,by omega,rfl,Lib.hid (ValsTo.zero vs),Below.refl _ _⟩
   case round =>
    obtain ⟨j,hj,rfl,HT,hW⟩ := hrel
    have hWW := hE.trans ((hb1.trans (hW.mono hz1)).mono hE.size)
    by_cases hlt : j < vs.length
    · obtain ⟨b',off',rfl,hb',d0⟩ := IntsAt.elem HV.out j hlt
      replace d0 := (hWW.cell (p := ⟨b',off' + j,none⟩) hb').trans d0
      cases hv : validV vs[j] with
      | false =>
        have hvc := implIsValidValue_at vs[j] false hv wr (hw j hlt).1 (hw j hlt).2
        have HF := Lib.hid (all_no (p := validV) hlt hv)
        clear hv
        go_wp2_with (go_at_call 157; refine hvc.mono ?_; rintro e w3 ⟨rfl,rfl⟩)
        go_ret
        exact ⟨ret_bool (HA.out.trans HF.out).symm,hWW⟩
      | true =>
        have hvc := implIsValidValue_at vs[j] true hv wr (hw j hlt).1 (hw j hlt).2
        have HN := Lib.hid (HT.out.next hlt hv)
        clear hv
        go_wp2_with (go_at_call 157; refine hvc.mono ?_; rintro e w3 ⟨rfl,rfl⟩)
        go_roundw
        case rel => exact ⟨j + 1,by omega,by go_num,HN,hW⟩
        case measure => simp [intOf]; omega
    · obtain rfl : j = vs.length := by omega
      have HF := Lib.hid (show vs.all validV = true by have := HT.out; unfold ValsTo at this; rwa [List.take_of_length_le (Nat.le_refl _)] at this)
      go_wp2
      go_ret
      exact ⟨ret_bool (HA.out.trans HF.out).symm,hWW⟩
theorem implCompareFacts_at (a b : Fct) (q : Int) (hq : cmpF a b = q) (v u : Value) (w : World) (h : Fact_at w w.heap.size v a) (h' : Fact_at w w.heap.size u b) :
 Calls Tryz.prog 73 #[v,u] w fun e w' => e = .returned (.int .i64 q) ∧ Below w.heap.size w w' := by
 subst hq
 obtain ⟨V,rfl,h⟩ := h
 obtain ⟨U,rfl,h'⟩ := h'
 exact implCompareFacts_any _ _ _ _ _ _ w h h'
theorem atomOk_relOf (l : List Rel) (r : Int) (vs : List Int) : atomOk l r vs = (relOf l r (vs.length : Nat) && vs.all validT) := by unfold atomOk relOf; simp only [Bool.and_assoc]
set_option maxHeartbeats 3200000 in
set_option maxRecDepth 100000 in
theorem implIsValidAtom_any (v : Value) (l : List Rel) (r : Int) (V : Value) (vs : List Int) (w : World) (hl : RelsAt w w.heap.size v l) (hV : IntsAt w w.heap.size V vs) :
 Calls Tryz.prog 133 #[v,.agg #[.int .i64 r,V]] w fun e w' => e = .returned (.bool (atomOk l r vs)) ∧ Below w.heap.size w w' := by
 have HL := Lib.hid hl
 have HV := Lib.hid hV
 obtain ⟨A,c,rfl,hlc,hcm,-⟩ := hl
 obtain ⟨A',c',rfl,hlc',hcm',-⟩ := hV
 unfold maxLen at hcm hcm'
 have hE : Below w.heap.size w (w.alloc (.cells #[.int .i64 r,.slice A' vs.length c'] 111)) := (Below.refl _ _).alloc (Nat.le_refl _) _
 have hEz : w.heap.size < (w.alloc (.cells #[.int .i64 r,.slice A' vs.length c'] 111)).heap.size := by simp
 have K1 := Lib.hid (show (w.alloc (.cells #[.int .i64 r,.slice A' vs.length c'] 111)).cell? ⟨w.heap.size,1,none⟩ = some (.slice A' vs.length c') by simp [go_sem])
 have hcon := fun q hq => implRelOf_at l r (vs.length : Nat) q hq (.slice A l.length c) (w.alloc (.cells #[.int .i64 r,.slice A' vs.length c'] 111)) ((HL.out.below hE (Nat.le_refl _)).more hE.size)
 cases hr : relOf l r (vs.length : Nat) with
 | false =>
   have HF := Lib.hid (show atomOk l r vs = false by rw [atomOk_relOf,hr]; rfl)
   replace hcon := hcon false hr
   clear hr
   go_enter Tryz.func133,Tryz.ntmps133
   go_wp2_with (go_at_call 156; refine hcon.mono ?_; rintro e w1 ⟨rfl,hb1⟩)
   go_ret
   exact ⟨ret_bool HF.out.symm,hE.trans (hb1.mono hE.size)⟩
 | true =>
   have HA := Lib.hid (show atomOk l r vs = vs.all validT by rw [atomOk_relOf,hr]; rfl)
   replace hcon := hcon true hr
   clear hr
   go_enter Tryz.func133,Tryz.ntmps133
   go_wp2_with fail
   refine hcon.mono ?_
   rintro e w1 ⟨rfl,hb1⟩
   have hz1 := hb1.size
   have f1 := (hb1.cell (p := ⟨w.heap.size,1,none⟩) hEz).trans K1.out
   clear hcon
   go_wp2
   clear f1
   go_loopw [18] (fun i wr => ∃ j : Nat,j ≤ vs.length ∧ i = .int .i64 j ∧ Hid (TermsTo vs j) ∧ Below w1.heap.size w1 wr) (fun i _ => vs.length - (intOf i).toNat)
   case atStart => exact ⟨0,by omega,rfl,Lib.hid (TermsTo.zero vs),Below.refl _ _⟩
   case round =>
    obtain ⟨j,hj,rfl,HT,hW⟩ := hrel
    have hWW := hE.trans ((hb1.trans (hW.mono hz1)).mono hE.size)
    by_cases hlt : j < vs.length
    · obtain ⟨b',off',rfl,hb',d0⟩ := IntsAt.elem HV.out j hlt
      replace d0 := (hWW.cell (p := ⟨b',off' + j,none⟩) hb').trans d0
      cases hv : validT vs[j] with
      | false =>
        have hvc := implIsValidTerm_at vs[j] false hv wr
        have HF := Lib.hid (all_no (p := validT) hlt hv)
        clear hv
        go_wp2_with (go_at_call 160; refine hvc.mono ?_; rintro e w3 ⟨rfl,rfl⟩)
        go_ret
        exact ⟨ret_bool (HA.out.trans HF.out).symm,hWW⟩
      | true =>
        have hvc := implIsValidTerm_at vs[j] true hv wr
        have HN := Lib.hid (HT.out.next hlt hv)
        clear hv
        go_wp2_with (go_at_call 160; refine hvc.mono ?_; rintro e w3 ⟨rfl,rfl⟩)
        go_roundw
        case rel => exact ⟨j + 1,by omega,by go_num,HN,hW⟩
        case measure => simp [intOf]; omega
    · obtain rfl : j = vs.length := by omega
      have HF := Lib.hid (show vs.all validT = true by have := HT.out; unfold TermsTo at this; rwa [List.take_of_length_le (Nat.le_refl _)] at this)
      go_wp2
      go_ret
      exact ⟨ret_bool (HA.out.trans HF.out).symm,hWW⟩
theorem implIsValidAtom_at (l : List Rel) (x : Atm) (q : Bool) (hq : atomB l x = q) (v u : Value) (w : World) (hl : RelsAt w w.heap.size v l) (hf : Atom_at w w.heap.size u x) :
 Calls Tryz.prog 133 #[v,u] w fun e w' => e = .returned (.bool q) ∧ Below w.heap.size w w' := by
 subst hq
 obtain ⟨V,rfl,hV⟩ := hf
 exact implIsValidAtom_any v l x.rel V x.vals w hl hV
def TellsA (g : Nat) (lb : Array Value) (G : World → Prop) (p : Atm → Bool) (l : List Atm) : Prop :=
 ∀ (W : World) (x : Atm) (V : Value),G W → x ∈ l → IntS_at W W.heap.size V x.vals → Calls Tryz.prog g (#[.agg #[.int .i64 x.rel,V]] ++ lb) W fun e w' => e = .returned (.bool (p x)) ∧ Below W.heap.size W w'
set_option maxHeartbeats 1600000 in
set_option maxRecDepth 100000 in
theorem implIxA_any (g : Nat) (lb : Array Value) (eg : ∀ args w, (callFunc g args).run Tryz.prog w = .ok (.enter g args) w) (G : World → Prop) (hG : ∀ W W', G W → Below W.heap.size W W' → G W') (p : Atm → Bool) (v : Value) (l : List Atm) (w : World) (h0 : G w) (ht : TellsA g lb G p l) (hl : AtomS_at w w.heap.size v l) :
 Calls Tryz.prog 165 #[v,.func (.func g) #[] lb] w fun e w' => e = .returned (.int .i64 (ixOf p l)) ∧ Below w.heap.size w w' := by
 have HL := Lib.hid hl
 obtain ⟨A,c,rfl,hlc,hcm⟩ := hl.form
 unfold maxLen at hcm
 have HG := Lib.hid (fun wr (hW : Below w.heap.size w wr) => hG w wr h0 hW)
 have HT := Lib.hid ht
 clear hG h0 ht hl
 go_enter Tryz.func165,Tryz.ntmps165
 go_wp2
 go_loopw [8] (fun i wr => ∃ k : Nat,k ≤ l.length ∧ i = .int .i64 k ∧ Hid (IxTo p l k) ∧ Below w.heap.size w wr) (fun i _ => l.length - (intOf i).toNat)
 case atStart => exact ⟨0,by omega,rfl,Lib.hid (IxTo.zero _ _),Below.refl _ _⟩
 case round =>
  obtain ⟨k,hk,rfl,HI,hW⟩ := hrel
  have hz := hW.size
  by_cases hlt : k < l.length
  · obtain ⟨b,off,V,rfl,hb,c0,c1,hV⟩ := AtomS_at.elem HL.out k hlt
    replace c0 := (hW.cell (p := ⟨b,off + k * 2,none⟩) hb).trans c0
    replace c1 := (hW.cell (p := ⟨b,off + k * 2 + 1,none⟩) hb).trans c1
    have hcall := HT.out wr l[k] V (HG.out wr hW) (List.getElem_mem hlt) ((hV.below hW (Nat.le_refl _)).more hz)
    cases hp : p l[k] with
    | true =>
      have HV := Lib.hid (HI.out.hit hlt hp)
      rw [hp] at hcall
      clear hp hV
      go_wp2_with (go_at_fn g; refine hcall.mono ?_; rintro e w1 ⟨rfl,hb1⟩)
      go_ret
      exact ⟨ret_int HV.out.symm,hW.trans (hb1.mono hz)⟩
    | false =>
      have HV := Lib.hid (HI.out.next hlt hp)
      rw [hp] at hcall
      clear hp hV
      go_wp2_with (go_at_fn g; refine hcall.mono ?_; rintro e w1 ⟨rfl,hb1⟩)
      go_roundw
      case rel => exact ⟨k + 1,by omega,by go_num,HV,hW.trans (hb1.mono hz)⟩
      case measure => simp [intOf]; omega
  · obtain rfl : k = l.length := by omega
    have HV := Lib.hid HI.out.miss
    go_wp2
    go_ret
    exact ⟨ret_int HV.out.symm,hW⟩
theorem implAnyA_any (g : Nat) (lb : Array Value) (eg : ∀ args w, (callFunc g args).run Tryz.prog w = .ok (.enter g args) w) (G : World → Prop) (hG : ∀ W W', G W → Below W.heap.size W W' → G W') (p : Atm → Bool) (v : Value) (l : List Atm) (w : World) (h0 : G w) (ht : TellsA g lb G p l) (hl : AtomS_at w w.heap.size v l) :
 Calls Tryz.prog 136 #[v,.func (.func g) #[] lb] w fun e w' => e = .returned (.bool (l.any p)) ∧ Below w.heap.size w w' := by
 have hi := implIxA_any g lb eg G hG p v l w h0 ht hl
 have HV := Lib.hid (ixOf_any p l)
 generalize ixOf p l = q at *
 clear h0 ht hG
 obtain ⟨A,c,rfl,hlc,hcm⟩ := hl.form
 clear hl
 go_enter Tryz.func136,Tryz.ntmps136
 go_wp2_with (go_at_call 165; refine hi.mono ?_; rintro e w1 ⟨rfl,hb1⟩)
 go_ret
 exact ⟨ret_bool HV.out,hb1⟩
end Go.Proofs.YtobdijcnfmgidaaGreat
