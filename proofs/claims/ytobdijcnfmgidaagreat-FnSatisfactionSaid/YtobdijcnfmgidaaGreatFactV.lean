/- Walks and plain lemmas for the laws of this seat. -/
import Derived.Test.YtobdijcnfmgidaaGreatBase
import Derived.Test.YtobdijcnfmgidaaGreatInts
import Derived.Test.YtobdijcnfmgidaaGreatDrawR
import Derived.Test.YtobdijcnfmgidaaGreatAft
import Derived.Test.YtobdijcnfmgidaaGreatParInI
import Derived.Test.YtobdijcnfmgidaaGreatMInst
namespace Go.Proofs.YtobdijcnfmgidaaGreat
open Go.RowKit
set_option maxHeartbeats 400000 in
theorem specCompareFacts_any (r s : Int) (v u : Value) (a b : List Int) (w : World) (hl : IntsAt w w.heap.size v a) (hm : IntsAt w w.heap.size u b) :
 Calls Tryz.prog 36 #[.agg #[.int .i64 r,v],.agg #[.int .i64 s,u]] w fun e w' => e = .returned (.int .i64 (cmpFact r a s b)) ∧ Below w.heap.size w w' := by
 have hb : Below w.heap.size w ((w.alloc (.cells #[.int .i64 r,v] 66)).alloc (.cells #[.int .i64 s,u] 66)) := below_more (below_more (Below.refl _ _) _) _
 have hcon := specInts_any v u a b _ ((hl.below hb (Nat.le_refl _)).more hb.size) ((hm.below hb (Nat.le_refl _)).more hb.size)
 clear hl hm
 by_cases h1 : r < s
 · have HV : Hid (cmpFact r a s b = -1) := Lib.hid (if_pos h1)
   go_enter Tryz.func36,Tryz.ntmps36
   go_wp2
   go_ret
   exact ⟨ret_int HV.out.symm,hb⟩
 · by_cases h2 : s < r
   · have HV : Hid (cmpFact r a s b = 1) := Lib.hid ((if_neg h1).trans (if_pos h2))
     go_enter Tryz.func36,Tryz.ntmps36
     go_wp2
     go_ret
     exact ⟨ret_int HV.out.symm,hb⟩
   · have HV : Hid (cmpFact r a s b = cmpInts a b) := Lib.hid ((if_neg h1).trans (if_neg h2))
     go_enter Tryz.func36,Tryz.ntmps36
     go_wp2_with fail
     refine hcon.mono ?_
     rintro e w' ⟨rfl,hb'⟩
     go_wp2
     go_ret
     exact ⟨ret_int HV.out.symm,hb.trans (hb'.mono hb.size)⟩
theorem specCompareFacts_at (a b : Fct) (q : Int) (hq : cmpF a b = q) (v u : Value) (w : World) (h : Fact_at w w.heap.size v a) (h' : Fact_at w w.heap.size u b) :
 Calls Tryz.prog 36 #[v,u] w fun e w' => e = .returned (.int .i64 q) ∧ Below w.heap.size w w' := by
 subst hq
 obtain ⟨V,rfl,h⟩ := h
 obtain ⟨U,rfl,h'⟩ := h'
 exact specCompareFacts_any _ _ _ _ _ _ w h h'
set_option maxHeartbeats 3200000 in
set_option maxRecDepth 100000 in
theorem specPut_any (B g cap : Nat) (l : List Int) (x : Int) (w : World) (hO : OwnInts B (.slice (some ⟨g, 0, none⟩) l.length cap) l w) (hB : B ≤ w.heap.size) (hn : l.length ≤ 1048576) :
 Calls Tryz.prog 78 #[.slice (some ⟨g,0,none⟩) l.length cap,.int .i64 x] w fun e w' => ∃ g' cap',e = .returned (.slice (some ⟨g',0,none⟩) (putI l x).length cap') ∧ OwnInts B (.slice (some ⟨g',0,none⟩) (putI l x).length cap') (putI l x) w' ∧ Below w.heap.size w w' := by
 have HO := Lib.hid hO
 have HL := Lib.hid hO.at_
 obtain ⟨_,_,hv,hlc,hcm,-⟩ := hO.at_
 injection hv with h1 _ h2
 subst h1 h2
 have hg := (hO.lt g rfl).2
 clear hO
 unfold maxLen at hcm
 go_enter Tryz.func78,Tryz.ntmps78
 go_wp2
 go_loop [5] (fun i => ∃ k : Nat,k ≤ l.length ∧ i = .int .i64 k ∧ Hid (PutTo l x k)) (fun i => l.length - (intOf i).toNat)
 case atStart => exact ⟨0,by omega,rfl,Lib.hid (PutTo.zero l x)⟩
 case round =>
  obtain ⟨k,hk,rfl,HT⟩ := hrel
  by_cases hlt : k < l.length
  · obtain ⟨b,off,hA,hb,c0⟩ := IntsAt.elem HL.out k hlt
    obtain ⟨rfl,rfl⟩ : g = b ∧ 0 = off := by simpa using hA
    clear hA
    rw [Nat.zero_add] at c0
    by_cases h1 : l[k] < x
    · have HN := Lib.hid (HT.out.next hlt h1)
      go_wp2
      go_round
      case rel => exact ⟨k + 1,by omega,by go_num,HN⟩
      case measure => simp [intOf]; omega
    · by_cases h2 : l[k] = x
      · have HV := Lib.hid (HT.out.hit hlt h2)
        have hb2 : (l[k] == x) = true := by rw [h2]; exact beq_self_eq_true x
        clear h2
        go_wp2
        go_ret
        exact ⟨g,cap,by rw [HV.out]; rfl,by rw [HV.out]; exact HO.out,Below.refl _ _⟩
      · have HV := Lib.hid (HT.out.stop hlt (by omega))
        have hb2 : (l[k] == x) = false := beq_eq_false_iff_ne.2 h2
        have hck : ¬ cap - k = 0 := by omega
        clear h2
        go_wp2_with (first
         | (at_builtin; refine ints_apps (r := l.drop k) (OwnInts.one w w.heap.size x (Nat.le_refl _)) rfl _ _ rfl rfl (some ⟨g,k,none⟩) (l.length - k) (cap - k) rfl (by simp) (by simpa using (SliceAt.drop (k := 1) (fun _ => rfl) ((HL.out.below ((Below.refl _ _).alloc (Nat.le_refl _) (.cells #[.int .i64 x] 3)) (Nat.le_refl _))) k hk)) (fun h => by cases h) (by simp <;> omega) (by simp) ?_; intro v1 w1 hO1 hW1 _ _; have hz1 := hW1.size; simp at hz1; obtain ⟨g1,cap1,rfl,_,hg1,hc1,hc2⟩ := hO1.form (by simp); have hw1 : Below w.heap.size w w1 := ((Below.refl _ _).alloc (Nat.le_refl _) _).trans hW1; have HO1 := Lib.hid hO1.at_; clear hO1 hW1)
         | (at_builtin; refine ints_apps (r := l.take k) (OwnInts.empty w1 w1.heap.size (Nat.le_refl _)) rfl _ _ rfl rfl (some ⟨g,0,none⟩) k cap rfl (by simp <;> omega) (SliceAt.take ((HL.out.below hw1 (Nat.le_refl _)).below ((Below.refl w1.heap.size w1).alloc (Nat.le_refl _) _) (by omega)) k (by omega)) (fun h => by cases h) (by simp <;> omega) (by simp) ?_; intro v2 w2 hO2 hW2 _ _; have hz2 := hW2.size; simp at hz2; have hw2 : Below w1.heap.size w1 w2 := ((Below.refl _ _).alloc (Nat.le_refl _) _).trans hW2)
         | (at_builtin; refine ints_apps (r := [x] ++ l.drop k) hO2 rfl _ _ rfl rfl (some ⟨g1,0,none⟩) _ cap1 rfl (by simp <;> omega) (HO1.out.below hw2 (Nat.le_refl _)) (fun h => by cases h) (by simp <;> omega) (by omega) ?_; intro v3 w3 hO3 hW3 _ _; obtain ⟨g3,cap3,rfl,-,-,-,-⟩ := hO3.form (by simp <;> omega)))
        have he : [] ++ l.take k ++ ([x] ++ l.drop k) = putI l x := by rw [HV.out]; simp
        rw [he] at hO3
        have hlen : (putI l x).length = k + (l.length - k + 1) := by rw [HV.out]; simp <;> omega
        go_ret
        exact ⟨g3,cap3,by rw [hlen]; rfl,hO3.mono (by omega),hw1.trans ((hw2.trans hW3).mono (by omega))⟩
  · obtain rfl : k = l.length := by omega
    have HV := Lib.hid (HT.out.last rfl)
    by_cases hcl : cap = l.length
    · subst hcl
      go_wp2_with (first
       | (at_builtin; refine ints_apps (r := l.drop l.length) (OwnInts.one w w.heap.size x (Nat.le_refl _)) rfl _ _ rfl rfl (some ⟨g,0,none⟩) 0 0 rfl (by simp) (by simpa [List.drop_length] using (SliceAt.none_of (f := intCell) (w := w.alloc (.cells #[.int .i64 x] 3)) (B := w.heap.size) (A := some ⟨g,0,none⟩) (c := 0) (by decide) (fun e => by cases e))) (fun h => by cases h) (by simp <;> omega) (by simp) ?_; intro v1 w1 hO1 hW1 _ _; have hz1 := hW1.size; simp at hz1; obtain ⟨g1,cap1,rfl,_,hg1,hc1,hc2⟩ := hO1.form (by simp); have hw1 : Below w.heap.size w w1 := ((Below.refl _ _).alloc (Nat.le_refl _) _).trans hW1; have HO1 := Lib.hid hO1.at_; clear hO1 hW1)
       | (at_builtin; refine ints_apps (r := l.take l.length) (OwnInts.empty w1 w1.heap.size (Nat.le_refl _)) rfl _ _ rfl rfl (some ⟨g,0,none⟩) l.length l.length rfl (by simp) (SliceAt.take ((HL.out.below hw1 (Nat.le_refl _)).below ((Below.refl w1.heap.size w1).alloc (Nat.le_refl _) _) (by omega)) l.length (by omega)) (fun h => by cases h) (by simp <;> omega) (by simp) ?_; intro v2 w2 hO2 hW2 _ _; have hz2 := hW2.size; simp at hz2; have hw2 : Below w1.heap.size w1 w2 := ((Below.refl _ _).alloc (Nat.le_refl _) _).trans hW2)
       | (at_builtin; refine ints_apps (r := [x] ++ l.drop l.length) hO2 rfl _ _ rfl rfl (some ⟨g1,0,none⟩) _ cap1 rfl (by simp <;> omega) (HO1.out.below hw2 (Nat.le_refl _)) (fun h => by cases h) (by simp <;> omega) (by omega) ?_; intro v3 w3 hO3 hW3 _ _; obtain ⟨g3,cap3,rfl,-,-,-,-⟩ := hO3.form (by simp <;> omega)))
      have he : [] ++ l.take l.length ++ ([x] ++ l.drop l.length) = putI l x := by rw [HV.out]; simp
      rw [he] at hO3
      have hlen : (putI l x).length = l.length + 1 := by rw [HV.out]; simp
      go_ret
      exact ⟨g3,cap3,by rw [hlen]; rfl,hO3.mono (by omega),hw1.trans ((hw2.trans hW3).mono (by omega))⟩
    · have hck : ¬ cap - l.length = 0 := by omega
      go_wp2_with (first
       | (at_builtin; refine ints_apps (r := l.drop l.length) (OwnInts.one w w.heap.size x (Nat.le_refl _)) rfl _ _ rfl rfl (some ⟨g,l.length,none⟩) 0 (cap - l.length) rfl (by simp) (by simpa using (SliceAt.drop (k := 1) (fun _ => rfl) ((HL.out.below ((Below.refl _ _).alloc (Nat.le_refl _) (.cells #[.int .i64 x] 3)) (Nat.le_refl _))) l.length (Nat.le_refl _))) (fun h => by cases h) (by simp <;> omega) (by simp) ?_; intro v1 w1 hO1 hW1 _ _; have hz1 := hW1.size; simp at hz1; obtain ⟨g1,cap1,rfl,_,hg1,hc1,hc2⟩ := hO1.form (by simp); have hw1 : Below w.heap.size w w1 := ((Below.refl _ _).alloc (Nat.le_refl _) _).trans hW1; have HO1 := Lib.hid hO1.at_; clear hO1 hW1)
       | (at_builtin; refine ints_apps (r := l.take l.length) (OwnInts.empty w1 w1.heap.size (Nat.le_refl _)) rfl _ _ rfl rfl (some ⟨g,0,none⟩) l.length cap rfl (by simp) (SliceAt.take ((HL.out.below hw1 (Nat.le_refl _)).below ((Below.refl w1.heap.size w1).alloc (Nat.le_refl _) _) (by omega)) l.length (by omega)) (fun h => by cases h) (by simp <;> omega) (by simp) ?_; intro v2 w2 hO2 hW2 _ _; have hz2 := hW2.size; simp at hz2; have hw2 : Below w1.heap.size w1 w2 := ((Below.refl _ _).alloc (Nat.le_refl _) _).trans hW2)
       | (at_builtin; refine ints_apps (r := [x] ++ l.drop l.length) hO2 rfl _ _ rfl rfl (some ⟨g1,0,none⟩) _ cap1 rfl (by simp <;> omega) (HO1.out.below hw2 (Nat.le_refl _)) (fun h => by cases h) (by simp <;> omega) (by omega) ?_; intro v3 w3 hO3 hW3 _ _; obtain ⟨g3,cap3,rfl,-,-,-,-⟩ := hO3.form (by simp <;> omega)))
      have he : [] ++ l.take l.length ++ ([x] ++ l.drop l.length) = putI l x := by rw [HV.out]; simp
      rw [he] at hO3
      have hlen : (putI l x).length = l.length + 1 := by rw [HV.out]; simp
      go_ret
      exact ⟨g3,cap3,by rw [hlen]; rfl,hO3.mono (by omega),hw1.trans ((hw2.trans hW3).mono (by omega))⟩
theorem specIsValid_at (r : Rel) (b : Bool) (h : relOk r.name r.arity = b) (w : World) :
 Calls Tryz.prog 79 #[.agg #[.string r.name,.int .i64 r.arity,.bool r.source]] w fun e w' => e = .returned (.bool b) ∧ Below w.heap.size w w' := by
 subst h; exact specIsValidRelation_any _ _ _ w
set_option maxHeartbeats 3200000 in
theorem specAreValidRelations_any (v : Value) (l : List Rel) (w : World) (hl : RelsAt w w.heap.size v l) :
 Calls Tryz.prog 38 #[v] w fun e w' => e = .returned (.bool (validRels l)) ∧ Below w.heap.size w w' := by
 have HL := Lib.hid hl
 obtain ⟨A,c,rfl,hlc,hcm,-⟩ := hl
 unfold maxLen at hcm
 go_enter Tryz.func38,Tryz.ntmps38
 go_wp2
 go_loopw [3] (fun i wr => ∃ k : Nat,k ≤ l.length ∧ i = .int .i64 k ∧ Hid (okTo l k = true) ∧ Below w.heap.size w wr) (fun i _ => l.length - (intOf i).toNat)
 case atStart => exact ⟨0,by omega,rfl,Lib.hid rfl,Below.refl _ _⟩
 case round =>
  obtain ⟨k,hk,rfl,HT,hW⟩ := hrel
  have hz := hW.size
  by_cases hlt : k < l.length
  · obtain ⟨b,off,rfl,hb,c0,c1,c2⟩ := RelsAt.elem HL.out k hlt
    have C0 := Aft.cell hb c0
    have C1 := Aft.cell hb c1
    have C2 := Aft.cell hb c2
    clear c0 c1 c2
    cases hr : relOk l[k].name l[k].arity with
    | false =>
      have HV := Lib.hid (validRels_no l k hlt (okAt_bad l k hlt hr))
      have hcon := specIsValid_at l[k] false hr
      clear hr
      go_wp2
      refine wp_region_aft hW (by kernel_rfl) (by kernel_rfl) ?_
      repeat (go_big_quiet_step (((go_at_call 79; exact calls_aft (Nat.le_refl _) (hcon _)))))
      refine wpQuiet_nil ?_
      refine aft_end ?_
      intro w1 hh
      go_wp2
      go_ret
      exact ⟨by rw [HV.out]; rfl,hh⟩
    | true =>
      have hcon := specIsValid_at l[k] true hr
      rcases Nat.eq_zero_or_pos k with h0 | h0
      · have HT' := Lib.hid (show okTo l (k + 1) = true by rw [okTo_succ,HT.out]; subst h0; rw [okAt_zero l hlt hr]; rfl)
        have hg1 : decide ((0 : Int) < (k : Int)) = false := decide_eq_false (by omega)
        have hg2 : decide (0 < k) = false := decide_eq_false (by omega)
        clear hr h0
        go_wp2
        refine wp_region_aft hW (by kernel_rfl) (by kernel_rfl) ?_
        repeat (go_big_quiet_step (((go_at_call 79; exact calls_aft (Nat.le_refl _) (hcon _)))))
        refine wpQuiet_nil ?_
        refine aft_end ?_
        intro w1 hh
        go_wp2
        go_roundw
        case rel => exact ⟨k + 1,by omega,by go_num,HT',hh⟩
        case measure => simp [intOf]; omega
      · obtain ⟨j,rfl⟩ : ∃ j,k = j + 1 := ⟨k - 1,by omega⟩
        have hj : j < l.length := by omega
        have HS := Lib.hid (show okTo l (j + 1 + 1) = Op.bytesLess l[j].name.toList l[j + 1].name.toList by rw [okTo_succ,HT.out,okAt_succ l j hlt hr]; rfl)
        have HS2 := Lib.hid (okAt_succ l j hlt hr)
        obtain ⟨b',off',hA,hb',d0,-,-⟩ := RelsAt.elem HL.out j hj
        obtain ⟨rfl,rfl⟩ : b = b' ∧ off = off' := by simpa using hA
        have D0 := Aft.cell hb' d0
        clear hA d0
        clear hr
        cases hlss : Op.bytesLess l[j].name.toList l[j + 1].name.toList with
        | true =>
          have HT' := Lib.hid (HS.out.trans hlss)
          go_wp2
          refine wp_region_aft hW (by kernel_rfl) (by kernel_rfl) ?_
          repeat (go_big_quiet_step (((go_at_call 79; exact calls_aft (Nat.le_refl _) (hcon _)))))
          refine wpQuiet_nil ?_
          refine aft_end ?_
          intro w1 hh
          go_wp2
          go_roundw
          case rel => exact ⟨j + 1 + 1,by omega,by go_num,HT',hh⟩
          case measure => simp [intOf]; omega
        | false =>
          have HV := Lib.hid (validRels_no l (j + 1) hlt (HS2.out.trans hlss))
          go_wp2
          refine wp_region_aft hW (by kernel_rfl) (by kernel_rfl) ?_
          repeat (go_big_quiet_step (((go_at_call 79; exact calls_aft (Nat.le_refl _) (hcon _)))))
          refine wpQuiet_nil ?_
          refine aft_end ?_
          intro w1 hh
          go_wp2
          go_ret
          exact ⟨by rw [HV.out]; rfl,hh⟩
  · obtain rfl : k = l.length := by omega
    have HV := Lib.hid (validRels_yes l HT.out)
    go_wp2
    go_ret
    exact ⟨ret_bool (by rw [HV.out]; exact decide_eq_decide.2 (by omega)),hW⟩
theorem specAreValid_at2 (l : List Rel) (b : Bool) (h : validRels l = b) (v : Value) (w : World) (hl : RelsAt w w.heap.size v l) :
 Calls Tryz.prog 38 #[v] w fun e w' => e = .returned (.bool b) ∧ Below w.heap.size w w' := by
 subst h; exact specAreValidRelations_any v l w hl
set_option maxHeartbeats 3200000 in
set_option maxRecDepth 100000 in
theorem specIsValidFact_any (v : Value) (l : List Rel) (r : Int) (V : Value) (vs : List Int) (w : World) (hl : RelsAt w w.heap.size v l) (hn : l.length ≤ 1048576) (hV : IntsAt w w.heap.size V vs) (hw : IntsWf vs) :
 Calls Tryz.prog 35 #[v,.agg #[.int .i64 r,V]] w fun e w' => e = .returned (.bool (factOk l r vs)) ∧ Below w.heap.size w w' := by
 have HL := Lib.hid hl
 have HV := Lib.hid hV
 obtain ⟨A,c,rfl,hlc,hcm,-⟩ := hl
 obtain ⟨A',c',rfl,hlc',hcm',-⟩ := hV
 unfold maxLen at hcm hcm'
 have hE : Below w.heap.size w (w.alloc (.cells #[.int .i64 r,.slice A' vs.length c'] 66)) := (Below.refl _ _).alloc (Nat.le_refl _) _
 have hEz : w.heap.size + 1 ≤ (w.alloc (.cells #[.int .i64 r,.slice A' vs.length c'] 66)).heap.size := by simp
 have k0 : (w.alloc (.cells #[.int .i64 r,.slice A' vs.length c'] 66)).cell? ⟨w.heap.size,0,none⟩ = some (.int .i64 r) := by simp [go_sem]
 have k1 : (w.alloc (.cells #[.int .i64 r,.slice A' vs.length c'] 66)).cell? ⟨w.heap.size,1,none⟩ = some (.slice A' vs.length c') := by simp [go_sem]
 have G0 := Aft.cell hEz k0
 have G1 := Aft.cell hEz k1
 have K1 := Lib.hid k1
 have hcon := fun b h (u : Aft (w.alloc (.cells #[.int .i64 r,.slice A' vs.length c'] 66)).heap.size (w.alloc (.cells #[.int .i64 r,.slice A' vs.length c'] 66))) => specAreValid_at2 l b h (.slice A l.length c) u.now ((HL.out.below (hE.trans (u.is.mono hE.size)) (Nat.le_refl _)).more (hE.trans (u.is.mono hE.size)).size)
 clear k0 k1
 cases hr : validRels l with
 | false =>
   have HF := Lib.hid (factOk_rels (r := r) (vs := vs) hr)
   replace hcon := hcon false hr
   clear hr
   go_enter Tryz.func35,Tryz.ntmps35
   go_wp2
   refine wp_region_aft (Below.refl (w.alloc (.cells #[.int .i64 r,.slice A' vs.length c'] 66)).heap.size (w.alloc (.cells #[.int .i64 r,.slice A' vs.length c'] 66))) (by kernel_rfl) (by kernel_rfl) ?_
   repeat (go_big_quiet_step (((go_at_call 38; exact calls_aft (Nat.le_refl _) (hcon _)))))
   refine wpQuiet_nil ?_
   refine aft_end ?_
   intro w1 hh
   go_wp2
   go_ret
   exact ⟨ret_bool HF.out.symm,hE.trans (hh.mono hE.size)⟩
 | true =>
   have HR := Lib.hid hr
   replace hcon := hcon true hr
   clear hr
   by_cases hin : 0 ≤ r ∧ r < l.length
   · obtain ⟨k,rfl⟩ : ∃ k : Nat,r = (k : Int) := ⟨r.toNat,by omega⟩
     have hk : k < l.length := by omega
     have HIN := Lib.hid hin
     have hin' := fun w => l1In_at (k : Int) 0 ((l.length : Int) - 1) true (inB_true (by omega)) w
     obtain ⟨b,off,rfl,hb,-,c1,-⟩ := RelsAt.elem HL.out k hk
     have C1 := Aft.cell (B := (w.alloc (.cells #[.int .i64 (k : Int),.slice A' vs.length c'] 66)).heap.size) (w := (w.alloc (.cells #[.int .i64 (k : Int),.slice A' vs.length c'] 66))) (by omega) ((hE.cell (p := ⟨b,off + k * 3 + 1,none⟩) hb).trans c1)
     have ha : Hid (l[k].arity = arityAt l (k : Int)) := Lib.hid (by rw [arityAt_in (by omega)]; rfl)
     clear c1 hin
     by_cases hlen : (vs.length : Int) = l[k].arity
     · have HLEN := Lib.hid (hlen.trans ha.out)
       have hbn : ((vs.length : Int) != l[k].arity) = false := by rw [hlen]; simp
       clear hlen
       generalize l[k].arity = q at *
       go_enter Tryz.func35,Tryz.ntmps35
       go_wp2
       refine wp_region_aft (Below.refl (w.alloc (.cells #[.int .i64 (k : Int),.slice A' vs.length c'] 66)).heap.size (w.alloc (.cells #[.int .i64 (k : Int),.slice A' vs.length c'] 66))) (by kernel_rfl) (by kernel_rfl) ?_
       repeat (go_big_quiet_step (first | ((go_at_call 38; exact calls_aft (Nat.le_refl _) (hcon _))) | ((go_at_call 74; exact calls_aft_same (hin' _)))))
       refine wpQuiet_nil ?_
       refine aft_end ?_
       intro w1 hh
       clear hcon hin' C1 G0 G1
       go_wp2
       go_loopw [5] (fun i wr => ∃ j : Nat,j ≤ vs.length ∧ i = .int .i64 j ∧ Hid (ValsTo vs j) ∧ Below (w.alloc (.cells #[.int .i64 (k : Int),.slice A' vs.length c'] 66)).heap.size (w.alloc (.cells #[.int .i64 (k : Int),.slice A' vs.length c'] 66)) wr) (fun i _ => vs.length - (intOf i).toNat)
       case atStart => exact ⟨0,by omega,rfl,Lib.hid (ValsTo.zero vs),hh⟩
       case round =>
        obtain ⟨j,hj,rfl,HT,hW⟩ := hrel
        have f1 := (hW.cell (p := ⟨w.heap.size,1,none⟩) hEz).trans K1.out
        by_cases hlt : j < vs.length
        · obtain ⟨b',off',rfl,hb',d0⟩ := IntsAt.elem HV.out j hlt
          replace d0 := ((hE.trans (hW.mono hE.size)).cell (p := ⟨b',off' + j,none⟩) hb').trans d0
          cases hv : validV vs[j] with
          | false =>
            have hvc := specIsValidValue_at vs[j] false hv wr (hw j hlt).1 (hw j hlt).2
            have HF := Lib.hid (factOk_val (l := l) (r := (k : Int)) j hlt hv)
            clear hv
            go_wp2_with (go_at_call 75; refine hvc.mono ?_; rintro e w2 ⟨rfl,rfl⟩)
            go_ret
            exact ⟨ret_bool HF.out.symm,hE.trans (hW.mono hE.size)⟩
          | true =>
            have hvc := specIsValidValue_at vs[j] true hv wr (hw j hlt).1 (hw j hlt).2
            have HN := Lib.hid (HT.out.next hlt hv)
            clear hv
            go_wp2_with (go_at_call 75; refine hvc.mono ?_; rintro e w2 ⟨rfl,rfl⟩)
            go_roundw
            case rel => exact ⟨j + 1,by omega,by go_num,HN,hW⟩
            case measure => simp [intOf]; omega
        · obtain rfl : j = vs.length := by omega
          have HF := Lib.hid (factOk_yes HR.out HIN.out HLEN.out HT.out)
          go_wp2
          go_ret
          exact ⟨ret_bool HF.out.symm,hE.trans (hW.mono hE.size)⟩
     · have HF := Lib.hid (factOk_len (l := l) (r := (k : Int)) (vs := vs) (fun e => hlen (e.trans ha.out.symm)))
       have hbn : ((vs.length : Int) != l[k].arity) = true := bne_iff_ne.2 hlen
       clear hlen
       generalize l[k].arity = q at *
       go_enter Tryz.func35,Tryz.ntmps35
       go_wp2
       refine wp_region_aft (Below.refl (w.alloc (.cells #[.int .i64 (k : Int),.slice A' vs.length c'] 66)).heap.size (w.alloc (.cells #[.int .i64 (k : Int),.slice A' vs.length c'] 66))) (by kernel_rfl) (by kernel_rfl) ?_
       repeat (go_big_quiet_step (first | ((go_at_call 38; exact calls_aft (Nat.le_refl _) (hcon _))) | ((go_at_call 74; exact calls_aft_same (hin' _)))))
       refine wpQuiet_nil ?_
       refine aft_end ?_
       intro w1 hh
       go_wp2
       go_ret
       exact ⟨ret_bool HF.out.symm,hE.trans (hh.mono hE.size)⟩
   · have HF := Lib.hid (factOk_idx (l := l) (r := r) (vs := vs) hin)
     have hin' := fun w => l1In_at r 0 ((l.length : Int) - 1) false (inB_false (by omega)) w
     clear hin
     go_enter Tryz.func35,Tryz.ntmps35
     go_wp2
     refine wp_region_aft (Below.refl (w.alloc (.cells #[.int .i64 r,.slice A' vs.length c'] 66)).heap.size (w.alloc (.cells #[.int .i64 r,.slice A' vs.length c'] 66))) (by kernel_rfl) (by kernel_rfl) ?_
     repeat (go_big_quiet_step (first | ((go_at_call 38; exact calls_aft (Nat.le_refl _) (hcon _))) | ((go_at_call 74; exact calls_aft_same (hin' _)))))
     refine wpQuiet_nil ?_
     refine aft_end ?_
     intro w1 hh
     go_wp2
     go_ret
     exact ⟨ret_bool HF.out.symm,hE.trans (hh.mono hE.size)⟩
theorem specIsValidFact_at (v : Value) (l : List Rel) (r : Int) (V : Value) (vs : List Int) (b : Bool) (h : factOk l r vs = b) (w : World) (hl : RelsAt w w.heap.size v l) (hn : l.length ≤ 1048576) (hV : IntsAt w w.heap.size V vs) (hw : IntsWf vs) :
 Calls Tryz.prog 35 #[v,.agg #[.int .i64 r,V]] w fun e w' => e = .returned (.bool b) ∧ Below w.heap.size w w' := by
 subst h; exact specIsValidFact_any v l r V vs w hl hn hV hw
set_option maxHeartbeats 1600000 in
set_option maxRecDepth 100000 in
theorem specNullsOfFact_any (r : Int) (V : Value) (vs : List Int) (w : World) (hV : IntsAt w w.heap.size V vs) (hw : IntsWf vs) :
 Calls Tryz.prog 37 #[.agg #[.int .i64 r,V]] w fun e w' => ∃ u,e = .returned u ∧ OwnInts w.heap.size u (nullsOf vs) w' ∧ Below w.heap.size w w' := by
 have HV := Lib.hid hV
 obtain ⟨A',c',rfl,hlc',hcm',-⟩ := hV
 unfold maxLen at hcm'
 have hE : Below w.heap.size w (w.alloc (.cells #[.int .i64 r,.slice A' vs.length c'] 66)) := (Below.refl _ _).alloc (Nat.le_refl _) _
 have hEz : w.heap.size + 1 ≤ (w.alloc (.cells #[.int .i64 r,.slice A' vs.length c'] 66)).heap.size := by simp
 have K1 := Lib.hid (show (w.alloc (.cells #[.int .i64 r,.slice A' vs.length c'] 66)).cell? ⟨w.heap.size,1,none⟩ = some (.slice A' vs.length c') by simp [go_sem])
 go_enter Tryz.func37,Tryz.ntmps37
 go_wp2
 go_loopw [3,4,5,6] (fun o i _ _ wr => ∃ k g cap : Nat,k ≤ vs.length ∧ i = .int .i64 k ∧ o = .slice (some ⟨g,0,none⟩) (nullsOf (vs.take k)).length cap ∧ OwnInts (w.heap.size + 1) o (nullsOf (vs.take k)) wr ∧ Below (w.heap.size + 1) (w.alloc (.cells #[.int .i64 r,.slice A' vs.length c'] 66)) wr) (fun _ i _ _ _ => vs.length - (intOf i).toNat)
 case atStart => exact ⟨0,_,_,by omega,rfl,rfl,by simpa [nullsOf] using OwnInts.empty (w.alloc (.cells #[.int .i64 r,.slice A' vs.length c'] 66)) (w.heap.size + 1) (by simp),(Below.refl _ _).alloc (by simp) _⟩
 case round =>
  obtain ⟨k,g,cap,hk,rfl,rfl,hO,hW⟩ := hrel
  have hz := hW.size
  simp at hz
  have f1 := (hW.cell (p := ⟨w.heap.size,1,none⟩) (by show w.heap.size < _; omega)).trans K1.out
  have hWw : Below w.heap.size w wr := hE.trans (hW.mono (by omega))
  by_cases hlt : k < vs.length
  · obtain ⟨b',off',rfl,hb',d0⟩ := IntsAt.elem HV.out k hlt
    replace d0 := (hWw.cell (p := ⟨b',off' + k,none⟩) hb').trans d0
    have HN := Lib.hid (nullsOf_take vs k hlt)
    have hlen := (AscN.nullsOf vs k).len
    have hnn := specNullNumber_any vs[k] wr (hw k hlt).1 (hw k hlt).2
    cases hb : (nullNum vs[k]).2 with
    | true =>
      have HA := Lib.hid (HN.out.trans (if_pos hb))
      have hput := specPut_any (w.heap.size + 1) g cap (nullsOf (vs.take k)) (nullNum vs[k]).1 wr hO (by omega) (by omega)
      rw [hb] at hnn
      rw [← HA.out] at hput
      clear hb hO
      go_wp2_with (first | (go_at_call 77; refine hnn.mono ?_; rintro e w2 ⟨rfl,rfl⟩) | (go_at_call 78; refine hput.mono ?_; rintro e w3 ⟨g2,cap2,rfl,hO2,hb2⟩))
      go_roundw
      case rel => exact ⟨k + 1,g2,cap2,by omega,by go_num,rfl,hO2,hW.trans (hb2.mono (by omega))⟩
      case measure => simp [intOf]; omega
    | false =>
      have HA := Lib.hid (HN.out.trans (if_neg (by rw [hb]; simp)))
      rw [hb] at hnn
      have HO' := Lib.hid (show OwnInts (w.heap.size + 1) (.slice (some ⟨g,0,none⟩) (nullsOf (vs.take k)).length cap) (nullsOf (vs.take (k + 1))) wr by rw [HA.out]; exact hO)
      have hl : (nullsOf (vs.take (k + 1))).length = (nullsOf (vs.take k)).length := by rw [HA.out]
      clear hb
      go_wp2_with (first | (go_at_call 77; refine hnn.mono ?_; rintro e w2 ⟨rfl,rfl⟩))
      go_roundw
      case rel => exact ⟨k + 1,g,cap,by omega,by go_num,by rw [hl],HO'.out,hW⟩
      case measure => simp [intOf]; omega
  · obtain rfl : k = vs.length := by omega
    have he : nullsOf (vs.take vs.length) = nullsOf vs := by rw [List.take_of_length_le (Nat.le_refl _)]
    have hO' := hO
    rw [he] at hO'
    have HO := Lib.hid (hO'.mono (B' := w.heap.size) (by omega))
    clear hO hO'
    go_wp2
    go_ret
    exact ⟨.slice (some ⟨g,0,none⟩) (nullsOf vs).length cap,by rw [he]; rfl,HO.out,hWw⟩
set_option maxHeartbeats 1600000 in
set_option maxRecDepth 100000 in
theorem specL5Place_any (v u : Value) (x : Inst) (y : Fct) (w : World) (h : Instance_at w w.heap.size v x) (h' : Fact_at w w.heap.size u y) :
 Calls Tryz.prog 140 #[v,u] w fun e w' => e = .returned (.int .i64 (placeF y x.facts)) ∧ Below w.heap.size w w' := by
 obtain ⟨P,c,Q,d,rfl⟩ := Instance_form h
 obtain ⟨P',c',rfl⟩ := Fact_form h'
 obtain ⟨V1,V2,hv,hR,hF⟩ := h
 simp only [Value.agg.injEq,Array.mk.injEq,List.cons.injEq,and_true] at hv
 obtain ⟨rfl,rfl⟩ := hv
 obtain ⟨_,_,hv2,hd1,hd2⟩ := hF.form
 injection hv2 with e1 _ e2
 subst e1 e2
 unfold maxLen at hd2
 have HF := Lib.hid hF
 have HY := Lib.hid h'
 clear hR hF h'
 have hE : Below w.heap.size w ((w.alloc (.cells #[.slice P x.rels.length c,.slice Q x.facts.length d] 27)).alloc (.cells #[.int .i64 y.rel,.slice P' y.vals.length c'] 66)) := below_more (below_more (Below.refl _ _) _) _
 have HE := Lib.hid (show w.heap.size + 2 = ((w.alloc (.cells #[.slice P x.rels.length c,.slice Q x.facts.length d] 27)).alloc (.cells #[.int .i64 y.rel,.slice P' y.vals.length c'] 66)).heap.size by simp)
 have K1 := Lib.hid (show ((w.alloc (.cells #[.slice P x.rels.length c,.slice Q x.facts.length d] 27)).alloc (.cells #[.int .i64 y.rel,.slice P' y.vals.length c'] 66)).cell? ⟨w.heap.size,1,none⟩ = some (.slice Q x.facts.length d) by simp [go_sem])
 have L0 := Lib.hid (show ((w.alloc (.cells #[.slice P x.rels.length c,.slice Q x.facts.length d] 27)).alloc (.cells #[.int .i64 y.rel,.slice P' y.vals.length c'] 66)).cell? ⟨w.heap.size + 1,0,none⟩ = some (.int .i64 y.rel) by simp [go_sem])
 have L1 := Lib.hid (show ((w.alloc (.cells #[.slice P x.rels.length c,.slice Q x.facts.length d] 27)).alloc (.cells #[.int .i64 y.rel,.slice P' y.vals.length c'] 66)).cell? ⟨w.heap.size + 1,1,none⟩ = some (.slice P' y.vals.length c') by simp [go_sem])
 go_enter Tryz.func140,Tryz.ntmps140
 go_wp2
 go_loopw [5] (fun i wr => ∃ k : Nat,k ≤ x.facts.length ∧ i = .int .i64 k ∧ Hid (PlaceTo y x.facts k) ∧ Below ((w.alloc (.cells #[.slice P x.rels.length c,.slice Q x.facts.length d] 27)).alloc (.cells #[.int .i64 y.rel,.slice P' y.vals.length c'] 66)).heap.size ((w.alloc (.cells #[.slice P x.rels.length c,.slice Q x.facts.length d] 27)).alloc (.cells #[.int .i64 y.rel,.slice P' y.vals.length c'] 66)) wr) (fun i _ => x.facts.length - (intOf i).toNat)
 case atStart => exact ⟨0,by omega,rfl,Lib.hid (PlaceTo.zero _ _),Below.refl _ _⟩
 case round =>
  obtain ⟨k,hk,rfl,HT,hW⟩ := hrel
  have hWw := hE.trans (hW.mono hE.size)
  have f1 := (hW.cell (p := ⟨w.heap.size,1,none⟩) (by show w.heap.size < _; have := HE.out; omega)).trans K1.out
  by_cases hlt : k < x.facts.length
  · obtain ⟨b,off,V,rfl,hb,c0,c1,hV⟩ := FactS_at.elem HF.out k hlt
    have G1 := Aft.cell (B := ((w.alloc (.cells #[.slice P x.rels.length c,.slice (some ⟨b,off,none⟩) x.facts.length d] 27)).alloc (.cells #[.int .i64 y.rel,.slice P' y.vals.length c'] 66)).heap.size) (by show w.heap.size < _; have := HE.out; omega) K1.out
    have G2 := Aft.cell (B := ((w.alloc (.cells #[.slice P x.rels.length c,.slice (some ⟨b,off,none⟩) x.facts.length d] 27)).alloc (.cells #[.int .i64 y.rel,.slice P' y.vals.length c'] 66)).heap.size) (by show w.heap.size + 1 < _; have := HE.out; omega) L0.out
    have G3 := Aft.cell (B := ((w.alloc (.cells #[.slice P x.rels.length c,.slice (some ⟨b,off,none⟩) x.facts.length d] 27)).alloc (.cells #[.int .i64 y.rel,.slice P' y.vals.length c'] 66)).heap.size) (by show w.heap.size + 1 < _; have := HE.out; omega) L1.out
    have C0 := Aft.cell (B := ((w.alloc (.cells #[.slice P x.rels.length c,.slice (some ⟨b,off,none⟩) x.facts.length d] 27)).alloc (.cells #[.int .i64 y.rel,.slice P' y.vals.length c'] 66)).heap.size) (w := ((w.alloc (.cells #[.slice P x.rels.length c,.slice (some ⟨b,off,none⟩) x.facts.length d] 27)).alloc (.cells #[.int .i64 y.rel,.slice P' y.vals.length c'] 66))) (by have := HE.out; omega) ((hE.cell (p := ⟨b,off + k * 2,none⟩) hb).trans c0)
    have C1 := Aft.cell (B := ((w.alloc (.cells #[.slice P x.rels.length c,.slice (some ⟨b,off,none⟩) x.facts.length d] 27)).alloc (.cells #[.int .i64 y.rel,.slice P' y.vals.length c'] 66)).heap.size) (w := ((w.alloc (.cells #[.slice P x.rels.length c,.slice (some ⟨b,off,none⟩) x.facts.length d] 27)).alloc (.cells #[.int .i64 y.rel,.slice P' y.vals.length c'] 66))) (by have := HE.out; omega) ((hE.cell (p := ⟨b,off + k * 2 + 1,none⟩) hb).trans c1)
    have hcon := fun (q : Int) (hq : cmpF x.facts[k] y = q) (u : Aft ((w.alloc (.cells #[.slice P x.rels.length c,.slice (some ⟨b,off,none⟩) x.facts.length d] 27)).alloc (.cells #[.int .i64 y.rel,.slice P' y.vals.length c'] 66)).heap.size ((w.alloc (.cells #[.slice P x.rels.length c,.slice (some ⟨b,off,none⟩) x.facts.length d] 27)).alloc (.cells #[.int .i64 y.rel,.slice P' y.vals.length c'] 66))) => specCompareFacts_at x.facts[k] y q hq (.agg #[.int .i64 x.facts[k].rel,V]) (.agg #[.int .i64 y.rel,.slice P' y.vals.length c']) u.now ⟨V,rfl,(hV.below (hE.trans (u.is.mono hE.size)) (Nat.le_refl _)).more (hE.trans (u.is.mono hE.size)).size⟩ ((HY.out.below (hE.trans (u.is.mono hE.size)) (Nat.le_refl _)).more (hE.trans (u.is.mono hE.size)).size)
    clear c0 c1
    by_cases he : x.facts[k] = y
    · have hq := (cmpF_zero x.facts[k] y).2 he
      have HV := Lib.hid (HT.out.hit hlt he)
      have hcon' := hcon 0 hq
      clear hcon hq he
      go_wp2
      refine wp_region_aft hW (by kernel_rfl) (by kernel_rfl) ?_
      repeat (go_big_quiet_step (((go_at_call 36; exact calls_aft (Nat.le_refl _) (hcon' _)))))
      refine wpQuiet_nil ?_
      refine aft_end ?_
      intro w1 hh
      go_wp2
      go_ret
      exact ⟨ret_int HV.out.symm,hE.trans (hh.mono hE.size)⟩
    · obtain ⟨q,hq⟩ : ∃ q,cmpF x.facts[k] y = q := ⟨_,rfl⟩
      have hq0 : (q == 0) = false := beq_eq_false_iff_ne.2 (fun e => he ((cmpF_zero _ _).1 (hq.trans e)))
      have HV := Lib.hid (HT.out.next hlt he)
      have hcon' := hcon q hq
      clear hcon hq he
      go_wp2
      refine wp_region_aft hW (by kernel_rfl) (by kernel_rfl) ?_
      repeat (go_big_quiet_step (((go_at_call 36; exact calls_aft (Nat.le_refl _) (hcon' _)))))
      refine wpQuiet_nil ?_
      refine aft_end ?_
      intro w1 hh
      go_wp2
      go_roundw
      case rel => exact ⟨k + 1,by omega,by go_num,HV,hh⟩
      case measure => simp [intOf]; omega
  · obtain rfl : k = x.facts.length := by omega
    have HV := Lib.hid HT.out.miss
    go_wp2
    go_ret
    exact ⟨ret_int HV.out.symm,hWw⟩
end Go.Proofs.YtobdijcnfmgidaaGreat
