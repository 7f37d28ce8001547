/- Walks and plain lemmas for the laws of this seat. -/
import Derived.Shelf.Abstract
import Derived.Test.YtobdijcnfmgidaaGreatInts
import Derived.Test.YtobdijcnfmgidaaGreatDrawR
import Derived.Test.YtobdijcnfmgidaaGreatAft
import Derived.Test.YtobdijcnfmgidaaGreatTyAtom
import Derived.Test.YtobdijcnfmgidaaGreatDrawA9
import Derived.Test.YtobdijcnfmgidaaGreatTySS
import Derived.Test.YtobdijcnfmgidaaGreatMatB
import Derived.Test.YtobdijcnfmgidaaGreatMInst
import Derived.Test.YtobdijcnfmgidaaGreatMatK
import Derived.Test.YtobdijcnfmgidaaGreatFactVI
import Derived.Test.YtobdijcnfmgidaaGreatSideI
namespace Go.Proofs.YtobdijcnfmgidaaGreat
open Go.RowKit
theorem head_split (l : List Rel) (ts : List Atm) : ts.all (headB l) = (ts.all (atomB l) && !(ts.any fun f => srcAt l f.rel)) := by
 induction ts with
 | nil => rfl
 | cons a t ih =>
   rw [List.all_cons,List.all_cons,List.any_cons,ih]
   unfold headB
   cases atomB l a <;> cases srcAt l a.rel <;> cases t.all (atomB l) <;> simp
theorem depOk_is (l : List Rel) (x : Dep) : depOk l x = (sideOk l x.body && (if x.egd then egdOk x else ((x.left == 0) && (x.right == 0)) && (sideOk l x.head && !(x.head.any fun f => srcAt l f.rel)))) := by
 unfold depOk sideOk egdOk
 rw [head_split]
 generalize x.body.all (atomB l) = p
 generalize x.head.all (atomB l) = r
 generalize (x.head.any fun f => srcAt l f.rel) = s
 generalize inB (x.body.length : Nat) 1 2 = a
 generalize inB (x.head.length : Nat) 1 2 = h
 generalize (x.left == 0) = e0
 generalize (x.right == 0) = e1
 cases x.egd
 · cases a <;> cases p <;> cases r <;> cases s <;> cases h <;> cases e0 <;> cases e1 <;> rfl
 · cases a <;> cases p <;> rfl
theorem side_rel {l : List Rel} {ts : List Atm} (h : sideOk l ts = true) : ∀ f ∈ ts, 0 ≤ f.rel ∧ f.rel < l.length := by
 unfold sideOk at h
 rw [Bool.and_eq_true,List.all_eq_true] at h
 intro f hf
 have := h.2 f hf
 exact (atomOk_parts this).2.1
theorem side_small {l : List Rel} {ts : List Atm} (h : sideOk l ts = true) : AtomS_sz ts ≤ 1048576 := by
 unfold sideOk at h
 rw [Bool.and_eq_true] at h
 have h1 := h.1
 unfold inB at h1
 have h1 := of_decide_eq_true h1
 have := side_sz h.2 (by omega)
 omega
set_option maxHeartbeats 3200000 in
set_option maxRecDepth 100000 in
theorem implIsValidDependency_z (l : List Rel) (x : Dep) (q : Bool) (hq : depOk l x = q) (v u : Value) (w : World) (hl : RelsAt w w.heap.size v l) (h : Dependency_at w w.heap.size u x) :
 Calls Tryz.prog 40 #[v,u] w fun e w' => e = .returned (.bool q) ∧ Below w.heap.size w w' := by
 subst hq
 have HL := Lib.hid hl
 obtain ⟨A,a0,rfl,hlc,hcm,-⟩ := hl
 obtain ⟨P,c,Q,d,rfl⟩ := Dependency_form h
 obtain ⟨V1,V2,hv,hR,hF⟩ := h
 simp only [Value.agg.injEq,Array.mk.injEq,List.cons.injEq,and_true] at hv
 obtain ⟨rfl,rfl⟩ := hv
 have hE : Below w.heap.size w (w.alloc (.cells #[.slice P x.body.length c,.slice Q x.head.length d,.bool x.egd,.int .i64 x.left,.int .i64 x.right] 42)) := below_more (Below.refl _ _) _
 have hEz : w.heap.size < (w.alloc (.cells #[.slice P x.body.length c,.slice Q x.head.length d,.bool x.egd,.int .i64 x.left,.int .i64 x.right] 42)).heap.size := by simp
 have K0 := Lib.hid (show (w.alloc (.cells #[.slice P x.body.length c,.slice Q x.head.length d,.bool x.egd,.int .i64 x.left,.int .i64 x.right] 42)).cell? ⟨w.heap.size,0,none⟩ = some (.slice P x.body.length c) by simp [go_sem])
 have K1 := Lib.hid (show (w.alloc (.cells #[.slice P x.body.length c,.slice Q x.head.length d,.bool x.egd,.int .i64 x.left,.int .i64 x.right] 42)).cell? ⟨w.heap.size,1,none⟩ = some (.slice Q x.head.length d) by simp [go_sem])
 have K2 := Lib.hid (show (w.alloc (.cells #[.slice P x.body.length c,.slice Q x.head.length d,.bool x.egd,.int .i64 x.left,.int .i64 x.right] 42)).cell? ⟨w.heap.size,2,none⟩ = some (.bool x.egd) by simp [go_sem])
 have K3 := Lib.hid (show (w.alloc (.cells #[.slice P x.body.length c,.slice Q x.head.length d,.bool x.egd,.int .i64 x.left,.int .i64 x.right] 42)).cell? ⟨w.heap.size,3,none⟩ = some (.int .i64 x.left) by simp [go_sem])
 have K4 := Lib.hid (show (w.alloc (.cells #[.slice P x.body.length c,.slice Q x.head.length d,.bool x.egd,.int .i64 x.left,.int .i64 x.right] 42)).cell? ⟨w.heap.size,4,none⟩ = some (.int .i64 x.right) by simp [go_sem])
 have HR := Lib.hid hR
 have HF := Lib.hid hF
 clear hR hF
 have HD := Lib.hid (depOk_is l x)
 have cs := fun (q : Bool) (hq : sideOk l x.body = q) => implSide_at l x.body q hq (.slice A l.length a0) (.slice P x.body.length c) (w.alloc (.cells #[.slice P x.body.length c,.slice Q x.head.length d,.bool x.egd,.int .i64 x.left,.int .i64 x.right] 42)) ((HL.out.below hE (Nat.le_refl _)).more hE.size) ((HR.out.below hE (Nat.le_refl _)).more hE.size)
 have ch := fun (q : Bool) (hq : sideOk l x.head = q) (W : World) (hW : Below w.heap.size w W) => implSide_at l x.head q hq (.slice A l.length a0) (.slice Q x.head.length d) W ((HL.out.below hW (Nat.le_refl _)).more hW.size) ((HF.out.below hW (Nat.le_refl _)).more hW.size)
 have cr := fun (q : Bool) (hq : (x.head.any fun f => srcAt l f.rel) = q) (hin : ∀ f ∈ x.head,0 ≤ f.rel ∧ f.rel < l.length) (W : World) (hW : Below w.heap.size w W) => implHasSource_at l x.head q hq hin (.slice A l.length a0) (.slice Q x.head.length d) W ((HL.out.below hW (Nat.le_refl _)).more hW.size) ((HF.out.below hW (Nat.le_refl _)).more hW.size)
 have ce := fun (q : Bool) (hq : egdOk x = q) (hg : x.egd = true) (hz : AtomS_sz x.body ≤ 1048576) (W : World) (hW : Below w.heap.size w W) => implEquality_at x q hq (.agg #[.slice P x.body.length c,.slice Q x.head.length d,.bool true,.int .i64 x.left,.int .i64 x.right]) W ⟨_,_,by rw [hg],(HR.out.below hW (Nat.le_refl _)).more hW.size,(HF.out.below hW (Nat.le_refl _)).more hW.size⟩ hz
 cases h1 : sideOk l x.body with
 | false =>
   have HV := Lib.hid (HD.out.trans (by rw [h1]; rfl : _ = false))
   replace cs := cs false h1
   clear h1 ch cr ce
   go_enter Tryz.func40,Tryz.ntmps40
   go_wp2_with fail
   refine cs.mono ?_
   rintro e w1 ⟨rfl,hb1⟩
   have hW1 := hE.trans (hb1.mono hE.size)
   clear cs
   go_wp2
   go_ret
   exact ⟨ret_bool HV.out.symm,hW1⟩
 | true =>
   replace cs := cs true h1
   cases hg : x.egd with
   | true =>
     have HV := Lib.hid (HD.out.trans (by rw [h1,hg]; rfl : _ = egdOk x))
     replace ce := ce _ rfl hg (side_small h1)
     have HG := Lib.hid hg
     rw [hg] at cs K2 hE hEz K0 K1 K3 K4
     clear h1 ch cr hg
     go_enter Tryz.func40,Tryz.ntmps40
     go_wp2_with fail
     refine cs.mono ?_
     rintro e w1 ⟨rfl,hb1⟩
     have hW1 := hE.trans (hb1.mono hE.size)
     have f0 := (hb1.cell (p := ⟨w.heap.size,0,none⟩) hEz).trans K0.out
     have f1 := (hb1.cell (p := ⟨w.heap.size,1,none⟩) hEz).trans K1.out
     have f2 := (hb1.cell (p := ⟨w.heap.size,2,none⟩) hEz).trans K2.out
     have f3 := (hb1.cell (p := ⟨w.heap.size,3,none⟩) hEz).trans K3.out
     have f4 := (hb1.cell (p := ⟨w.heap.size,4,none⟩) hEz).trans K4.out
     replace ce := ce w1 hW1
     clear cs
     go_wp2_with (go_at_call 84; refine ce.mono ?_; rintro e w2 ⟨rfl,hb2⟩)
     go_ret
     exact ⟨ret_bool HV.out.symm,hW1.trans (hb2.mono hW1.size)⟩
   | false =>
     rw [hg] at cs K2 hE hEz K0 K1 K3 K4
     have HG := Lib.hid hg
     clear ce
     cases e0 : (x.left == 0) with
     | false =>
       have HV := Lib.hid (HD.out.trans (by rw [h1,hg,e0]; rfl : _ = false))
       clear h1 hg ch cr
       go_enter Tryz.func40,Tryz.ntmps40
       go_wp2_with fail
       refine cs.mono ?_
       rintro e w1 ⟨rfl,hb1⟩
       have hW1 := hE.trans (hb1.mono hE.size)
       have f1 := (hb1.cell (p := ⟨w.heap.size,1,none⟩) hEz).trans K1.out
       have f2 := (hb1.cell (p := ⟨w.heap.size,2,none⟩) hEz).trans K2.out
       have f3 := (hb1.cell (p := ⟨w.heap.size,3,none⟩) hEz).trans K3.out
       have f4 := (hb1.cell (p := ⟨w.heap.size,4,none⟩) hEz).trans K4.out
       clear cs
       go_wp2
       go_ret
       exact ⟨ret_bool HV.out.symm,hW1⟩
     | true =>
       cases e1 : (x.right == 0) with
       | false =>
         have HV := Lib.hid (HD.out.trans (by rw [h1,hg,e0,e1]; rfl : _ = false))
         clear h1 hg ch cr
         go_enter Tryz.func40,Tryz.ntmps40
         go_wp2_with fail
         refine cs.mono ?_
         rintro e w1 ⟨rfl,hb1⟩
         have hW1 := hE.trans (hb1.mono hE.size)
         have f1 := (hb1.cell (p := ⟨w.heap.size,1,none⟩) hEz).trans K1.out
         have f2 := (hb1.cell (p := ⟨w.heap.size,2,none⟩) hEz).trans K2.out
         have f3 := (hb1.cell (p := ⟨w.heap.size,3,none⟩) hEz).trans K3.out
         have f4 := (hb1.cell (p := ⟨w.heap.size,4,none⟩) hEz).trans K4.out
         clear cs
         go_wp2
         go_ret
         exact ⟨ret_bool HV.out.symm,hW1⟩
       | true =>
         cases h2 : sideOk l x.head with
         | false =>
           have HV := Lib.hid (HD.out.trans (by rw [h1,hg,e0,e1,h2]; rfl : _ = false))
           replace ch := ch false h2
           clear h1 hg cr h2
           go_enter Tryz.func40,Tryz.ntmps40
           go_wp2_with fail
           refine cs.mono ?_
           rintro e w1 ⟨rfl,hb1⟩
           have hW1 := hE.trans (hb1.mono hE.size)
           have f1 := (hb1.cell (p := ⟨w.heap.size,1,none⟩) hEz).trans K1.out
           have f2 := (hb1.cell (p := ⟨w.heap.size,2,none⟩) hEz).trans K2.out
           have f3 := (hb1.cell (p := ⟨w.heap.size,3,none⟩) hEz).trans K3.out
           have f4 := (hb1.cell (p := ⟨w.heap.size,4,none⟩) hEz).trans K4.out
           replace ch := ch w1 hW1
           clear cs
           go_wp2_with (go_at_call 83; refine ch.mono ?_; rintro e w2 ⟨rfl,hb2⟩)
           go_ret
           exact ⟨ret_bool HV.out.symm,hW1.trans (hb2.mono hW1.size)⟩
         | true =>
           have HV := Lib.hid (HD.out.trans (by rw [h1,hg,e0,e1,h2]; rfl : _ = (!(x.head.any fun f => srcAt l f.rel))))
           replace ch := ch true h2
           replace cr := cr _ rfl (side_rel h2)
           clear h1 hg h2
           generalize (x.head.any fun f => srcAt l f.rel) = z at *
           go_enter Tryz.func40,Tryz.ntmps40
           go_wp2_with fail
           refine cs.mono ?_
           rintro e w1 ⟨rfl,hb1⟩
           have hW1 := hE.trans (hb1.mono hE.size)
           have f1 := (hb1.cell (p := ⟨w.heap.size,1,none⟩) hEz).trans K1.out
           have f2 := (hb1.cell (p := ⟨w.heap.size,2,none⟩) hEz).trans K2.out
           have f3 := (hb1.cell (p := ⟨w.heap.size,3,none⟩) hEz).trans K3.out
           have f4 := (hb1.cell (p := ⟨w.heap.size,4,none⟩) hEz).trans K4.out
           replace ch := ch w1 hW1
           clear cs
           have f1' := Lib.hid f1
           go_wp2_with fail
           refine ch.mono ?_
           rintro e w2 ⟨rfl,hb2⟩
           have hW2 := hW1.trans (hb2.mono hW1.size)
           have g1 := (hb2.cell (p := ⟨w.heap.size,1,none⟩) (by have := hb1.size; show w.heap.size < _; omega)).trans f1'.out
           replace cr := cr w2 hW2
           clear ch f1 f2 f3 f4
           go_wp2_with (go_at_call 85; refine cr.mono ?_; rintro e w3 ⟨rfl,hb3⟩)
           go_ret
           exact ⟨ret_bool HV.out.symm,hW2.trans (hb3.mono hW2.size)⟩
theorem implIsValidDependency_at (l : List Rel) (x : Dep) (q : Bool) (hq : depOk l x = q) (v u : Value) (w : World) (hl : RelsAt w w.heap.size v l) (h : Dependency_at w w.heap.size u x) (_ : Dependency_sz x ≤ 1048576) :
 Calls Tryz.prog 40 #[v,u] w fun e w' => e = .returned (.bool q) ∧ Below w.heap.size w w' := implIsValidDependency_z l x q hq v u w hl h
theorem IntSSO.chgN {S : Nat → Prop} {B C : Nat} {v : Value} {Vs : List Value} {l : List (List Int)} {w w' : World} (h : IntSSO B C v Vs l w) (hc : Chg S w w') (hS : ∀ q c t f, w.heap[q]? = some (.cells c t f) → (t = 3 ∨ t = 31) → ¬ S q) : IntSSO B C v Vs l w' :=
 ⟨h.len,hc.row h.row (fun g hg => by obtain ⟨c,hcc⟩ := ownsRow_cells h.row g hg; exact hS g _ _ _ hcc (.inr rfl)),h.ins,fun i h1 h2 => ⟨(h.el i h1 h2).1.chg hc (fun q hq => by obtain ⟨c,hcc⟩ := ownsRow_cells (h.el i h1 h2).1 q hq; exact hS q _ _ _ hcc (.inl rfl)),(h.el i h1 h2).2⟩,h.dis⟩
theorem box_ss_own {β : Type} (B g : Nat) (f : β → List (List Int)) : Own (fun (s : β) W => ∃ v Vs, Boxed W g 38 v ∧ IntSSO B W.heap.size v Vs (f s) W) := by
 rintro s X Y row ⟨v,Vs,hb,h⟩ hg hr
 refine ⟨v,Vs,hb.kept hg (fun e => ?_),(IntSSO.chgN h (chg_row hg) (fun q c t f hq _ e => ?_)).mono (Nat.le_refl _) hg.size⟩
 · obtain ⟨o,ho,hoc⟩ := hr g e.symm
   rw [show X.heap[g]? = _ from hb] at ho; cases ho; cases hoc
 · obtain ⟨o,ho,hoc⟩ := hr q e
   rw [hq] at ho; cases ho; cases hoc
theorem BoxA.own {β : Type} (g : Nat) (b : List Int) : Own (fun (_ : β) W => BoxA g b W) := by
 intro s X Y row hs hg hr
 refine (hg.block g hs.lt (fun e => ?_)).trans hs
 obtain ⟨o,ho,hoc⟩ := hr g e.symm
 rw [show X.heap[g]? = _ from hs] at ho; cases ho; cases hoc
theorem keeps_below {W W' : World} (h : Below W.heap.size W W') : KeepsOthers W W' := ⟨h.size, fun k _ hk _ => (h.block k (Array.getElem?_eq_some_iff.1 hk).1).trans hk⟩
def list5 (b : List Int) : List Int := [at5 b 0, at5 b 1, at5 b 2, at5 b 3, at5 b 4]
theorem list5_self {b : List Int} (h : b.length = 5) : list5 b = b := by
 match b,h with
 | [_,_,_,_,_],_ => rfl
theorem walkM_five (fs : List Fct) (l : List Atm) (b : List Int) (hb : b.length = 5) : ∀ c ∈ walkM fs l b, c.length = 5 := by
 induction l generalizing b with
 | nil => intro c hc; unfold walkM at hc; rw [List.mem_singleton] at hc; rw [hc,hb]
 | cons a r ih =>
   intro c hc
   rw [walkM_cons,List.mem_flatMap] at hc
   obtain ⟨f,_,hc⟩ := hc
   unfold walkF at hc
   split at hc
   · exact ih _ (by rw [fitA_len]; exact hb) c hc
   · cases hc
theorem walk_list5 (fs : List Fct) (l : List Atm) (b : List Int) (hb : b.length = 5) : (walkM fs l b).map list5 = walkM fs l b := by
 have h := walkM_five fs l b hb
 generalize walkM fs l b = L at h
 induction L with
 | nil => rfl
 | cons a t ih => rw [List.map_cons,list5_self (h a (by simp)),ih (fun c hc => h c (by simp [hc]))]
theorem BoxA.ints5 {g B : Nat} {b : List Int} {w : World} (h : BoxA g b w) (hg : g < B) : IntsAt w B (.slice (some ⟨g, 0, none⟩) 5 5) (list5 b) := by
 have hA : Arr g (list5 b) w := ⟨fun j hj => by
  rw [h.arr.1 j hj]
  rcases (show j = 0 ∨ j = 1 ∨ j = 2 ∨ j = 3 ∨ j = 4 by omega) with e | e | e | e | e <;> subst e <;> rfl,h.arr.2⟩
 exact hA.ints rfl hg
set_option maxHeartbeats 1600000 in
set_option maxRecDepth 100000 in
theorem implIxNeg_any (v : Value) (l : List Int) (w : World) (hl : IntsAt w w.heap.size v l) :
 Calls Tryz.prog 158 #[v,.func (.func 129) #[] #[]] w fun e w' => e = .returned (.int .i64 (ixOf (fun v => decide (v < 0)) l)) ∧ Below w.heap.size w w' := by
 have HL := Lib.hid hl
 obtain ⟨A,c,rfl,hlc,hcm,-⟩ := hl
 unfold maxLen at hcm
 have eg : ∀ args w,(callFunc 129 args).run Tryz.prog w = .ok (.enter 129 args) w := enters_of Tryz.func129 (by kernel_rfl) rfl
 go_enter Tryz.func158,Tryz.ntmps158
 go_wp2
 go_loopw [8] (fun i wr => ∃ k : Nat,k ≤ l.length ∧ i = .int .i64 k ∧ Hid (IxTo (fun v => decide (v < 0)) l k) ∧ Below w.heap.size w wr) (fun i _ => l.length - (intOf i).toNat)
 case atStart => exact ⟨0,by omega,rfl,Lib.hid (IxTo.zero _ _),Below.refl _ _⟩
 case round =>
  obtain ⟨k,hk,rfl,HI,hW⟩ := hrel
  have hz := hW.size
  by_cases hlt : k < l.length
  · obtain ⟨b,off,rfl,hb,c0⟩ := IntsAt.elem HL.out k hlt
    replace c0 := (hW.cell (p := ⟨b,off + k,none⟩) hb).trans c0
    have hcall := implIsNull_any l[k] wr
    cases hp : decide (l[k] < 0) with
    | true =>
      have HV := Lib.hid (HI.out.hit hlt hp)
      rw [hp] at hcall
      clear hp
      go_wp2_with (go_at_fn 129; refine hcall.mono ?_; rintro e w1 ⟨rfl,rfl⟩)
      go_ret
      exact ⟨ret_int HV.out.symm,hW⟩
    | false =>
      have HV := Lib.hid (HI.out.next hlt hp)
      rw [hp] at hcall
      clear hp
      go_wp2_with (go_at_fn 129; refine hcall.mono ?_; rintro e w1 ⟨rfl,rfl⟩)
      go_roundw
      case rel => exact ⟨k + 1,by omega,by go_num,HV,hW⟩
      case measure => simp [intOf]; omega
  · obtain rfl : k = l.length := by omega
    have HV := Lib.hid HI.out.miss
    go_wp2
    go_ret
    exact ⟨ret_int HV.out.symm,hW⟩
theorem implAnyNeg_at (q : Bool) (v : Value) (l : List Int) (hq : negAny l = q) (w : World) (hl : IntsAt w w.heap.size v l) :
 Calls Tryz.prog 128 #[v,.func (.func 129) #[] #[]] w fun e w' => e = .returned (.bool q) ∧ Below w.heap.size w w' := by
 subst hq
 have hi := implIxNeg_any v l w hl
 have HV := Lib.hid (ixOf_any (fun v : Int => decide (v < 0)) l)
 generalize ixOf (fun v : Int => decide (v < 0)) l = q at *
 obtain ⟨A,c,rfl,hlc,hcm,-⟩ := hl
 go_enter Tryz.func128,Tryz.ntmps128
 go_wp2_with (go_at_call 158; refine hi.mono ?_; rintro e w1 ⟨rfl,hb1⟩)
 go_ret
 exact ⟨ret_bool HV.out,hb1⟩
theorem implIsValidFact_at3 (l : List Rel) (f : Fct) (q : Bool) (hq : factOk l f.rel f.vals = q) (v u : Value) (w : World) (hl : RelsAt w w.heap.size v l) (hf : Fact_at w w.heap.size u f) (hw : Fact_wf f) :
 Calls Tryz.prog 127 #[v,u] w fun e w' => e = .returned (.bool q) ∧ Below w.heap.size w w' := by
 subst hq
 obtain ⟨V,rfl,hV⟩ := hf
 exact implIsValidFact_any v l f.rel V f.vals w hl hV hw.2
theorem relSrc_at {l : List Rel} {f : Fct} {k : Nat} (hk : k < l.length) (h : f.rel = (k : Int)) : relSrc l f = l[k].source := by
 unfold relSrc; rw [h,Int.toNat_natCast,getD_at hk]
set_option maxHeartbeats 1600000 in
set_option maxRecDepth 100000 in
theorem implIsValidInstanceFact_at (l : List Rel) (f : Fct) (q : Bool) (hq : okFact l f = q) (v u : Value) (w : World) (hl : RelsAt w w.heap.size v l) (hf : Fact_at w w.heap.size u f) (hw : Fact_wf f) :
 Calls Tryz.prog 72 #[v,u] w fun e w' => e = .returned (.bool q) ∧ Below w.heap.size w w' := by
 subst hq
 obtain ⟨P,c,rfl⟩ := Fact_form hf
 have HL := Lib.hid hl
 have HF := Lib.hid hf
 have HV := Lib.hid (show IntsAt w w.heap.size (.slice P f.vals.length c) f.vals by
  obtain ⟨V,hv,hI⟩ := hf
  simp only [Value.agg.injEq,Array.mk.injEq,List.cons.injEq,and_true,true_and] at hv
  subst hv; exact hI)
 obtain ⟨A,d,rfl,hlc,hcm,-⟩ := hl
 unfold maxLen at hcm
 clear hf
 obtain ⟨E,hEq⟩ : ∃ E,E = w.alloc (.cells #[.int .i64 f.rel,.slice P f.vals.length c] 66) := ⟨_,rfl⟩
 have hE : Below w.heap.size w E := by rw [hEq]; exact below_more (Below.refl _ _) _
 have hEz : w.heap.size < E.heap.size := by rw [hEq]; simp
 have K0 := Lib.hid (show E.cell? ⟨w.heap.size,0,none⟩ = some (.int .i64 f.rel) by rw [hEq]; simp [go_sem])
 have K1 := Lib.hid (show E.cell? ⟨w.heap.size,1,none⟩ = some (.slice P f.vals.length c) by rw [hEq]; simp [go_sem])
 have hv := fun (q : Bool) (hq : factOk l f.rel f.vals = q) => implIsValidFact_at3 l f q hq (.slice A l.length d) (.agg #[.int .i64 f.rel,.slice P f.vals.length c]) E ((HL.out.below hE (Nat.le_refl _)).more hE.size) ((HF.out.below hE (Nat.le_refl _)).more hE.size) hw
 rw [hEq] at hv
 cases hok : factOk l f.rel f.vals with
 | false =>
   have HQ := Lib.hid (show okFact l f = false by unfold okFact; rw [hok]; rfl)
   replace hv := hv false hok
   clear hok
   go_enter Tryz.func72,Tryz.ntmps72
   go_wp2_with (go_at_call 127; refine hv.mono ?_; rintro e w1 ⟨rfl,hb1⟩)
   rw [← hEq] at hb1
   go_ret
   exact ⟨ret_bool HQ.out.symm,hE.trans (hb1.mono hE.size)⟩
 | true =>
   have hin := (factOk_parts hok).2.1
   obtain ⟨k,hkr⟩ : ∃ k : Nat,f.rel = (k : Int) := ⟨f.rel.toNat,by omega⟩
   have hk : k < l.length := by omega
   obtain ⟨b,off,rfl,hb,-,-,c2⟩ := RelsAt.elem HL.out k hk
   have HQ := Lib.hid (show okFact l f = (!l[k].source || !negAny f.vals) by unfold okFact; rw [hok,relSrc_at hk hkr]; rfl)
   replace hv := hv true hok
   have C2 := Lib.hid ((hE.cell (p := ⟨b,off + k * 3 + 2,none⟩) hb).trans c2)
   clear hok hin c2
   rw [hkr] at hv K0 hEq
   have hbE : b < E.heap.size := by omega
   cases hs : l[k].source with
   | false =>
     go_enter Tryz.func72,Tryz.ntmps72
     simp only [hkr]
     go_wp2_with fail
     refine hv.mono ?_
     rintro e w1 ⟨rfl,hb1⟩
     rw [← hEq] at hb1
     have f0 := (hb1.cell (p := ⟨w.heap.size,0,none⟩) hEz).trans K0.out
     have f2 := (hb1.cell (p := ⟨b,off + k * 3 + 2,none⟩) hbE).trans C2.out
     rw [hs] at f2
     clear hv hEq
     go_wp2
     go_ret
     exact ⟨ret_bool (by rw [HQ.out,hs]; rfl),hE.trans (hb1.mono hE.size)⟩
   | true =>
     have hn := fun (q : Bool) (hq : negAny f.vals = q) (W : World) (hW : Below w.heap.size w W) => implAnyNeg_at q (.slice P f.vals.length c) f.vals hq W ((HV.out.below hW (Nat.le_refl _)).more hW.size)
     cases hna : negAny f.vals with
     | true =>
       replace hn := hn true hna
       have HN := Lib.hid hna
       clear hna
       go_enter Tryz.func72,Tryz.ntmps72
       simp only [hkr]
       go_wp2_with fail
       refine hv.mono ?_
       rintro e w1 ⟨rfl,hb1⟩
       rw [← hEq] at hb1
       have f0 := (hb1.cell (p := ⟨w.heap.size,0,none⟩) hEz).trans K0.out
       have f1 := (hb1.cell (p := ⟨w.heap.size,1,none⟩) hEz).trans K1.out
       have f2 := (hb1.cell (p := ⟨b,off + k * 3 + 2,none⟩) hbE).trans C2.out
       rw [hs] at f2
       have hW1 := hE.trans (hb1.mono hE.size)
       replace hn := hn w1 hW1
       clear hv hEq
       go_wp2_with (go_at_call 128; refine hn.mono ?_; rintro e w2 ⟨rfl,hb2⟩)
       go_ret
       exact ⟨ret_bool (by rw [HQ.out,hs,HN.out]; rfl),hW1.trans (hb2.mono hW1.size)⟩
     | false =>
       replace hn := hn false hna
       have HN := Lib.hid hna
       clear hna
       go_enter Tryz.func72,Tryz.ntmps72
       simp only [hkr]
       go_wp2_with fail
       refine hv.mono ?_
       rintro e w1 ⟨rfl,hb1⟩
       rw [← hEq] at hb1
       have f0 := (hb1.cell (p := ⟨w.heap.size,0,none⟩) hEz).trans K0.out
       have f1 := (hb1.cell (p := ⟨w.heap.size,1,none⟩) hEz).trans K1.out
       have f2 := (hb1.cell (p := ⟨b,off + k * 3 + 2,none⟩) hbE).trans C2.out
       rw [hs] at f2
       have hW1 := hE.trans (hb1.mono hE.size)
       replace hn := hn w1 hW1
       clear hv hEq
       go_wp2_with (go_at_call 128; refine hn.mono ?_; rintro e w2 ⟨rfl,hb2⟩)
       go_ret
       exact ⟨ret_bool (by rw [HQ.out,hs,HN.out]; rfl),hW1.trans (hb2.mono hW1.size)⟩
set_option maxHeartbeats 3200000 in
set_option maxRecDepth 100000 in
theorem implIsValidInstance_at (x : Inst) (q : Bool) (hq : instOk x = q) (v : Value) (w : World) (h : Instance_at w w.heap.size v x) (hw : Instance_wf x) :
 Calls Tryz.prog 34 #[v] w fun e w' => e = .returned (.bool q) ∧ Below w.heap.size w w' := by
 subst hq
 obtain ⟨P,c,Q,d,rfl⟩ := Instance_form h
 obtain ⟨V1,V2,hv,hR,hF⟩ := h
 simp only [Value.agg.injEq,Array.mk.injEq,List.cons.injEq,and_true] at hv
 obtain ⟨rfl,rfl⟩ := hv
 obtain ⟨_,_,hv2,hd1,hd2⟩ := hF.form
 injection hv2 with e1 _ e2
 subst e1 e2
 unfold maxLen at hd2
 have HF := Lib.hid hF
 have HR := Lib.hid hR
 clear hR hF
 obtain ⟨E,hEq⟩ : ∃ E,E = (w.alloc (.cells #[.slice P x.rels.length c,.slice Q x.facts.length d] 27)) := ⟨_,rfl⟩
 have hE : Below w.heap.size w E := by rw [hEq]; exact below_more (Below.refl _ _) _
 have HE := Lib.hid (show w.heap.size + 1 = E.heap.size by rw [hEq]; simp)
 have K0 := Lib.hid (show E.cell? ⟨w.heap.size,0,none⟩ = some (.slice P x.rels.length c) by rw [hEq]; simp [go_sem])
 have K1 := Lib.hid (show E.cell? ⟨w.heap.size,1,none⟩ = some (.slice Q x.facts.length d) by rw [hEq]; simp [go_sem])
 have hvr := fun (q : Bool) (hq : validRels x.rels = q) => implAreValid_at2 x.rels q hq (.slice P x.rels.length c) E ((HR.out.below hE (Nat.le_refl _)).more hE.size)
 rw [hEq] at hvr
 cases hr : validRels x.rels with
 | false =>
   have HX := Lib.hid (instOk_rels hr)
   replace hvr := hvr false hr
   clear hr
   go_enter Tryz.func34,Tryz.ntmps34
   go_wp2_with (go_at_call 69; refine hvr.mono ?_; rintro e w1 ⟨rfl,hb1⟩)
   rw [← hEq] at hb1
   go_ret
   exact ⟨ret_bool HX.out.symm,hE.trans (hb1.mono hE.size)⟩
 | true =>
   have HVR := Lib.hid hr
   replace hvr := hvr true hr
   clear hr
   by_cases h30 : x.facts.length ≤ 30
   · have HLEN := Lib.hid h30
     have hd30 : decide ((30 : Int) < (x.facts.length : Int)) = false := decide_eq_false (by omega)
     clear h30
     go_enter Tryz.func34,Tryz.ntmps34
     go_wp2_with fail
     refine hvr.mono ?_
     rintro e w1 ⟨rfl,hb1⟩
     rw [← hEq] at hb1
     have f1 := (hb1.cell (p := ⟨w.heap.size,1,none⟩) (by show w.heap.size < _; have := HE.out; omega)).trans K1.out
     clear hvr hEq
     go_wp2
     clear f1
     go_loopw [18] (fun i wr => ∃ k : Nat,k ≤ x.facts.length ∧ i = .int .i64 k ∧ Hid (FactsTo x k) ∧ Below E.heap.size E wr) (fun i _ => x.facts.length - (intOf i).toNat)
     case atStart => exact ⟨0,by omega,rfl,Lib.hid (FactsTo.zero _),hb1⟩
     case round =>
      obtain ⟨k,hk,rfl,HT,hW⟩ := hrel
      have hWw := hE.trans (hW.mono hE.size)
      have hz := hW.size
      by_cases hlt : k < x.facts.length
      · have hk31 : k < 1048576 := by have := HLEN.out; omega
        obtain ⟨b,off,V,hQ,hb,c0,c1,hV⟩ := FactS_at.elem HF.out k hlt
        obtain ⟨PV,cV,rfl,-⟩ := id hV
        subst hQ
        replace c0 := (hWw.cell (p := ⟨b,off + k * 2,none⟩) hb).trans c0
        replace c1 := (hWw.cell (p := ⟨b,off + k * 2 + 1,none⟩) hb).trans c1
        have HVk := Lib.hid hV
        clear hV
        obtain ⟨W2,hW2⟩ : ∃ W2,W2 = wr.alloc (.cells #[.int .i64 x.facts[k].rel,.slice PV x.facts[k].vals.length cV] 66) := ⟨_,rfl⟩
        have hb2 : Below wr.heap.size wr W2 := by rw [hW2]; exact below_more (Below.refl _ _) _
        have hz2 : wr.heap.size < W2.heap.size := by rw [hW2]; simp
        have hW02 := hWw.trans (hb2.mono hWw.size)
        have hWE2 := hW.trans (hb2.mono hz)
        have G0 := Aft.cell (B := W2.heap.size) (w := W2) (show w.heap.size < _ by have := HE.out; omega) ((hWE2.cell (p := ⟨w.heap.size,0,none⟩) (by show w.heap.size < _; have := HE.out; omega)).trans K0.out)
        have G1 := Aft.cell (B := W2.heap.size) (w := W2) (show w.heap.size < _ by have := HE.out; omega) ((hWE2.cell (p := ⟨w.heap.size,1,none⟩) (by show w.heap.size < _; have := HE.out; omega)).trans K1.out)
        have B0 := Aft.cell (B := W2.heap.size) (w := W2) (b := wr.heap.size) (o := 0) (x := some (.int .i64 x.facts[k].rel)) hz2 (by rw [hW2]; simp [go_sem])
        have B1 := Aft.cell (B := W2.heap.size) (w := W2) (b := wr.heap.size) (o := 1) (x := some (.slice PV x.facts[k].vals.length cV)) hz2 (by rw [hW2]; simp [go_sem])
        have hcf := fun (q : Bool) (hq : okFact x.rels x.facts[k] = q) (u : Aft W2.heap.size W2) => implIsValidInstanceFact_at x.rels x.facts[k] q hq (.slice P x.rels.length c) (.agg #[.int .i64 x.facts[k].rel,.slice PV x.facts[k].vals.length cV]) u.now (SliceAt.aft HR.out hW02 u) ⟨_,rfl,SliceAt.aft HVk.out hW02 u⟩ (hw.2 k hlt)
        cases hok : okFact x.rels x.facts[k] with
        | false =>
          have HX := Lib.hid (instOk_no k hlt (by rw [stepOk_okF hlt,hok]; rfl))
          replace hcf := hcf false hok
          clear hok
          go_wp2
          rw [← hW2]
          refine wp_region_aft (Below.refl W2.heap.size W2) (by kernel_rfl) (by kernel_rfl) ?_
          repeat (go_big_quiet_step (((go_at_call 72; exact calls_aft (Nat.le_refl _) (hcf _)))))
          refine wpQuiet_nil ?_
          refine aft_end ?_
          intro w3 hh
          go_wp2
          go_ret
          exact ⟨ret_bool HX.out.symm,hW02.trans (hh.mono hW02.size)⟩
        | true =>
          replace hcf := hcf true hok
          have HOK := Lib.hid hok
          clear hok
          by_cases hk0 : k = 0
          · have HN := Lib.hid (HT.out.next (show stepOk x k = true by rw [stepOk_okF hlt,HOK.out,decide_eq_true hk0]; rfl))
            have hd0 : decide ((0 : Int) < (k : Int)) = false := decide_eq_false (by omega)
            have hd0n : decide (0 < k) = false := decide_eq_false (by omega)
            clear hk0
            go_wp2
            rw [← hW2]
            refine wp_region_aft (Below.refl W2.heap.size W2) (by kernel_rfl) (by kernel_rfl) ?_
            repeat (go_big_quiet_step (((go_at_call 72; exact calls_aft (Nat.le_refl _) (hcf _)))))
            refine wpQuiet_nil ?_
            refine aft_end ?_
            intro w3 hh
            go_wp2
            go_roundw
            case rel => exact ⟨k + 1,by omega,by go_num,HN,hWE2.trans (hh.mono hWE2.size)⟩
            case measure => simp [intOf]; omega
          · obtain ⟨j,rfl⟩ : ∃ j,k = j + 1 := ⟨k - 1,by omega⟩
            have hd0 : decide ((0 : Int) < (j : Int) + 1) = true := decide_eq_true (by omega)
            have hjlt : j < x.facts.length := by omega
            have hsub : ((j : Int) + 1) - 1 = (j : Int) := by omega
            obtain ⟨b',off',U,hQ',hb',d0,d1,hU⟩ := FactS_at.elem HF.out j hjlt
            injection hQ' with hQ'
            injection hQ' with e1 e2
            subst e1 e2
            obtain ⟨PU,cU,rfl,-⟩ := id hU
            have HU := Lib.hid hU
            have D0 := Aft.cell (B := W2.heap.size) (w := W2) (Nat.lt_of_lt_of_le hb hW02.size) ((hW02.cell (p := ⟨b,off + j * 2,none⟩) hb).trans d0)
            have D1 := Aft.cell (B := W2.heap.size) (w := W2) (Nat.lt_of_lt_of_le hb hW02.size) ((hW02.cell (p := ⟨b,off + j * 2 + 1,none⟩) hb).trans d1)
            obtain ⟨z,hzz⟩ : ∃ z,cmpF x.facts[j] x.facts[j + 1] = z := ⟨_,rfl⟩
            have hcc := fun (u : Aft W2.heap.size W2) => implCompareFacts_at x.facts[j] x.facts[j + 1] z hzz (.agg #[.int .i64 x.facts[j].rel,.slice PU x.facts[j].vals.length cU]) (.agg #[.int .i64 x.facts[j + 1].rel,.slice PV x.facts[j + 1].vals.length cV]) u.now ⟨_,rfl,SliceAt.aft HU.out hW02 u⟩ ⟨_,rfl,SliceAt.aft HVk.out hW02 u⟩
            clear hU d0 d1
            by_cases hlss : z < 0
            · have HN := Lib.hid (HT.out.next (show stepOk x (j + 1) = true by
               have e : x.facts.getD (j + 1 - 1) default = x.facts[j] := by simp [List.getD,hjlt]
               rw [stepOk_okF hlt,HOK.out,e,hzz,decide_eq_true hlss]; simp))
              have hdz : decide ((0 : Int) ≤ z) = false := decide_eq_false (by omega)
              clear hlss hzz
              go_wp2
              rw [← hW2]
              refine wp_region_aft (Below.refl W2.heap.size W2) (by kernel_rfl) (by kernel_rfl) ?_
              repeat (go_big_quiet_step ((first | (go_at_call 72; exact calls_aft (Nat.le_refl _) (hcf _)) | (go_at_call 73; exact calls_aft (Nat.le_refl _) (hcc _)))))
              refine wpQuiet_nil ?_
              refine aft_end ?_
              intro w3 hh
              go_wp2
              go_roundw
              case rel => exact ⟨j + 1 + 1,by omega,by go_num,HN,hWE2.trans (hh.mono hWE2.size)⟩
              case measure => simp [intOf]; omega
            · have HX := Lib.hid (instOk_no (j + 1) hlt (show stepOk x (j + 1) = false by
               have e : x.facts.getD (j + 1 - 1) default = x.facts[j] := by simp [List.getD,hjlt]
               rw [stepOk_okF hlt,HOK.out,e,hzz,decide_eq_false hlss]; simp))
              have hdz : decide ((0 : Int) ≤ z) = true := decide_eq_true (by omega)
              clear hlss hzz
              go_wp2
              rw [← hW2]
              refine wp_region_aft (Below.refl W2.heap.size W2) (by kernel_rfl) (by kernel_rfl) ?_
              repeat (go_big_quiet_step ((first | (go_at_call 72; exact calls_aft (Nat.le_refl _) (hcf _)) | (go_at_call 73; exact calls_aft (Nat.le_refl _) (hcc _)))))
              refine wpQuiet_nil ?_
              refine aft_end ?_
              intro w3 hh
              go_wp2
              go_ret
              exact ⟨ret_bool HX.out.symm,hW02.trans (hh.mono hW02.size)⟩
      · obtain rfl : k = x.facts.length := by omega
        have HX := Lib.hid (instOk_yes HVR.out HLEN.out HT.out)
        go_wp2
        go_ret
        exact ⟨ret_bool HX.out.symm,hWw⟩
   · have HX := Lib.hid (instOk_len h30)
     have hd30 : decide ((30 : Int) < (x.facts.length : Int)) = true := decide_eq_true (by omega)
     clear h30
     go_enter Tryz.func34,Tryz.ntmps34
     go_wp2_with fail
     refine hvr.mono ?_
     rintro e w1 ⟨rfl,hb1⟩
     rw [← hEq] at hb1
     have f1 := (hb1.cell (p := ⟨w.heap.size,1,none⟩) (by show w.heap.size < _; have := HE.out; omega)).trans K1.out
     clear hvr hEq
     go_wp2
     go_ret
     exact ⟨ret_bool HX.out.symm,hE.trans (hb1.mono hE.size)⟩
end Go.Proofs.YtobdijcnfmgidaaGreat
