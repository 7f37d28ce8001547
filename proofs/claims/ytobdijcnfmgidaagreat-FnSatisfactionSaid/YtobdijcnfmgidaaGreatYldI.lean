/- Walks and plain lemmas for the laws of this seat. -/
import Derived.Laws.Cover3
import Derived.Test.YtobdijcnfmgidaaGreatBase
import Derived.Test.YtobdijcnfmgidaaGreatInts
import Derived.Test.YtobdijcnfmgidaaGreatPlan
import Derived.Test.YtobdijcnfmgidaaGreatAft
import Derived.Test.YtobdijcnfmgidaaGreatTyAtom
import Derived.Test.YtobdijcnfmgidaaGreatParInI
import Derived.Test.YtobdijcnfmgidaaGreatMatB
import Derived.Test.YtobdijcnfmgidaaGreatMInst
import Derived.Test.YtobdijcnfmgidaaGreatMatK
import Derived.Test.YtobdijcnfmgidaaGreatTrigM
import Derived.Test.YtobdijcnfmgidaaGreatChI2
namespace Go.Proofs.YtobdijcnfmgidaaGreat
open Go.RowKit
def GivesExt (n₀ : Nat) (fs : List Fct) (l : List Atm) (b : List Int) (pre : List (List Int)) (J Jx : List (List Int) → World → Prop) (W : World) (e : Ending) (W' : World) : Prop :=
 (e = .returned (.bool true) ∧ J (pre ++ walkM fs l b) W' ∧ Kp n₀ W W') ∨ (e = .returned (.bool false) ∧ ∃ q,q <+: walkM fs l b ∧ Jx (pre ++ q) W')
def AtmFit (fs : List Fct) (a : Atm) : Prop := Atom_wf a ∧ (∀ (k : Nat) (hk : k < a.vals.length), a.vals[k] < 5) ∧ ∀ f ∈ fs, a.rel = f.rel → a.vals.length = f.vals.length
def ExtInv (n₀ : Nat) (fs : List Fct) (a : Atm) (r : List Atm) (b : List Int) (pre : List (List Int)) (J : List (List Int) → World → Prop) (W : World) (iv : Value) (wr : World) : Prop :=
 ∃ k : Nat,k ≤ fs.length ∧ iv = .int .i64 k ∧ Hid (J (pre ++ (fs.take k).flatMap (walkF fs a r b)) wr) ∧ Hid (Kp n₀ W wr) ∧ Hid (BoxA W.heap.size b wr)
set_option maxHeartbeats 6400000 in
set_option maxRecDepth 100000 in
theorem implYield_nil (lp : Nat) (fs : List Fct) (vF vA : Value) (n₀ N : Nat) (J Jx : List (List Int) → World → Prop)
 (hJ : ∀ s W W',J s W → Below W.heap.size W W' → J s W')
 (hY : ∀ m pre x W,J pre W → pre.length < N → YieldAt Fence.wide m Tryz.prog lp #[bAgg x] W fun e W' =>
  (e = .returned (.bool true) ∧ J (pre ++ [x]) W' ∧ Kp n₀ W W') ∨ (e = .returned (.bool false) ∧ Jx (pre ++ [x]) W'))
 (b : List Int) (pre : List (List Int)) (W : World) (hn : n₀ ≤ W.heap.size) (hA : AtomS_at W n₀ vA []) (hJ0 : J pre W) (hN : pre.length < N) :
 Calls Tryz.prog 139 #[vF,vA,bAgg b,.func (.yield lp) #[] #[]] W (GivesExt n₀ fs [] b pre J Jx W) := by
 obtain ⟨R,q,rfl,hq1,hq2⟩ := hA.form
 clear hA
 refine (callsIn_wide (n := 3)).1 ?_
 obtain ⟨W1,hW1⟩ : ∃ W1,W1 = W.alloc (.cells #[.int .i64 (at5 b 0),.int .i64 (at5 b 1),.int .i64 (at5 b 2),.int .i64 (at5 b 3),.int .i64 (at5 b 4)] 122) := ⟨_,rfl⟩
 have hb1 : Below W.heap.size W W1 := by rw [hW1]; exact (Below.refl _ _).alloc (Nat.le_refl _) _
 obtain ⟨fn,tmps,assign,body,hy,hR⟩ := hY (3 - 1) pre b W1 (hJ _ _ _ hJ0 hb1) hN
 rw [hW1] at hy
 have FIN : ∀ e W3,((e = Ending.returned (.bool true) ∧ J (pre ++ [b]) W3 ∧ Kp n₀ W1 W3) ∨ (e = .returned (.bool false) ∧ Jx (pre ++ [b]) W3)) → GivesExt n₀ fs [] b pre J Jx W e W3 := by
  rintro e W3 (⟨rfl,hj,hk⟩ | ⟨rfl,hx⟩)
  · exact .inl ⟨rfl,hj,(Kp.below hb1 hn).trans hk⟩
  · exact .inr ⟨rfl,[b],List.prefix_refl _,hx⟩
 refine callsIn_of_wp Tryz.func139 rfl trivial ?_ rfl
 simp only [Tryz.ntmps139,List.size_toArray,List.length_cons,List.length_nil,Nat.reduceAdd,Nat.reduceSub,Array.replicate_succ,Array.replicate_zero,List.push_toArray,List.append_toArray,List.nil_append,List.cons_append]
 gi_wp2
 rw [← hW1]
 refine hR.mono ?_
 intro e W3 h
 have hf := FIN e W3 h
 rcases h with ⟨rfl,-⟩ | ⟨rfl,-⟩
 · gi_wp2
   go_ret
   exact hf
 · gi_wp2
   go_ret
   exact hf
set_option maxHeartbeats 6400000 in
set_option maxRecDepth 100000 in
theorem implYield_any (lp : Nat) (fs : List Fct) (hfw : FactS_wf fs) (vF : Value) (n₀ N : Nat) (J Jx : List (List Int) → World → Prop)
 (hJ : ∀ s W W',J s W → Below W.heap.size W W' → J s W')
 (hY : ∀ m pre x W,J pre W → pre.length < N → YieldAt Fence.wide m Tryz.prog lp #[bAgg x] W fun e W' =>
  (e = .returned (.bool true) ∧ J (pre ++ [x]) W' ∧ Kp n₀ W W') ∨ (e = .returned (.bool false) ∧ Jx (pre ++ [x]) W')) (l : List Atm) (hl : ∀ a ∈ l,AtmFit fs a) :
 ∀ (vA : Value) (b : List Int) (pre : List (List Int)) (W : World),b.length = 5 → n₀ ≤ W.heap.size → FactS_at W n₀ vF fs → AtomS_at W n₀ vA l → J pre W → pre.length + (walkM fs l b).length ≤ N →
   Calls Tryz.prog 139 #[vF,vA,bAgg b,.func (.yield lp) #[] #[]] W (GivesExt n₀ fs l b pre J Jx W) := by
 induction l with
 | nil =>
   intro vA b pre W _ hn _ hA hJ0 hN
   exact implYield_nil lp fs vF vA n₀ N J Jx hJ hY b pre W hn hA hJ0 (by simp [walkM] at hN; omega)
 | cons a r ih =>
   intro vA b pre W hb5 hn hF hA hJ0 hN
   have hfa := hl a (by simp)
   have ih := ih (fun x hx => hl x (by simp [hx]))
   obtain ⟨Q,d,rfl,hd1,hd2⟩ := hF.form
   obtain ⟨R,q,rfl,hq1,hq2⟩ := hA.form
   unfold maxLen at hd2 hq2
   rw [List.length_cons] at hA hq1 ⊢
   obtain ⟨b0,off0,rfl,hb0,hA2⟩ := AtomS_at.tail hA
   obtain ⟨_,_,AV,e9,-,c0,c1,hAV⟩ := AtomS_at.elem (l := a :: r) hA 0 (by simp)
   cases e9
   simp only [Nat.zero_mul,Nat.add_zero,List.getElem_cons_zero] at c0 c1 hAV
   have HF := Lib.hid hF
   have HA2 := Lib.hid hA2
   have HAV := Lib.hid hAV
   have HN := Lib.hid hN
   have HM := Lib.hid (walkM_cons fs a r b)
   have HIH := Lib.hid ih
   obtain ⟨_,_,rfl,-⟩ := id hAV
   clear hF hA hA2 hAV hN ih
   obtain ⟨E,hEq⟩ : ∃ E,E = W.alloc (.cells #[.int .i64 (at5 b 0),.int .i64 (at5 b 1),.int .i64 (at5 b 2),.int .i64 (at5 b 3),.int .i64 (at5 b 4)] 122) := ⟨_,rfl⟩
   have hE : Below W.heap.size W E := by rw [hEq]; exact (Below.refl _ _).alloc (Nat.le_refl _) _
   have HBX := Lib.hid (show BoxA W.heap.size b E by rw [hEq]; exact BoxA.new W b)
   have HKE := Lib.hid (Kp.below hE hn)
   have HJE := Lib.hid (hJ _ _ _ hJ0 hE)
   have hEz : W.heap.size < E.heap.size := by rw [hEq]; simp
   go_enter Tryz.func139,Tryz.ntmps139
   go_wp2
   rw [← hEq]
   clear hEq
   go_loopw [21] (fun i wr => ExtInv n₀ fs a r b pre J W i wr) (fun i _ => fs.length - (intOf i).toNat)
   case atStart => exact ⟨0,by omega,rfl,Lib.hid (by simpa using HJE.out),HKE,HBX⟩
   case round =>
    obtain ⟨k,hk,rfl,HJr,HKr,HBr⟩ := hrel
    have hzr : n₀ ≤ wr.heap.size := Nat.le_trans hn HKr.out.low.size
    by_cases hlt : k < fs.length
    · obtain ⟨p0,offp,FV,rfl,hp0,d0,d1,hFV⟩ := FactS_at.elem HF.out k hlt
      replace d0 := (HKr.out.low.cell (p := ⟨p0,offp + k * 2,none⟩) hp0).trans d0
      replace d1 := (HKr.out.low.cell (p := ⟨p0,offp + k * 2 + 1,none⟩) hp0).trans d1
      have HFV := Lib.hid hFV
      obtain ⟨PV,cV,rfl,-⟩ := id hFV
      clear hFV
      go_upto_region 6 with fail
      obtain ⟨W5,e5⟩ : ∃ W5,W5 = wr.alloc (.cells #[.int .i64 fs[k].rel,.slice PV fs[k].vals.length cV] 66) := ⟨_,rfl⟩
      have hb5' : Below wr.heap.size wr W5 := by rw [e5]; exact (Below.refl _ _).alloc (Nat.le_refl _) _
      have x0 : W5.cell? ⟨wr.heap.size,0,none⟩ = some (.int .i64 fs[k].rel) := by rw [e5]; simp [go_sem]
      have x1 : W5.cell? ⟨wr.heap.size,1,none⟩ = some (.slice PV fs[k].vals.length cV) := by rw [e5]; simp [go_sem]
      have hz5 : wr.heap.size < W5.heap.size := by rw [e5]; simp
      rw [← e5]
      clear e5 d0 d1
      have HK5 := Lib.hid (HKr.out.trans (Kp.below hb5' hzr))
      have HB5 := Lib.hid (HBr.out.below hb5')
      go_cut [11,12] from 25 (fun p c wx => ∃ g,p = .pointer (some ⟨g,0,none⟩) ∧ c = .bool (fitA a fs[k] b).2 ∧ BoxA g (chooseR a fs[k] b) wx ∧ Below W5.heap.size W5 wx)
      case first =>
       have hw5 : W.heap.size < W5.heap.size := HB5.out.lt
       have G0 := Aft.cell (B := W5.heap.size) (Nat.lt_of_lt_of_le hb0 (by omega)) ((HK5.out.low.cell (p := ⟨b0,off0,none⟩) hb0).trans c0)
       have G1 := Aft.cell (B := W5.heap.size) (Nat.lt_of_lt_of_le hb0 (by omega)) ((HK5.out.low.cell (p := ⟨b0,off0 + 1,none⟩) hb0).trans c1)
       have G2 := Aft.cell (B := W5.heap.size) hz5 x0
       have G3 := Aft.cell (B := W5.heap.size) hz5 x1
       have A5 := HB5.out.arr
       have G4 := Aft.cell (B := W5.heap.size) hw5 (A5.1 0 (by omega))
       have G5 := Aft.cell (B := W5.heap.size) hw5 (A5.1 1 (by omega))
       have G6 := Aft.cell (B := W5.heap.size) hw5 (A5.1 2 (by omega))
       have G7 := Aft.cell (B := W5.heap.size) hw5 (A5.1 3 (by omega))
       have G8 := Aft.cell (B := W5.heap.size) hw5 (A5.1 4 (by omega))
       obtain ⟨c,hc⟩ : ∃ c,c = chooseR a fs[k] b := ⟨_,rfl⟩
       have HC := Lib.hid hc
       clear hc
       have HAL := Lib.hid (fun (u : World) (hu : Below W5.heap.size W5 u) => show Atom_at u u.heap.size _ a ∧ Fact_at u u.heap.size _ fs[k] from ⟨⟨_,rfl,(HAV.out.below (HK5.out.low.trans (hu.mono (by omega))) (Nat.le_refl _)).more (Nat.le_trans (by omega) hu.size)⟩,⟨_,rfl,(HFV.out.below (HK5.out.low.trans (hu.mono (by omega))) (Nat.le_refl _)).more (Nat.le_trans (by omega) hu.size)⟩⟩)
       have hd5 : Below W5.heap.size W5 W5.drew := (Below.refl _ _).drew
       clear A5 x0 x1 c0 c1
       refine wp_region_planL (C := fun w' => ∃ u : Aft W5.heap.size W5,w' = u.now) (.still 0 (.still 1 (.still 2 (.still 3 (.still 4 (.move true 5 (.still 6 (.still 7 (.still 8 (.move true 9 (.move true 10 (.still 11 .done) .none) .none)))) (.move true 9 (.move true 5 (.still 6 (.still 7 (.still 8 (.move true 10 (.still 11 .done) .none)))) .none) .none))))))) (by kernel_rfl) (by kernel_rfl) (by kernel_rfl) (fun _ => ⟨⟨W5.drew,hd5⟩,rfl⟩) ?_
       iterate 5
        refine plan_look _ rfl rfl ?_
        go_big_quiet_step (fail)
        refine wpQuiet_nil ?_
       clear G0 G1 G2 G3 G4 G5 G6 G7 G8
       refine plan_call _ 166 _ _ _ _ _ rfl _ Tryz.func166 (by kernel_rfl) (by kernel_rfl) ?_ ?_
       · have HAT := Lib.hid (HAL.out _ hd5)
         refine (implChooseFact_any _ a _ fs[k] b _ HAT.out.1 hfa.1 HAT.out.2 (hfw k hlt) hb5 hfa.2.1 (hfa.2.2 _ (List.getElem_mem hlt))).mono ?_
         rintro _ w6 ⟨rfl,hb6⟩
         have hb6' : Below W5.heap.size W5 w6 := hd5.trans hb6
         rw [← HC.out]
         refine ⟨_,rfl,fun _ => ⟨⟨_,hb6'⟩,rfl⟩,?_⟩
         refine plan_put ?_ (by simp only [Act.put,putA,putB,putC]; rfl)
         iterate 3
          refine plan_look _ rfl rfl ?_
          go_big_quiet_step (fail)
          refine wpQuiet_nil ?_
         have hb7 := hb6'.alloc hb6'.size (.cells #[.int .i64 0,.int .i64 0,.int .i64 0,.int .i64 0,.int .i64 0] 122)
         refine plan_value (u := .pointer (some ⟨w6.heap.size,0,none⟩)) (w' := w6.alloc (.cells #[.int .i64 0,.int .i64 0,.int .i64 0,.int .i64 0,.int .i64 0] 122)) _ rfl rfl rfl (by simp [go_sem]) (fun _ => ⟨⟨_,hb7⟩,rfl⟩) ?_ True.intro
         refine plan_put ?_ (by simp only [Act.put,putA,putB,putC]; rfl)
         have HZ7 := Lib.hid (World.alloc_heap_new w6 (.cells #[.int .i64 0,.int .i64 0,.int .i64 0,.int .i64 0,.int .i64 0] 122))
         have hg5 : W5.heap.size ≤ w6.heap.size := hb6'.size
         obtain ⟨g,hg⟩ : ∃ g,g = w6.heap.size := ⟨_,rfl⟩
         rw [← hg] at HZ7 hg5 ⊢
         generalize w6.alloc (.cells #[.int .i64 0,.int .i64 0,.int .i64 0,.int .i64 0,.int .i64 0] 122) = w7 at *
         have hh7 : w7.heap[g]? = some (.cells #[.int .i64 0,.int .i64 0,.int .i64 0,.int .i64 0,.int .i64 0] 122 (0,0)) := HZ7.out
         have kc0 : w7.cell? ⟨g,0,none⟩ = some (.int .i64 0) := by simp [World.cell?,hh7]
         have kc1 : w7.cell? ⟨g,1,none⟩ = some (.int .i64 0) := by simp [World.cell?,hh7]
         have kc2 : w7.cell? ⟨g,2,none⟩ = some (.int .i64 0) := by simp [World.cell?,hh7]
         have kc3 : w7.cell? ⟨g,3,none⟩ = some (.int .i64 0) := by simp [World.cell?,hh7]
         have kc4 : w7.cell? ⟨g,4,none⟩ = some (.int .i64 0) := by simp [World.cell?,hh7]
         have kz : ∀ o,w7.frozen? ⟨g,o,none⟩ = false := fun o => by simp [World.frozen?,hh7]
         have HBA := BoxA.mk5 c hh7
         have hbe := below_set5 hb7 hg5 (.int .i64 (at5 c 0)) (.int .i64 (at5 c 1)) (.int .i64 (at5 c 2)) (.int .i64 (at5 c 3)) (.int .i64 (at5 c 4))
         clear hh7
         refine plan_skip (w' := ((((w7.setCell ⟨g,0,none⟩ (.int .i64 (at5 c 0))).setCell ⟨g,1,none⟩ (.int .i64 (at5 c 1))).setCell ⟨g,2,none⟩ (.int .i64 (at5 c 2))).setCell ⟨g,3,none⟩ (.int .i64 (at5 c 3))).setCell ⟨g,4,none⟩ (.int .i64 (at5 c 4))) _ rfl rfl rfl (by simp [go_sem,kc0,kc1,kc2,kc3,kc4,kz]) (fun _ => ⟨⟨_,hbe⟩,rfl⟩) ?_ True.intro
         refine plan_put ?_ (by simp only [Act.put]; rfl)
         refine plan_look _ rfl rfl ?_
         go_big_quiet_step (fail)
         refine wpQuiet_nil ?_
         refine plan_done ?_
         go_wp2
         go_meet
         case rel => exact ⟨g,rfl,rfl,HC.out ▸ HBA,hbe⟩
       · have hb7 := hd5.alloc (Nat.le_refl _) (.cells #[.int .i64 0,.int .i64 0,.int .i64 0,.int .i64 0,.int .i64 0] 122)
         refine plan_value (u := .pointer (some ⟨W5.drew.heap.size,0,none⟩)) (w' := W5.drew.alloc (.cells #[.int .i64 0,.int .i64 0,.int .i64 0,.int .i64 0,.int .i64 0] 122)) _ rfl rfl rfl (by simp [go_sem]) (fun _ => ⟨⟨_,hb7⟩,rfl⟩) ?_ True.intro
         refine plan_put ?_ (by simp only [Act.put,putA,putB,putC]; rfl)
         have HZ6 := Lib.hid (World.alloc_heap_new W5.drew (.cells #[.int .i64 0,.int .i64 0,.int .i64 0,.int .i64 0,.int .i64 0] 122))
         have hg5 : W5.heap.size ≤ W5.drew.heap.size := Nat.le_refl _
         obtain ⟨g,hg⟩ : ∃ g,g = W5.drew.heap.size := ⟨_,rfl⟩
         rw [← hg] at HZ6 hg5 ⊢
         generalize W5.drew.alloc (.cells #[.int .i64 0,.int .i64 0,.int .i64 0,.int .i64 0,.int .i64 0] 122) = w6 at *
         have HAT := Lib.hid (HAL.out _ hb7)
         refine plan_call _ 166 _ _ _ _ _ rfl _ Tryz.func166 (by kernel_rfl) (by kernel_rfl) ?_ True.intro
         refine (implChooseFact_any _ a _ fs[k] b _ HAT.out.1 hfa.1 HAT.out.2 (hfw k hlt) hb5 hfa.2.1 (hfa.2.2 _ (List.getElem_mem hlt))).mono ?_
         rintro _ w7 ⟨rfl,hb8⟩
         have HZ7 := Lib.hid ((hb8.block g (Array.getElem?_eq_some_iff.1 HZ6.out).1).trans HZ6.out)
         have hb9 : Below W5.heap.size W5 w7 := hb7.trans (hb8.mono hb7.size)
         clear hb7
         have hb7 := hb9
         rw [← HC.out]
         refine ⟨_,rfl,fun _ => ⟨⟨_,hb7⟩,rfl⟩,?_⟩
         refine plan_put ?_ (by simp only [Act.put,putA,putB,putC]; rfl)
         iterate 3
          refine plan_look _ rfl rfl ?_
          go_big_quiet_step (fail)
          refine wpQuiet_nil ?_
         have hh7 : w7.heap[g]? = some (.cells #[.int .i64 0,.int .i64 0,.int .i64 0,.int .i64 0,.int .i64 0] 122 (0,0)) := HZ7.out
         have kc0 : w7.cell? ⟨g,0,none⟩ = some (.int .i64 0) := by simp [World.cell?,hh7]
         have kc1 : w7.cell? ⟨g,1,none⟩ = some (.int .i64 0) := by simp [World.cell?,hh7]
         have kc2 : w7.cell? ⟨g,2,none⟩ = some (.int .i64 0) := by simp [World.cell?,hh7]
         have kc3 : w7.cell? ⟨g,3,none⟩ = some (.int .i64 0) := by simp [World.cell?,hh7]
         have kc4 : w7.cell? ⟨g,4,none⟩ = some (.int .i64 0) := by simp [World.cell?,hh7]
         have kz : ∀ o,w7.frozen? ⟨g,o,none⟩ = false := fun o => by simp [World.frozen?,hh7]
         have HBA := BoxA.mk5 c hh7
         have hbe := below_set5 hb7 hg5 (.int .i64 (at5 c 0)) (.int .i64 (at5 c 1)) (.int .i64 (at5 c 2)) (.int .i64 (at5 c 3)) (.int .i64 (at5 c 4))
         clear hh7
         refine plan_skip (w' := ((((w7.setCell ⟨g,0,none⟩ (.int .i64 (at5 c 0))).setCell ⟨g,1,none⟩ (.int .i64 (at5 c 1))).setCell ⟨g,2,none⟩ (.int .i64 (at5 c 2))).setCell ⟨g,3,none⟩ (.int .i64 (at5 c 3))).setCell ⟨g,4,none⟩ (.int .i64 (at5 c 4))) _ rfl rfl rfl (by simp [go_sem,kc0,kc1,kc2,kc3,kc4,kz]) (fun _ => ⟨⟨_,hbe⟩,rfl⟩) ?_ True.intro
         refine plan_put ?_ (by simp only [Act.put]; rfl)
         refine plan_look _ rfl rfl ?_
         go_big_quiet_step (fail)
         refine wpQuiet_nil ?_
         refine plan_done ?_
         go_wp2
         go_meet
         case rel => exact ⟨g,rfl,rfl,HC.out ▸ HBA,hbe⟩
      case rest =>
       obtain ⟨g,rfl,rfl,hBA,hbc⟩ := hcut
       have HKc := Lib.hid (HK5.out.trans (Kp.below hbc (Nat.le_trans hzr (by omega))))
       have HBc := Lib.hid (HB5.out.below hbc)
       have hbw : Below wr.heap.size wr wc := hb5'.trans (hbc.mono (by omega))
       have HJc := Lib.hid (hJ _ _ _ HJr.out hbw)
       clear HJr HBr HK5 HB5 hb5' x0 x1
       cases hq : (fitA a fs[k] b).2 with
       | false =>
         have HW := Lib.hid (show (fs.take (k + 1)).flatMap (walkF fs a r b) = (fs.take k).flatMap (walkF fs a r b) by
          rw [walkT_next fs a r b k hlt]; unfold walkF; rw [if_neg (by rw [hq]; simp),List.append_nil])
         clear hq hbc hbw hBA
         go_upto_region 7 with fail
         refine wp_region_aft (Below.refl wc.heap.size wc) (by kernel_rfl) (by kernel_rfl) ?_
         repeat (go_big_quiet_step (fail))
         refine wpQuiet_nil ?_
         refine aft_end ?_
         intro w2 hh2
         have HJ2 := Lib.hid (hJ _ _ _ HJc.out hh2)
         have HK2 := Lib.hid (HKc.out.trans (Kp.below hh2 (Nat.le_trans hn HKc.out.low.size)))
         have HB2 := Lib.hid (HBc.out.below hh2)
         go_wp2
         go_roundw
         case rel => exact ⟨k + 1,by omega,by go_num,by rw [HW.out]; exact HJ2,HK2,HB2⟩
         case measure => simp [intOf]; omega
       | true =>
         have HC := Lib.hid (show chooseR a fs[k] b = (fitA a fs[k] b).1 by unfold chooseR; rw [if_pos hq])
         obtain ⟨c,hc⟩ : ∃ c,c = (fitA a fs[k] b).1 := ⟨_,rfl⟩
         have hc5 : c.length = 5 := by rw [hc,fitA_len]; exact hb5
         have HW := Lib.hid (show (fs.take (k + 1)).flatMap (walkF fs a r b) = (fs.take k).flatMap (walkF fs a r b) ++ walkM fs r c by
          rw [walkT_next fs a r b k hlt]; unfold walkF; rw [if_pos hq,hc])
         rw [HC.out,← hc] at hBA
         have HPR := Lib.hid (show (fs.take (k + 1)).flatMap (walkF fs a r b) <+: walkM fs (a :: r) b by
          rw [HM.out]; exact ⟨(fs.drop (k + 1)).flatMap (walkF fs a r b),by rw [← List.flatMap_append,List.take_append_drop]⟩)
         clear hc hq HC
         have hLE : pre.length + ((fs.take k).flatMap (walkF fs a r b)).length + (walkM fs r c).length ≤ N := by
          have h1 := HPR.out.length_le
          rw [HW.out,List.length_append] at h1
          have h2 := HN.out
          omega
         have hA := hBA.arr
         have hS : Holds [((⟨g,0,none⟩ : Addr),Value.int .i64 (at5 c 0)),(⟨g,1,none⟩,.int .i64 (at5 c 1)),(⟨g,2,none⟩,.int .i64 (at5 c 2)),(⟨g,3,none⟩,.int .i64 (at5 c 3)),(⟨g,4,none⟩,.int .i64 (at5 c 4))] wc := by
          intro x hx
          simp only [List.mem_cons,List.not_mem_nil,or_false] at hx
          rcases hx with rfl | rfl | rfl | rfl | rfl
          · exact hA.1 0 (by omega)
          · exact hA.1 1 (by omega)
          · exact hA.1 2 (by omega)
          · exact hA.1 3 (by omega)
          · exact hA.1 4 (by omega)
         have g0 := Keep.cell (h0 := hS) (a := ⟨g,0,none⟩) (v := .int .i64 (at5 c 0)) (by simp)
         have g1 := Keep.cell (h0 := hS) (a := ⟨g,1,none⟩) (v := .int .i64 (at5 c 1)) (by simp)
         have g2 := Keep.cell (h0 := hS) (a := ⟨g,2,none⟩) (v := .int .i64 (at5 c 2)) (by simp)
         have g3 := Keep.cell (h0 := hS) (a := ⟨g,3,none⟩) (v := .int .i64 (at5 c 3)) (by simp)
         have g4 := Keep.cell (h0 := hS) (a := ⟨g,4,none⟩) (v := .int .i64 (at5 c 4)) (by simp)
         clear hA hBA hbw hbc
         have hd1 : ¬ ((r.length : Int) + 1 < 1) := by omega
         go_upto_region 7 with fail
         refine wp_region_planL (C := fun w' => ∃ u : Keep _ wc hS,w' = u.now) (.still 0 (.still 1 (.still 2 (.still 3 (.still 4 (.still 5 (.still 6 (.move false 7 (.still 8 (.still 9 .done)) .none)))))))) (by kernel_rfl) (by kernel_rfl) (by kernel_rfl) (fun _ => ⟨⟨wc.drew,hS⟩,rfl⟩) ?_
         iterate 7
          refine plan_look _ rfl rfl ?_
          go_big_quiet_step (fail)
          refine wpQuiet_nil ?_
         clear g0 g1 g2 g3 g4
         have hd2 : Below wc.heap.size wc wc.drew := (Below.refl _ _).drew
         have hnc : n₀ ≤ wc.heap.size := Nat.le_trans hn HKc.out.low.size
         refine plan_callG _ 139 _ _ _ _ _ (some (1,true)) rfl rfl _ Tryz.func139 (by kernel_rfl) (by kernel_rfl) ?_ True.intro
         refine (HIH.out _ c (pre ++ (fs.take k).flatMap (walkF fs a r b)) wc.drew hc5 hnc (HF.out.below (HKc.out.low.trans (hd2.mono hnc)) (Nat.le_refl _)) (HA2.out.below (HKc.out.low.trans (hd2.mono hnc)) (Nat.le_refl _)) (hJ _ _ _ HJc.out hd2) (by rw [List.length_append]; exact hLE)).mono ?_
         rintro e w6 (⟨rfl,hj,hk6⟩ | ⟨rfl,z,hz,hx⟩)
         · skip
           rw [List.append_assoc,← HW.out] at hj
           have HJ6 := Lib.hid hj
           have HKd := HKc.out.trans (Kp.below hd2 hnc)
           have HK6 := Lib.hid (HKd.trans hk6)
           have HB6 := Lib.hid ((HBc.out.below hd2).kp hk6)
           clear hj hk6 HKd
           refine ⟨_,rfl,(fun e => by cases e),?_⟩
           refine plan_put ?_ (by simp only [Act.put,putA,putB,putC]; rfl)
           iterate 2
            refine plan_look _ rfl rfl ?_
            go_big_quiet_step (fail)
            refine wpQuiet_nil ?_
           refine plan_done ?_
           go_wp2
           go_roundw
           case rel => exact ⟨k + 1,by omega,by go_num,HJ6,HK6,HB6⟩
           case measure => simp [intOf]; omega
         · skip
           have HEND := Lib.hid (show GivesExt n₀ fs (a :: r) b pre J Jx W (.returned (.bool false)) w6 from .inr ⟨rfl,(fs.take k).flatMap (walkF fs a r b) ++ z,List.IsPrefix.trans (by rw [HW.out]; exact (List.prefix_append_right_inj _).2 hz) HPR.out,by rw [← List.append_assoc]; exact hx⟩)
           clear hx hz
           refine ⟨_,rfl,(fun e => by cases e),?_⟩
           refine plan_put ?_ (by simp only [Act.put,putA,putB,putC]; rfl)
           iterate 2
            refine plan_look _ rfl rfl ?_
            go_big_quiet_step (fail)
            refine wpQuiet_nil ?_
           refine plan_done ?_
           go_wp2
           all_goals (go_ret; exact HEND.out)
    · obtain rfl : k = fs.length := by omega
      have HEND := Lib.hid (show GivesExt n₀ fs (a :: r) b pre J Jx W (.returned (.bool true)) wr from .inl ⟨rfl,by rw [HM.out]; have := HJr.out; rwa [List.take_of_length_le (Nat.le_refl _)] at this,HKr.out⟩)
      go_wp2
      go_ret
      exact HEND.out
set_option maxRecDepth 100000 in
theorem implExtensions_any (P Q : Option Addr) (n c m d : Nat) (b : List Int) (w : World) :
 Calls Tryz.prog 88 #[.slice P n c,.slice Q m d,bAgg b] w fun e w' => e = .returned (.func (.func 138) #[] #[.pointer (some ⟨w.heap.size,0,none⟩),.pointer (some ⟨w.heap.size + 1,0,none⟩),.pointer (some ⟨w.heap.size + 2,0,none⟩)]) ∧ w' = (((w.alloc (.cells #[.slice P n c] 25)).alloc (.cells #[.slice Q m d] 40)).alloc (.cells #[.int .i64 (at5 b 0),.int .i64 (at5 b 1),.int .i64 (at5 b 2),.int .i64 (at5 b 3),.int .i64 (at5 b 4)] 122)) := by
 go_enter Tryz.func88,Tryz.ntmps88
 go_wp2
 go_ret
 exact ⟨rfl,rfl⟩
set_option maxHeartbeats 1600000 in
set_option maxRecDepth 100000 in
theorem implExtensions_fn (n lp : Nat) (fs : List Fct) (hfw : FactS_wf fs) (l : List Atm) (hl : ∀ a ∈ l, AtmFit fs a) (vF vA : Value) (b : List Int) (hb5 : b.length = 5) (n₀ g0 g1 g2 : Nat) (J Jx : List (List Int) → World → Prop)
 (hJ : ∀ s W W',J s W → Below W.heap.size W W' → J s W')
 (hY : ∀ m pre x W,J pre W → pre.length < (walkM fs l b).length → YieldAt Fence.wide m Tryz.prog lp #[bAgg x] W fun e W' =>
  (e = .returned (.bool true) ∧ J (pre ++ [x]) W' ∧ Kp n₀ W W') ∨ (e = .returned (.bool false) ∧ Jx (pre ++ [x]) W'))
 (W : World) (hn : n₀ ≤ W.heap.size) (hF : FactS_at W n₀ vF fs) (hA : AtomS_at W n₀ vA l) (c0 : W.cell? ⟨g0,0,none⟩ = some vF) (c1 : W.cell? ⟨g1,0,none⟩ = some vA) (c2 : BoxA g2 b W) (h0 : J [] W) :
 CallsIn Fence.wide n Tryz.prog 138 #[.func (.yield lp) #[] #[],.pointer (some ⟨g0,0,none⟩),.pointer (some ⟨g1,0,none⟩),.pointer (some ⟨g2,0,none⟩)] W fun e W' => (∃ v,e = .returned v) ∧ ((∃ ys,ys = walkM fs l b ∧ J ys W') ∨ (∃ pre,pre <+: walkM fs l b ∧ Jx pre W')) := by
 refine callsIn_wide.2 ?_
 have hc := implYield_any lp fs hfw vF n₀ (walkM fs l b).length J Jx hJ hY l hl vA b [] W hb5 hn hF hA h0 (by simp)
 obtain ⟨Q,d,rfl,-⟩ := hF.form
 obtain ⟨R,q,rfl,-⟩ := hA.form
 have A2 := c2.arr
 have e0 := A2.1 0 (by omega)
 have e1 := A2.1 1 (by omega)
 have e2 := A2.1 2 (by omega)
 have e3 := A2.1 3 (by omega)
 have e4 := A2.1 4 (by omega)
 clear A2 c2 hJ hY hF hA h0
 go_enter Tryz.func138,Tryz.ntmps138
 go_wp2_with (go_at_call 139; refine hc.mono ?_; clear hc; rintro e W1 (⟨rfl,hJ1,_⟩ | ⟨rfl,z,hz,hx⟩))
 · go_end0
   exact ⟨⟨_,rfl⟩,.inl ⟨_,rfl,by simpa using hJ1⟩⟩
 · go_end0
   exact ⟨⟨_,rfl⟩,.inr ⟨z,hz,by simpa using hx⟩⟩
theorem implExtensions_stops (n : Nat) (fs : List Fct) (hfw : FactS_wf fs) (l : List Atm) (hl : ∀ a ∈ l, AtmFit fs a) (vF vA : Value) (b : List Int) (hb5 : b.length = 5) (n₀ g0 g1 g2 : Nat) (w : World) (hn : n₀ ≤ w.heap.size) (hF : FactS_at w n₀ vF fs) (hA : AtomS_at w n₀ vA l) (h0 : g0 < w.heap.size) (c0 : w.cell? ⟨g0, 0, none⟩ = some vF) (h1 : g1 < w.heap.size) (c1 : w.cell? ⟨g1, 0, none⟩ = some vA) (c2 : BoxA g2 b w) :
 SeqStopsK Fence.wide n Tryz.prog 138 #[.pointer (some ⟨g0,0,none⟩),.pointer (some ⟨g1,0,none⟩),.pointer (some ⟨g2,0,none⟩)] (fun x : List Int => #[bAgg x]) (Kp n₀) (fun ys => ys = walkM fs l b) (fun pre => pre <+: walkM fs l b) (walkM fs l b).length w := fun lp J Jx W hW hJ _ hY hJ0 =>
 implExtensions_fn n lp fs hfw l hl vF vA b hb5 n₀ g0 g1 g2 J Jx (fun s W1 W2 hs hb => hJ s W1 W2 none hs (grown_none hb) (fun r e => by cases e)) (fun m pre x W1 hj hlen => YieldAt.anyDepth rfl m (hY pre x W1 hj hlen)) W (Nat.le_trans hn hW.size) (hF.below hW hn) (hA.below hW hn) ((hW.cell (p := ⟨g0,0,none⟩) h0).trans c0) ((hW.cell (p := ⟨g1,0,none⟩) h1).trans c1) (c2.below hW) hJ0
theorem okM_fit {x : Inst} {l : List Atm} (hlw : AtomS_wf l) (h : okM x l = true) : ∀ a ∈ l, AtmFit x.facts a := by
 intro a ha
 have hv := okM_at h a ha
 obtain ⟨i,hi,rfl⟩ := List.getElem_of_mem ha
 refine ⟨hlw i hi,fun k hk => ?_,fun f hf e => ?_⟩
 · have := (atomOk_t hv _ (List.getElem_mem hk)).2
   omega
 · have h1 := (atomOk_parts hv).2.2.1
   have h2 := (factOk_parts (((instOk_iff x).1 (okM_inst h)).1 f hf).1).2.2.1
   rw [e] at h1
   omega
attribute [local go_sem] Oper.semAt_some
theorem at5_cells {w : World} {B : Nat} {v : Value} {b : List Int} (h : IntsAt w B v b) (h5 : b.length = 5) : ∃ q off c, v = .slice (some ⟨q, off, none⟩) 5 c ∧ q < B ∧ 5 ≤ c ∧ ∀ j, j < 5 → w.cell? ⟨q, off + j, none⟩ = some (.int .i64 (at5 b j)) := by
 obtain ⟨P,c,rfl,hc1,hc2,-⟩ := id h
 obtain ⟨q,off,rfl,hq,-⟩ := IntsAt.elem h 0 (by omega)
 refine ⟨q,off,c,by rw [h5],hq,by omega,fun j hj => ?_⟩
 obtain ⟨q',off',e,-,hc⟩ := IntsAt.elem h j (by omega)
 cases e
 rw [hc]
 unfold at5
 simp [List.getD,show j < b.length by omega]
set_option maxHeartbeats 6400000 in
set_option maxRecDepth 100000 in
theorem implHasExt_any (fs : List Fct) (hfw : FactS_wf fs) (l : List Atm) (hl : ∀ a ∈ l, AtmFit fs a) (b : List Int) (hb5 : b.length = 5) (vF vA vb : Value) (w : World) (hF : FactS_at w w.heap.size vF fs) (hA : AtomS_at w w.heap.size vA l) (hb : IntsAt w w.heap.size vb b) :
 Calls Tryz.prog 91 #[vF,vA,vb] w fun e w' => e = .returned (.bool (decide (0 < (walkM fs l b).length))) ∧ Below w.heap.size w w' := by
 have HF := Lib.hid hF
 have HA := Lib.hid hA
 obtain ⟨Q,d,rfl,hd1,hd2⟩ := hF.form
 obtain ⟨R,q,rfl,hq1,hq2⟩ := hA.form
 obtain ⟨p,off,cb,rfl,hp,hcb,hcells⟩ := at5_cells hb hb5
 clear hF hA hb
 obtain ⟨E,hEq⟩ : ∃ E,E = w.alloc (.cells #[.bool false] 4) := ⟨_,rfl⟩
 have hE : Below w.heap.size w E := by rw [hEq]; exact (Below.refl _ _).alloc (Nat.le_refl _) _
 have e0 := (hE.cell (p := ⟨p,off,none⟩) hp).trans (hcells 0 (by omega))
 have e1 := (hE.cell (p := ⟨p,off + 1,none⟩) hp).trans (hcells 1 (by omega))
 have e2 := (hE.cell (p := ⟨p,off + 2,none⟩) hp).trans (hcells 2 (by omega))
 have e3 := (hE.cell (p := ⟨p,off + 3,none⟩) hp).trans (hcells 3 (by omega))
 have e4 := (hE.cell (p := ⟨p,off + 4,none⟩) hp).trans (hcells 4 (by omega))
 rw [hEq] at e0 e1 e2 e3 e4
 clear hcells
 have hat : ∀ w,(Instr.arrayAt 122 (.slice (some ⟨p,off,none⟩) 5 cb)).run Tryz.prog w = .ok (.pointer (some ⟨p,off,none⟩)) w := fun w => run_arrayAt w 122 _ 5 _ 5 cb Tryz.underlying122 (Nat.le_refl _)
 refine (callsIn_wide (n := 9)).1 (callsIn_of_wp_marks Tryz.func91 rfl trivial (wpIn_wide.2 ?_) rfl)
 simp only [Tryz.ntmps91,List.size_toArray,List.length_cons,List.length_nil,Nat.reduceAdd,Nat.reduceSub,Array.replicate_succ,Array.replicate_zero,List.push_toArray,List.append_toArray,List.nil_append,List.cons_append]
 go_wp2_with (go_at_call 88; refine (implExtensions_any _ _ _ _ _ _ b _).mono ?_; rintro e w1 ⟨rfl,hw1⟩)
 subst hw1
 obtain ⟨W0,hW0⟩ : ∃ W0,W0 = ((((w.alloc (.cells #[.bool false] 4)).alloc (.cells #[.slice Q fs.length d] 25)).alloc (.cells #[.slice R l.length q] 40)).alloc (.cells #[.int .i64 (at5 b 0),.int .i64 (at5 b 1),.int .i64 (at5 b 2),.int .i64 (at5 b 3),.int .i64 (at5 b 4)] 122)) := ⟨_,rfl⟩
 have hb0 : Below w.heap.size w W0 := by rw [hW0]; exact below_more (below_more (below_more (below_more (Below.refl _ _) _) _) _) _
 have hz0 : W0.heap.size = w.heap.size + 4 := by rw [hW0]; simp
 have x0 : W0.cell? ⟨w.heap.size + 1,0,none⟩ = some (.slice Q fs.length d) := by rw [hW0]; simp [go_sem]
 have x1 : W0.cell? ⟨w.heap.size + 2,0,none⟩ = some (.slice R l.length q) := by rw [hW0]; simp [go_sem]
 have x2 : BoxA (w.heap.size + 3) b W0 := by
  rw [hW0]
  have h9 := BoxA.new (((w.alloc (.cells #[.bool false] 4)).alloc (.cells #[.slice Q fs.length d] 25)).alloc (.cells #[.slice R l.length q] 40)) b
  simpa using h9
 have x3 : Boxed W0 w.heap.size 4 (.bool false) := by rw [hW0]; exact (((Boxed.new w 4 (.bool false)).alloc _).alloc _).alloc _
 rw [← hW0]
 refine (wpIn_wide (n := 9)).1 (wpIn_rangeFunc_ownH rfl (by decide) (gf := 138) (lb := #[.pointer (some ⟨w.heap.size + 1,0,none⟩),.pointer (some ⟨w.heap.size + 2,0,none⟩),.pointer (some ⟨w.heap.size + 3,0,none⟩)]) rfl trivial (enters_of Tryz.func138 (by kernel_rfl) rfl)
  (implExtensions_stops (9 - 1) fs hfw l hl _ _ b hb5 w.heap.size (w.heap.size + 1) (w.heap.size + 2) (w.heap.size + 3) W0 hb0.size (HF.out.below hb0 (Nat.le_refl _)) (HA.out.below hb0 (Nat.le_refl _)) (by omega) x0 (by omega) x1 x2) Kp.trans (Kp.book (by omega)) (Below.refl _ _) (fun _ => rfl)
  (fun (pre : List (List Int)) W => pre = [] ∧ Boxed W w.heap.size 4 (.bool false) ∧ Below w.heap.size w W)
  (fun c (pre : List (List Int)) W => (c = .ret ∧ 0 < pre.length) ∧ Boxed W w.heap.size 4 (.bool true) ∧ Below w.heap.size w W)
  (OwnFrom.and (ownFrom_pure _ (fun (pre : List (List Int)) => pre = [])) (OwnFrom.and (Own.from (boxed_own _ _ (fun _ => .bool false)) _) (ownFrom_below (Nat.le_refl _) (by omega))))
  (fun c => OwnFrom.and (ownFrom_pure _ (fun (pre : List (List Int)) => c = .ret ∧ 0 < pre.length)) (OwnFrom.and (Own.from (boxed_own _ _ (fun _ => .bool true)) _) (ownFrom_below (Nat.le_refl _) (by omega))))
  ⟨rfl,x3,hb0⟩
  (fun x a' _ => a' = { tmps := #[.slice Q fs.length d,.slice R l.length q,.slice (some ⟨p,off,none⟩) 5 cb,undef,undef,undef,.pointer (some ⟨w.heap.size,0,none⟩),.slice Q fs.length d,.slice R l.length q,.slice (some ⟨p,off,none⟩) 5 cb,.pointer (some ⟨p,off,none⟩),bAgg b,.func (.func 138) #[] #[.pointer (some ⟨w.heap.size + 1,0,none⟩),.pointer (some ⟨w.heap.size + 2,0,none⟩),.pointer (some ⟨w.heap.size + 3,0,none⟩)],bAgg x],defers := [] }) (fun _ _ _ _ _ _ hs _ _ => hs) ?assign ?body ?done ?stop)
 case assign =>
  intro lp pre x W K hi hK
  gi_wp2
  exact hK _ _ (KeepsFrom.refl _ _) (Kp.refl _ _) hi (by simp)
 case body =>
  rintro lp pre x a' W hlp _ ⟨rfl,hb,hB⟩ rfl hlt
  have hc := hb.cell
  have hf := hb.frozen
  gi_wp2
  exact ⟨(KeepsOthers.setCell _ _ _).from _,⟨rfl,by simp⟩,hb.set _,hB.setCell (p := ⟨w.heap.size,0,none⟩) (Nat.le_refl _) _⟩
 case done =>
  rintro D xs W hD hxs ⟨rfl,hb,hB⟩ hK
  have hc := hb.cell
  have hf := hb.frozen
  have HQ := Lib.hid (show decide (0 < (walkM fs l b).length) = false by rw [← hxs]; rfl)
  go_wp2
  have hK2 := (KeepsOthers.setCell W ⟨w.heap.size,0,none⟩ (.bool false)).same D _ hK rfl
  have hcf := cell_kept (hb.set (.bool false)).cell (grownBy_putObj' _ D (.deferred none)) (fun r e => by cases e; exact ⟨_,hK2,rfl⟩)
  refine ⟨by simp,.inl ⟨_,_,rfl,run_takeDeferred hK2,?_⟩⟩
  exact ⟨.bool false,by simp [results,Tryz.results91,go_sem,hcf],by rw [HQ.out],(hB.setCell (p := ⟨w.heap.size,0,none⟩) (Nat.le_refl _) _).trans (belowK_b (w := w) (Nat.le_refl _) _ D _ _ (by omega) hK2 rfl rfl)⟩
 case stop =>
  rintro D c pre W hD hp ⟨⟨rfl,h0⟩,hb,hB⟩ hK
  have HQ := Lib.hid (show decide (0 < (walkM fs l b).length) = true from decide_eq_true (Nat.lt_of_lt_of_le h0 hp.length_le))
  refine wpIn_wide.2 ?_
  go_wp2
  have hcf := cell_kept hb.cell (grownBy_putObj' _ D (.deferred none)) (fun r e => by cases e; exact ⟨_,hK,rfl⟩)
  refine ⟨by simp,.inl ⟨_,_,rfl,run_takeDeferred hK,?_⟩⟩
  exact ⟨.bool true,by simp [results,Tryz.results91,go_sem,hcf],by rw [HQ.out],hB.trans (belowK_b (w := w) (Nat.le_refl _) _ D _ _ (by omega) hK rfl rfl)⟩
set_option maxHeartbeats 1600000 in
theorem implIndexX_any (v : Value) (l : List Int) (x : Int) (w : World) (hl : IntsAt w w.heap.size v l) :
 Calls Tryz.prog 164 #[v,.int .i64 x] w fun e w' => e = .returned (.int .i64 (ixOf (fun y => x == y) l)) ∧ w = w' := by
 have HL := Lib.hid hl
 obtain ⟨A,c,rfl,hlc,hcm,-⟩ := hl
 unfold maxLen at hcm
 go_enter Tryz.func164,Tryz.ntmps164
 go_wp2
 go_loop [8] (fun i => ∃ n : Nat,n ≤ l.length ∧ i = .int .i64 n ∧ Hid (IxTo (fun y => x == y) l n)) (fun i => l.length - (intOf i).toNat)
 case atStart => exact ⟨0,by omega,rfl,Lib.hid (IxTo.zero _ _)⟩
 case round =>
  obtain ⟨n,hn,rfl,HT⟩ := hrel
  by_cases hlt : n < l.length
  · obtain ⟨b,off,rfl,hb,c0⟩ := IntsAt.elem HL.out n hlt
    cases he : (x == l[n]) with
    | true =>
      have HV := Lib.hid (HT.out.hit hlt he)
      obtain ⟨z,hz⟩ : ∃ z,z = l[n] := ⟨_,rfl⟩
      rw [← hz] at c0 he
      clear hz
      go_wp2
      go_ret
      exact ⟨ret_int HV.out.symm,rfl⟩
    | false =>
      have HN := Lib.hid (HT.out.next hlt he)
      obtain ⟨z,hz⟩ : ∃ z,z = l[n] := ⟨_,rfl⟩
      rw [← hz] at c0 he
      clear hz
      go_wp2
      go_round
      case rel => exact ⟨n + 1,by omega,by go_num,HN⟩
      case measure => simp [intOf]; omega
  · obtain rfl : n = l.length := by omega
    have HV := Lib.hid HT.out.miss
    go_wp2
    go_ret
    exact ⟨ret_int HV.out.symm,rfl⟩
theorem any_beq (l : List Int) (x : Int) : l.any (fun y => x == y) = decide (x ∈ l) := by
 by_cases h : x ∈ l
 · rw [decide_eq_true h]; exact List.any_eq_true.2 ⟨x,h,beq_self_eq_true x⟩
 · rw [decide_eq_false h]; exact List.any_eq_false.2 fun y hy e => h (by have := eq_of_beq e; rwa [this])
theorem implContains_at (l : List Int) (x : Int) (q : Bool) (hq : decide (x ∈ l) = q) (v : Value) (w : World) (hl : IntsAt w w.heap.size v l) :
 Calls Tryz.prog 135 #[v,.int .i64 x] w fun e w' => e = .returned (.bool q) ∧ w = w' := by
 subst hq
 have hi := implIndexX_any v l x w hl
 have HV := Lib.hid ((ixOf_any (fun y => x == y) l).trans (any_beq l x))
 generalize ixOf (fun y => x == y) l = q at *
 obtain ⟨A,c,rfl,hlc,hcm,-⟩ := hl
 go_enter Tryz.func135,Tryz.ntmps135
 go_wp2_with (go_at_call 164; refine hi.mono ?_; rintro e w1 ⟨rfl,rfl⟩)
 go_ret
 exact ⟨ret_bool HV.out,rfl⟩
theorem head_fit {x : Inst} {d : Dep} (hx : instOk x = true) (hd : depOk x.rels d = true) (hw : AtomS_wf d.head) : ∀ a ∈ d.head, AtmFit x.facts a := okM_fit hw (by rw [okM_head hd]; exact hx)
theorem holdsM_egd {fs : List Fct} {d : Dep} {b : List Int} (h : d.egd = true) : holdsM fs d b = decide (b.getD d.left.toNat 0 = b.getD d.right.toNat 0) := by unfold holdsM; rw [if_pos h]
theorem holdsM_tgd {fs : List Fct} {d : Dep} {b : List Int} (h : d.egd = false) : holdsM fs d b = decide (0 < (walkM fs d.head b).length) := by unfold holdsM; rw [if_neg (by rw [h]; simp)]
set_option maxHeartbeats 3200000 in
set_option maxRecDepth 100000 in
theorem implHolds_any (fs : List Fct) (hfw : FactS_wf fs) (d : Dep) (b : List Int) (hb5 : b.length = 5) (hv : d.egd = true → (0 ≤ d.left ∧ d.left.toNat < 5) ∧ (0 ≤ d.right ∧ d.right.toNat < 5)) (hh : ∀ a ∈ d.head, AtmFit fs a) (vF vd vb : Value) (w : World) (hF : FactS_at w w.heap.size vF fs) (hD : Dependency_at w w.heap.size vd d) (hb : IntsAt w w.heap.size vb b) :
 Calls Tryz.prog 44 #[vF,vd,vb] w fun e w' => e = .returned (.bool (holdsM fs d b)) ∧ Below w.heap.size w w' := by
 have HF := Lib.hid hF
 have HB := Lib.hid hb
 obtain ⟨V1,V2,rfl,hA1,hA2⟩ := hD
 have HH := Lib.hid hA2
 obtain ⟨P,c,rfl,-⟩ := hA1.form
 obtain ⟨Q,c2,rfl,-⟩ := hA2.form
 obtain ⟨R,c3,rfl,-⟩ := hF.form
 obtain ⟨S,t,rfl,ht1,ht2,-,-⟩ := hb
 unfold maxLen at ht2
 clear hA1 hA2 hF
 obtain ⟨E,hEq⟩ : ∃ E,E = w.alloc (.cells #[.slice P d.body.length c,.slice Q d.head.length c2,.bool d.egd,.int .i64 d.left,.int .i64 d.right] 42) := ⟨_,rfl⟩
 have hE : Below w.heap.size w E := by rw [hEq]; exact below_more (Below.refl _ _) _
 have hEz : w.heap.size < E.heap.size := by rw [hEq]; simp
 cases hg : d.egd with
 | true =>
   obtain ⟨⟨h1,h2⟩,h3,h4⟩ := hv hg
   have HM := Lib.hid (holdsM_egd (fs := fs) (b := b) hg)
   obtain ⟨jl,hjl⟩ : ∃ j : Nat,d.left = (j : Int) := ⟨d.left.toNat,by omega⟩
   obtain ⟨jr,hjr⟩ : ∃ j : Nat,d.right = (j : Int) := ⟨d.right.toNat,by omega⟩
   rw [hjl,hjr] at HM
   simp only [Int.toNat_natCast] at HM
   have hl5 : jl < b.length := by omega
   have hr5 : jr < b.length := by omega
   obtain ⟨q,off,e9,hq,k1⟩ := IntsAt.elem HB.out jl hl5
   subst e9
   obtain ⟨q',off',e9,-,k2⟩ := IntsAt.elem HB.out jr hr5
   cases e9
   have HV := Lib.hid (show (b[jl] == b[jr]) = holdsM fs d b by
    rw [HM.out]
    have e1 : b.getD jl 0 = b[jl] := by simp [List.getD,hl5]
    have e2 : b.getD jr 0 = b[jr] := by simp [List.getD,hr5]
    rw [Bool.eq_iff_iff,beq_iff_eq,decide_eq_true_iff]
    show b[jl] = b[jr] ↔ b.getD jl 0 = b.getD jr 0
    rw [e1,e2])
   have G1 := Aft.cell (B := E.heap.size) hEz (show E.cell? ⟨w.heap.size,3,none⟩ = some (.int .i64 (jl : Int)) by rw [hEq,hjl]; simp [go_sem])
   have G2 := Aft.cell (B := E.heap.size) hEz (show E.cell? ⟨w.heap.size,4,none⟩ = some (.int .i64 (jr : Int)) by rw [hEq,hjr]; simp [go_sem])
   have G3 := Aft.cell (B := E.heap.size) (Nat.lt_of_lt_of_le hq hE.size) ((hE.cell (p := ⟨q,off + jl,none⟩) hq).trans k1)
   have G4 := Aft.cell (B := E.heap.size) (Nat.lt_of_lt_of_le hq hE.size) ((hE.cell (p := ⟨q,off + jr,none⟩) hq).trans k2)
   rw [hg,hjl,hjr] at hEq
   rw [hjl,hjr]
   clear HM hh hv h1 h2 h3 h4 hjl hjr k1 k2 hb5
   go_enter Tryz.func44,Tryz.ntmps44
   go_upto_region 2 with fail
   rw [← hEq]
   refine wp_region_aft (Below.refl E.heap.size E) (by kernel_rfl) (by kernel_rfl) ?_
   repeat (go_big_quiet_step (fail))
   refine wpQuiet_nil ?_
   refine aft_end ?_
   intro w2 hh2
   go_wp2
   go_ret
   exact ⟨ret_bool HV.out,hE.trans (hh2.mono hE.size)⟩
 | false =>
   have HM := Lib.hid (holdsM_tgd (fs := fs) (b := b) hg)
   have hcall := implHasExt_any fs hfw d.head hh b hb5 (.slice R fs.length c3) (.slice Q d.head.length c2) (.slice S b.length t) E ((HF.out.below hE (Nat.le_refl _)).more hE.size) ((HH.out.below hE (Nat.le_refl _)).more hE.size) ((HB.out.below hE (Nat.le_refl _)).more hE.size)
   rw [hg] at hEq
   rw [hEq] at hcall
   clear hh hv hb5
   go_enter Tryz.func44,Tryz.ntmps44
   go_wp2_with (go_at_call 91; refine hcall.mono ?_; rintro e w1 ⟨rfl,hb1⟩)
   rw [← hEq] at hb1
   go_ret
   exact ⟨ret_bool HM.out.symm,hE.trans (hb1.mono hE.size)⟩
end Go.Proofs.YtobdijcnfmgidaaGreat
