/- Walks and plain lemmas for the laws of this seat. -/
import Derived.Test.YtobdijcnfmgidaaGreatBase
import Derived.Test.YtobdijcnfmgidaaGreatAft
import Derived.Test.YtobdijcnfmgidaaGreatTyAtom
import Derived.Test.YtobdijcnfmgidaaGreatParInI
import Derived.Test.YtobdijcnfmgidaaGreatMatB
import Derived.Test.YtobdijcnfmgidaaGreatTrigM
namespace Go.Proofs.YtobdijcnfmgidaaGreat
open Go.RowKit
def chooseR (a : Atm) (f : Fct) (b : List Int) : List Int := if (fitA a f b).2 = true then (fitA a f b).1 else [0, 0, 0, 0, 0]
theorem choose_no {a : Atm} {f : Fct} {b : List Int} (h : (fitA a f b).2 = false) : chooseR a f b = [0, 0, 0, 0, 0] := by unfold chooseR; rw [if_neg (by rw [h]; simp)]
def ChInv (a : Atm) (f : Fct) (b : List Int) (g : Nat) (E : World) (kv : Value) (wq : World) : Prop :=
 ∃ (k : Nat) (bk : List Int),k ≤ a.vals.length ∧ kv = .int .i64 k ∧ Hid (fitA a f b = fitL (a.vals.drop k) (f.vals.drop k) bk) ∧ Hid (bk.length = 5) ∧ Hid (Arr g bk wq) ∧ Hid (Chg (fun q => q = g) E wq)
theorem ChInv.mk' {a : Atm} {f : Fct} {b : List Int} {g : Nat} {E : World} {kv : Value} {wq : World} (k : Nat) (bk : List Int) (h1 : k ≤ a.vals.length) (h2 : kv = .int .i64 k) (h3 : fitA a f b = fitL (a.vals.drop k) (f.vals.drop k) bk) (h4 : bk.length = 5) (h5 : Arr g bk wq) (h6 : Chg (fun q => q = g) E wq) : ChInv a f b g E kv wq :=
 ⟨k,bk,h1,h2,Lib.hid h3,Lib.hid h4,Lib.hid h5,Lib.hid h6⟩
set_option maxHeartbeats 6400000 in
set_option maxRecDepth 100000 in
theorem implChooseFact_any (v : Value) (a : Atm) (u : Value) (f : Fct) (b : List Int) (w : World) (h : Atom_at w w.heap.size v a) (hw : Atom_wf a) (h' : Fact_at w w.heap.size u f) (hwf : Fact_wf f) (hb5 : b.length = 5) (hin : ∀ (k : Nat) (hk : k < a.vals.length), a.vals[k] < 5) (hlen : a.rel = f.rel → a.vals.length = f.vals.length) :
 Calls Tryz.prog 166 #[v,u,bAgg b] w fun e w' => e = .returned (.tuple #[bAgg (chooseR a f b),.bool (fitA a f b).2]) ∧ Below w.heap.size w w' := by
 obtain ⟨V0,rfl,hV⟩ := h
 obtain ⟨V1,rfl,hU⟩ := h'
 have HV := Lib.hid hV
 have HU := Lib.hid hU
 obtain ⟨P,c,rfl,hc1,hc2,-⟩ := hV
 obtain ⟨Q,d,rfl,hd1,hd2,-⟩ := hU
 unfold maxLen at hc2 hd2
 obtain ⟨E,hEq⟩ : ∃ E,E = ((((w.alloc (.cells #[.int .i64 a.rel,.slice P a.vals.length c] 111)).alloc (.cells #[.int .i64 f.rel,.slice Q f.vals.length d] 66)).alloc (.cells #[.int .i64 (at5 b 0),.int .i64 (at5 b 1),.int .i64 (at5 b 2),.int .i64 (at5 b 3),.int .i64 (at5 b 4)] 122)).alloc (.cells #[.int .i64 0,.int .i64 0,.int .i64 0,.int .i64 0,.int .i64 0] 122)) := ⟨_,rfl⟩
 have hE : Below w.heap.size w E := by rw [hEq]; exact below_more (below_more (below_more (below_more (Below.refl _ _) _) _) _) _
 have HEz := Lib.hid (show E.heap.size = w.heap.size + 4 by rw [hEq]; simp)
 have A0 := Lib.hid (show E.cell? ⟨w.heap.size,0,none⟩ = some (.int .i64 a.rel) by rw [hEq]; simp [go_sem])
 have A1 := Lib.hid (show E.cell? ⟨w.heap.size,1,none⟩ = some (.slice P a.vals.length c) by rw [hEq]; simp [go_sem])
 have F0 := Lib.hid (show E.cell? ⟨w.heap.size + 1,0,none⟩ = some (.int .i64 f.rel) by rw [hEq]; simp [go_sem])
 have F1 := Lib.hid (show E.cell? ⟨w.heap.size + 1,1,none⟩ = some (.slice Q f.vals.length d) by rw [hEq]; simp [go_sem])
 have B0 := Lib.hid (show Arr (w.heap.size + 2) b E by
  refine ⟨fun j hj => ?_,fun o => by rw [hEq]; simp [go_sem]⟩
  rcases (show j = 0 ∨ j = 1 ∨ j = 2 ∨ j = 3 ∨ j = 4 by omega) with h | h | h | h | h <;> subst h <;> (rw [hEq]; simp [go_sem]))
 have R0 := Lib.hid (show Arr (w.heap.size + 3) [0,0,0,0,0] E by
  refine ⟨fun j hj => ?_,fun o => by rw [hEq]; simp [go_sem]⟩
  rcases (show j = 0 ∨ j = 1 ∨ j = 2 ∨ j = 3 ∨ j = 4 by omega) with h | h | h | h | h <;> subst h <;> (rw [hEq]; simp [go_sem,at5]))
 by_cases hr : f.rel = a.rel
 · have hl := hlen hr.symm
   have HL := Lib.hid hl
   have HFA := Lib.hid (fitA_yes (b := b) hr.symm hl)
   have dr : (f.rel != a.rel) = false := by rw [hr]; exact bne_self_eq_false _
   clear hl hlen hr
   go_enter Tryz.func166,Tryz.ntmps166
   go_wp2
   rw [← hEq]
   clear hEq dr
   go_loopw [19] (fun i wr => ChInv a f b (w.heap.size + 2) E i wr) (fun i _ => a.vals.length - (intOf i).toNat)
   case atStart => exact ChInv.mk' 0 b (by omega) rfl (by rw [HFA.out]; rfl) hb5 B0.out (Chg.refl _ _)
   case round =>
    obtain ⟨k,bk,hk,rfl,HI,HN,HA,HC⟩ := hrel
    have hzE : ∀ j,j < 4 → w.heap.size + j < E.heap.size := fun j hj => by rw [HEz.out]; omega
    have hgq : w.heap.size + 4 ≤ wr.heap.size := by have h1 := HC.out.size; rw [HEz.out] at h1; exact h1
    have HWr := Lib.hid (show Below w.heap.size w wr from hE.trans (HC.out.below (B := w.heap.size) (fun q hq => by omega) (by rw [HEz.out]; omega)))
    have a1 := (HC.out.cell (b := w.heap.size) (o := 1) (hzE 0 (by omega)) (by omega)).trans A1.out
    have f1 := (HC.out.cell (b := w.heap.size + 1) (o := 1) (hzE 1 (by omega)) (by omega)).trans F1.out
    by_cases hlt : k < a.vals.length
    · have hlf : k < f.vals.length := by have := HL.out; omega
      obtain ⟨q0,off0,rfl,hq0,e0⟩ := IntsAt.elem HV.out k hlt
      replace e0 := (HWr.out.cell (p := ⟨q0,off0 + k,none⟩) hq0).trans e0
      obtain ⟨q1,off1,rfl,hq1,he1⟩ := IntsAt.elem HU.out k hlf
      have e1 := (HWr.out.cell (p := ⟨q1,off1 + k,none⟩) hq1).trans he1
      have hwt := hw.2 k hlt
      have hwy := hwf.2 k hlf
      have hit := hin k hlt
      have HS := HI.out
      rw [fitL_step k hlt hlf] at HS
      obtain ⟨t,ht⟩ : ∃ t,t = a.vals[k] := ⟨_,rfl⟩
      obtain ⟨y,hy⟩ : ∃ y,y = f.vals[k] := ⟨_,rfl⟩
      rw [← ht] at e0 hwt hit HS
      rw [← hy] at he1 e1 hwy HS
      clear ht hy HI
      have hq1z : q1 < wr.heap.size := Nat.lt_of_lt_of_le hq1 HWr.out.size
      have E1 := Lib.hid he1
      clear he1
      by_cases hneg : t < 0
      · have hvar := implIsVariable_any t wr
        rw [decide_eq_false (by omega)] at hvar
        rw [if_pos hneg] at HS
        have hft : fillT bk t = -1 - t := by unfold fillT; rw [if_pos hneg]
        have ht5 : t < 5 := by omega
        by_cases hey : -1 - t = y
        · have d3 : (-1 - t != y) = false := by rw [hey]; exact bne_self_eq_false _
          rw [if_pos hey] at HS
          have HS2 := Lib.hid HS
          clear HS hey
          go_upto_region 8 with (go_at_call 161; refine hvar.mono ?_; rintro e w3 ⟨rfl,rfl⟩)
          clear a1 e0
          have HWw := Lib.hid (show Below w.heap.size w wr from hE.trans (HC.out.below (B := w.heap.size) (fun q hq => by omega) (by rw [HEz.out]; omega)))
          have hgW : w.heap.size + 4 ≤ wr.heap.size := by have h1 := HC.out.size; rw [HEz.out] at h1; exact h1
          have f1W := (HC.out.cell (b := w.heap.size + 1) (o := 1) (hzE 1 (by omega)) (by omega)).trans F1.out
          have e1W := (HWw.out.cell (p := ⟨q1,off1 + k,none⟩) hq1).trans E1.out
          have G1 := Aft.cell (B := wr.heap.size) (show w.heap.size + 1 < wr.heap.size by omega) f1W
          have G2 := Aft.cell (B := wr.heap.size) (show q1 < wr.heap.size by omega) e1W
          have hcon := fun (u : Aft wr.heap.size wr) => implTermValue_any t bk (.slice (some ⟨w.heap.size + 2,0,none⟩) 5 5) u.now ((HA.out.below u.is (by omega)).ints HN.out (Nat.lt_of_lt_of_le (show w.heap.size + 2 < wr.heap.size by omega) u.is.size)) hwt.1 (by rw [HN.out]; omega)
          simp only [hft] at hcon
          clear hft
          refine wp_region_aft (Below.refl wr.heap.size wr) (by kernel_rfl) (by kernel_rfl) ?_
          repeat (go_big_quiet_step (((go_at_call 172; exact calls_aft_same (hcon _)))))
          refine wpQuiet_nil ?_
          refine aft_end ?_
          intro w2 hh2
          clear hcon
          have HA2 := Lib.hid (HA.out.below hh2 (show w.heap.size + 2 < wr.heap.size by omega))
          have HC2 := Lib.hid (HC.out.then_below (hh2.mono (by have := HEz.out; omega)))
          go_wp2
          go_roundw
          case rel => exact ChInv.mk' (k + 1) bk (by omega) (by go_num) HS2.out HN.out HA2.out HC2.out
          case measure => simp [intOf]; omega
        · have d3 : (-1 - t != y) = true := bne_iff_ne.2 hey
          rw [if_neg hey] at HS
          have HS2 := Lib.hid HS
          clear HS hey
          go_upto_region 8 with (go_at_call 161; refine hvar.mono ?_; rintro e w3 ⟨rfl,rfl⟩)
          clear a1 e0
          have HWw := Lib.hid (show Below w.heap.size w wr from hE.trans (HC.out.below (B := w.heap.size) (fun q hq => by omega) (by rw [HEz.out]; omega)))
          have hgW : w.heap.size + 4 ≤ wr.heap.size := by have h1 := HC.out.size; rw [HEz.out] at h1; exact h1
          have f1W := (HC.out.cell (b := w.heap.size + 1) (o := 1) (hzE 1 (by omega)) (by omega)).trans F1.out
          have e1W := (HWw.out.cell (p := ⟨q1,off1 + k,none⟩) hq1).trans E1.out
          have G1 := Aft.cell (B := wr.heap.size) (show w.heap.size + 1 < wr.heap.size by omega) f1W
          have G2 := Aft.cell (B := wr.heap.size) (show q1 < wr.heap.size by omega) e1W
          have hcon := fun (u : Aft wr.heap.size wr) => implTermValue_any t bk (.slice (some ⟨w.heap.size + 2,0,none⟩) 5 5) u.now ((HA.out.below u.is (by omega)).ints HN.out (Nat.lt_of_lt_of_le (show w.heap.size + 2 < wr.heap.size by omega) u.is.size)) hwt.1 (by rw [HN.out]; omega)
          simp only [hft] at hcon
          clear hft
          refine wp_region_aft (Below.refl wr.heap.size wr) (by kernel_rfl) (by kernel_rfl) ?_
          repeat (go_big_quiet_step (((go_at_call 172; exact calls_aft_same (hcon _)))))
          refine wpQuiet_nil ?_
          refine aft_end ?_
          intro w2 hh2
          clear hcon
          have HQ := Lib.hid (show (fitA a f b).2 = false by rw [HS2.out])
          have HW2 := Lib.hid (HWw.out.trans (hh2.mono (by omega)))
          have r0 := (hh2.cell (p := ⟨w.heap.size + 3,0,none⟩) (by show w.heap.size + 3 < _; omega)).trans ((HC.out.cell (b := w.heap.size + 3) (o := 0) (hzE 3 (by omega)) (by omega)).trans (R0.out.1 0 (by omega)))
          have r1 := (hh2.cell (p := ⟨w.heap.size + 3,1,none⟩) (by show w.heap.size + 3 < _; omega)).trans ((HC.out.cell (b := w.heap.size + 3) (o := 1) (hzE 3 (by omega)) (by omega)).trans (R0.out.1 1 (by omega)))
          have r2 := (hh2.cell (p := ⟨w.heap.size + 3,2,none⟩) (by show w.heap.size + 3 < _; omega)).trans ((HC.out.cell (b := w.heap.size + 3) (o := 2) (hzE 3 (by omega)) (by omega)).trans (R0.out.1 2 (by omega)))
          have r3 := (hh2.cell (p := ⟨w.heap.size + 3,3,none⟩) (by show w.heap.size + 3 < _; omega)).trans ((HC.out.cell (b := w.heap.size + 3) (o := 3) (hzE 3 (by omega)) (by omega)).trans (R0.out.1 3 (by omega)))
          have r4 := (hh2.cell (p := ⟨w.heap.size + 3,4,none⟩) (by show w.heap.size + 3 < _; omega)).trans ((HC.out.cell (b := w.heap.size + 3) (o := 4) (hzE 3 (by omega)) (by omega)).trans (R0.out.1 4 (by omega)))
          have rz := fun o => (hh2.frozen (p := ⟨w.heap.size + 3,o,none⟩) (by show w.heap.size + 3 < _; omega)).trans ((HC.out.frozen (b := w.heap.size + 3) (o := o) (hzE 3 (by omega)) (by omega)).trans (R0.out.2 o))
          go_wp2
          refine bodyPost_ret (v := .tuple #[.agg #[.int .i64 0,.int .i64 0,.int .i64 0,.int .i64 0,.int .i64 0],.bool false]) (by simp [results,Tryz.results166,go_sem,r0,r1,r2,r3,r4]) rfl ⟨by rw [choose_no HQ.out,HQ.out]; rfl,below_set5 HW2.out (by omega) _ _ _ _ _⟩
      · have hvar := implIsVariable_any t wr
        rw [decide_eq_true (by omega)] at hvar
        rw [if_neg hneg] at HS
        obtain ⟨j,rfl⟩ : ∃ j : Nat,t = (j : Int) := ⟨t.toNat,by omega⟩
        have hj5 : j < 5 := by omega
        have e2 := HA.out.1 j hj5
        have ez := HA.out.2 j
        rw [Int.toNat_natCast] at HS
        obtain ⟨z,hz⟩ : ∃ z,z = at5 bk j := ⟨_,rfl⟩
        have hz' : bk.getD j 0 = z := hz.symm
        rw [← hz] at e2
        rw [hz'] at HS
        have ht5 : (j : Int) < 5 := by omega
        by_cases hz10 : z = 10
        · have d2 : (z == 10) = true := by rw [hz10]; rfl
          rw [if_pos (.inl hz10)] at HS
          have HS2 := Lib.hid HS
          have HA3 := Lib.hid (HA.out.set HN.out j hj5 y)
          have HC3 := Lib.hid (HC.out.setCell (p := ⟨w.heap.size + 2,j,none⟩) rfl (.int .i64 y))
          have HN3 := Lib.hid (show (bk.set j y).length = 5 by rw [List.length_set]; exact HN.out)
          have hft : fillT (bk.set j y) (j : Int) = y := by unfold fillT; rw [if_neg hneg,Int.toNat_natCast,getD_set,if_pos ⟨rfl,by rw [HN.out]; exact hj5⟩]
          have d3 : (y != y) = false := bne_self_eq_false _
          clear HS hz10 hz hz'
          go_upto_region 8 with (go_at_call 161; refine hvar.mono ?_; rintro e w3 ⟨rfl,rfl⟩)
          obtain ⟨w1,hw1⟩ : ∃ w1,w1 = wr.setCell ⟨w.heap.size + 2,j,none⟩ (.int .i64 y) := ⟨_,rfl⟩
          rw [← hw1] at HA3 HC3 ⊢
          clear hw1 a1 e0 e2 d2
          have HWw := Lib.hid (show Below w.heap.size w w1 from hE.trans (HC3.out.below (B := w.heap.size) (fun q hq => by omega) (by rw [HEz.out]; omega)))
          have hgW : w.heap.size + 4 ≤ w1.heap.size := by have h1 := HC3.out.size; rw [HEz.out] at h1; exact h1
          have f1W := (HC3.out.cell (b := w.heap.size + 1) (o := 1) (hzE 1 (by omega)) (by omega)).trans F1.out
          have e1W := (HWw.out.cell (p := ⟨q1,off1 + k,none⟩) hq1).trans E1.out
          have G1 := Aft.cell (B := w1.heap.size) (show w.heap.size + 1 < w1.heap.size by omega) f1W
          have G2 := Aft.cell (B := w1.heap.size) (show q1 < w1.heap.size by omega) e1W
          have hcon := fun (u : Aft w1.heap.size w1) => implTermValue_any (j : Int) (bk.set j y) (.slice (some ⟨w.heap.size + 2,0,none⟩) 5 5) u.now ((HA3.out.below u.is (by omega)).ints HN3.out (Nat.lt_of_lt_of_le (show w.heap.size + 2 < w1.heap.size by omega) u.is.size)) hwt.1 (by rw [HN3.out]; omega)
          simp only [hft] at hcon
          clear hft
          refine wp_region_aft (Below.refl w1.heap.size w1) (by kernel_rfl) (by kernel_rfl) ?_
          repeat (go_big_quiet_step (((go_at_call 172; exact calls_aft_same (hcon _)))))
          refine wpQuiet_nil ?_
          refine aft_end ?_
          intro w2 hh2
          clear hcon
          have HA2 := Lib.hid (HA3.out.below hh2 (show w.heap.size + 2 < w1.heap.size by omega))
          have HC2 := Lib.hid (HC3.out.then_below (hh2.mono (by have := HEz.out; omega)))
          go_wp2
          go_roundw
          case rel => exact ChInv.mk' (k + 1) (bk.set j y) (by omega) (by go_num) HS2.out HN3.out HA2.out HC2.out
          case measure => simp [intOf]; omega
        · have d2 : (z == 10) = false := by rw [beq_eq_false_iff_ne]; exact hz10
          have hft : fillT bk (j : Int) = z := by unfold fillT; rw [if_neg hneg,Int.toNat_natCast]; exact hz'
          by_cases hzy : z = y
          · have d3 : (z != y) = false := by rw [hzy]; exact bne_self_eq_false _
            rw [if_pos (.inr hzy),show bk.set j y = bk by rw [← hzy,← hz']; exact set_getD_self bk j] at HS
            have HS2 := Lib.hid HS
            clear HS hz10 hzy hz hz'
            go_upto_region 8 with (go_at_call 161; refine hvar.mono ?_; rintro e w3 ⟨rfl,rfl⟩)
            clear a1 e0 e2 d2
            have HWw := Lib.hid (show Below w.heap.size w wr from hE.trans (HC.out.below (B := w.heap.size) (fun q hq => by omega) (by rw [HEz.out]; omega)))
            have hgW : w.heap.size + 4 ≤ wr.heap.size := by have h1 := HC.out.size; rw [HEz.out] at h1; exact h1
            have f1W := (HC.out.cell (b := w.heap.size + 1) (o := 1) (hzE 1 (by omega)) (by omega)).trans F1.out
            have e1W := (HWw.out.cell (p := ⟨q1,off1 + k,none⟩) hq1).trans E1.out
            have G1 := Aft.cell (B := wr.heap.size) (show w.heap.size + 1 < wr.heap.size by omega) f1W
            have G2 := Aft.cell (B := wr.heap.size) (show q1 < wr.heap.size by omega) e1W
            have hcon := fun (u : Aft wr.heap.size wr) => implTermValue_any (j : Int) bk (.slice (some ⟨w.heap.size + 2,0,none⟩) 5 5) u.now ((HA.out.below u.is (by omega)).ints HN.out (Nat.lt_of_lt_of_le (show w.heap.size + 2 < wr.heap.size by omega) u.is.size)) hwt.1 (by rw [HN.out]; omega)
            simp only [hft] at hcon
            clear hft
            refine wp_region_aft (Below.refl wr.heap.size wr) (by kernel_rfl) (by kernel_rfl) ?_
            repeat (go_big_quiet_step (((go_at_call 172; exact calls_aft_same (hcon _)))))
            refine wpQuiet_nil ?_
            refine aft_end ?_
            intro w2 hh2
            clear hcon
            have HA2 := Lib.hid (HA.out.below hh2 (show w.heap.size + 2 < wr.heap.size by omega))
            have HC2 := Lib.hid (HC.out.then_below (hh2.mono (by have := HEz.out; omega)))
            go_wp2
            go_roundw
            case rel => exact ChInv.mk' (k + 1) bk (by omega) (by go_num) HS2.out HN.out HA2.out HC2.out
            case measure => simp [intOf]; omega
          · have d3 : (z != y) = true := bne_iff_ne.2 hzy
            rw [if_neg (fun h => h.elim hz10 hzy)] at HS
            have HS2 := Lib.hid HS
            clear HS hz10 hzy hz hz'
            go_upto_region 8 with (go_at_call 161; refine hvar.mono ?_; rintro e w3 ⟨rfl,rfl⟩)
            clear a1 e0 e2 d2
            have HWw := Lib.hid (show Below w.heap.size w wr from hE.trans (HC.out.below (B := w.heap.size) (fun q hq => by omega) (by rw [HEz.out]; omega)))
            have hgW : w.heap.size + 4 ≤ wr.heap.size := by have h1 := HC.out.size; rw [HEz.out] at h1; exact h1
            have f1W := (HC.out.cell (b := w.heap.size + 1) (o := 1) (hzE 1 (by omega)) (by omega)).trans F1.out
            have e1W := (HWw.out.cell (p := ⟨q1,off1 + k,none⟩) hq1).trans E1.out
            have G1 := Aft.cell (B := wr.heap.size) (show w.heap.size + 1 < wr.heap.size by omega) f1W
            have G2 := Aft.cell (B := wr.heap.size) (show q1 < wr.heap.size by omega) e1W
            have hcon := fun (u : Aft wr.heap.size wr) => implTermValue_any (j : Int) bk (.slice (some ⟨w.heap.size + 2,0,none⟩) 5 5) u.now ((HA.out.below u.is (by omega)).ints HN.out (Nat.lt_of_lt_of_le (show w.heap.size + 2 < wr.heap.size by omega) u.is.size)) hwt.1 (by rw [HN.out]; omega)
            simp only [hft] at hcon
            clear hft
            refine wp_region_aft (Below.refl wr.heap.size wr) (by kernel_rfl) (by kernel_rfl) ?_
            repeat (go_big_quiet_step (((go_at_call 172; exact calls_aft_same (hcon _)))))
            refine wpQuiet_nil ?_
            refine aft_end ?_
            intro w2 hh2
            clear hcon
            have HQ := Lib.hid (show (fitA a f b).2 = false by rw [HS2.out])
            have HW2 := Lib.hid (HWw.out.trans (hh2.mono (by omega)))
            have r0 := (hh2.cell (p := ⟨w.heap.size + 3,0,none⟩) (by show w.heap.size + 3 < _; omega)).trans ((HC.out.cell (b := w.heap.size + 3) (o := 0) (hzE 3 (by omega)) (by omega)).trans (R0.out.1 0 (by omega)))
            have r1 := (hh2.cell (p := ⟨w.heap.size + 3,1,none⟩) (by show w.heap.size + 3 < _; omega)).trans ((HC.out.cell (b := w.heap.size + 3) (o := 1) (hzE 3 (by omega)) (by omega)).trans (R0.out.1 1 (by omega)))
            have r2 := (hh2.cell (p := ⟨w.heap.size + 3,2,none⟩) (by show w.heap.size + 3 < _; omega)).trans ((HC.out.cell (b := w.heap.size + 3) (o := 2) (hzE 3 (by omega)) (by omega)).trans (R0.out.1 2 (by omega)))
            have r3 := (hh2.cell (p := ⟨w.heap.size + 3,3,none⟩) (by show w.heap.size + 3 < _; omega)).trans ((HC.out.cell (b := w.heap.size + 3) (o := 3) (hzE 3 (by omega)) (by omega)).trans (R0.out.1 3 (by omega)))
            have r4 := (hh2.cell (p := ⟨w.heap.size + 3,4,none⟩) (by show w.heap.size + 3 < _; omega)).trans ((HC.out.cell (b := w.heap.size + 3) (o := 4) (hzE 3 (by omega)) (by omega)).trans (R0.out.1 4 (by omega)))
            have rz := fun o => (hh2.frozen (p := ⟨w.heap.size + 3,o,none⟩) (by show w.heap.size + 3 < _; omega)).trans ((HC.out.frozen (b := w.heap.size + 3) (o := o) (hzE 3 (by omega)) (by omega)).trans (R0.out.2 o))
            go_wp2
            refine bodyPost_ret (v := .tuple #[.agg #[.int .i64 0,.int .i64 0,.int .i64 0,.int .i64 0,.int .i64 0],.bool false]) (by simp [results,Tryz.results166,go_sem,r0,r1,r2,r3,r4]) rfl ⟨by rw [choose_no HQ.out,HQ.out]; rfl,below_set5 HW2.out (by omega) _ _ _ _ _⟩
    · obtain rfl : k = a.vals.length := by omega
      have HS := HI.out.trans (fitL_end _ (Nat.le_refl _))
      have HQ := Lib.hid (show (fitA a f b).2 = true by rw [HS])
      have HR := Lib.hid (show chooseR a f b = bk by unfold chooseR; rw [if_pos HQ.out,HS])
      clear HS HI
      have b0 := HA.out.1 0 (by omega)
      have b1 := HA.out.1 1 (by omega)
      have b2 := HA.out.1 2 (by omega)
      have b3 := HA.out.1 3 (by omega)
      have b4 := HA.out.1 4 (by omega)
      have r0 := (HC.out.cell (b := w.heap.size + 3) (o := 0) (hzE 3 (by omega)) (by omega)).trans (R0.out.1 0 (by omega))
      have r1 := (HC.out.cell (b := w.heap.size + 3) (o := 1) (hzE 3 (by omega)) (by omega)).trans (R0.out.1 1 (by omega))
      have r2 := (HC.out.cell (b := w.heap.size + 3) (o := 2) (hzE 3 (by omega)) (by omega)).trans (R0.out.1 2 (by omega))
      have r3 := (HC.out.cell (b := w.heap.size + 3) (o := 3) (hzE 3 (by omega)) (by omega)).trans (R0.out.1 3 (by omega))
      have r4 := (HC.out.cell (b := w.heap.size + 3) (o := 4) (hzE 3 (by omega)) (by omega)).trans (R0.out.1 4 (by omega))
      have rz := fun o => (HC.out.frozen (b := w.heap.size + 3) (o := o) (hzE 3 (by omega)) (by omega)).trans (R0.out.2 o)
      go_wp2
      refine bodyPost_ret (v := .tuple #[bAgg bk,.bool true]) (by simp [results,Tryz.results166,go_sem,r0,r1,r2,r3,r4]) rfl ⟨by rw [HR.out,HQ.out],below_set5 HWr.out (by omega) _ _ _ _ _⟩
 · have hno := fitA_no (b := b) (a := a) (f := f) (fun h => hr h.1.symm)
   have HQ := Lib.hid (show (fitA a f b).2 = false by rw [hno])
   have dr : (f.rel != a.rel) = true := bne_iff_ne.2 hr
   clear hno
   go_enter Tryz.func166,Tryz.ntmps166
   go_wp2
   rw [← hEq]
   refine bodyPost_ret (v := .tuple #[.agg #[.int .i64 0,.int .i64 0,.int .i64 0,.int .i64 0,.int .i64 0],.bool false]) ?_ rfl ⟨by rw [choose_no HQ.out,HQ.out]; rfl,hE⟩
   rw [hEq]
   simp [results,Tryz.results166,go_sem]
end Go.Proofs.YtobdijcnfmgidaaGreat
