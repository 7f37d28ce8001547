/- Walks and plain lemmas for the laws of this seat. -/
import Derived.Shelf.Abstract
import Derived.Test.YtobdijcnfmgidaaGreatBase
import Derived.Test.YtobdijcnfmgidaaGreatAft
import Derived.Test.YtobdijcnfmgidaaGreatMInst
import Derived.Test.YtobdijcnfmgidaaGreatFactV
import Derived.Test.YtobdijcnfmgidaaGreatTrigM
import Derived.Test.YtobdijcnfmgidaaGreatFactVI
import Derived.Test.YtobdijcnfmgidaaGreatDepsV
namespace Go.Proofs.YtobdijcnfmgidaaGreat
open Go.RowKit
def eqInst (x y : Inst) : Bool := decide (x.rels = y.rels) && decide (x.facts = y.facts)
theorem specL5Sigs_at (l m : List Rel) (q : Bool) (hq : decide (l = m) = q) (v u : Value) (w : World) (hl : RelsAt w w.heap.size v l) (hm : RelsAt w w.heap.size u m) :
 Calls Tryz.prog 103 #[v,u] w fun e w' => e = .returned (.bool q) ∧ Below w.heap.size w w' := by
 subst hq; exact specL5Sigs_any v u l m w hl hm
set_option maxHeartbeats 3200000 in
set_option maxRecDepth 100000 in
theorem specEqualInstances_any (v u : Value) (x y : Inst) (w : World) (h : Instance_at w w.heap.size v x) (h' : Instance_at w w.heap.size u y) :
 Calls Tryz.prog 50 #[v,u] w fun e w' => e = .returned (.bool (eqInst x y)) ∧ Below w.heap.size w w' := by
 obtain ⟨P,c,Q,d,rfl⟩ := Instance_form h
 obtain ⟨P',c',Q',d',rfl⟩ := Instance_form h'
 obtain ⟨V1,V2,hv,hR,hF⟩ := h
 obtain ⟨U1,U2,hu,hR',hF'⟩ := h'
 simp only [Value.agg.injEq,Array.mk.injEq,List.cons.injEq,and_true] at hv hu
 obtain ⟨rfl,rfl⟩ := hv
 obtain ⟨rfl,rfl⟩ := hu
 obtain ⟨_,_,hv2,hd1,hd2⟩ := hF.form
 injection hv2 with e1 _ e2
 subst e1 e2
 obtain ⟨_,_,hv2,hd1',hd2'⟩ := hF'.form
 injection hv2 with e1 _ e2
 subst e1 e2
 unfold maxLen at hd2 hd2'
 have HF := Lib.hid hF
 have HF' := Lib.hid hF'
 have hE : Below w.heap.size w ((w.alloc (.cells #[.slice P x.rels.length c,.slice Q x.facts.length d] 27)).alloc (.cells #[.slice P' y.rels.length c',.slice Q' y.facts.length d'] 27)) := below_more (below_more (Below.refl _ _) _) _
 have HE := Lib.hid (show w.heap.size + 2 = ((w.alloc (.cells #[.slice P x.rels.length c,.slice Q x.facts.length d] 27)).alloc (.cells #[.slice P' y.rels.length c',.slice Q' y.facts.length d'] 27)).heap.size by simp)
 have K1 := Lib.hid (show ((w.alloc (.cells #[.slice P x.rels.length c,.slice Q x.facts.length d] 27)).alloc (.cells #[.slice P' y.rels.length c',.slice Q' y.facts.length d'] 27)).cell? ⟨w.heap.size,1,none⟩ = some (.slice Q x.facts.length d) by simp [go_sem])
 have L1 := Lib.hid (show ((w.alloc (.cells #[.slice P x.rels.length c,.slice Q x.facts.length d] 27)).alloc (.cells #[.slice P' y.rels.length c',.slice Q' y.facts.length d'] 27)).cell? ⟨w.heap.size + 1,1,none⟩ = some (.slice Q' y.facts.length d') by simp [go_sem])
 have c0 := fun q hq => specL5Sigs_at x.rels y.rels q hq _ _ ((w.alloc (.cells #[.slice P x.rels.length c,.slice Q x.facts.length d] 27)).alloc (.cells #[.slice P' y.rels.length c',.slice Q' y.facts.length d'] 27)) ((hR.below hE (Nat.le_refl _)).more hE.size) ((hR'.below hE (Nat.le_refl _)).more hE.size)
 clear hR hF hR' hF'
 cases hr : decide (x.rels = y.rels) with
 | false =>
   have HV := Lib.hid (show eqInst x y = false by unfold eqInst; rw [hr]; rfl)
   replace c0 := c0 false hr
   clear hr
   go_enter Tryz.func50,Tryz.ntmps50
   go_wp2_with fail
   refine c0.mono ?_
   rintro e w1 ⟨rfl,hb1⟩
   go_wp2
   go_ret
   exact ⟨ret_bool HV.out.symm,hE.trans (hb1.mono hE.size)⟩
 | true =>
   have HR := Lib.hid (show eqInst x y = decide (x.facts = y.facts) by unfold eqInst; rw [hr]; rfl)
   replace c0 := c0 true hr
   clear hr
   by_cases hn : x.facts.length = y.facts.length
   · have hnb : ((x.facts.length : Int) != (y.facts.length : Int)) = false := by rw [hn]; simp
     have HN := Lib.hid hn
     clear hn
     go_enter Tryz.func50,Tryz.ntmps50
     go_wp2_with fail
     refine c0.mono ?_
     rintro e w1 ⟨rfl,hb1⟩
     have f1 := (hb1.cell (p := ⟨w.heap.size,1,none⟩) (by show w.heap.size < _; have := HE.out; omega)).trans K1.out
     have f2 := (hb1.cell (p := ⟨w.heap.size + 1,1,none⟩) (by show w.heap.size + 1 < _; have := HE.out; omega)).trans L1.out
     clear c0
     go_wp2
     clear f1 f2
     go_loopw [5] (fun i wr => ∃ k : Nat,k ≤ x.facts.length ∧ i = .int .i64 k ∧ Hid (x.facts.take k = y.facts.take k) ∧ Below ((w.alloc (.cells #[.slice P x.rels.length c,.slice Q x.facts.length d] 27)).alloc (.cells #[.slice P' y.rels.length c',.slice Q' y.facts.length d'] 27)).heap.size ((w.alloc (.cells #[.slice P x.rels.length c,.slice Q x.facts.length d] 27)).alloc (.cells #[.slice P' y.rels.length c',.slice Q' y.facts.length d'] 27)) wr) (fun i _ => x.facts.length - (intOf i).toNat)
     case atStart => exact ⟨0,by omega,rfl,Lib.hid (by simp),hb1⟩
     case round =>
      obtain ⟨k,hk,rfl,HT,hW⟩ := hrel
      have hWw := hE.trans (hW.mono hE.size)
      have f1 := (hW.cell (p := ⟨w.heap.size,1,none⟩) (by show w.heap.size < _; have := HE.out; omega)).trans K1.out
      have f2 := (hW.cell (p := ⟨w.heap.size + 1,1,none⟩) (by show w.heap.size + 1 < _; have := HE.out; omega)).trans L1.out
      by_cases hlt : k < x.facts.length
      · have hlt' : k < y.facts.length := by have := HN.out; omega
        obtain ⟨b,off,V,rfl,hb,c0,c1,hV⟩ := FactS_at.elem HF.out k hlt
        obtain ⟨b',off',V',rfl,hb',d0,d1,hV'⟩ := FactS_at.elem HF'.out k hlt'
        have G1 := Aft.cell (B := ((w.alloc (.cells #[.slice P x.rels.length c,.slice (some ⟨b,off,none⟩) x.facts.length d] 27)).alloc (.cells #[.slice P' y.rels.length c',.slice (some ⟨b',off',none⟩) y.facts.length d'] 27)).heap.size) (by show w.heap.size < _; have := HE.out; omega) K1.out
        have G2 := Aft.cell (B := ((w.alloc (.cells #[.slice P x.rels.length c,.slice (some ⟨b,off,none⟩) x.facts.length d] 27)).alloc (.cells #[.slice P' y.rels.length c',.slice (some ⟨b',off',none⟩) y.facts.length d'] 27)).heap.size) (by show w.heap.size + 1 < _; have := HE.out; omega) L1.out
        have C0 := Aft.cell (B := ((w.alloc (.cells #[.slice P x.rels.length c,.slice (some ⟨b,off,none⟩) x.facts.length d] 27)).alloc (.cells #[.slice P' y.rels.length c',.slice (some ⟨b',off',none⟩) y.facts.length d'] 27)).heap.size) (w := ((w.alloc (.cells #[.slice P x.rels.length c,.slice (some ⟨b,off,none⟩) x.facts.length d] 27)).alloc (.cells #[.slice P' y.rels.length c',.slice (some ⟨b',off',none⟩) y.facts.length d'] 27))) (by have := HE.out; omega) ((hE.cell (p := ⟨b,off + k * 2,none⟩) hb).trans c0)
        have C1 := Aft.cell (B := ((w.alloc (.cells #[.slice P x.rels.length c,.slice (some ⟨b,off,none⟩) x.facts.length d] 27)).alloc (.cells #[.slice P' y.rels.length c',.slice (some ⟨b',off',none⟩) y.facts.length d'] 27)).heap.size) (w := ((w.alloc (.cells #[.slice P x.rels.length c,.slice (some ⟨b,off,none⟩) x.facts.length d] 27)).alloc (.cells #[.slice P' y.rels.length c',.slice (some ⟨b',off',none⟩) y.facts.length d'] 27))) (by have := HE.out; omega) ((hE.cell (p := ⟨b,off + k * 2 + 1,none⟩) hb).trans c1)
        have D0 := Aft.cell (B := ((w.alloc (.cells #[.slice P x.rels.length c,.slice (some ⟨b,off,none⟩) x.facts.length d] 27)).alloc (.cells #[.slice P' y.rels.length c',.slice (some ⟨b',off',none⟩) y.facts.length d'] 27)).heap.size) (w := ((w.alloc (.cells #[.slice P x.rels.length c,.slice (some ⟨b,off,none⟩) x.facts.length d] 27)).alloc (.cells #[.slice P' y.rels.length c',.slice (some ⟨b',off',none⟩) y.facts.length d'] 27))) (by have := HE.out; omega) ((hE.cell (p := ⟨b',off' + k * 2,none⟩) hb').trans d0)
        have D1 := Aft.cell (B := ((w.alloc (.cells #[.slice P x.rels.length c,.slice (some ⟨b,off,none⟩) x.facts.length d] 27)).alloc (.cells #[.slice P' y.rels.length c',.slice (some ⟨b',off',none⟩) y.facts.length d'] 27)).heap.size) (w := ((w.alloc (.cells #[.slice P x.rels.length c,.slice (some ⟨b,off,none⟩) x.facts.length d] 27)).alloc (.cells #[.slice P' y.rels.length c',.slice (some ⟨b',off',none⟩) y.facts.length d'] 27))) (by have := HE.out; omega) ((hE.cell (p := ⟨b',off' + k * 2 + 1,none⟩) hb').trans d1)
        have hcon := fun (q : Int) (hq : cmpF x.facts[k] y.facts[k] = q) (u : Aft ((w.alloc (.cells #[.slice P x.rels.length c,.slice (some ⟨b,off,none⟩) x.facts.length d] 27)).alloc (.cells #[.slice P' y.rels.length c',.slice (some ⟨b',off',none⟩) y.facts.length d'] 27)).heap.size ((w.alloc (.cells #[.slice P x.rels.length c,.slice (some ⟨b,off,none⟩) x.facts.length d] 27)).alloc (.cells #[.slice P' y.rels.length c',.slice (some ⟨b',off',none⟩) y.facts.length d'] 27))) => specCompareFacts_at x.facts[k] y.facts[k] q hq (.agg #[.int .i64 x.facts[k].rel,V]) (.agg #[.int .i64 y.facts[k].rel,V']) u.now ⟨V,rfl,(hV.below (hE.trans (u.is.mono hE.size)) (Nat.le_refl _)).more (hE.trans (u.is.mono hE.size)).size⟩ ⟨V',rfl,(hV'.below (hE.trans (u.is.mono hE.size)) (Nat.le_refl _)).more (hE.trans (u.is.mono hE.size)).size⟩
        clear c0 c1 d0 d1
        by_cases he : x.facts[k] = y.facts[k]
        · have hq := (cmpF_zero x.facts[k] y.facts[k]).2 he
          have HX := Lib.hid (take_eq_next x.facts y.facts k hlt hlt' he HT.out)
          have hcon' := hcon 0 hq
          clear hcon hq he
          go_wp2
          refine wp_region_aft hW (by kernel_rfl) (by kernel_rfl) ?_
          repeat (go_big_quiet_step (((go_at_call 36; exact calls_aft (Nat.le_refl _) (hcon' _)))))
          refine wpQuiet_nil ?_
          refine aft_end ?_
          intro w2 hh
          go_wp2
          go_roundw
          case rel => exact ⟨k + 1,by omega,by go_num,HX,hh⟩
          case measure => simp [intOf]; omega
        · obtain ⟨q,hq⟩ : ∃ q,cmpF x.facts[k] y.facts[k] = q := ⟨_,rfl⟩
          have hq0 : (q != 0) = true := bne_iff_ne.2 (fun e => he ((cmpF_zero _ _).1 (hq.trans e)))
          have HX := Lib.hid (HR.out.trans (decide_eq_false (take_eq_not x.facts y.facts k hlt hlt' he)))
          have hcon' := hcon q hq
          clear hcon hq he
          go_wp2
          refine wp_region_aft hW (by kernel_rfl) (by kernel_rfl) ?_
          repeat (go_big_quiet_step (((go_at_call 36; exact calls_aft (Nat.le_refl _) (hcon' _)))))
          refine wpQuiet_nil ?_
          refine aft_end ?_
          intro w2 hh
          go_wp2
          go_ret
          exact ⟨ret_bool HX.out.symm,hE.trans (hh.mono hE.size)⟩
      · obtain rfl : k = x.facts.length := by omega
        have HX := Lib.hid (HR.out.trans (decide_eq_true (show x.facts = y.facts by have := HT.out; rwa [List.take_of_length_le (Nat.le_refl _),List.take_of_length_le (by rw [HN.out]; exact Nat.le_refl _)] at this)))
        go_wp2
        go_ret
        exact ⟨ret_bool HX.out.symm,hWw⟩
   · have hnb : ((x.facts.length : Int) != (y.facts.length : Int)) = true := by rw [bne_iff_ne]; omega
     have HX := Lib.hid (HR.out.trans (decide_eq_false (show ¬ x.facts = y.facts from fun e => hn (by rw [e]))))
     clear hn
     go_enter Tryz.func50,Tryz.ntmps50
     go_wp2_with fail
     refine c0.mono ?_
     rintro e w1 ⟨rfl,hb1⟩
     have f1 := (hb1.cell (p := ⟨w.heap.size,1,none⟩) (by show w.heap.size < _; have := HE.out; omega)).trans K1.out
     have f2 := (hb1.cell (p := ⟨w.heap.size + 1,1,none⟩) (by show w.heap.size + 1 < _; have := HE.out; omega)).trans L1.out
     go_wp2
     go_ret
     exact ⟨ret_bool HX.out.symm,hE.trans (hb1.mono hE.size)⟩
def solM (s x : Inst) (l : List Dep) : Bool := satM x l && (instOk s && eqInst (restrictI x true) (restrictI s true))
theorem eqInst_comm (x y : Inst) : eqInst x y = eqInst y x := by
 unfold eqInst
 rw [decide_eq_decide.2 (eq_comm (a := x.rels)),decide_eq_decide.2 (eq_comm (a := x.facts))]
set_option maxHeartbeats 800000 in
theorem implSameFacts_at (a b : Fct) (q : Bool) (hq : sameP b a = q) (v u : Value) (w : World) (h : Fact_at w w.heap.size v a) (h' : Fact_at w w.heap.size u b) :
 Calls Tryz.prog 99 #[v,u] w fun e w' => e = .returned (.bool q) ∧ Below w.heap.size w w' := by
 obtain ⟨P,c,rfl⟩ := Fact_form h
 obtain ⟨Q,d,rfl⟩ := Fact_form h'
 have hE : Below w.heap.size w ((w.alloc (.cells #[.int .i64 a.rel,.slice P a.vals.length c] 66)).alloc (.cells #[.int .i64 b.rel,.slice Q b.vals.length d] 66)) := below_more (below_more (Below.refl _ _) _) _
 obtain ⟨z,hz⟩ : ∃ z,cmpF a b = z := ⟨_,rfl⟩
 have hc := implCompareFacts_at a b z hz _ _ ((w.alloc (.cells #[.int .i64 a.rel,.slice P a.vals.length c] 66)).alloc (.cells #[.int .i64 b.rel,.slice Q b.vals.length d] 66)) ((h.below hE (Nat.le_refl _)).more hE.size) ((h'.below hE (Nat.le_refl _)).more hE.size)
 have HQ := Lib.hid (show (z == 0) = q by rw [← hq,← cmpF_same,hz]; rfl)
 clear hq hz h h'
 go_enter Tryz.func99,Tryz.ntmps99
 go_wp2_with (go_at_call 73; refine hc.mono ?_; rintro e w1 ⟨rfl,hb1⟩)
 go_ret
 exact ⟨ret_bool HQ.out,hE.trans (hb1.mono hE.size)⟩
def TellsF (g : Nat) (lb : Array Value) (G : World → Prop) (p : Fct → Bool) (l : List Fct) : Prop :=
 ∀ (W : World) (x : Fct) (V : Value),G W → x ∈ l → IntS_at W W.heap.size V x.vals → Calls Tryz.prog g (#[.agg #[.int .i64 x.rel,V]] ++ lb) W fun e w' => e = .returned (.bool (p x)) ∧ Below W.heap.size W w'
def BoxF (b D : Nat) (f : Fct) (V : Value) (W : World) : Prop := b < D ∧ D ≤ W.heap.size ∧ W.cell? ⟨b, 0, none⟩ = some (.int .i64 f.rel) ∧ W.cell? ⟨b, 1, none⟩ = some V ∧ IntS_at W D V f.vals
theorem BoxF.below {b D D' : Nat} {f : Fct} {V : Value} {W W' : World} (h : BoxF b D f V W) (hb : Below D' W W') (hD : D ≤ D') : BoxF b D f V W' := by
 obtain ⟨h1,h2,h3,h4,h5⟩ := h
 refine ⟨h1,Nat.le_trans h2 hb.size,(hb.cell (p := ⟨b,0,none⟩) (Nat.lt_of_lt_of_le h1 hD)).trans h3,(hb.cell (p := ⟨b,1,none⟩) (Nat.lt_of_lt_of_le h1 hD)).trans h4,h5.below hb hD⟩
theorem BoxF.later {b D : Nat} {f : Fct} {V : Value} {W W' : World} (h : BoxF b D f V W) (hb : Below W.heap.size W W') : BoxF b D f V W' := h.below hb h.2.1
theorem BoxF.more {b D D' : Nat} {f : Fct} {V : Value} {W : World} (h : BoxF b D f V W) (hD : D ≤ D') (hs : D' ≤ W.heap.size) : BoxF b D' f V W := ⟨Nat.lt_of_lt_of_le h.1 hD, hs, h.2.2.1, h.2.2.2.1, h.2.2.2.2.more hD⟩
theorem BoxF.chg {b D : Nat} {f : Fct} {V : Value} {S : Nat → Prop} {W W' : World} (h : BoxF b D f V W) (hc : Chg S W W') (hS : ∀ k, S k → D ≤ k) : BoxF b D f V W' := by
 obtain ⟨h1,h2,h3,h4,h5⟩ := h
 exact (show BoxF b D f V W from ⟨h1,h2,h3,h4,h5⟩).below (hc.below hS h2) (Nat.le_refl _)
theorem BoxF.store {b D q : Nat} {f : Fct} {V : Value} {W : World} (h : BoxF b D f V W) (hq : D ≤ q) (o : Nat) (u : Value) : BoxF b D f V (W.setCell ⟨q, o, none⟩ u) :=
 h.below ((Below.refl D W).setCell (p := ⟨q,o,none⟩) hq u) (Nat.le_refl _)
set_option maxHeartbeats 1600000 in
set_option maxRecDepth 100000 in
theorem implIxF_any (g : Nat) (lb : Array Value) (eg : ∀ args w, (callFunc g args).run Tryz.prog w = .ok (.enter g args) w) (G : World → Prop) (hG : ∀ W W', G W → Below W.heap.size W W' → G W') (p : Fct → Bool) (v : Value) (l : List Fct) (w : World) (h0 : G w) (ht : TellsF g lb G p l) (hl : FactS_at w w.heap.size v l) :
 Calls Tryz.prog 144 #[v,.func (.func g) #[] lb] w fun e w' => e = .returned (.int .i64 (ixOf p l)) ∧ Below w.heap.size w w' := by
 have HL := Lib.hid hl
 obtain ⟨A,c,rfl,hlc,hcm⟩ := hl.form
 unfold maxLen at hcm
 have HG := Lib.hid (fun wr (hW : Below w.heap.size w wr) => hG w wr h0 hW)
 have HT := Lib.hid ht
 clear hG h0 ht hl
 go_enter Tryz.func144,Tryz.ntmps144
 go_wp2
 go_loopw [8] (fun i wr => ∃ k : Nat,k ≤ l.length ∧ i = .int .i64 k ∧ Hid (IxTo p l k) ∧ Below w.heap.size w wr) (fun i _ => l.length - (intOf i).toNat)
 case atStart => exact ⟨0,by omega,rfl,Lib.hid (IxTo.zero _ _),Below.refl _ _⟩
 case round =>
  obtain ⟨k,hk,rfl,HI,hW⟩ := hrel
  have hz := hW.size
  by_cases hlt : k < l.length
  · obtain ⟨b,off,V,rfl,hb,c0,c1,hV⟩ := FactS_at.elem HL.out k hlt
    replace c0 := (hW.cell (p := ⟨b,off + k * 2,none⟩) hb).trans c0
    replace c1 := (hW.cell (p := ⟨b,off + k * 2 + 1,none⟩) hb).trans c1
    have hcall := HT.out wr l[k] V (HG.out wr hW) (List.getElem_mem hlt) ((hV.below hW (Nat.le_refl _)).more hz)
    cases hp : p l[k] with
    | true =>
      have HV := Lib.hid (HI.out.hit hlt hp)
      rw [hp] at hcall
      clear hp hV
      go_wp2_with (go_at_fn g; refine hcall.mono ?_; rintro e w1 ⟨rfl,hb1⟩)
      go_ret
      exact ⟨ret_int HV.out.symm,hW.trans (hb1.mono hz)⟩
    | false =>
      have HV := Lib.hid (HI.out.next hlt hp)
      rw [hp] at hcall
      clear hp hV
      go_wp2_with (go_at_fn g; refine hcall.mono ?_; rintro e w1 ⟨rfl,hb1⟩)
      go_roundw
      case rel => exact ⟨k + 1,by omega,by go_num,HV,hW.trans (hb1.mono hz)⟩
      case measure => simp [intOf]; omega
  · obtain rfl : k = l.length := by omega
    have HV := Lib.hid HI.out.miss
    go_wp2
    go_ret
    exact ⟨ret_int HV.out.symm,hW⟩
end Go.Proofs.YtobdijcnfmgidaaGreat
