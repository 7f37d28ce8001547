/- Walks and plain lemmas for the laws of this seat. -/
import Derived.Deep.Quiet
import Derived.Test.YtobdijcnfmgidaaGreatDraw
import Derived.Test.YtobdijcnfmgidaaGreatDrawR
import Derived.Test.YtobdijcnfmgidaaGreatPlan
import Derived.Test.YtobdijcnfmgidaaGreatAft
import Derived.Test.YtobdijcnfmgidaaGreatInstCp
import Derived.Test.YtobdijcnfmgidaaGreatDrawF
import Derived.Test.YtobdijcnfmgidaaGreatMInst
import Derived.Test.YtobdijcnfmgidaaGreatInstU2
namespace Go.Proofs.YtobdijcnfmgidaaGreat
open Go.RowKit
def InstSmall (n : Nat) (x : Inst) : Prop := (x.rels.length ≤ 5 ∧ ∀ r ∈ x.rels, RelSmall r) ∧ x.facts.length ≤ n ∧ ∀ f ∈ x.facts, FctSmall f
theorem InstSmall.more {n m : Nat} {x : Inst} (h : InstSmall n x) (hm : n ≤ m) : InstSmall m x := ⟨h.1, Nat.le_trans h.2.1 hm, h.2.2⟩
theorem FctSmall.wf {f : Fct} (h : FctSmall f) : Fact_wf f := by
 obtain ⟨⟨h1,h2⟩,_,h4⟩ := h
 refine ⟨⟨by omega,by omega⟩,?_⟩
 intro i hi
 have := h4 _ (List.getElem_mem hi)
 omega
theorem InstSmall.wf {n : Nat} {x : Inst} (h : InstSmall n x) : Instance_wf x := by
 refine ⟨fun i hi => ?_,fun i hi => (h.2.2 _ (List.getElem_mem hi)).wf⟩
 have := (h.1.2 _ (List.getElem_mem hi)).1
 unfold maxLen
 omega
theorem valsLen_small (l : List Fct) (h : ∀ f ∈ l, FctSmall f) : valsLen l ≤ 3 * l.length := valsLen_le3 l (fun f hf => (h f hf).2.1)
theorem relsLen_small (l : List Rel) (h : ∀ r ∈ l, RelSmall r) : relsLen l ≤ 2 * l.length := by
 induction l with
 | nil => simp [relsLen]
 | cons a t ih =>
   have h1 := (h a (by simp)).1
   have h2 := ih (fun r hr => h r (by simp [hr]))
   simp only [relsLen,List.length_cons]; omega
theorem InstSmall.sz {n : Nat} {x : Inst} (h : InstSmall n x) (hn : n ≤ 1000) : Instance_sz x ≤ 10000 := by
 have h1 := valsLen_small x.facts h.2.2
 have h2 := relsLen_small x.rels h.1.2
 have h3 := h.1.1
 have h4 := h.2.1
 unfold Instance_sz RelationS_sz FactS_sz; omega
theorem InstSmall.put {n : Nat} {x : Inst} {f : Fct} (h : InstSmall n x) (hf : FctSmall f) : InstSmall (n + 1) ⟨x.rels, putF x.facts f⟩ := by
 refine ⟨h.1,?_,fun g hg => ?_⟩
 · have := putF_le x.facts f
   have := h.2.1
   show (putF x.facts f).length ≤ n + 1
   omega
 · rcases (putF_iff x.facts f g).1 hg with rfl | hg
   · exact hf
   · exact h.2.2 g hg
theorem putF_pos1 (l : List Fct) (f : Fct) : 0 < (putF l f).length := List.length_pos_of_mem ((putF_iff l f f).2 (.inl rfl))
def Putable (v : Value) (x : Inst) : Prop := x.facts.length = 0 → ∃ V1 Q d, v = .agg #[V1, .slice Q 0 d] ∧ ((Q = none ∧ d = 0) ∨ ∃ g, Q = some ⟨g, 0, none⟩) ∧ d ≤ maxLen
theorem Putable.pos {v : Value} {x : Inst} (h : 0 < x.facts.length) : Putable v x := fun h0 => absurd h0 (by omega)
theorem Putable.own {B C : Nat} {v : Value} {x : Inst} {w : World} (h : Instance_own B C v x w) : Putable v x := fun h0 => by
 obtain ⟨V1,V2,rfl,_,Vs,hF⟩ := h
 have hl : (pairs x.facts Vs).length = 0 := (pairs_len hF.len).trans h0
 have hr := hF.row
 rw [hl] at hr
 obtain ⟨-,hr⟩ := hr
 rcases hr with ⟨rfl,-⟩ | ⟨g,cap,cur,rfl,-,-,-,h6,-⟩
 · exact ⟨_,_,_,rfl,.inl ⟨rfl,rfl⟩,by decide⟩
 · exact ⟨_,_,_,rfl,.inr ⟨g,rfl⟩,h6⟩
theorem specL5Put_z (A : Nat) (v u : Value) (x : Inst) (y : Fct) (w : World) (hA : A ≤ w.heap.size) (hlo : Instance_lo A w w.heap.size v x) (hP : Putable v x) (hn : x.facts.length ≤ 1048576) (h' : Fact_at w w.heap.size u y) (hyn : Fact_sz y ≤ 1048576) :
 Calls Tryz.prog 94 #[v,u] w (GivesLo A x y w) := by
 rcases Nat.eq_zero_or_pos x.facts.length with h0 | h0
 · obtain ⟨V1,Q,d,rfl,hQ,hd⟩ := hP h0
   obtain ⟨U1,U2,Vs,hv,hR,l1,-⟩ := hlo
   simp only [Value.agg.injEq,Array.mk.injEq,List.cons.injEq,and_true] at hv
   obtain ⟨rfl,-⟩ := hv
   obtain ⟨P,c,rfl,-⟩ := hR.form
   have e : x = ⟨x.rels,[]⟩ := by
    cases x with
    | mk r f => simp only [Inst.mk.injEq,true_and]; exact List.eq_nil_of_length_eq_zero h0
   have := specL5Put_elo A u x.rels y P c Q d w hA l1 hR hQ hd h' hyn
   rw [← e] at this
   exact this
 · exact specL5Put_lo A v u x y w hA h0 hlo hn h' hyn
theorem row_apart {w : World} {B k n b : Nat} {e e' : TypeId} {v : Value} {xs : List Value} {cs : Array Value} (h : w.ownsRow B e k v n xs) (hb : w.heap[b]? = some (.cells cs e' (0, 0))) (hne : e ≠ e') : v.ownBlock ≠ some b := by
 rcases h.2 with ⟨rfl,_⟩ | ⟨g,cap,cur,rfl,_,hh,_⟩
 · simp [Value.ownBlock]
 · intro e1
   simp only [Value.ownBlock,Option.some.injEq] at e1
   subst e1
   rw [hh] at hb
   injection hb with h1
   injection h1 with _ h2 _
   exact hne h2
theorem FactS_own.offRel {B C B' q n cap : Nat} {v : Value} {l : List Fct} {rl : List Rel} {w w' : World} (h : FactS_own B C v l w) (hR : OwnRels B' (.slice (some ⟨q, 0, none⟩) n cap) rl w) (hc : Chg (fun k => k = q) w w') : FactS_own B C v l w' := by
 obtain ⟨Vs,h⟩ := h
 have hb : ∃ cs,w.heap[q]? = some (.cells cs 70 (0,0)) := by
  rcases hR.2 with ⟨h0,_⟩ | ⟨g,cap',cur,h0,_,hh,_⟩
  · cases h0
  · injection h0 with h1 _ _
    injection h1 with h1
    injection h1 with h1 _ _
    subst h1
    exact ⟨_,hh⟩
 obtain ⟨cs,hb⟩ := hb
 exact ⟨Vs,h.len,hc.row h.row (fun g hg e => by have e' : g = q := e; subst e'; exact row_apart h.row hb (by decide) hg),h.ins,fun i h1 h2 => ⟨(h.el i h1 h2).1.chg hc (fun g hg e => by have e' : g = q := e; subst e'; exact row_apart (k := 1) (e := 3) (h.el i h1 h2).1 hb (by decide) hg),(h.el i h1 h2).2⟩,h.dis⟩
theorem chg_of_grown {p : Nat} {w w' : World} (hg : w.grownBy w' (some p)) : Chg (Mid p (p + 1)) w w' :=
 ⟨hg.os,hg.tape,hg.output,hg.size,fun k hk hn => hg.block k hk (by intro e; injection e with e; exact hn ⟨by omega,by omega⟩)⟩
theorem Instance_lo.less {A A' B : Nat} {w : World} {v : Value} {x : Inst} (h : Instance_lo A w B v x) (hA : A' ≤ A) : Instance_lo A' w B v x := by
 obtain ⟨V1,V2,Vs,rfl,h1,l1,l2,h2,h3,h4,l3⟩ := h
 exact ⟨V1,V2,Vs,rfl,h1,fun g hg => Nat.le_trans hA (l1 g hg),fun g hg => Nat.le_trans hA (l2 g hg),h2,h3,h4,fun V hV g hg => Nat.le_trans hA (l3 V hV g hg)⟩
theorem Instance_lo.dropRel {A B q c : Nat} {w : World} {V2 : Value} {x : Inst} (h : Instance_lo A w B (.agg #[.slice (some ⟨q, 0, none⟩) x.rels.length c, V2]) x) (j : Nat) (hj : j ≤ x.rels.length) :
 Instance_lo A w B (.agg #[.slice (some ⟨q,0 + j * 3,none⟩) (x.rels.drop j).length (c - j),V2]) ⟨x.rels.drop j,x.facts⟩ := by
 obtain ⟨U1,U2,Vs,hv,h1,l1,l2,h2,h3,h4,l3⟩ := h
 simp only [Value.agg.injEq,Array.mk.injEq,List.cons.injEq,and_true] at hv
 obtain ⟨rfl,rfl⟩ := hv
 exact ⟨_,_,Vs,rfl,SliceAt.drop relCells_len h1 j hj,fun g hg => l1 g hg,l2,h2,h3,h4,l3⟩
theorem Inst5_form {w : World} {B : Nat} {v : Value} {L : List Fct} (h : Instance_at w B v ⟨sigs5, L⟩) : ∃ P c Q d, v = .agg #[.slice P 5 c, .slice Q L.length d] := Instance_form h
set_option maxHeartbeats 6400000 in
set_option maxRecDepth 100000 in
theorem l5Target_c (p : Nat) (cv : Value) (code : List UInt8) (st : DrawSt) (m : Nat) (hm : m ≤ 100) (n : Int) (h1 : 0 ≤ n) (h2 : n ≤ 40) (w : World) (hC : CurS w p cv code st) :
 Calls Tryz.prog 114 #[.pointer (some ⟨p,0,none⟩),.int .i64 m,.int .i64 n] w fun e w' => ∃ V x,e = .returned V ∧ Instance_own w.heap.size w'.heap.size V x w' ∧ InstSmall m x ∧ x.rels = sigs5 ∧ (∃ st',CurS w' p cv code st') ∧ w.grownBy w' (some p) := by
 have hp := Cur.lt hC
 have hb := belowR_bd code
 go_enter Tryz.func114,Tryz.ntmps114
 go_wp2_with fail
 refine (l3Sigs_c _).mono ?_; rintro e w2 ⟨rfl,hw2⟩
 have hO2 := sigs5_own (w.alloc (.cells #[.slice none 0 0,.slice none 0 0] 27))
 rw [← hw2] at hO2
 go_wp2_with fail
 have hG : (w.alloc (.cells #[.slice none 0 0,.slice none 0 0] 27)).heap.size = w.heap.size + 1 := by simp
 rw [hG] at hO2
 have b0 : w2.cell? ⟨w.heap.size,0,none⟩ = some (.slice none 0 0) := by rw [hw2]; simp [go_sem]
 have b1 : w2.cell? ⟨w.heap.size,1,none⟩ = some (.slice none 0 0) := by rw [hw2]; simp [go_sem]
 have bz : ∀ o,w2.frozen? ⟨w.heap.size,o,none⟩ = false := by intro o; rw [hw2]; simp [go_sem]
 have hz2 : w2.heap.size = w.heap.size + 2 := by rw [hw2]; simp
 have hC2 : CurS w2 p cv code st := by rw [hw2]; exact Cur.alloc (Cur.alloc hC _) _
 have hB2 : Below w.heap.size w w2 := by rw [hw2]; exact below_more (below_more (Below.refl _ _) _) _
 clear hG
 rw [← hw2]
 clear hw2
 obtain ⟨g,hg⟩ : ∃ g,g = w2.heap.size := ⟨_,rfl⟩
 have y0 : (w2.alloc (.cells #[.slice (some ⟨w.heap.size + 1,0,none⟩) 5 5,.slice none 0 0] 27)).cell? ⟨g,0,none⟩ = some (.slice (some ⟨w.heap.size + 1,0,none⟩) 5 5) := by rw [hg]; simp [go_sem]
 have y1 : (w2.alloc (.cells #[.slice (some ⟨w.heap.size + 1,0,none⟩) 5 5,.slice none 0 0] 27)).cell? ⟨g,1,none⟩ = some (.slice none 0 0) := by rw [hg]; simp [go_sem]
 have yz : ∀ o,(w2.alloc (.cells #[.slice (some ⟨w.heap.size + 1,0,none⟩) 5 5,.slice none 0 0] 27)).frozen? ⟨g,o,none⟩ = false := by intro o; rw [hg]; simp [go_sem]
 have yA : AllSl (w2.alloc (.cells #[.slice (some ⟨w.heap.size + 1,0,none⟩) 5 5,.slice none 0 0] 27)) g := by
  intro o u hu
  rw [hg,box_cell] at hu
  match o,hu with
  | 0,hu => simp at hu; subst hu; exact ⟨_,_,_,rfl⟩
  | 1,hu => simp at hu; subst hu; exact ⟨_,_,_,rfl⟩
  | o + 2,hu => simp at hu
 have hsz : (w2.alloc (.cells #[.slice (some ⟨w.heap.size + 1,0,none⟩) 5 5,.slice none 0 0] 27)).heap.size = g + 1 := by rw [hg]; simp
 have hAl : Below g w2 (w2.alloc (.cells #[.slice (some ⟨w.heap.size + 1,0,none⟩) 5 5,.slice none 0 0] 27)) := (Below.refl _ _).alloc (by omega) _
 have hCW : CurS (w2.alloc (.cells #[.slice (some ⟨w.heap.size + 1,0,none⟩) 5 5,.slice none 0 0] 27)) p cv code st := Cur.alloc hC2 _
 have hgw : g = w.heap.size + 2 := hg.trans hz2
 rw [show w.heap.size + 1 + 1 = g from hgw.symm]
 generalize w2.alloc (.cells #[.slice (some ⟨w.heap.size + 1,0,none⟩) 5 5,.slice none 0 0] 27) = W at y0 y1 yz yA hsz hAl hCW ⊢
 have hOW := hO2.below hAl (by omega)
 have hLo : Instance_lo (w.heap.size + 1) W W.heap.size (.agg #[.slice (some ⟨w.heap.size + 1,0,none⟩) 5 5,.slice none 0 0]) ⟨sigs5,[]⟩ :=
  ⟨_,_,[],rfl,hOW.at_,lowB.row hOW (Nat.le_refl _),lowB.none _ _ _,rfl,⟨none,0,rfl,Nat.le_refl _,by decide,fun h => absurd h (by simp [pairs]),fun _ => rfl⟩,fun i h => by simp at h,fun V hV => by cases hV⟩
 have B0 := Lib.hid ((hAl.cell (p := ⟨w.heap.size,0,none⟩) (by show w.heap.size < g; omega)).trans b0)
 have B1 := Lib.hid ((hAl.cell (p := ⟨w.heap.size,1,none⟩) (by show w.heap.size < g; omega)).trans b1)
 have BZ := Lib.hid (fun o => (hAl.frozen (p := ⟨w.heap.size,o,none⟩) (by show w.heap.size < g; omega)).trans (bz o))
 have HW := Lib.hid (hB2.trans (hAl.mono (by omega)))
 have HSZ := Lib.hid hsz
 have HGW := Lib.hid hgw
 have hpg : p < g ∧ w.heap.size + 1 < g := by omega
 clear b0 b1 bz hz2 hC2 hB2 hg hAl hsz hgw hO2 hOW
 have j1 := hb st (m + 1)
 have j2 := j1.2 (by omega)
 have j1 := j1.1
 refine (l1Below_r p cv code _ _ _ hCW).mono ?_; rintro e w3 ⟨rfl,hC3,hg3⟩
 generalize belowR code st (m + 1) = bk at *
 obtain ⟨k0,hk0⟩ := Int.eq_ofNat_of_zero_le j1
 rw [hk0]
 have hk0m : k0 ≤ m := by omega
 have HK0 := Lib.hid hk0
 have hch3 : Chg (fun q => q = p) W w3 := ⟨hg3.os,hg3.tape,hg3.output,hg3.size,fun k hk hn => hg3.block k hk (by intro e; injection e with e; exact hn e)⟩
 have y0' := grown_cell hg3 y0 (by omega)
 have y1' := grown_cell hg3 y1 (by omega)
 have yz' := fun o => grown_frozen hg3 (b := g) (o := o) (by rw [HSZ.out]; omega) (by omega) (yz o)
 have yA' : AllSl w3 g := yA.cells fun o => hch3.cell (by rw [HSZ.out]; omega) (by omega)
 have hLo' := hLo.chg hch3 (fun k hk => by subst hk; omega)
 have HC3 := Lib.hid (hch3.mono (T := fun q => q = p ∨ q = g) (fun k hk => .inl hk))
 clear y0 y1 yz yA hLo hk0 j1 j2 hCW hg3 hch3
 go_wp2
 go_loopw [8] (fun i wr => ∃ (k j : Nat) (x : Inst) (P : Option Addr) (c : Nat) (Q : Option Addr) (d : Nat) (st' : DrawSt),i = .int .i64 (k : Nat) ∧ j + k ≤ m ∧ Hid (InstSmall j x ∧ x.rels = sigs5) ∧ wr.cell? ⟨g,0,none⟩ = some (.slice P x.rels.length c) ∧ wr.cell? ⟨g,1,none⟩ = some (.slice Q x.facts.length d) ∧ (∀ o,wr.frozen? ⟨g,o,none⟩ = false) ∧ Hid (AllSl wr g) ∧ Hid (Instance_lo (w.heap.size + 1) wr wr.heap.size (.agg #[.slice P x.rels.length c,.slice Q x.facts.length d]) x) ∧ Hid (Putable (.agg #[.slice P x.rels.length c,.slice Q x.facts.length d]) x) ∧ CurS wr p cv code st' ∧ Hid (Chg (fun q => q = p ∨ q = g) W wr)) (fun i _ => (intOf i).toNat)
 case atStart => exact ⟨k0,0,⟨sigs5,[]⟩,some ⟨w.heap.size + 1,0,none⟩,5,none,0,_,rfl,by omega,Lib.hid ⟨⟨⟨by decide,sigs5_small.2⟩,by simp,fun f hf => by cases hf⟩,rfl⟩,y0',y1',yz',Lib.hid yA',Lib.hid hLo',Lib.hid (fun _ => ⟨_,_,_,rfl,.inl ⟨rfl,rfl⟩,by decide⟩),hC3,HC3⟩
 case round =>
  clear y0' y1' yz' yA' hLo' hC3 HC3
  obtain ⟨k,j,x,P,c,Q,d,st',rfl,hjk,HI,y0,y1,yz,HAS,HLO,HPU,hCr,HC⟩ := hrel
  have hC' := HC.out
  have hgr : g + 1 ≤ wr.heap.size := by have h1 := HC.out.size; rw [HSZ.out] at h1; exact h1
  have hcapQ : x.facts.length ≤ d ∧ d ≤ maxLen := by
   obtain ⟨_,_,_,_,hF⟩ := HLO.out.at_
   rename_i hv _
   simp only [Value.agg.injEq,Array.mk.injEq,List.cons.injEq,and_true] at hv
   obtain ⟨-,rfl⟩ := hv
   obtain ⟨_,_,hv2,h1,h2⟩ := hF.form
   injection hv2 with e1 _ e2
   subst e1 e2
   exact ⟨h1,h2⟩
  have hxl : x.facts.length ≤ 100 := Nat.le_trans HI.out.1.2.1 (by omega)
  unfold maxLen at hcapQ
  by_cases hlt : 0 < k
  · have e1 : decide ((0 : Int) < (k : Int)) = true := decide_eq_true (by omega)
    have hS : Holds [(⟨g,0,none⟩,.slice P x.rels.length c),(⟨g,1,none⟩,.slice Q x.facts.length d)] wr := by
     intro q hq
     simp only [List.mem_cons,List.not_mem_nil,or_false] at hq
     rcases hq with rfl | rfl
     · exact y0
     · exact y1
    have hSb : ∀ q ∈ [((⟨g,0,none⟩ : Addr),Value.slice P x.rels.length c),(⟨g,1,none⟩,.slice Q x.facts.length d)],q.1.block = g := by
     intro q hq
     simp only [List.mem_cons,List.not_mem_nil,or_false] at hq
     rcases hq with rfl | rfl <;> rfl
    have HSb := Lib.hid hSb
    clear hSb hC'
    have g0 := Keep.cell (h0 := hS) (a := ⟨g,0,none⟩) (v := .slice P x.rels.length c) (by simp)
    have g1 := Keep.cell (h0 := hS) (a := ⟨g,1,none⟩) (v := .slice Q x.facts.length d) (by simp)
    have j1 := hb st' 3
    have j2 := j1.2 (by omega)
    have j1 := j1.1
    go_wp2_with fail
    refine wp_region_planL (C := fun w' => ∃ u : Keep _ wr hS,w' = u.now) (.still 0 (.still 1 (.still 2 (.move true 3 (.still 4 (.still 5 (.move true 6 (.move true 7 (.move false 8 .done .none) .none) .none))) .none)))) (by kernel_rfl) (by kernel_rfl) (by kernel_rfl) (fun _ => ⟨⟨wr.drew,hS⟩,rfl⟩) ?_
    iterate 3
     refine plan_look _ rfl rfl ?_
     go_big_quiet_step (fail)
     refine wpQuiet_nil ?_
    refine plan_call _ 66 _ _ _ _ _ rfl _ Tryz.func66 (by kernel_rfl) (by kernel_rfl) ?_ True.intro
    refine (l1Below_r p cv code st' 3 _ (Cur.drewN hCr 1)).mono ?_
    rintro _ w4 ⟨rfl,hC4,hg4⟩
    generalize belowR code st' 3 = b at *
    obtain ⟨b1,st4⟩ := b
    dsimp only at *
    have hg4' : wr.grownBy w4 (some p) := ⟨hg4.os,hg4.tape,hg4.output,hg4.size,hg4.block⟩
    have hS4 := hS.grown hg4' (fun q hq => ⟨by rw [HSb.out q hq]; exact hgr,by rw [HSb.out q hq]; intro e; injection e; omega⟩)
    refine ⟨_,rfl,fun _ => ⟨⟨_,hS4⟩,rfl⟩,?_⟩
    refine plan_put ?_ (by simp only [Act.put,putA,putB,putC]; rfl)
    refine plan_look _ rfl rfl ?_
    go_big_quiet_step (fail)
    refine wpQuiet_nil ?_
    refine plan_look _ rfl rfl ?_
    go_big_quiet_step (fail)
    refine wpQuiet_nil ?_
    obtain ⟨r,hr⟩ := Int.eq_ofNat_of_zero_le (show (0 : Int) ≤ 2 + b1 by omega)
    rw [hr]
    have hr5 : r < 5 := by omega
    have HR := Lib.hid hr
    clear hr j1 j2
    refine plan_call _ 95 _ _ _ _ _ rfl _ Tryz.func95 (by kernel_rfl) (by kernel_rfl) ?_ True.intro
    refine (l4Fact_c p cv code _ r hr5 n h1 h2 w4 hC4).mono ?_
    rintro _ w5 ⟨V,vs,rfl,hO5,hl1,hl2,hvs,⟨st5,hC5⟩,hg5⟩
    have hg5' : wr.grownBy w5 (some p) := hg4'.trans hg5
    have hS5 := hS.grown hg5' (fun q hq => ⟨by rw [HSb.out q hq]; exact hgr,by rw [HSb.out q hq]; intro e; injection e; omega⟩)
    refine ⟨_,rfl,fun _ => ⟨⟨_,hS5⟩,rfl⟩,?_⟩
    refine plan_put ?_ (by simp only [Act.put,putA,putB,putC]; rfl)
    have hch5 : Chg (fun q => q = p) wr w5 := ⟨hg5'.os,hg5'.tape,hg5'.output,hg5'.size,fun k hk hn => hg5'.block k hk (by intro e; injection e with e; exact hn e)⟩
    have hFs : FctSmall ⟨r,vs⟩ := ⟨⟨by show (-1 : Int) ≤ (r : Nat); omega,by show ((r : Nat) : Int) ≤ 5; omega⟩,by show vs.length ≤ 3; omega,fun z hz => by have := hvs z hz; omega⟩
    have HFS := Lib.hid hFs
    have hlo5 := HLO.out.chg hch5 (fun k hk => by subst hk; omega)
    refine plan_call _ 94 _ _ _ _ _ rfl _ Tryz.func94 (by kernel_rfl) (by kernel_rfl) ?_ True.intro
    refine (specL5Put_z (w.heap.size + 1) _ (.agg #[.int .i64 r,V]) x ⟨r,vs⟩ w5 (by have := hg5'.size; omega) hlo5 HPU.out (by omega) ⟨V,rfl,hO5.at_⟩ (by show vs.length ≤ _; omega)).mono ?_
    rintro _ w6 ⟨r6,rfl,hr6,hb6⟩
    obtain ⟨P6,c6,Q6,d6,rfl⟩ := Instance_form hr6.at_
    have hg5z := hg5'.size
    have z0 := (hb6.cell (p := ⟨g,0,none⟩) (by show g < _; omega)).trans (grown_cell hg5' y0 (by omega))
    have z1 := (hb6.cell (p := ⟨g,1,none⟩) (by show g < _; omega)).trans (grown_cell hg5' y1 (by omega))
    have zz := fun o => (hb6.frozen (p := ⟨g,o,none⟩) (by show g < _; omega)).trans (grown_frozen hg5' hgr (by omega) (yz o))
    have zA : AllSl w6 g := (HAS.out.cells fun o => hch5.cell (b := g) (o := o) hgr (by omega)).cells fun o => hb6.cell (p := ⟨g,o,none⟩) (by show g < _; omega)
    have hst := (hr6.off zA 0 (.slice P6 x.rels.length c6)).off (zA.set 0 P6 x.rels.length c6 _ z0) 1 (.slice Q6 (putF x.facts ⟨r,vs⟩).length d6)
    have HST := Lib.hid hst
    have HZA := Lib.hid ((zA.set 0 P6 x.rels.length c6 _ z0).set 1 Q6 (putF x.facts ⟨r,vs⟩).length d6 (.slice Q x.facts.length d) (by simp [go_sem,z1]))
    have HC5 := Lib.hid hC5
    have HB6 := Lib.hid hb6
    have HCH5 := Lib.hid hch5
    have hS6 := hS5.below hb6 (fun q hq => by rw [HSb.out q hq]; omega)
    refine ⟨_,rfl,fun _ => ⟨⟨_,hS6⟩,rfl⟩,?_⟩
    clear hst zA hr6 hb6 hch5 hlo5 hC5 hC4 hO5 g0 g1 y0 y1 yz hg4 hg4' hg5 hg5' hvs hFs
    refine plan_put ?_ (by simp only [Act.put,putA,putB,putC]; rfl)
    refine plan_skip (w' := (w6.setCell ⟨g,0,none⟩ (.slice P6 x.rels.length c6)).setCell ⟨g,1,none⟩ (.slice Q6 (putF x.facts ⟨r,vs⟩).length d6)) _ rfl rfl rfl (by simp [go_sem,z0,z1,zz]) (fun e => by cases e) ?_ True.intro
    refine plan_put ?_ (by simp only [Act.put]; rfl)
    refine plan_done ?_
    go_wp2
    go_roundw
    case measure => simp [intOf]; omega
    case rel =>
     have hbf : Below w.heap.size w5 ((w6.setCell ⟨g,0,none⟩ (.slice P6 x.rels.length c6)).setCell ⟨g,1,none⟩ (.slice Q6 (putF x.facts ⟨r,vs⟩).length d6)) := ((HB6.out.mono (by have := HGW.out; omega)).setCell (p := ⟨g,0,none⟩) (by show w.heap.size ≤ g; omega) _).setCell (p := ⟨g,1,none⟩) (by show w.heap.size ≤ g; omega) _
     refine ⟨k - 1,j + 1,⟨x.rels,putF x.facts ⟨r,vs⟩⟩,P6,c6,Q6,d6,st5,by go_num,by omega,Lib.hid ⟨HI.out.1.put HFS.out,HI.out.2⟩,by simp [go_sem,z0],by simp [go_sem,z1],fun o => by simp [zz],HZA,Lib.hid (HST.out.more (by simp [World.setCell])),Lib.hid (Putable.pos (putF_pos1 _ _)),Cur.below hC HC5.out hbf,Lib.hid ((((HC.out.trans (HCH5.out.mono fun k hk => .inl hk)).then_below (HB6.out.mono (by rw [HSZ.out]; omega))).setCell (p := ⟨g,0,none⟩) (.inr rfl) _).setCell (p := ⟨g,1,none⟩) (.inr rfl) _)⟩
  · have e1 : decide ((0 : Int) < (k : Int)) = false := decide_eq_false (by omega)
    obtain ⟨hIs,hIr⟩ := HI.out
    have hcp := specL5Copy_any _ x wr HLO.out.at_ (by have := hIs.sz (by omega); omega)
    have m0 : wr.cell? ⟨w.heap.size,0,none⟩ = some (.slice none 0 0) := (hC'.cell (show w.heap.size < _ by rw [HSZ.out]; omega) (by omega)).trans B0.out
    have m1 : wr.cell? ⟨w.heap.size,1,none⟩ = some (.slice none 0 0) := (hC'.cell (show w.heap.size < _ by rw [HSZ.out]; omega) (by omega)).trans B1.out
    have mz : ∀ o,wr.frozen? ⟨w.heap.size,o,none⟩ = false := fun o => (hC'.frozen (show w.heap.size < _ by rw [HSZ.out]; omega) (by omega)).trans (BZ.out o)
    have HG : Hid (w.grownBy wr (some p)) := by
     have h1 := HW.out
     refine ⟨hC'.os.trans h1.os,hC'.tape.trans h1.tape,hC'.output.trans h1.output,Nat.le_trans h1.size hC'.size,fun k hk hne => (hC'.block k (Nat.lt_of_lt_of_le hk h1.size) ?_).trans (h1.block k hk)⟩
     have := HGW.out
     have h3 : k ≠ p := fun e => hne (by rw [e])
     omega
    have HIS := Lib.hid hIs
    have HIR := Lib.hid hIr
    clear hC' hIs hIr
    go_wp2_with fail
    refine hcp.mono ?_
    rintro e w6 ⟨r6,rfl,hO6,hb6⟩
    obtain ⟨P6,c6,Q6,d6,rfl⟩ := Instance_form (hO6.at_ (Nat.le_refl _))
    have hz6 := hb6.size
    have r0 := (hb6.cell (p := ⟨w.heap.size,0,none⟩) (by show w.heap.size < _; omega)).trans m0
    have r1 := (hb6.cell (p := ⟨w.heap.size,1,none⟩) (by show w.heap.size < _; omega)).trans m1
    have rz := fun o => (hb6.frozen (p := ⟨w.heap.size,o,none⟩) (by show w.heap.size < _; omega)).trans (mz o)
    have HO6 := Lib.hid hO6
    have HB6 := Lib.hid (hb6.mono (show w.heap.size ≤ wr.heap.size by omega))
    have HZ6 := Lib.hid hz6
    clear hO6 hb6 hcp m0 m1 mz y0 y1 yz
    go_wp2
    have hbw : ∀ u1 u2,Below w.heap.size wr ((w6.setCell ⟨w.heap.size,0,none⟩ u1).setCell ⟨w.heap.size,1,none⟩ u2) := fun u1 u2 => (HB6.out.setCell (p := ⟨w.heap.size,0,none⟩) (Nat.le_refl _) _).setCell (p := ⟨w.heap.size,1,none⟩) (Nat.le_refl _) _
    have hcw : ∀ u1 u2,Chg (Mid w.heap.size (w.heap.size + 1)) w6 ((w6.setCell ⟨w.heap.size,0,none⟩ u1).setCell ⟨w.heap.size,1,none⟩ u2) := fun u1 u2 => ((Chg.refl _ _).setCell (p := ⟨w.heap.size,0,none⟩) ⟨Nat.le_refl _,Nat.lt_succ_self _⟩ _).setCell (p := ⟨w.heap.size,1,none⟩) ⟨Nat.le_refl _,Nat.lt_succ_self _⟩ _
    refine bodyPost_ret (v := .agg #[.slice P6 x.rels.length c6,.slice Q6 x.facts.length d6]) (by simp [results,Tryz.results114,go_sem,r0,r1]) rfl ⟨_,x,rfl,?_,HIS.out.more (by omega),HIR.out,⟨_,Cur.below hC hCr (hbw _ _)⟩,grown_of_below HG.out (hbw _ _)⟩
    exact (HO6.out.chg (hcw _ _) (.inr (by omega))).mono (by omega) (by simp [World.setCell])
set_option maxHeartbeats 6400000 in
set_option maxRecDepth 100000 in
theorem l5Source_c (p : Nat) (cv : Value) (code : List UInt8) (st : DrawSt) (m : Nat) (hm : m ≤ 100) (w : World) (hC : CurS w p cv code st) :
 Calls Tryz.prog 47 #[.pointer (some ⟨p,0,none⟩),.int .i64 m] w fun e w' => ∃ V x,e = .returned V ∧ Instance_own w.heap.size w'.heap.size V x w' ∧ InstSmall m x ∧ x.rels = sigs5 ∧ (∃ st',CurS w' p cv code st') ∧ w.grownBy w' (some p) := by
 have hp := Cur.lt hC
 have hb := belowR_bd code
 go_enter Tryz.func47,Tryz.ntmps47
 go_wp2_with fail
 refine (l3Sigs_c _).mono ?_; rintro e w2 ⟨rfl,hw2⟩
 have hO2 := sigs5_own (w.alloc (.cells #[.slice none 0 0,.slice none 0 0] 27))
 rw [← hw2] at hO2
 go_wp2_with fail
 have hG : (w.alloc (.cells #[.slice none 0 0,.slice none 0 0] 27)).heap.size = w.heap.size + 1 := by simp
 rw [hG] at hO2
 have b0 : w2.cell? ⟨w.heap.size,0,none⟩ = some (.slice none 0 0) := by rw [hw2]; simp [go_sem]
 have b1 : w2.cell? ⟨w.heap.size,1,none⟩ = some (.slice none 0 0) := by rw [hw2]; simp [go_sem]
 have bz : ∀ o,w2.frozen? ⟨w.heap.size,o,none⟩ = false := by intro o; rw [hw2]; simp [go_sem]
 have hz2 : w2.heap.size = w.heap.size + 2 := by rw [hw2]; simp
 have hC2 : CurS w2 p cv code st := by rw [hw2]; exact Cur.alloc (Cur.alloc hC _) _
 have hB2 : Below w.heap.size w w2 := by rw [hw2]; exact below_more (below_more (Below.refl _ _) _) _
 clear hG
 rw [← hw2]
 clear hw2
 obtain ⟨g,hg⟩ : ∃ g,g = w2.heap.size := ⟨_,rfl⟩
 have y0 : (w2.alloc (.cells #[.slice (some ⟨w.heap.size + 1,0,none⟩) 5 5,.slice none 0 0] 27)).cell? ⟨g,0,none⟩ = some (.slice (some ⟨w.heap.size + 1,0,none⟩) 5 5) := by rw [hg]; simp [go_sem]
 have y1 : (w2.alloc (.cells #[.slice (some ⟨w.heap.size + 1,0,none⟩) 5 5,.slice none 0 0] 27)).cell? ⟨g,1,none⟩ = some (.slice none 0 0) := by rw [hg]; simp [go_sem]
 have yz : ∀ o,(w2.alloc (.cells #[.slice (some ⟨w.heap.size + 1,0,none⟩) 5 5,.slice none 0 0] 27)).frozen? ⟨g,o,none⟩ = false := by intro o; rw [hg]; simp [go_sem]
 have yA : AllSl (w2.alloc (.cells #[.slice (some ⟨w.heap.size + 1,0,none⟩) 5 5,.slice none 0 0] 27)) g := by
  intro o u hu
  rw [hg,box_cell] at hu
  match o,hu with
  | 0,hu => simp at hu; subst hu; exact ⟨_,_,_,rfl⟩
  | 1,hu => simp at hu; subst hu; exact ⟨_,_,_,rfl⟩
  | o + 2,hu => simp at hu
 have hsz : (w2.alloc (.cells #[.slice (some ⟨w.heap.size + 1,0,none⟩) 5 5,.slice none 0 0] 27)).heap.size = g + 1 := by rw [hg]; simp
 have hAl : Below g w2 (w2.alloc (.cells #[.slice (some ⟨w.heap.size + 1,0,none⟩) 5 5,.slice none 0 0] 27)) := (Below.refl _ _).alloc (by omega) _
 have hCW : CurS (w2.alloc (.cells #[.slice (some ⟨w.heap.size + 1,0,none⟩) 5 5,.slice none 0 0] 27)) p cv code st := Cur.alloc hC2 _
 have hgw : g = w.heap.size + 2 := hg.trans hz2
 rw [show w.heap.size + 1 + 1 = g from hgw.symm]
 generalize w2.alloc (.cells #[.slice (some ⟨w.heap.size + 1,0,none⟩) 5 5,.slice none 0 0] 27) = W at y0 y1 yz yA hsz hAl hCW ⊢
 have hOW := hO2.below hAl (by omega)
 have hLo : Instance_lo (w.heap.size + 1) W W.heap.size (.agg #[.slice (some ⟨w.heap.size + 1,0,none⟩) 5 5,.slice none 0 0]) ⟨sigs5,[]⟩ :=
  ⟨_,_,[],rfl,hOW.at_,lowB.row hOW (Nat.le_refl _),lowB.none _ _ _,rfl,⟨none,0,rfl,Nat.le_refl _,by decide,fun h => absurd h (by simp [pairs]),fun _ => rfl⟩,fun i h => by simp at h,fun V hV => by cases hV⟩
 have B0 := Lib.hid ((hAl.cell (p := ⟨w.heap.size,0,none⟩) (by show w.heap.size < g; omega)).trans b0)
 have B1 := Lib.hid ((hAl.cell (p := ⟨w.heap.size,1,none⟩) (by show w.heap.size < g; omega)).trans b1)
 have BZ := Lib.hid (fun o => (hAl.frozen (p := ⟨w.heap.size,o,none⟩) (by show w.heap.size < g; omega)).trans (bz o))
 have HW := Lib.hid (hB2.trans (hAl.mono (by omega)))
 have HSZ := Lib.hid hsz
 have HGW := Lib.hid hgw
 have hpg : p < g ∧ w.heap.size + 1 < g := by omega
 clear b0 b1 bz hz2 hC2 hB2 hg hAl hsz hgw hO2 hOW
 have j1 := hb st (m + 1)
 have j2 := j1.2 (by omega)
 have j1 := j1.1
 refine (l1Below_r p cv code _ _ _ hCW).mono ?_; rintro e w3 ⟨rfl,hC3,hg3⟩
 generalize belowR code st (m + 1) = bk at *
 obtain ⟨k0,hk0⟩ := Int.eq_ofNat_of_zero_le j1
 rw [hk0]
 have hk0m : k0 ≤ m := by omega
 have HK0 := Lib.hid hk0
 have hch3 : Chg (fun q => q = p) W w3 := ⟨hg3.os,hg3.tape,hg3.output,hg3.size,fun k hk hn => hg3.block k hk (by intro e; injection e with e; exact hn e)⟩
 have y0' := grown_cell hg3 y0 (by omega)
 have y1' := grown_cell hg3 y1 (by omega)
 have yz' := fun o => grown_frozen hg3 (b := g) (o := o) (by rw [HSZ.out]; omega) (by omega) (yz o)
 have yA' : AllSl w3 g := yA.cells fun o => hch3.cell (by rw [HSZ.out]; omega) (by omega)
 have hLo' := hLo.chg hch3 (fun k hk => by subst hk; omega)
 have HC3 := Lib.hid (hch3.mono (T := fun q => q = p ∨ q = g) (fun k hk => .inl hk))
 clear y0 y1 yz yA hLo hk0 j1 j2 hCW hg3 hch3
 go_wp2
 go_loopw [6] (fun i wr => ∃ (k j : Nat) (x : Inst) (P : Option Addr) (c : Nat) (Q : Option Addr) (d : Nat) (st' : DrawSt),i = .int .i64 (k : Nat) ∧ j + k ≤ m ∧ Hid (InstSmall j x ∧ x.rels = sigs5) ∧ wr.cell? ⟨g,0,none⟩ = some (.slice P x.rels.length c) ∧ wr.cell? ⟨g,1,none⟩ = some (.slice Q x.facts.length d) ∧ (∀ o,wr.frozen? ⟨g,o,none⟩ = false) ∧ Hid (AllSl wr g) ∧ Hid (Instance_lo (w.heap.size + 1) wr wr.heap.size (.agg #[.slice P x.rels.length c,.slice Q x.facts.length d]) x) ∧ Hid (Putable (.agg #[.slice P x.rels.length c,.slice Q x.facts.length d]) x) ∧ CurS wr p cv code st' ∧ Hid (Chg (fun q => q = p ∨ q = g) W wr)) (fun i _ => (intOf i).toNat)
 case atStart => exact ⟨k0,0,⟨sigs5,[]⟩,some ⟨w.heap.size + 1,0,none⟩,5,none,0,_,rfl,by omega,Lib.hid ⟨⟨⟨by decide,sigs5_small.2⟩,by simp,fun f hf => by cases hf⟩,rfl⟩,y0',y1',yz',Lib.hid yA',Lib.hid hLo',Lib.hid (fun _ => ⟨_,_,_,rfl,.inl ⟨rfl,rfl⟩,by decide⟩),hC3,HC3⟩
 case round =>
  clear y0' y1' yz' yA' hLo' hC3 HC3
  obtain ⟨k,j,x,P,c,Q,d,st',rfl,hjk,HI,y0,y1,yz,HAS,HLO,HPU,hCr,HC⟩ := hrel
  have hC' := HC.out
  have hgr : g + 1 ≤ wr.heap.size := by have h1 := HC.out.size; rw [HSZ.out] at h1; exact h1
  have hcapQ : x.facts.length ≤ d ∧ d ≤ maxLen := by
   obtain ⟨_,_,_,_,hF⟩ := HLO.out.at_
   rename_i hv _
   simp only [Value.agg.injEq,Array.mk.injEq,List.cons.injEq,and_true] at hv
   obtain ⟨-,rfl⟩ := hv
   obtain ⟨_,_,hv2,h1,h2⟩ := hF.form
   injection hv2 with e1 _ e2
   subst e1 e2
   exact ⟨h1,h2⟩
  have hxl : x.facts.length ≤ 100 := Nat.le_trans HI.out.1.2.1 (by omega)
  unfold maxLen at hcapQ
  by_cases hlt : 0 < k
  · have e1 : decide ((0 : Int) < (k : Int)) = true := decide_eq_true (by omega)
    have hS : Holds [(⟨g,0,none⟩,.slice P x.rels.length c),(⟨g,1,none⟩,.slice Q x.facts.length d)] wr := by
     intro q hq
     simp only [List.mem_cons,List.not_mem_nil,or_false] at hq
     rcases hq with rfl | rfl
     · exact y0
     · exact y1
    have hSb : ∀ q ∈ [((⟨g,0,none⟩ : Addr),Value.slice P x.rels.length c),(⟨g,1,none⟩,.slice Q x.facts.length d)],q.1.block = g := by
     intro q hq
     simp only [List.mem_cons,List.not_mem_nil,or_false] at hq
     rcases hq with rfl | rfl <;> rfl
    have HSb := Lib.hid hSb
    clear hSb hC'
    have g0 := Keep.cell (h0 := hS) (a := ⟨g,0,none⟩) (v := .slice P x.rels.length c) (by simp)
    have g1 := Keep.cell (h0 := hS) (a := ⟨g,1,none⟩) (v := .slice Q x.facts.length d) (by simp)
    have j1 := hb st' 2
    have j2 := j1.2 (by omega)
    have j1 := j1.1
    go_wp2_with fail
    refine wp_region_planL (C := fun w' => ∃ u : Keep _ wr hS,w' = u.now) (.still 0 (.still 1 (.still 2 (.move true 3 (.move true 4 (.move true 5 (.move false 6 .done .none) .none) .none) .none)))) (by kernel_rfl) (by kernel_rfl) (by kernel_rfl) (fun _ => ⟨⟨wr.drew,hS⟩,rfl⟩) ?_
    iterate 3
     refine plan_look _ rfl rfl ?_
     go_big_quiet_step (fail)
     refine wpQuiet_nil ?_
    refine plan_call _ 66 _ _ _ _ _ rfl _ Tryz.func66 (by kernel_rfl) (by kernel_rfl) ?_ True.intro
    refine (l1Below_r p cv code st' 2 _ (Cur.drewN hCr 1)).mono ?_
    rintro _ w4 ⟨rfl,hC4,hg4⟩
    generalize belowR code st' 2 = b at *
    obtain ⟨b1,st4⟩ := b
    dsimp only at *
    have hg4' : wr.grownBy w4 (some p) := ⟨hg4.os,hg4.tape,hg4.output,hg4.size,hg4.block⟩
    have hS4 := hS.grown hg4' (fun q hq => ⟨by rw [HSb.out q hq]; exact hgr,by rw [HSb.out q hq]; intro e; injection e; omega⟩)
    refine ⟨_,rfl,fun _ => ⟨⟨_,hS4⟩,rfl⟩,?_⟩
    refine plan_put ?_ (by simp only [Act.put,putA,putB,putC]; rfl)
    obtain ⟨r,hr⟩ := Int.eq_ofNat_of_zero_le (show (0 : Int) ≤ b1 by omega)
    rw [hr]
    have hr5 : r < 5 := by omega
    have HR := Lib.hid hr
    clear hr j1 j2
    refine plan_call _ 95 _ _ _ _ _ rfl _ Tryz.func95 (by kernel_rfl) (by kernel_rfl) ?_ True.intro
    refine (l4Fact_c p cv code _ r hr5 0 (by decide) (by decide) w4 hC4).mono ?_
    rintro _ w5 ⟨V,vs,rfl,hO5,hl1,hl2,hvs,⟨st5,hC5⟩,hg5⟩
    have hg5' : wr.grownBy w5 (some p) := hg4'.trans hg5
    have hS5 := hS.grown hg5' (fun q hq => ⟨by rw [HSb.out q hq]; exact hgr,by rw [HSb.out q hq]; intro e; injection e; omega⟩)
    refine ⟨_,rfl,fun _ => ⟨⟨_,hS5⟩,rfl⟩,?_⟩
    refine plan_put ?_ (by simp only [Act.put,putA,putB,putC]; rfl)
    have hch5 : Chg (fun q => q = p) wr w5 := ⟨hg5'.os,hg5'.tape,hg5'.output,hg5'.size,fun k hk hn => hg5'.block k hk (by intro e; injection e with e; exact hn e)⟩
    have hFs : FctSmall ⟨r,vs⟩ := ⟨⟨by show (-1 : Int) ≤ (r : Nat); omega,by show ((r : Nat) : Int) ≤ 5; omega⟩,by show vs.length ≤ 3; omega,fun z hz => by have := hvs z hz; omega⟩
    have HFS := Lib.hid hFs
    have hlo5 := HLO.out.chg hch5 (fun k hk => by subst hk; omega)
    refine plan_call _ 94 _ _ _ _ _ rfl _ Tryz.func94 (by kernel_rfl) (by kernel_rfl) ?_ True.intro
    refine (specL5Put_z (w.heap.size + 1) _ (.agg #[.int .i64 r,V]) x ⟨r,vs⟩ w5 (by have := hg5'.size; omega) hlo5 HPU.out (by omega) ⟨V,rfl,hO5.at_⟩ (by show vs.length ≤ _; omega)).mono ?_
    rintro _ w6 ⟨r6,rfl,hr6,hb6⟩
    obtain ⟨P6,c6,Q6,d6,rfl⟩ := Instance_form hr6.at_
    have hg5z := hg5'.size
    have z0 := (hb6.cell (p := ⟨g,0,none⟩) (by show g < _; omega)).trans (grown_cell hg5' y0 (by omega))
    have z1 := (hb6.cell (p := ⟨g,1,none⟩) (by show g < _; omega)).trans (grown_cell hg5' y1 (by omega))
    have zz := fun o => (hb6.frozen (p := ⟨g,o,none⟩) (by show g < _; omega)).trans (grown_frozen hg5' hgr (by omega) (yz o))
    have zA : AllSl w6 g := (HAS.out.cells fun o => hch5.cell (b := g) (o := o) hgr (by omega)).cells fun o => hb6.cell (p := ⟨g,o,none⟩) (by show g < _; omega)
    have hst := (hr6.off zA 0 (.slice P6 x.rels.length c6)).off (zA.set 0 P6 x.rels.length c6 _ z0) 1 (.slice Q6 (putF x.facts ⟨r,vs⟩).length d6)
    have HST := Lib.hid hst
    have HZA := Lib.hid ((zA.set 0 P6 x.rels.length c6 _ z0).set 1 Q6 (putF x.facts ⟨r,vs⟩).length d6 (.slice Q x.facts.length d) (by simp [go_sem,z1]))
    have HC5 := Lib.hid hC5
    have HB6 := Lib.hid hb6
    have HCH5 := Lib.hid hch5
    have hS6 := hS5.below hb6 (fun q hq => by rw [HSb.out q hq]; omega)
    refine ⟨_,rfl,fun _ => ⟨⟨_,hS6⟩,rfl⟩,?_⟩
    clear hst zA hr6 hb6 hch5 hlo5 hC5 hC4 hO5 g0 g1 y0 y1 yz hg4 hg4' hg5 hg5' hvs hFs
    refine plan_put ?_ (by simp only [Act.put,putA,putB,putC]; rfl)
    refine plan_skip (w' := (w6.setCell ⟨g,0,none⟩ (.slice P6 x.rels.length c6)).setCell ⟨g,1,none⟩ (.slice Q6 (putF x.facts ⟨r,vs⟩).length d6)) _ rfl rfl rfl (by simp [go_sem,z0,z1,zz]) (fun e => by cases e) ?_ True.intro
    refine plan_put ?_ (by simp only [Act.put]; rfl)
    refine plan_done ?_
    go_wp2
    go_roundw
    case measure => simp [intOf]; omega
    case rel =>
     have hbf : Below w.heap.size w5 ((w6.setCell ⟨g,0,none⟩ (.slice P6 x.rels.length c6)).setCell ⟨g,1,none⟩ (.slice Q6 (putF x.facts ⟨r,vs⟩).length d6)) := ((HB6.out.mono (by have := HGW.out; omega)).setCell (p := ⟨g,0,none⟩) (by show w.heap.size ≤ g; omega) _).setCell (p := ⟨g,1,none⟩) (by show w.heap.size ≤ g; omega) _
     refine ⟨k - 1,j + 1,⟨x.rels,putF x.facts ⟨r,vs⟩⟩,P6,c6,Q6,d6,st5,by go_num,by omega,Lib.hid ⟨HI.out.1.put HFS.out,HI.out.2⟩,by simp [go_sem,z0],by simp [go_sem,z1],fun o => by simp [zz],HZA,Lib.hid (HST.out.more (by simp [World.setCell])),Lib.hid (Putable.pos (putF_pos1 _ _)),Cur.below hC HC5.out hbf,Lib.hid ((((HC.out.trans (HCH5.out.mono fun k hk => .inl hk)).then_below (HB6.out.mono (by rw [HSZ.out]; omega))).setCell (p := ⟨g,0,none⟩) (.inr rfl) _).setCell (p := ⟨g,1,none⟩) (.inr rfl) _)⟩
  · have e1 : decide ((0 : Int) < (k : Int)) = false := decide_eq_false (by omega)
    obtain ⟨hIs,hIr⟩ := HI.out
    have hcp := specL5Copy_any _ x wr HLO.out.at_ (by have := hIs.sz (by omega); omega)
    have m0 : wr.cell? ⟨w.heap.size,0,none⟩ = some (.slice none 0 0) := (hC'.cell (show w.heap.size < _ by rw [HSZ.out]; omega) (by omega)).trans B0.out
    have m1 : wr.cell? ⟨w.heap.size,1,none⟩ = some (.slice none 0 0) := (hC'.cell (show w.heap.size < _ by rw [HSZ.out]; omega) (by omega)).trans B1.out
    have mz : ∀ o,wr.frozen? ⟨w.heap.size,o,none⟩ = false := fun o => (hC'.frozen (show w.heap.size < _ by rw [HSZ.out]; omega) (by omega)).trans (BZ.out o)
    have HG : Hid (w.grownBy wr (some p)) := by
     have h1 := HW.out
     refine ⟨hC'.os.trans h1.os,hC'.tape.trans h1.tape,hC'.output.trans h1.output,Nat.le_trans h1.size hC'.size,fun k hk hne => (hC'.block k (Nat.lt_of_lt_of_le hk h1.size) ?_).trans (h1.block k hk)⟩
     have := HGW.out
     have h3 : k ≠ p := fun e => hne (by rw [e])
     omega
    have HIS := Lib.hid hIs
    have HIR := Lib.hid hIr
    clear hC' hIs hIr
    go_wp2_with fail
    refine hcp.mono ?_
    rintro e w6 ⟨r6,rfl,hO6,hb6⟩
    obtain ⟨P6,c6,Q6,d6,rfl⟩ := Instance_form (hO6.at_ (Nat.le_refl _))
    have hz6 := hb6.size
    have r0 := (hb6.cell (p := ⟨w.heap.size,0,none⟩) (by show w.heap.size < _; omega)).trans m0
    have r1 := (hb6.cell (p := ⟨w.heap.size,1,none⟩) (by show w.heap.size < _; omega)).trans m1
    have rz := fun o => (hb6.frozen (p := ⟨w.heap.size,o,none⟩) (by show w.heap.size < _; omega)).trans (mz o)
    have HO6 := Lib.hid hO6
    have HB6 := Lib.hid (hb6.mono (show w.heap.size ≤ wr.heap.size by omega))
    have HZ6 := Lib.hid hz6
    clear hO6 hb6 hcp m0 m1 mz y0 y1 yz
    go_wp2
    have hbw : ∀ u1 u2,Below w.heap.size wr ((w6.setCell ⟨w.heap.size,0,none⟩ u1).setCell ⟨w.heap.size,1,none⟩ u2) := fun u1 u2 => (HB6.out.setCell (p := ⟨w.heap.size,0,none⟩) (Nat.le_refl _) _).setCell (p := ⟨w.heap.size,1,none⟩) (Nat.le_refl _) _
    have hcw : ∀ u1 u2,Chg (Mid w.heap.size (w.heap.size + 1)) w6 ((w6.setCell ⟨w.heap.size,0,none⟩ u1).setCell ⟨w.heap.size,1,none⟩ u2) := fun u1 u2 => ((Chg.refl _ _).setCell (p := ⟨w.heap.size,0,none⟩) ⟨Nat.le_refl _,Nat.lt_succ_self _⟩ _).setCell (p := ⟨w.heap.size,1,none⟩) ⟨Nat.le_refl _,Nat.lt_succ_self _⟩ _
    refine bodyPost_ret (v := .agg #[.slice P6 x.rels.length c6,.slice Q6 x.facts.length d6]) (by simp [results,Tryz.results47,go_sem,r0,r1]) rfl ⟨_,x,rfl,?_,HIS.out.more (by omega),HIR.out,⟨_,Cur.below hC hCr (hbw _ _)⟩,grown_of_below HG.out (hbw _ _)⟩
    exact (HO6.out.chg (hcw _ _) (.inr (by omega))).mono (by omega) (by simp [World.setCell])
end Go.Proofs.YtobdijcnfmgidaaGreat
