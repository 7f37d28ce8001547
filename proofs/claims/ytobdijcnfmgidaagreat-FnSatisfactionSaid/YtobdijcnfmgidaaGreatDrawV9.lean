/- Walks and plain lemmas for the laws of this seat. -/
import Derived.Deep.Quiet
import Derived.Test.YtobdijcnfmgidaaGreatBase
import Derived.Test.YtobdijcnfmgidaaGreatDraw
import Derived.Test.YtobdijcnfmgidaaGreatPlan
import Derived.Test.YtobdijcnfmgidaaGreatTyDepS
import Derived.Test.YtobdijcnfmgidaaGreatParInI
import Derived.Test.YtobdijcnfmgidaaGreatMInst
import Derived.Test.YtobdijcnfmgidaaGreatDrawI
import Derived.Test.YtobdijcnfmgidaaGreatDrawJ
import Derived.Test.YtobdijcnfmgidaaGreatDrawK
import Derived.Test.YtobdijcnfmgidaaGreatDrawY9
namespace Go.Proofs.YtobdijcnfmgidaaGreat
open Go.RowKit
theorem DepSmall.mono {n k : Nat} {x : Dep} (h : DepSmall n x) (hk : n ≤ k) : DepSmall k x := ⟨h.1, ⟨Nat.le_trans h.2.1.1 hk, h.2.1.2⟩, h.2.2⟩
theorem dep9_vals {B C : Nat} {X : DepX} {x : Dep} {w : World} (h : DepOwn B C X x w) : ∃ Y1 y1 Y2 y2, X.1.1 = .slice Y1 x.body.length y1 ∧ X.2.1 = .slice Y2 x.head.length y2 := by
 obtain ⟨Y1,y1,h1,-,-⟩ := (h.1.at_ (Nat.le_refl _)).form
 obtain ⟨Y2,y2,h2,-,-⟩ := (h.2.1.at_ (Nat.le_refl _)).form
 exact ⟨Y1,y1,Y2,y2,h1,h2⟩
theorem dep9_one {Y1 Y2 : Option Addr} {n m y1 y2 : Nat} {q : Bool} {l r : Int} : ∀ u ∈ dCells ⟨.slice Y1 n y1, .slice Y2 m y2, q, l, r⟩, u.oneCell' = true := by
 intro u hu
 simp [dCells] at hu
 rcases hu with rfl | rfl | rfl | rfl | rfl <;> rfl
set_option maxHeartbeats 3200000 in
set_option maxRecDepth 100000 in
theorem l9Rules_c (p : Nat) (cv : Value) (code : List UInt8) (st : DrawSt) (w : World) (hC : CurS w p cv code st) :
 Calls Tryz.prog 65 #[.pointer (some ⟨p,0,none⟩)] w fun e w' => ∃ u Xs xs,e = .returned u ∧ DependencySO 42 w.heap.size w'.heap.size u Xs xs w' ∧ xs.length ≤ 4 ∧ (∀ x ∈ xs,DepSmall 3 x) ∧ (∃ st',CurS w' p cv code st') ∧ w.grownBy w' (some p) := by
 have hp := Cur.lt hC
 have hCE : CurS (w.alloc (.cells #[] 42)) p cv code st := Cur.alloc hC _
 have hO0 := DependencySO.empty 42 w
 have hGE : w.grownBy (w.alloc (.cells #[] 42)) (some p) := World.grownBy_alloc w _ (some p)
 have hcon := l1Below_r p cv code st 4 _ hCE
 have hbd := belowR_bd code st 4
 go_enter Tryz.func65,Tryz.ntmps65
 go_wp2_with fail
 refine hcon.mono ?_
 rintro e w1 ⟨rfl,hC1,hg1⟩
 generalize belowR code st 4 = bb at *
 obtain ⟨nn,st1⟩ := bb
 dsimp only at *
 obtain ⟨n0,hn0⟩ : ∃ n0 : Nat,1 + nn = (n0 : Int) := ⟨(1 + nn).toNat,by have := hbd.1; omega⟩
 have hnn1 := hbd.1
 have hnn2 := hbd.2 (by omega)
 have hn4 : n0 ≤ 4 := by omega
 have hz1 := hg1.size
 have HG1 := Lib.hid (hGE.trans hg1)
 have HO1 := Lib.hid ((hO0.chg (chg_of_grown hg1) (.inr (by omega))).mono (Nat.le_refl _) (show w.heap.size + 1 ≤ w1.heap.size by simpa using hz1))
 clear hcon hbd hO0 hGE hCE hg1
 go_wp2_with fail
 clear hn0 hnn1 hnn2 hz1
 go_loopw [3,4] (fun o i wr => ∃ (m : Nat) (Xs : List DepX) (xs : List Dep) (st' : DrawSt),i = .int .i64 (m : Int) ∧ xs.length + m ≤ 4 ∧ Hid (DependencySO 42 w.heap.size wr.heap.size o Xs xs wr) ∧ Hid (∀ x ∈ xs,DepSmall 3 x) ∧ CurS wr p cv code st' ∧ Hid (w.grownBy wr (some p))) (fun _ i _ => (intOf i).toNat)
 case atStart => exact ⟨n0,[],[],st1,rfl,by simp; omega,HO1,Lib.hid (fun x hx => absurd hx (by simp)),hC1,HG1⟩
 case round =>
  clear hC1 HO1 HG1
  obtain ⟨m,Xs,xs,st',rfl,hm4,HO,HS,hCr,HG⟩ := hrel
  obtain ⟨oP,oc,rfl,-,-⟩ := (HO.out.at_ (Nat.le_refl _)).form
  have hzr := HG.out.size
  by_cases hlt : 0 < m
  · have e1 : decide ((0 : Int) < (m : Int)) = true := decide_eq_true (by omega)
    have e2 : decide (0 < m) = true := decide_eq_true hlt
    go_wp2_with fail
    refine (l9Rule_c p cv code st' wr hCr).mono ?_
    rintro e w2 ⟨X,x,rfl,hX,hs,⟨st2,hC2⟩,hg2⟩
    obtain ⟨Y1,y1,Y2,y2,hY1,hY2⟩ := dep9_vals hX
    unfold DVal9
    rw [hY1,hY2]
    have hz2 := hg2.size
    have HX := Lib.hid hX
    have HY := Lib.hid (And.intro hY1 hY2)
    have HO2 := Lib.hid ((HO.out.chg (chg_of_grown hg2) (.inr (by omega))).mono (Nat.le_refl _) hz2)
    have HG2 := Lib.hid (HG.out.trans hg2)
    have hdl := dZip_len (l := xs) (Ps := Xs.map DepX.vals) (by rw [List.length_map,HO2.out.len])
    have hbd1 : ((dZip xs (Xs.map DepX.vals)).length + 1) * 72 ≤ 140737488355328 := by rw [hdl]; omega
    have hbd2 : (dZip xs (Xs.map DepX.vals)).length < 140737488355328 := by rw [hdl]; omega
    have hbd3 : w.heap.size ≤ w2.heap.size := HG2.out.size
    clear hdl hX hY1 hY2 hg2
    go_wp2_with (at_builtin; refine wp_own_app_one dCells 5 72 dCells_len Tryz.underlying28 infoDep rfl (by decide) HO2.out.row rfl _ _ rfl rfl ⟨.slice Y1 x.body.length y1,.slice Y2 x.head.length y2,x.egd,x.left,x.right⟩ dep9_one 1 rfl hbd1 hbd2 hbd3 ?_; intro v8 w8 hrow hB8 hg8)
    have hz8 := hg8.size
    have hre : (⟨.slice Y1 x.body.length y1,.slice Y2 x.head.length y2,x.egd,x.left,x.right⟩ : DepC) = depC x X.vals := by
     unfold depC DepX.vals
     rw [HY.out.1,HY.out.2]
    rw [hre] at hrow
    have hFS := DependencySO.snoc (e := 42) (by decide) (by decide) (x := x) (X := X) (C' := w8.heap.size) HO2.out hz8 hrow hg8 (row_inside hrow (Nat.le_refl _)) (HX.out.mono hzr hz8) (fun i hi q h1 h2 => by
     have h3 := (HX.out.foot q h2).1
     have h4 := ((HO.out.el i (by have := HO.out.len; omega) hi).foot q h1).2
     omega)
    have HFS := Lib.hid hFS
    have HB8 := Lib.hid hB8
    clear hre hrow hFS hB8
    go_roundw
    case measure => simp [intOf]; omega
    case rel =>
     refine ⟨m - 1,Xs ++ [X],xs ++ [x],st2,by go_num,by simp; omega,HFS,Lib.hid ?_,Cur.below hC hC2 HB8.out,Lib.hid (grown_of_below HG2.out HB8.out)⟩
     intro z hz
     rcases List.mem_append.1 hz with h | h
     · exact HS.out z h
     · rw [List.mem_singleton.1 h]; exact hs.mono (by decide)
  · obtain rfl : m = 0 := by omega
    go_wp2
    go_ret
    exact ⟨_,Xs,xs,rfl,HO.out,by omega,HS.out,⟨_,hCr⟩,HG.out⟩
theorem Cur.chgC {S : Nat → Prop} {w wr w' : World} {p : Nat} {cv : Value} {code : List UInt8} {i : Nat} {h : Int} (h0 : CodeAt w w.heap.size cv code) (hC : Cur wr p cv code i h) (hc : Chg S wr w') (hS : ∀ k, S k → w.heap.size ≤ k) (hw : w.heap.size ≤ wr.heap.size) (hp : ¬ S p) : Cur w' p cv code i h := by
 have hl := Cur.lt hC
 refine ⟨(hc.cell hl hp).trans hC.c0,(hc.cell hl hp).trans hC.c1,(hc.cell hl hp).trans hC.c2,fun j => (hc.frozen hl hp).trans (hC.fr j),?_,hC.ile,hC.clen,hC.hlo,hC.hhi⟩
 rcases hC.txt with h | ⟨b,off,cap,h1,h2,h3⟩
 · exact Or.inl h
 · refine Or.inr ⟨b,off,cap,h1,h2,fun j hj => ?_⟩
   have hlt : b < w.heap.size := by
    rcases h0 with ⟨_,_,_,h5⟩ | ⟨b',off',cap',h4,_,h6⟩
    · rw [h5] at hj; simp at hj
    · rw [h1] at h4; injection h4 with h4; injection h4 with h4; injection h4 with h4; subst h4
      exact World.block_lt_of_cell? w _ (h6 j hj)
   rw [hc.cell (Nat.lt_of_lt_of_le hlt hw) (fun hs => by have := hS _ hs; omega)]; exact h3 j hj
def GivesL12 (cv : Value) (code : List UInt8) (w : World) (e : Ending) (w' : World) : Prop :=
 ∃ V x U Xs xs,e = .returned (.tuple #[.pointer (some ⟨w.heap.size + 1,0,none⟩),V,U]) ∧ Instance_lo (w.heap.size + 2) w' w'.heap.size V x ∧ InstSmall 9 x ∧ DependencySO 42 (w.heap.size + 2) w'.heap.size U Xs xs w' ∧ xs.length ≤ 5 ∧ (∀ y ∈ xs,DepSmall 3 y) ∧ (∃ st,CurS w' (w.heap.size + 1) cv code st) ∧ Below w.heap.size w w'
theorem l12_fin {cv : Value} {code : List UInt8} {st : DrawSt} {w W W' : World} {b p : Nat} {V U : Value} {x : Inst} {Xs : List DepX} {xs : List Dep} (hb : b = w.heap.size) (hp : p = w.heap.size + 1) (h0 : CodeAt w w.heap.size cv code) (hI : Instance_lo (p + 1) W W.heap.size V x) (hIs : InstSmall 9 x) (hX : DependencySO 42 (p + 1) W.heap.size U Xs xs W) (hl : xs.length ≤ 5) (hXs : ∀ y ∈ xs, DepSmall 3 y) (hC : CurS W p cv code st) (hB : Below b w W) (hc : Chg (Mid b (b + 1)) W W') :
 GivesL12 cv code w (.returned (.tuple #[.pointer (some ⟨p,0,none⟩),V,U])) W' := by
 subst hb hp
 have hsz := hB.size
 exact ⟨V,x,U,Xs,xs,rfl,hI.chg hc (fun k h => by have := h.2; omega),hIs,(hX.chg hc (.inr (by omega))).mono (Nat.le_refl _) hc.size,hl,hXs,⟨_,Cur.chgC h0 hC hc (fun k h => h.1) hsz (fun h => by have := h.2; omega)⟩,hB.trans (hc.below (fun k h => h.1) hsz)⟩
set_option maxHeartbeats 12800000 in
set_option maxRecDepth 100000 in
theorem l12Draw_c (cv : Value) (code : List UInt8) (w : World) (hc : CodeAt w w.heap.size cv code) (hlen : code.length ≤ 1048576) :
 Calls Tryz.prog 31 #[cv] w (GivesL12 cv code w) := by
 obtain ⟨E,hEq⟩ : ∃ E,E = w.alloc (.cells #[.slice none 0 0,.slice none 0 0] 27) := ⟨_,rfl⟩
 have hEz : E.heap.size = w.heap.size + 1 := by rw [hEq]; simp
 have hBE : Below w.heap.size w E := by rw [hEq]; exact (Below.refl _ _).alloc (Nat.le_refl _) _
 obtain ⟨b,hb⟩ : ∃ b,b = w.heap.size := ⟨_,rfl⟩
 have r0 : E.cell? ⟨b,0,none⟩ = some (.slice none 0 0) := by rw [hEq,hb]; simp [go_sem]
 have r1 : E.cell? ⟨b,1,none⟩ = some (.slice none 0 0) := by rw [hEq,hb]; simp [go_sem]
 have rz : ∀ o,E.frozen? ⟨b,o,none⟩ = false := fun o => by rw [hEq,hb]; simp [go_sem]
 have hcE := hc.later hBE
 obtain ⟨p,hpp⟩ : ∃ p,p = w.heap.size + 1 := ⟨_,rfl⟩
 have HPB := Lib.hid (show p = b + 1 by omega)
 have HBq := Lib.hid hb
 have HPq := Lib.hid hpp
 clear hb hpp
 go_enter Tryz.func31,Tryz.ntmps31
 go_wp2_with fail
 rw [← hEq]
 clear hEq
 refine (l1New_c cv code E hcE hlen).mono ?_
 rintro e w1 ⟨rfl,hb1,hC1⟩
 rw [hEz,← HPq.out] at hC1 ⊢
 rw [← HBq.out]
 rw [← HBq.out] at hEz
 have hp1 := Cur.lt hC1
 have r0 := (hb1.cell (p := ⟨b,0,none⟩) (by show b < _; omega)).trans r0
 have r1 := (hb1.cell (p := ⟨b,1,none⟩) (by show b < _; omega)).trans r1
 have rz := fun o => (hb1.frozen (p := ⟨b,o,none⟩) (by show b < _; omega)).trans (rz o)
 have HB1 := Lib.hid (hBE.trans (hb1.mono (by have := HBq.out; omega)))
 rw [← HBq.out] at HB1
 clear hEz
 clear hb1 hBE hcE
 go_wp2_with fail
 refine (l11Inst_c p cv code _ _ hC1).mono ?_
 rintro e w2 ⟨V,x,rfl,hI,hIs,⟨st2,hC2⟩,hg2⟩
 obtain ⟨P,c,Q,d,rfl⟩ := Instance_form hI.at_
 have hz2 := hg2.size
 have hbp : b < p := by have := HPB.out; omega
 have r0 := grown_cell hg2 r0 (by omega)
 have r1 := grown_cell hg2 r1 (by omega)
 have rz := fun o => grown_frozen hg2 (b := b) (o := o) (by omega) (by omega) (rz o)
 have hI := hI.less (show p + 1 ≤ _ by omega)
 have HB2 := Lib.hid (HB1.out.grown hg2 (by have := HBq.out; omega) (fun k hk => by injection hk with hk; omega))
 obtain ⟨g,hg⟩ : ∃ g,g = w2.heap.size := ⟨_,rfl⟩
 have hpg : p < g := by omega
 rw [← hg] at hI
 obtain ⟨W3,hW3⟩ : ∃ W,W = w2.alloc (.cells #[.slice P x.rels.length c,.slice Q x.facts.length d] 27) := ⟨_,rfl⟩
 have hAl : Below g w2 W3 := by rw [hW3]; exact (Below.refl _ _).alloc (by omega) _
 have hz3 : W3.heap.size = g + 1 := by rw [hW3,hg]; simp
 have y0 : W3.cell? ⟨g,0,none⟩ = some (.slice P x.rels.length c) := by rw [hW3,hg]; simp [go_sem]
 have y1 : W3.cell? ⟨g,1,none⟩ = some (.slice Q x.facts.length d) := by rw [hW3,hg]; simp [go_sem]
 have yz : ∀ o,W3.frozen? ⟨g,o,none⟩ = false := fun o => by rw [hW3,hg]; simp [go_sem]
 have hC3 : CurS W3 p cv code st2 := by rw [hW3]; exact Cur.alloc hC2 _
 have r0 := (hAl.cell (p := ⟨b,0,none⟩) (by show b < _; omega)).trans r0
 have r1 := (hAl.cell (p := ⟨b,1,none⟩) (by show b < _; omega)).trans r1
 have rz := fun o => (hAl.frozen (p := ⟨b,o,none⟩) (by show b < _; omega)).trans (rz o)
 have hI : Instance_lo (p + 1) W3 g (.agg #[.slice P x.rels.length c,.slice Q x.facts.length d]) x := hI.below (B' := g) hAl (by omega)
 have HB3 := Lib.hid (HB2.out.trans (hAl.mono (by omega)))
 go_upto_region 3 with fail
 rw [← hW3,← hg]
 clear hW3 HB1 HB2 hg2 hC2 hC1 hAl hz2 hg
 go_wp2_with fail
 refine (l9Rules_c p cv code _ _ hC3).mono ?_
 rintro e w4 ⟨U,Xs,xs,rfl,hX,hl,hXs,⟨st4,hC4⟩,hg4⟩
 obtain ⟨R,rc,rfl,-,hrm⟩ := (hX.at_ (Nat.le_refl _)).form
 unfold maxLen at hrm
 have hz4 := hg4.size
 have hI4 := hI.keep (w' := w4) (fun k o h1 h2 => (chg_of_grown hg4).cell (by omega) (fun h => by have := h.2; omega))
 have hX4 := hX.mono (show g + 1 ≤ W3.heap.size by omega) (Nat.le_refl _)
 have r0 := grown_cell hg4 r0 (by omega)
 have r1 := grown_cell hg4 r1 (by omega)
 have rz := fun o => grown_frozen hg4 (b := b) (o := o) (by omega) (by omega) (rz o)
 have y0 := grown_cell hg4 y0 (by omega)
 have y1 := grown_cell hg4 y1 (by omega)
 have yz := fun o => grown_frozen hg4 (b := g) (o := o) (by omega) (by omega) (yz o)
 have HB4 := Lib.hid (HB3.out.grown hg4 (by have := HBq.out; omega) (fun k hk => by injection hk with hk; omega))
 have HXS := Lib.hid hXs
 clear hI hX hg4 hC3 HB3 hXs
 go_wp2_with fail
 have hbd := belowR_bd code st4 20
 refine (l1Below_r p cv code _ _ _ hC4).mono ?_
 rintro e w6 ⟨rfl,hC6,hg6⟩
 generalize belowR code st4 20 = kk at *
 obtain ⟨kk,st6⟩ := kk
 dsimp only at *
 have hz6 := hg6.size
 have hI6 := hI4.keep (w' := w6) (fun k o h1 h2 => (chg_of_grown hg6).cell (by omega) (fun h => by have := h.2; omega))
 have hX6 := (hX4.chg (chg_of_grown hg6) (.inr (by omega))).mono (Nat.le_refl _) hz6
 have r0 := grown_cell hg6 r0 (by omega)
 have r1 := grown_cell hg6 r1 (by omega)
 have rz := fun o => grown_frozen hg6 (b := b) (o := o) (by omega) (by omega) (rz o)
 have y0 := grown_cell hg6 y0 (by omega)
 have y1 := grown_cell hg6 y1 (by omega)
 have yz := fun o => grown_frozen hg6 (b := g) (o := o) (by omega) (by omega) (yz o)
 have HB6 := Lib.hid (HB4.out.grown hg6 (by have := HBq.out; omega) (fun k hk => by injection hk with hk; omega))
 have HIS := Lib.hid hIs
 have hgw : g < w6.heap.size := by omega
 clear hI4 hX4 hg6 hC4 HB4 hIs hbd
 by_cases k0 : kk = 0
 · subst k0
   go_wp2_with fail
   refine (l5Any_c p cv code _ _ hC6).mono ?_
   rintro e w7 ⟨V',x',rfl,hI7,hI7s,⟨st7,hC7⟩,hg7⟩
   obtain ⟨P',c',Q',d',rfl⟩ := Instance_form hI7.at_
   have hz7 := hg7.size
   have r0 := grown_cell hg7 r0 (by omega)
   have r1 := grown_cell hg7 r1 (by omega)
   have rz := fun o => grown_frozen hg7 (b := b) (o := o) (by omega) (by omega) (rz o)
   have y0 := grown_cell hg7 y0 (by omega)
   have y1 := grown_cell hg7 y1 (by omega)
   have yz := fun o => grown_frozen hg7 (b := g) (o := o) (by omega) (by omega) (yz o)
   have hX7 := (hX6.chg (chg_of_grown hg7) (.inr (by omega))).mono (Nat.le_refl _) hz7
   have HB7 := Lib.hid (HB6.out.grown hg7 (by have := HBq.out; omega) (fun k hk => by injection hk with hk; omega))
   obtain ⟨W9,hW9⟩ : ∃ W,W = (w7.setCell ⟨g,0,none⟩ (.slice P' x'.rels.length c')).setCell ⟨g,1,none⟩ (.slice Q' x'.facts.length d') := ⟨_,rfl⟩
   have hch : Chg (Mid g (g + 1)) w7 W9 := by rw [hW9]; exact ((Chg.refl (Mid g (g + 1)) w7).setCell (p := ⟨g,0,none⟩) ⟨Nat.le_refl _,Nat.lt_succ_self _⟩ _).setCell (p := ⟨g,1,none⟩) ⟨Nat.le_refl _,Nat.lt_succ_self _⟩ _
   have hz9 : W9.heap.size = w7.heap.size := by rw [hW9]; simp [World.setCell]
   have hI9 : Instance_lo (p + 1) W9 W9.heap.size (.agg #[.slice P' x'.rels.length c',.slice Q' x'.facts.length d']) x' := (hI7.chg hch (fun k h => by have := h.2; omega)).less (by omega)
   have hX9 := (hX7.chg hch (.inr (Nat.le_refl _))).mono (show p + 1 ≤ g + 1 by omega) (Nat.le_of_eq hz9.symm)
   have HB9 := Lib.hid (HB7.out.trans (hch.below (fun k h => by have := h.1; omega) (by omega)))
   have hC9 : CurS W9 p cv code st7 := Cur.chgC hc hC7 hch (fun k h => by have h1 := h.1; have h2 := HBq.out; omega) (by have := HBq.out; omega) (fun h => by have := h.1; omega)
   have y0 : W9.cell? ⟨g,0,none⟩ = some (.slice P' x'.rels.length c') := by rw [hW9]; simp [go_sem,y0]
   have y1 : W9.cell? ⟨g,1,none⟩ = some (.slice Q' x'.facts.length d') := by rw [hW9]; simp [go_sem,y1]
   have r0 := (hch.cell (b := b) (o := 0) (by omega) (fun h => by have := h.1; omega)).trans r0
   have r1 := (hch.cell (b := b) (o := 1) (by omega) (fun h => by have := h.1; omega)).trans r1
   have rz := fun o => (hch.frozen (b := b) (o := o) (by omega) (fun h => by have := h.1; omega)).trans (rz o)
   go_upto_region 9 with fail
   rw [← hW9]
   clear hW9 hch hX7 hI7 hC7 hg7 HB7 hX6 hI6 hC6
   have hS : Holds [(⟨g,0,none⟩,.slice P' x'.rels.length c'),(⟨g,1,none⟩,.slice Q' x'.facts.length d')] W9.drew := by
    intro t ht
    simp only [List.mem_cons,List.not_mem_nil,or_false] at ht
    rcases ht with rfl | rfl
    · exact y0
    · exact y1
   have hS1 : Holds [(⟨g,0,none⟩,.slice P' x'.rels.length c'),(⟨g,1,none⟩,.slice Q' x'.facts.length d')] ((W9.drew.setCell ⟨b,0,none⟩ (.slice P' x'.rels.length c')).setCell ⟨b,1,none⟩ (.slice Q' x'.facts.length d')) := by
    intro t ht
    have hk := hS t ht
    have hch1 : Chg (fun k => k = b) W9.drew ((W9.drew.setCell ⟨b,0,none⟩ (.slice P' x'.rels.length c')).setCell ⟨b,1,none⟩ (.slice Q' x'.facts.length d')) := ((Chg.refl (fun k => k = b) _).setCell (p := ⟨b,0,none⟩) rfl _).setCell (p := ⟨b,1,none⟩) rfl _
    simp only [List.mem_cons,List.not_mem_nil,or_false] at ht
    rcases ht with rfl | rfl <;> exact (hch1.cell (by show g < W9.heap.size; omega) (by omega)).trans hk
   have g0 := Keep.cell (h0 := hS) (a := ⟨g,0,none⟩) (v := .slice P' x'.rels.length c') (by simp)
   have g1 := Keep.cell (h0 := hS) (a := ⟨g,1,none⟩) (v := .slice Q' x'.facts.length d') (by simp)
   have hdr : Below W9.heap.size W9 W9.drew := (Below.refl _ _).drew
   have HF := Lib.hid (l12_fin (W := W9.drew) (W' := ((W9.drew.setCell ⟨b,0,none⟩ (.slice P' x'.rels.length c')).setCell ⟨b,1,none⟩ (.slice Q' x'.facts.length d'))) HBq.out HPq.out hc (hI9.below hdr (Nat.le_refl _)) hI7s (hX9.below hdr (Nat.le_refl _)) (by omega) HXS.out (Cur.drewN hC9 1) (HB9.out.trans (Below.refl _ _).drew) (((Chg.refl (Mid b (b + 1)) W9.drew).setCell (p := ⟨b,0,none⟩) ⟨Nat.le_refl _,Nat.lt_succ_self _⟩ _).setCell (p := ⟨b,1,none⟩) ⟨Nat.le_refl _,Nat.lt_succ_self _⟩ _))
   clear y0 y1 yz hdr
   refine wp_region_planL (C := fun w' => ∃ u : Keep _ W9.drew hS,w' = u.now) (.still 0 (.still 1 (.still 2 (.still 3 (.move true 4 (.still 5 .done) .none))))) (by kernel_rfl) (by kernel_rfl) (by kernel_rfl) (fun _ => ⟨⟨_,hS⟩,rfl⟩) ?_
   iterate 4
    refine plan_look _ rfl rfl ?_
    go_big_quiet_step (fail)
    refine wpQuiet_nil ?_
   refine plan_skip (w' := ((W9.drew.setCell ⟨b,0,none⟩ (.slice P' x'.rels.length c')).setCell ⟨b,1,none⟩ (.slice Q' x'.facts.length d'))) _ rfl rfl rfl (by simp [go_sem,r0,r1,rz]) (fun _ => ⟨⟨_,hS1⟩,rfl⟩) ?_ True.intro
   refine plan_put ?_ (by simp only [Act.put]; rfl)
   refine plan_look _ rfl rfl ?_
   go_big_quiet_step (fail)
   refine wpQuiet_nil ?_
   refine plan_done ?_
   go_wp2
   refine bodyPost_ret (v := .tuple #[.pointer (some ⟨p,0,none⟩),.agg #[.slice P' x'.rels.length c',.slice Q' x'.facts.length d'],.slice R xs.length rc]) (by simp [results,Tryz.results31,go_sem,r0,r1]) rfl HF.out
 by_cases k1 : kk = 1
 · subst k1
   go_wp2_with fail
   refine (l9Any_c p cv code _ _ hC6).mono ?_
   rintro e w7 ⟨X1,x1,rfl,hX1,hs1,⟨st7,hC7⟩,hg7⟩
   have hz7 := hg7.size
   obtain ⟨Y1,u1,Y2,u2,hY1,hY2⟩ := dep9_vals hX1
   unfold DVal9
   rw [hY1,hY2]
   have hI7 := hI6.keep (w' := w7) (fun k o h1 h2 => (chg_of_grown hg7).cell (by omega) (fun h => by have := h.2; omega))
   have hX7 := (hX6.chg (chg_of_grown hg7) (.inr (by omega))).mono (Nat.le_refl _) (Nat.le_refl _)
   have r0 := grown_cell hg7 r0 (by omega)
   have r1 := grown_cell hg7 r1 (by omega)
   have rz := fun o => grown_frozen hg7 (b := b) (o := o) (by omega) (by omega) (rz o)
   have y0 := grown_cell hg7 y0 (by omega)
   have y1 := grown_cell hg7 y1 (by omega)
   have yz := fun o => grown_frozen hg7 (b := g) (o := o) (by omega) (by omega) (yz o)
   have HB7 := Lib.hid (HB6.out.grown hg7 (by have := HBq.out; omega) (fun k hk => by injection hk with hk; omega))
   obtain ⟨c1,hc1⟩ : ∃ c : DepC,c = ⟨.slice Y1 x1.body.length u1,.slice Y2 x1.head.length u2,x1.egd,x1.left,x1.right⟩ := ⟨_,rfl⟩
   obtain ⟨E8,hE8⟩ : ∃ E,E = w7.alloc (.cells #[.slice Y1 x1.body.length u1,.slice Y2 x1.head.length u2,.bool x1.egd,.int .i64 x1.left,.int .i64 x1.right] 42) := ⟨_,rfl⟩
   have hr : ∀ j u,([c1].flatMap dCells)[j]? = some u → E8.cell? ⟨w7.heap.size,0 + j,none⟩ = some u := by
    intro j u hu
    rw [Nat.zero_add,hE8,box_cell]
    simpa [dCells,hc1] using hu
   have hone : ∀ x ∈ [c1],∀ u ∈ dCells x,u.oneCell' = true := by
    intro x hx
    simp only [List.mem_cons,List.not_mem_nil,or_false] at hx
    subst hx
    rw [hc1]; exact dep9_one
   have hd1 : depC x1 X1.vals = c1 := by unfold depC DepX.vals; rw [hY1,hY2,hc1]
   have hEB : Below w7.heap.size w7 E8 := by rw [hE8]; exact (Below.refl _ _).alloc (Nat.le_refl _) _
   have hEz : E8.heap.size = w7.heap.size + 1 := by rw [hE8]; simp
   have HO8 := Lib.hid (hX7.below hEB (by omega))
   have HX18 := Lib.hid (hX1.below hEB (Nat.le_refl _))
   have HI8 := Lib.hid (hI7.below hEB (by omega))
   have HC8 := Lib.hid (show CurS E8 p cv code st7 by rw [hE8]; exact Cur.alloc hC7 _)
   have HB8 := Lib.hid (HB7.out.trans (hEB.mono (by omega)))
   have r0 := (hEB.cell (p := ⟨b,0,none⟩) (by show b < _; omega)).trans r0
   have r1 := (hEB.cell (p := ⟨b,1,none⟩) (by show b < _; omega)).trans r1
   have rz := fun o => (hEB.frozen (p := ⟨b,o,none⟩) (by show b < _; omega)).trans (rz o)
   have y0 := (hEB.cell (p := ⟨g,0,none⟩) (by show g < _; omega)).trans y0
   have y1 := (hEB.cell (p := ⟨g,1,none⟩) (by show g < _; omega)).trans y1
   have yz := fun o => (hEB.frozen (p := ⟨g,o,none⟩) (by show g < _; omega)).trans (yz o)
   have hdl := dZip_len (l := xs) (Ps := Xs.map DepX.vals) (by rw [List.length_map,HO8.out.len])
   have hbd1 : ((dZip xs (Xs.map DepX.vals)).length + [c1].length) * 72 ≤ 140737488355328 := by rw [hdl]; simp; omega
   have hbd2 : (dZip xs (Xs.map DepX.vals)).length + [c1].length < 140737488355328 := by rw [hdl]; simp; omega
   have hbd3 : g + 1 ≤ E8.heap.size := by omega
   have HR := Lib.hid hr
   have HN := Lib.hid hone
   have HD := Lib.hid hd1
   have HE := Lib.hid hE8
   have HS1 := Lib.hid hs1
   have HLW := Lib.hid (show w6.heap.size ≤ w7.heap.size from hz7)
   have HZW := Lib.hid hEz
   have HDF := Lib.hid (fun (q : Nat) (h : dFoot X1 q) => (hX1.foot q h).1)
   have hgE : g + 1 ≤ E8.heap.size := by omega
   have hbgE : b < g := by omega
   clear hdl hr hone hd1 hEB hX7 hX1 hI7 hC7 HB7 hE8 hc1 hY1 hY2 hg7 hX6 hI6 hC6 hs1 hz7 hEz
   go_wp2_with (at_builtin; rw [← HE.out]; refine wp_own_appsM dCells 5 72 dCells_len HN.out Tryz.underlying28 infoDep rfl (by decide) HO8.out.row rfl _ _ rfl rfl w7.heap.size 0 1 1 rfl rfl HR.out hbd1 hbd2 hbd3 ?_; intro v9 w9 hrow hB9 hg9 _)
   have hz9 := hB9.size
   have HXX := Lib.hid hrow
   have hrow2 := HXX.out
   rw [← HD.out] at hrow2
   have hX9 := DependencySO.snoc (e := 42) (by decide) (by decide) (x := x1) (X := X1) (C' := w9.heap.size) HO8.out (by have h1 := HLW.out; have h2 := HZW.out; omega) hrow2 hg9 (row_inside hrow2 (Nat.le_refl _)) (HX18.out.mono (by omega) (by have h2 := HZW.out; omega)) (fun i hi q h1 h2 => by
    have h3 := HDF.out q h2
    have h4 := ((HO8.out.el i (by rw [← HO8.out.len]; exact hi) hi).foot q h1).2
    omega)
   obtain ⟨R9,rc9,rfl,-,-⟩ := (hX9.at_ (Nat.le_refl _)).form
   have hX9 := hX9.mono (show p + 1 ≤ g + 1 by omega) (Nat.le_refl _)
   have hI9 := (HI8.out.below (B' := g + 1) hB9 (by omega)).more (B' := w9.heap.size) (by omega)
   have hC9 : CurS w9 p cv code st7 := Cur.chgC hc HC8.out (Chg.of_below' hB9) (fun k h => by have h1 : g + 1 ≤ k := h; have h2 := HBq.out; omega) (by have := HBq.out; omega) (fun h => by have h1 : g + 1 ≤ p := h; omega)
   have HB9 := Lib.hid (HB8.out.trans (hB9.mono (by omega)))
   have r0 := (hB9.cell (p := ⟨b,0,none⟩) (by show b < _; omega)).trans r0
   have r1 := (hB9.cell (p := ⟨b,1,none⟩) (by show b < _; omega)).trans r1
   have rz := fun o => (hB9.frozen (p := ⟨b,o,none⟩) (by show b < _; omega)).trans (rz o)
   have y0 := (hB9.cell (p := ⟨g,0,none⟩) (by show g < _; omega)).trans y0
   have y1 := (hB9.cell (p := ⟨g,1,none⟩) (by show g < _; omega)).trans y1
   have yz := fun o => (hB9.frozen (p := ⟨g,o,none⟩) (by show g < _; omega)).trans (yz o)
   have HXS9 := Lib.hid (show ∀ y ∈ xs ++ [x1],DepSmall 3 y from fun y hy => by
    rcases List.mem_append.1 hy with h | h
    · exact HXS.out y h
    · rw [List.mem_singleton.1 h]; exact HS1.out)
   have hl9 : (xs ++ [x1]).length ≤ 5 := by simp; omega
   have hgw9 : g < w9.heap.size := by omega
   clear hrow hrow2 HXX HO8 HX18 HI8 HC8 HB8 hB9 hg9 HR HN HE HD HDF
   go_upto_region 9 with fail
   have hS : Holds [(⟨g,0,none⟩,.slice P x.rels.length c),(⟨g,1,none⟩,.slice Q x.facts.length d)] w9.drew := by
    intro t ht
    simp only [List.mem_cons,List.not_mem_nil,or_false] at ht
    rcases ht with rfl | rfl
    · exact y0
    · exact y1
   have hS1 : Holds [(⟨g,0,none⟩,.slice P x.rels.length c),(⟨g,1,none⟩,.slice Q x.facts.length d)] ((w9.drew.setCell ⟨b,0,none⟩ (.slice P x.rels.length c)).setCell ⟨b,1,none⟩ (.slice Q x.facts.length d)) := by
    intro t ht
    have hk := hS t ht
    have hch1 : Chg (fun k => k = b) w9.drew ((w9.drew.setCell ⟨b,0,none⟩ (.slice P x.rels.length c)).setCell ⟨b,1,none⟩ (.slice Q x.facts.length d)) := ((Chg.refl (fun k => k = b) _).setCell (p := ⟨b,0,none⟩) rfl _).setCell (p := ⟨b,1,none⟩) rfl _
    simp only [List.mem_cons,List.not_mem_nil,or_false] at ht
    rcases ht with rfl | rfl <;> exact (hch1.cell (by show g < w9.heap.size; omega) (by omega)).trans hk
   have g0 := Keep.cell (h0 := hS) (a := ⟨g,0,none⟩) (v := .slice P x.rels.length c) (by simp)
   have g1 := Keep.cell (h0 := hS) (a := ⟨g,1,none⟩) (v := .slice Q x.facts.length d) (by simp)
   have hdr : Below w9.heap.size w9 w9.drew := (Below.refl _ _).drew
   have HF := Lib.hid (l12_fin (W := w9.drew) (W' := ((w9.drew.setCell ⟨b,0,none⟩ (.slice P x.rels.length c)).setCell ⟨b,1,none⟩ (.slice Q x.facts.length d))) HBq.out HPq.out hc (hI9.below hdr (Nat.le_refl _)) (HIS.out.more (by decide)) (hX9.below hdr (Nat.le_refl _)) hl9 HXS9.out (Cur.drewN hC9 1) (HB9.out.trans (Below.refl _ _).drew) (((Chg.refl (Mid b (b + 1)) w9.drew).setCell (p := ⟨b,0,none⟩) ⟨Nat.le_refl _,Nat.lt_succ_self _⟩ _).setCell (p := ⟨b,1,none⟩) ⟨Nat.le_refl _,Nat.lt_succ_self _⟩ _))
   clear y0 y1 yz hdr
   refine wp_region_planL (C := fun w' => ∃ u : Keep _ w9.drew hS,w' = u.now) (.still 0 (.still 1 (.still 2 (.still 3 (.move true 4 (.still 5 .done) .none))))) (by kernel_rfl) (by kernel_rfl) (by kernel_rfl) (fun _ => ⟨⟨_,hS⟩,rfl⟩) ?_
   iterate 4
    refine plan_look _ rfl rfl ?_
    go_big_quiet_step (fail)
    refine wpQuiet_nil ?_
   refine plan_skip (w' := ((w9.drew.setCell ⟨b,0,none⟩ (.slice P x.rels.length c)).setCell ⟨b,1,none⟩ (.slice Q x.facts.length d))) _ rfl rfl rfl (by simp [go_sem,r0,r1,rz]) (fun _ => ⟨⟨_,hS1⟩,rfl⟩) ?_ True.intro
   refine plan_put ?_ (by simp only [Act.put]; rfl)
   refine plan_look _ rfl rfl ?_
   go_big_quiet_step (fail)
   refine wpQuiet_nil ?_
   refine plan_done ?_
   go_wp2
   refine bodyPost_ret (v := .tuple #[.pointer (some ⟨p,0,none⟩),.agg #[.slice P x.rels.length c,.slice Q x.facts.length d],.slice R9 (xs ++ [x1]).length rc9]) (by simp [results,Tryz.results31,go_sem,r0,r1]) rfl HF.out
 · skip
   have hI9 := hI6.more (B' := w6.heap.size) (by omega)
   have hX9 := hX6.mono (show p + 1 ≤ g + 1 by omega) (Nat.le_refl _)
   have HB9 := HB6
   have hk0 : (kk == 0) = false := beq_eq_false_iff_ne.2 k0
   have hk1 : (kk == 1) = false := beq_eq_false_iff_ne.2 k1
   go_upto_region 9 with fail
   clear hI6 hX6
   have hS : Holds [(⟨g,0,none⟩,.slice P x.rels.length c),(⟨g,1,none⟩,.slice Q x.facts.length d)] w6.drew := by
    intro t ht
    simp only [List.mem_cons,List.not_mem_nil,or_false] at ht
    rcases ht with rfl | rfl
    · exact y0
    · exact y1
   have hS1 : Holds [(⟨g,0,none⟩,.slice P x.rels.length c),(⟨g,1,none⟩,.slice Q x.facts.length d)] ((w6.drew.setCell ⟨b,0,none⟩ (.slice P x.rels.length c)).setCell ⟨b,1,none⟩ (.slice Q x.facts.length d)) := by
    intro t ht
    have hk := hS t ht
    have hch1 : Chg (fun k => k = b) w6.drew ((w6.drew.setCell ⟨b,0,none⟩ (.slice P x.rels.length c)).setCell ⟨b,1,none⟩ (.slice Q x.facts.length d)) := ((Chg.refl (fun k => k = b) _).setCell (p := ⟨b,0,none⟩) rfl _).setCell (p := ⟨b,1,none⟩) rfl _
    simp only [List.mem_cons,List.not_mem_nil,or_false] at ht
    rcases ht with rfl | rfl <;> exact (hch1.cell (by show g < w6.heap.size; omega) (by omega)).trans hk
   have g0 := Keep.cell (h0 := hS) (a := ⟨g,0,none⟩) (v := .slice P x.rels.length c) (by simp)
   have g1 := Keep.cell (h0 := hS) (a := ⟨g,1,none⟩) (v := .slice Q x.facts.length d) (by simp)
   have hdr : Below w6.heap.size w6 w6.drew := (Below.refl _ _).drew
   have HF := Lib.hid (l12_fin (W := w6.drew) (W' := ((w6.drew.setCell ⟨b,0,none⟩ (.slice P x.rels.length c)).setCell ⟨b,1,none⟩ (.slice Q x.facts.length d))) HBq.out HPq.out hc (hI9.below hdr (Nat.le_refl _)) (HIS.out.more (by decide)) (hX9.below hdr (Nat.le_refl _)) (by omega) HXS.out (Cur.drewN hC6 1) (HB9.out.trans (Below.refl _ _).drew) (((Chg.refl (Mid b (b + 1)) w6.drew).setCell (p := ⟨b,0,none⟩) ⟨Nat.le_refl _,Nat.lt_succ_self _⟩ _).setCell (p := ⟨b,1,none⟩) ⟨Nat.le_refl _,Nat.lt_succ_self _⟩ _))
   clear y0 y1 yz hdr
   refine wp_region_planL (C := fun w' => ∃ u : Keep _ w6.drew hS,w' = u.now) (.still 0 (.still 1 (.still 2 (.still 3 (.move true 4 (.still 5 .done) .none))))) (by kernel_rfl) (by kernel_rfl) (by kernel_rfl) (fun _ => ⟨⟨_,hS⟩,rfl⟩) ?_
   iterate 4
    refine plan_look _ rfl rfl ?_
    go_big_quiet_step (fail)
    refine wpQuiet_nil ?_
   refine plan_skip (w' := ((w6.drew.setCell ⟨b,0,none⟩ (.slice P x.rels.length c)).setCell ⟨b,1,none⟩ (.slice Q x.facts.length d))) _ rfl rfl rfl (by simp [go_sem,r0,r1,rz]) (fun _ => ⟨⟨_,hS1⟩,rfl⟩) ?_ True.intro
   refine plan_put ?_ (by simp only [Act.put]; rfl)
   refine plan_look _ rfl rfl ?_
   go_big_quiet_step (fail)
   refine wpQuiet_nil ?_
   refine plan_done ?_
   go_wp2
   refine bodyPost_ret (v := .tuple #[.pointer (some ⟨p,0,none⟩),.agg #[.slice P x.rels.length c,.slice Q x.facts.length d],.slice R xs.length rc]) (by simp [results,Tryz.results31,go_sem,r0,r1]) rfl HF.out
def Restrict_r0 (x : Inst) (b : Bool) : Inst := restrictI x b
theorem rest_small {n : Nat} {x : Inst} (h : InstSmall n x) (b : Bool) : InstSmall n (Restrict_r0 x b) := by
 unfold Restrict_r0 restrictI
 split
 · exact ⟨h.1,Nat.le_trans (List.length_filter_le _ _) h.2.1,fun f hf => h.2.2 f (List.mem_filter.1 hf).1⟩
 · exact ⟨⟨Nat.zero_le _,fun r hr => by cases hr⟩,Nat.zero_le _,fun f hf => by cases hf⟩
end Go.Proofs.YtobdijcnfmgidaaGreat
