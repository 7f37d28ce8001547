/- Walks and plain lemmas for the laws of this seat. -/
import Derived.Test.YtobdijcnfmgidaaGreatAft
import Derived.Test.YtobdijcnfmgidaaGreatCopI
import Derived.Test.YtobdijcnfmgidaaGreatMInst
import Derived.Test.YtobdijcnfmgidaaGreatDrawV9
import Derived.Test.YtobdijcnfmgidaaGreatDepVI
import Derived.Test.YtobdijcnfmgidaaGreatInstEqS
namespace Go.Proofs.YtobdijcnfmgidaaGreat
open Go.RowKit
theorem zeroFct_val : ∀ w, (zeroValue 66).run Tryz.prog w = .ok (.agg #[.int .i64 0, .slice none 0 0]) w := by
 intro w
 obtain ⟨i0,hi,hz0,hz1,hz2⟩ := info_parts infoFct
 simp [zeroValue,typeInfo,hi,hz0]
theorem keepN_lt {α : Type} {p : α → Bool} {l : List α} (h : l.any p = true) : (keepN p l).length < l.length := by
 induction l with
 | nil => simp at h
 | cons y t ih =>
   have hle := keepN_len p t
   unfold keepN at *
   cases hy : p y with
   | true => rw [List.filter_cons_of_neg (by simp [hy]),List.length_cons]; omega
   | false =>
     rw [List.any_cons,hy,Bool.false_or] at h
     have := ih h
     rw [List.filter_cons_of_pos (by simp [hy]),List.length_cons,List.length_cons]; omega
theorem elems_chg {e : TypeId} (he : e ≠ 3) {B C q n : Nat} {cap : Nat} {xs : List Value} {Z : List (Fct × Value)} {w wr : World} (hrow : w.ownsRow B e 2 (.slice (some ⟨q, 0, none⟩) n cap) n xs) (hel : ∀ z ∈ Z, IntS_own B C z.2 z.1.vals w) (hc : Chg (fun k => k = q) w wr) : ∀ z ∈ Z, IntS_own B C z.2 z.1.vals wr :=
 fun z hz => ⟨(hel z hz).1.chg hc (fun g hg e1 => inner_ne he hrow (hel z hz) q rfl (by rw [hg,e1])),(hel z hz).2⟩
theorem row_put {w : World} {B q n cap i : Nat} {e : TypeId} {R : List (Fct × Value)} {z : Fct × Value} (hrow : w.ownsRow B e 2 (.slice (some ⟨q, 0, none⟩) n cap) n (R.flatMap zCells)) (hi : i < R.length) :
 ((w.setCell ⟨q,i * 2,none⟩ (.int .i64 z.1.rel)).setCell ⟨q,i * 2 + 1,none⟩ z.2).ownsRow B e 2 (.slice (some ⟨q,0,none⟩) n cap) n ((R.set i z).flatMap zCells) := by
 rw [← flat_set zCells 2 zCells_len R i hi z]
 exact (World.ownsRow.stored (World.ownsRow.stored hrow (i * 2) _).1 (i * 2 + 1) _).1
theorem row_cells {w : World} {B q n cap i : Nat} {e : TypeId} {R : List (Fct × Value)} (hrow : w.ownsRow B e 2 (.slice (some ⟨q, 0, none⟩) n cap) n (R.flatMap zCells)) (hR : R.length = n) (hi : i < R.length) :
 w.cell? ⟨q,i * 2,none⟩ = some (.int .i64 R[i].1.rel) ∧ w.cell? ⟨q,i * 2 + 1,none⟩ = some R[i].2 := by
 have g (j : Nat) (hj : j < 2) := (World.ownsRow.cellAt hrow (i * 2 + j) (by omega)).trans (flat_get zCells 2 zCells_len R i j hi hj)
 exact ⟨g 0 (by omega),g 1 (by omega)⟩
set_option maxHeartbeats 3200000 in
set_option maxRecDepth 100000 in
theorem implDelF_any (g : Nat) (lb : Array Value) (eg : ∀ args w, (callFunc g args).run Tryz.prog w = .ok (.enter g args) w) (G : World → Prop) (hG : ∀ W W', G W → Below W.heap.size W W' → G W') (p : Fct → Bool) (l : List Fct) (B C q : Nat) (Vs : List Value) (w : World) (h0 : G w) (ht : TellsF g lb G p l)
 (hn : l.length ≤ 1048576) (hC : C ≤ w.heap.size) (hS : ∀ W o u,G W → G (W.setCell ⟨q,o,none⟩ u)) (hO : FactSO 66 B C (.slice (some ⟨q,0,none⟩) l.length l.length) Vs l w) :
 Calls Tryz.prog 101 #[.slice (some ⟨q,0,none⟩) l.length l.length,.func (.func g) #[] lb] w fun e w' => ∃ Us,e = .returned (.slice (some ⟨q,0,none⟩) (keepN p l).length l.length) ∧ FactSO 66 B C (.slice (some ⟨q,0,none⟩) (keepN p l).length l.length) Us (keepN p l) w' ∧ Chg (fun k => k = q) w w' := by
 have hix := implIxF_any g lb eg G hG p (.slice (some ⟨q,0,none⟩) l.length l.length) l w h0 ht (hO.at_ hC)
 obtain ⟨hZ1,hZ2,hZ3,hZ4,hZ5⟩ := hO.toZ
 have hqC : q < C := hO.ins q rfl
 rcases ixOf_form p l with ⟨hi,hany⟩ | ⟨k0,hk0,hi,hpk,hbef⟩
 · have HK := Lib.hid (keepN_none hany)
   have HO := Lib.hid hO
   rw [hi] at hix
   have hm1 : ((-1 : Int) == -1) = true := rfl
   clear hi hany hZ1 hZ2 hZ3 hZ4 hZ5 hO hS hG ht h0
   go_enter Tryz.func101,Tryz.ntmps101
   go_wp2_with (go_at_call 144; refine hix.mono ?_; rintro e w1 ⟨rfl,hb1⟩)
   go_ret
   exact ⟨Vs,by rw [HK.out]; rfl,by rw [HK.out]; exact HO.out.below hb1 hC,Chg.of_below hb1⟩
 · generalize hZ : l.zip Vs = Z at *
   have hn1 : ((k0 : Int) == -1) = false := beq_eq_false_iff_ne.2 (by omega)
   rw [hi] at hix
   have hpl : ∀ j (hj : j < Z.length),p Z[j].1 = p (l[j]'(by omega)) := fun j hj => by
    have : Z[j].1 = l[j]'(by omega) := by
     have h1 : (Z.map Prod.fst)[j]'(by simpa using hj) = Z[j].1 := by simp
     rw [← h1]; simp only [hZ3]
    rw [this]
   have hstart : keepN (onF p) (Z.take (k0 + 1)) = Z.take k0 := keepN_first k0 (by omega) ((hpl k0 (by omega)).trans hpk) (fun j hj hjk => (hpl j hj).trans (hbef j (by omega) hjk))
   have HSt := Lib.hid hstart
   have hlt0 : (keepN (onF p) (Z.take Z.length)).length < Z.length := by
    rw [List.take_of_length_le (Nat.le_refl _)]
    refine keepN_lt ?_
    rw [keep_any,hZ3]
    exact List.any_eq_true.2 ⟨l[k0],List.getElem_mem hk0,hpk⟩
   have HLT := Lib.hid hlt0
   rw [← hZ5] at hZ1
   have HZ1 := Lib.hid hZ1
   have HZ2 := Lib.hid hZ2
   have HZ34 := Lib.hid (And.intro hZ3 (And.intro hZ4 hO.dis))
   have HT := Lib.hid ht
   have HGI := Lib.hid (And.intro hG hS)
   have HMem := Lib.hid (fun j (hj : j < Z.length) => (show Z[j].1 ∈ l by rw [← hZ3]; exact List.mem_map.2 ⟨_,List.getElem_mem hj,rfl⟩))
   have HINS := Lib.hid hO.ins
   have H0 := Lib.hid h0
   have hkz : k0 < Z.length := by omega
   have hnz : Z.length ≤ 1048576 := by omega
   rw [← hZ5] at hix ⊢
   rw [← hZ5] at hk0
   have HKL := Lib.hid (show (keepN (onF p) Z).map Prod.fst = keepN p l by rw [keep_fst,hZ3])
   clear hi hstart hlt0 hZ1 hZ2 hZ3 hZ4 hZ5 hO hS hG ht h0 hZ hpl hpk hbef hn
   go_enter Tryz.func101,Tryz.ntmps101
   go_wp2_with fail
   refine hix.mono ?_
   rintro e w1 ⟨rfl,hb1⟩
   go_wp2
   go_loopw [5,6] (fun i j wr => ∃ k : Nat,k ≤ Z.length ∧ j = .int .i64 k ∧ i = .int .i64 (keepN (onF p) (Z.take k)).length ∧ wr.ownsRow B 66 2 (.slice (some ⟨q,0,none⟩) Z.length Z.length) Z.length ((rowAt p Z k).flatMap zCells) ∧ Hid (Chg (fun k => k = q) w wr) ∧ Hid (G wr)) (fun _ j _ => Z.length - (intOf j).toNat)
   case atStart =>
    refine ⟨k0 + 1,by omega,by go_num,?_,?_,Lib.hid (Chg.of_below hb1),Lib.hid (HGI.out.1 _ _ H0.out hb1)⟩
    · rw [HSt.out,List.length_take,Nat.min_eq_left (by omega)]
    · have e : rowAt p Z (k0 + 1) = Z := by
       unfold rowAt
       rw [HSt.out,List.length_take,Nat.min_eq_left (by omega),List.take_append_drop]
      rw [e]
      exact (Chg.of_below (S := fun _ => False) hb1).row HZ1.out (fun g hg => id)
   case round =>
    obtain ⟨k,hk,rfl,rfl,hrow,HC,HGw⟩ := hrel
    have hz := HC.out.size
    have hik := keep_le p Z k
    have hRl := rowAt_len p Z k
    have hel := elems_chg (e := 66) (by decide) HZ1.out HZ2.out HC.out
    have HEL := Lib.hid hel
    have HIK := Lib.hid hik
    have hqw : q < wr.heap.size := by omega
    by_cases hlt : k < Z.length
    · have hc := row_cells hrow hRl (i := k) (by omega)
      rw [rowAt_get p Z k k (Nat.le_refl _) hlt] at hc
      obtain ⟨c0,c1⟩ := hc
      have hU := hel Z[k] (List.getElem_mem hlt)
      have hUa := hU.1.at_
      have HKp := Lib.hid (rowAt_keep p Z k hlt)
      have HDr := Lib.hid (rowAt_drop p Z k hlt)
      have HMk := Lib.hid (HMem.out k hlt)
      have HZk : Hid (∃ z,z = Z[k]) := Lib.hid ⟨_,rfl⟩
      obtain ⟨PV,cV,hv,-⟩ := id hUa
      rw [hv] at c1
      have HV2 := Lib.hid hv
      have HUa := Lib.hid hUa
      have hcall := fun (W : World) (hb : Below wr.heap.size wr W) => HT.out W Z[k].1 (.slice PV Z[k].1.vals.length cV) (HGI.out.1 _ _ HGw.out hb) HMk.out (by rw [← HV2.out]; exact (HUa.out.below hb (Nat.le_refl _)).more hb.size)
      have HROW := Lib.hid hrow
      have hil : (keepN (onF p) (Z.take k)).length < Z.length := by omega
      have HIL := Lib.hid hil
      clear hel hU hUa hv hrow hRl
      cases hp : p Z[k].1 with
      | true =>
        have hd := HDr.out hp
        have HD := Lib.hid hd
        have hcall' := fun W hb => hcall W hb
        rw [hp] at hcall
        clear hd hp hcall'
        go_wp2_with fail
        refine (hcall _ (below_more (Below.refl _ _) _)).mono ?_
        rintro e w2 ⟨rfl,hb2⟩
        have hb3 : Below wr.heap.size wr w2 := (below_more (Below.refl _ _) _).trans (hb2.mono (by simp))
        clear hcall c0 c1
        go_wp2
        go_roundw
        case rel => exact ⟨k + 1,by omega,by go_num,by rw [HD.out.2],by rw [HD.out.1]; exact (Chg.of_below (S := fun _ => False) hb3).row HROW.out (fun g hg => id),Lib.hid (HC.out.then_below (hb3.mono hz)),Lib.hid (HGI.out.1 _ _ HGw.out hb3)⟩
        case measure => simp [intOf]; omega
      | false =>
        have hd := HKp.out hp
        have HD := Lib.hid hd
        rw [hp] at hcall
        clear hd hp
        go_wp2_with fail
        refine (hcall _ (below_more (Below.refl _ _) _)).mono ?_
        rintro e w2 ⟨rfl,hb2⟩
        have hb3 : Below wr.heap.size wr w2 := (below_more (Below.refl _ _) _).trans (hb2.mono (by simp))
        have x0 := (hb2.cell (p := ⟨wr.heap.size,0,none⟩) (by simp)).trans (show (wr.alloc (.cells #[.int .i64 Z[k].1.rel,.slice PV Z[k].1.vals.length cV] 66)).cell? ⟨wr.heap.size,0,none⟩ = some (.int .i64 Z[k].1.rel) by simp [go_sem])
        have x1 := (hb2.cell (p := ⟨wr.heap.size,1,none⟩) (by simp)).trans (show (wr.alloc (.cells #[.int .i64 Z[k].1.rel,.slice PV Z[k].1.vals.length cV] 66)).cell? ⟨wr.heap.size,1,none⟩ = some (.slice PV Z[k].1.vals.length cV) by simp [go_sem])
        have hrow2 := (Chg.of_below (S := fun _ => False) hb3).row HROW.out (fun g hg => id)
        obtain ⟨d0,d1⟩ := row_cells hrow2 (rowAt_len p Z k) (i := (keepN (onF p) (Z.take k)).length) (by rw [rowAt_len]; exact HIL.out)
        have dz := World.ownsRow.frozenAt hrow2
        have HROW2 := Lib.hid (row_put (z := Z[k]) (i := (keepN (onF p) (Z.take k)).length) hrow2 (by rw [rowAt_len]; exact HIL.out))
        rw [HV2.out,← HD.out.1] at HROW2
        have HB3 := Lib.hid hb3
        clear hcall c0 c1 hrow2 hb3 hb2
        go_wp2
        go_roundw
        case rel => exact ⟨k + 1,by omega,by go_num,by rw [HD.out.2]; go_num,HROW2.out,Lib.hid (((HC.out.then_below (HB3.out.mono hz)).setCell (p := ⟨q,(keepN (onF p) (Z.take k)).length * 2,none⟩) rfl _).setCell (p := ⟨q,(keepN (onF p) (Z.take k)).length * 2 + 1,none⟩) rfl _),Lib.hid (HGI.out.2 _ _ _ (HGI.out.2 _ _ _ (HGI.out.1 _ _ HGw.out HB3.out)))⟩
        case measure => simp [intOf]; omega
    · obtain rfl : k = Z.length := by omega
      generalize hi0 : (keepN (onF p) (List.take Z.length Z)).length = i0 at *
      have hti : i0 < Z.length := HLT.out
      have hA : keepN (onF p) (Z.take Z.length) = keepN (onF p) Z := by rw [List.take_of_length_le (Nat.le_refl _)]
      have hi0' : (keepN (onF p) Z).length = i0 := by rw [← hA]; exact hi0
      have hcl : ∀ ty,(Builtin.clear_ #[25] ty #[.slice (some ⟨q,i0 * 2,none⟩) (Z.length - i0) (Z.length - i0)]).run Tryz.prog wr = .ok (.tuple #[]) (wr.setCells q (i0 * 2) ((List.replicate (Z.length - i0) (zeroFct,(Value.slice none 0 0))).flatMap zCells)) :=
       fun ty => run_clear_facts Tryz.underlying25 zeroFct_val q _ _ _ (by omega) (fun j hj => by
        rw [World.ownsRow.cellAt hrow _ (by omega),List.getElem?_eq_getElem (by rw [hrow.1]; omega)]; rfl) (World.ownsRow.frozenAt hrow)
      have hfin : (wr.setCells q (i0 * 2) ((List.replicate (Z.length - i0) (zeroFct,(Value.slice none 0 0))).flatMap zCells)).ownsRow B 66 2 (.slice (some ⟨q,0,none⟩) (keepN (onF p) Z).length Z.length) (keepN (onF p) Z).length ((keepN (onF p) Z).flatMap zCells) := by
       have h1 := ownsRow_cut (ownsRow_setCells ((List.replicate (Z.length - i0) (zeroFct,(Value.slice none 0 0))).flatMap zCells) (i0 * 2) hrow) (i := i0) (by omega)
       rw [setMany_take] at h1
       have e : ((rowAt p Z Z.length).flatMap zCells).take (i0 * 2) = (keepN (onF p) (Z.take Z.length)).flatMap zCells := by
        unfold rowAt
        rw [List.flatMap_append,List.take_left' (by rw [flat_len zCells 2 zCells_len,hi0])]
       rw [e,hA] at h1
       rw [hi0']
       exact h1
      have hCF := HC.out.trans (chg_setCells ((List.replicate (Z.length - i0) (zeroFct,(Value.slice none 0 0))).flatMap zCells) (i0 * 2) wr)
      have hEL := elems_chg (e := 66) (by decide) HZ1.out HZ2.out hCF
      have HFIN := Lib.hid (show FactSO 66 B C (.slice (some ⟨q,0,none⟩) i0 Z.length) ((keepN (onF p) Z).map Prod.snd) ((keepN (onF p) Z).map Prod.fst) _ from by rw [hi0'] at hfin; exact FactSO.ofZ (by rw [hi0']; exact hfin) (fun g hg => by cases hg; exact hqC) (fun z hz => hEL z (List.mem_filter.1 hz).1) (by
       have h1 := HZ34.out.2.2
       rw [← HZ34.out.2.1] at h1
       exact h1.sublist ((List.filter_sublist (l := Z)).map Prod.snd)))
      have HCF := Lib.hid hCF
      have hdk : ¬ (Z.length - i0 = 0) := by omega
      have HA := Lib.hid hi0'
      clear hfin hCF hEL hrow hA hi0 hi0'
      go_wp2
      go_ret
      have hlen : (keepN p l).length = (keepN (onF p) Z).length := by rw [← HKL.out,List.length_map]
      refine ⟨(keepN (onF p) Z).map Prod.snd,?_,?_,HCF.out⟩
      · rw [hlen,HA.out]; rfl
      · rw [hlen,HA.out,← HKL.out]; exact HFIN.out
def BoxR (b0 b1 D : Nat) (l : List Rel) (V : Value) (s : Bool) (W : World) : Prop := (b0 < D ∧ b1 < D ∧ D ≤ W.heap.size) ∧ W.cell? ⟨b0, 0, none⟩ = some V ∧ W.cell? ⟨b1, 0, none⟩ = some (.bool s) ∧ RelsAt W D V l
theorem BoxR.below {b0 b1 D D' : Nat} {l : List Rel} {V : Value} {s : Bool} {W W' : World} (h : BoxR b0 b1 D l V s W) (hb : Below D' W W') (hD : D ≤ D') : BoxR b0 b1 D l V s W' := by
 obtain ⟨⟨h1,h2,h3⟩,h4,h5,h6⟩ := h
 exact ⟨⟨h1,h2,Nat.le_trans h3 hb.size⟩,(hb.cell (p := ⟨b0,0,none⟩) (Nat.lt_of_lt_of_le h1 hD)).trans h4,(hb.cell (p := ⟨b1,0,none⟩) (Nat.lt_of_lt_of_le h2 hD)).trans h5,h6.below hb hD⟩
theorem BoxR.later {b0 b1 D : Nat} {l : List Rel} {V : Value} {s : Bool} {W W' : World} (h : BoxR b0 b1 D l V s W) (hb : Below W.heap.size W W') : BoxR b0 b1 D l V s W' := h.below hb h.1.2.2
theorem BoxR.store {b0 b1 D q : Nat} {l : List Rel} {V : Value} {s : Bool} {W : World} (h : BoxR b0 b1 D l V s W) (hq : D ≤ q) (o : Nat) (u : Value) : BoxR b0 b1 D l V s (W.setCell ⟨q, o, none⟩ u) :=
 h.below ((Below.refl D W).setCell (p := ⟨q,o,none⟩) hq u) (Nat.le_refl _)
set_option maxHeartbeats 800000 in
theorem tells_restrict (b0 b1 D : Nat) (rels : List Rel) (P : Option Addr) (c : Nat) (s : Bool) (l : List Fct) (hin : ∀ f ∈ l, 0 ≤ f.rel ∧ f.rel < rels.length) : TellsF 102 #[.pointer (some ⟨b0, 0, none⟩), .pointer (some ⟨b1, 0, none⟩)] (BoxR b0 b1 D rels (.slice P rels.length c) s) (fun f => !srcP rels s f) l := by
 intro W x U hG hx hU
 obtain ⟨⟨h1,h2,h3⟩,h4,h5,h6⟩ := hG
 obtain ⟨Q,d,rfl,-⟩ := id hU
 have hxi := hin x hx
 obtain ⟨k,hkr⟩ : ∃ k : Nat,x.rel = (k : Int) := ⟨x.rel.toNat,by omega⟩
 have hk : k < rels.length := by omega
 obtain ⟨_,_,hv6,h7,h8,-⟩ := id h6
 injection hv6 with e1 _ e2
 subst e1 e2
 unfold maxLen at h8
 obtain ⟨b,off,rfl,hb,-,-,c2⟩ := RelsAt.elem h6 k hk
 have HV := Lib.hid (show (rels[k].source != s) = (!srcP rels s x) by unfold srcP; rw [relSrc_at hk hkr]; rfl)
 obtain ⟨E,hEq⟩ : ∃ E,E = W.alloc (.cells #[.int .i64 (k : Int),.slice Q x.vals.length d] 66) := ⟨_,rfl⟩
 have hE : Below W.heap.size W E := by rw [hEq]; exact below_more (Below.refl _ _) _
 have hEz : W.heap.size < E.heap.size := by rw [hEq]; simp
 have F0 := Aft.cell (B := E.heap.size) (w := E) (b := W.heap.size) (o := 0) (x := some (.int .i64 (k : Int))) hEz (by rw [hEq]; simp [go_sem])
 have G0 := Aft.cell (B := E.heap.size) (w := E) (show b0 < _ by omega) ((hE.cell (p := ⟨b0,0,none⟩) (by show b0 < _; omega)).trans h4)
 have G1 := Aft.cell (B := E.heap.size) (w := E) (show b1 < _ by omega) ((hE.cell (p := ⟨b1,0,none⟩) (by show b1 < _; omega)).trans h5)
 have C2 := Aft.cell (B := E.heap.size) (w := E) (show b < _ by omega) ((hE.cell (p := ⟨b,off + k * 3 + 2,none⟩) (by show b < _; omega)).trans c2)
 show Calls Tryz.prog 102 #[.agg #[.int .i64 x.rel,.slice Q x.vals.length d],.pointer (some ⟨b0,0,none⟩),.pointer (some ⟨b1,0,none⟩)] W _
 rw [hkr]
 clear hkr hU h4 h5 c2 hxi hx hin
 generalize rels[k].source = so at *
 go_enter Tryz.func102,Tryz.ntmps102
 go_wp2
 rw [← hEq]
 clear hEq
 refine wp_region_aft (Below.refl E.heap.size E) (by kernel_rfl) (by kernel_rfl) ?_
 repeat (go_big_quiet_step (fail))
 refine wpQuiet_nil ?_
 refine aft_end ?_
 intro w3 hh
 go_wp2
 go_ret
 exact ⟨ret_bool HV.out,hE.trans (hh.mono hE.size)⟩
set_option maxHeartbeats 3200000 in
set_option maxRecDepth 100000 in
theorem implRestrict_any (v : Value) (x : Inst) (src : Bool) (w : World) (h : Instance_at w w.heap.size v x) (hw : Instance_wf x) (hn : Instance_sz x ≤ 1048576) :
 Calls Tryz.prog 49 #[v,.bool src] w fun e w' => ∃ u,e = .returned u ∧ Instance_own w.heap.size w'.heap.size u (Restrict_r0 x src) w' ∧ Below w.heap.size w w' := by
 obtain ⟨P,c,Q,d,rfl⟩ := Instance_form h
 have HX := Lib.hid h
 have HR := Lib.hid (show RelsAt w w.heap.size (.slice P x.rels.length c) x.rels by
  obtain ⟨V1,V2,hv,hR,hF⟩ := h
  simp only [Value.agg.injEq,Array.mk.injEq,List.cons.injEq,and_true] at hv
  obtain ⟨rfl,rfl⟩ := hv
  exact hR)
 clear h
 obtain ⟨E,hEq⟩ : ∃ E,E = (((w.alloc (.cells #[.slice P x.rels.length c,.slice Q x.facts.length d] 27)).alloc (.cells #[.bool src] 4)).alloc (.cells #[.slice none 0 0,.slice none 0 0] 27)) := ⟨_,rfl⟩
 have hE : Below w.heap.size w E := by rw [hEq]; exact below_more (below_more (below_more (Below.refl _ _) _) _) _
 have HE := Lib.hid (show w.heap.size + 3 = E.heap.size by rw [hEq]; simp)
 have K0 := Lib.hid (show E.cell? ⟨w.heap.size,0,none⟩ = some (.slice P x.rels.length c) by rw [hEq]; simp [go_sem])
 have K1 := Lib.hid (show E.cell? ⟨w.heap.size,1,none⟩ = some (.slice Q x.facts.length d) by rw [hEq]; simp [go_sem])
 have KB := Lib.hid (show E.cell? ⟨w.heap.size + 1,0,none⟩ = some (.bool src) by rw [hEq]; simp [go_sem])
 have R0 := Lib.hid (show E.cell? ⟨w.heap.size + 1 + 1,0,none⟩ = some (.slice none 0 0) by rw [hEq]; simp [go_sem])
 have R1 := Lib.hid (show E.cell? ⟨w.heap.size + 1 + 1,1,none⟩ = some (.slice none 0 0) by rw [hEq]; simp [go_sem])
 have RZ := fun o => Lib.hid (show E.frozen? ⟨w.heap.size + 1 + 1,o,none⟩ = false by rw [hEq]; simp [go_sem])
 have hiv := fun (q : Bool) (hq : instOk x = q) => implIsValidInstance_at x q hq (.agg #[.slice P x.rels.length c,.slice Q x.facts.length d]) E ((HX.out.below hE (Nat.le_refl _)).more hE.size) hw
 rw [hEq] at hiv
 cases ho : instOk x with
 | false =>
   have HV := Lib.hid (show Restrict_r0 x src = ⟨[],[]⟩ by unfold Restrict_r0 restrictI; rw [ho]; rfl)
   replace hiv := hiv false ho
   clear ho
   go_enter Tryz.func49,Tryz.ntmps49
   go_wp2_with fail
   refine hiv.mono ?_
   rintro e w1 ⟨rfl,hb1⟩
   rw [← hEq] at hb1
   have r0 := (hb1.cell (p := ⟨w.heap.size + 1 + 1,0,none⟩) (by show w.heap.size + 1 + 1 < _; have := HE.out; omega)).trans R0.out
   have r1 := (hb1.cell (p := ⟨w.heap.size + 1 + 1,1,none⟩) (by show w.heap.size + 1 + 1 < _; have := HE.out; omega)).trans R1.out
   have rz := fun o => (hb1.frozen (p := ⟨w.heap.size + 1 + 1,o,none⟩) (by show w.heap.size + 1 + 1 < _; have := HE.out; omega)).trans (RZ o).out
   have HW := Lib.hid (hE.trans (hb1.mono hE.size))
   clear hiv hEq hb1
   go_wp2
   refine bodyPost_ret (v := .agg #[.slice none 0 0,.slice none 0 0]) (by simp [results,Tryz.results49,go_sem,r0,r1]) rfl ⟨_,rfl,?_,?_⟩
   · rw [HV.out]
     exact ⟨_,_,rfl,⟨OwnRels.nil _ _,fun g hg => by cases hg⟩,⟨[],⟨rfl,World.ownsRow_nil _ _ _ _,(fun g hg => by cases hg),(fun i h => by simp at h),List.Pairwise.nil⟩⟩⟩
   · exact (HW.out.setCell (p := ⟨w.heap.size + 1 + 1,0,none⟩) (by show w.heap.size ≤ w.heap.size + 1 + 1; omega) _).setCell (p := ⟨w.heap.size + 1 + 1,1,none⟩) (by show w.heap.size ≤ w.heap.size + 1 + 1; omega) _
 | true =>
   have HV := Lib.hid (restrict_keep src ho)
   have HIN := Lib.hid (fun f (hf : f ∈ x.facts) => (factOk_parts (instOk_fact ho f hf)).2.1)
   have h30 := (instOk_parts ho).2.2
   replace hiv := hiv true ho
   clear ho
   go_enter Tryz.func49,Tryz.ntmps49
   go_wp2_with fail
   refine hiv.mono ?_
   rintro e w1 ⟨rfl,hb1⟩
   rw [← hEq] at hb1
   have hW1 := hE.trans (hb1.mono hE.size)
   have f0 := (hb1.cell (p := ⟨w.heap.size,0,none⟩) (by show w.heap.size < _; have := HE.out; omega)).trans K0.out
   have f1 := (hb1.cell (p := ⟨w.heap.size,1,none⟩) (by show w.heap.size < _; have := HE.out; omega)).trans K1.out
   have HB1 := Lib.hid hb1
   have HW1 := Lib.hid hW1
   have hcp := implCopyInstance_any (.agg #[.slice P x.rels.length c,.slice Q x.facts.length d]) x w1 ((HX.out.below hW1 (Nat.le_refl _)).more hW1.size) hn
   have hz1 : w.heap.size + 3 ≤ w1.heap.size := by have h1 := hb1.size; have h2 := HE.out; omega
   have HBX := Lib.hid (show BoxR w.heap.size (w.heap.size + 1) w1.heap.size x.rels (.slice P x.rels.length c) src w1 from ⟨⟨by omega,by omega,Nat.le_refl _⟩,f0,(hb1.cell (p := ⟨w.heap.size + 1,0,none⟩) (by show w.heap.size + 1 < _; have := HE.out; omega)).trans KB.out,(SliceAt.below HR.out hW1 (Nat.le_refl _)).more hW1.size⟩)
   clear hiv hEq hb1 hW1
   go_wp2_with fail
   refine hcp.mono ?_
   rintro e w2 ⟨P2,c2,g,Vs,rfl,hR2,hO2,hb2⟩
   have hz2 := hb2.size
   have hg1 : w1.heap.size ≤ g := (World.ownsRow.lt hO2.row g rfl).1
   have hg2 : g < w2.heap.size := hO2.ins g rfl
   obtain ⟨W3,hW3⟩ : ∃ W3,W3 = w2.alloc (.cells #[.slice P2 x.rels.length c2,.slice (some ⟨g,0,none⟩) x.facts.length x.facts.length] 27) := ⟨_,rfl⟩
   have hb3 : Below w2.heap.size w2 W3 := by rw [hW3]; exact below_more (Below.refl _ _) _
   have hz3 : w2.heap.size < W3.heap.size := by rw [hW3]; simp
   have HY0 := Lib.hid (show W3.cell? ⟨w2.heap.size,0,none⟩ = some (.slice P2 x.rels.length c2) by rw [hW3]; simp [go_sem])
   have y1 : W3.cell? ⟨w2.heap.size,1,none⟩ = some (.slice (some ⟨g,0,none⟩) x.facts.length x.facts.length) := by rw [hW3]; simp [go_sem]
   have HYZ := fun o => Lib.hid (show W3.frozen? ⟨w2.heap.size,o,none⟩ = false by rw [hW3]; simp [go_sem])
   have HR3 := Lib.hid (hR2.below hb3 (Nat.le_refl _))
   have HO3 := Lib.hid (hO2.below hb3 (Nat.le_refl _))
   have HB2 := Lib.hid hb2
   have HB3 := Lib.hid hb3
   have hdf := implDelF_any 102 #[.pointer (some ⟨w.heap.size,0,none⟩),.pointer (some ⟨w.heap.size + 1,0,none⟩)] (enters_of Tryz.func102 (by kernel_rfl) rfl) (BoxR w.heap.size (w.heap.size + 1) w1.heap.size x.rels (.slice P x.rels.length c) src) (fun _ _ h hb => h.later hb) (fun f => !srcP x.rels src f) x.facts w1.heap.size w2.heap.size g Vs W3 ((HBX.out.below hb2 (Nat.le_refl _)).below hb3 hz2) (tells_restrict _ _ _ _ _ _ _ _ HIN.out) (by omega) hb3.size (fun W o u h => h.store hg1 o u) HO3.out
   clear hcp f0 f1 hR2 hO2 hb2 hb3
   go_wp2_with fail
   rw [← hW3]
   refine hdf.mono ?_
   rintro e w4 ⟨Us,rfl,hO4,hC4⟩
   have hR4 := rels_keep HR3.out HO3.out rfl hC4
   have hz4 := hC4.size
   have y0 := (hC4.cell (b := w2.heap.size) (o := 0) hz3 (by show ¬ (w2.heap.size = g); omega)).trans HY0.out
   have y1' := (hC4.cell (b := w2.heap.size) (o := 1) hz3 (by show ¬ (w2.heap.size = g); omega)).trans y1
   have yz := fun o => (hC4.frozen (b := w2.heap.size) (o := o) hz3 (by show ¬ (w2.heap.size = g); omega)).trans (HYZ o).out
   have hEW : Below E.heap.size E w4 := HB1.out.trans (((HB2.out.trans (HB3.out.mono hz2)).trans (hC4.below (fun k hk => by show w1.heap.size ≤ k; omega) (by omega))).mono HB1.out.size)
   have r0 := (hEW.cell (p := ⟨w.heap.size + 1 + 1,0,none⟩) (by show w.heap.size + 1 + 1 < _; have := HE.out; omega)).trans R0.out
   have r1 := (hEW.cell (p := ⟨w.heap.size + 1 + 1,1,none⟩) (by show w.heap.size + 1 + 1 < _; have := HE.out; omega)).trans R1.out
   have rz := fun o => (hEW.frozen (p := ⟨w.heap.size + 1 + 1,o,none⟩) (by show w.heap.size + 1 + 1 < _; have := HE.out; omega)).trans (RZ o).out
   have HR4 := Lib.hid hR4
   have HO4 := Lib.hid hO4
   have HW4 := Lib.hid (hE.trans (hEW.mono hE.size))
   have hYR : ¬ (w2.heap.size = w.heap.size + 1 + 1) := by omega
   clear hdf hC4 hR4 hO4 hEW y1 hW3
   generalize keepN (fun f => !srcP x.rels src f) x.facts = L at *
   have HST : ∀ u1 u2 u3,Hid (Chg (fun k => w2.heap.size ≤ k ∨ k = w.heap.size + 1 + 1) w4 (((w4.setCell ⟨w2.heap.size,1,none⟩ u1).setCell ⟨w.heap.size + 1 + 1,0,none⟩ u2).setCell ⟨w.heap.size + 1 + 1,1,none⟩ u3)) := fun u1 u2 u3 => Lib.hid ((((Chg.refl _ w4).setCell (p := ⟨w2.heap.size,1,none⟩) (.inl (Nat.le_refl _)) _).setCell (p := ⟨w.heap.size + 1 + 1,0,none⟩) (.inr rfl) _).setCell (p := ⟨w.heap.size + 1 + 1,1,none⟩) (.inr rfl) _)
   go_wp2
   have hf := (HST (.slice (some ⟨g,0,none⟩) L.length x.facts.length) (.slice P2 x.rels.length c2) (.slice (some ⟨g,0,none⟩) L.length x.facts.length)).out
   refine bodyPost_ret (v := .agg #[.slice P2 x.rels.length c2,.slice (some ⟨g,0,none⟩) L.length x.facts.length]) (by simp [results,Tryz.results49,go_sem,r0,r1]) rfl ⟨_,rfl,?_,?_⟩
   · rw [show Restrict_r0 x src = restrictI x src from rfl,HV.out]
     refine ⟨_,_,rfl,(HR4.out.chgS hf (fun k hk => by omega)).mono (by omega) ?_,⟨Us,(HO4.out.chgS hf (fun k hk => by omega)).mono (by omega) ?_⟩⟩
     · have := hf.size; omega
     · have := hf.size; omega
   · exact HW4.out.trans (hf.below (fun k hk => by omega) HW4.out.size)
end Go.Proofs.YtobdijcnfmgidaaGreat
