/-
  Walks and plain lemmas for the laws of this seat: what single Go functions return, for every argument.
-/
import Derived.Test.YtmecdjincmkofaaGreatDoorMem
import Derived.Test.YtmecdjincmkofaaGreatDoorTyDepS
import Derived.Test.YtmecdjincmkofaaGreatDoorTyInst
import Derived.Test.YtmecdjincmkofaaGreatDoorFact
import Derived.Test.YtmecdjincmkofaaGreatDoorMInst
import Derived.Test.YtmecdjincmkofaaGreatDoorVarsM
import Derived.Test.YtmecdjincmkofaaGreatDoorAft
import Derived.Test.YtmecdjincmkofaaGreatDoorInstU2
import Derived.Test.YtmecdjincmkofaaGreatDoorDrawR
import Derived.Test.YtmecdjincmkofaaGreatDoorDrawY9
namespace Go.Proofs.YtmecdjincmkofaaGreatDoor
open Go.RowKit

/-- what a draw makes is small -/
def InstSmall (n : Nat) (x : Inst) : Prop := (x.rels.length ≤ 5 ∧ ∀ r ∈ x.rels, RelSmall r) ∧ x.facts.length ≤ n ∧ ∀ f ∈ x.facts, FctSmall f
theorem InstSmall.more {n m : Nat} {x : Inst} (h : InstSmall n x) (hm : n ≤ m) : InstSmall m x := ⟨h.1, Nat.le_trans h.2.1 hm, h.2.2⟩
theorem FctSmall.wf {f : Fct} (h : FctSmall f) : Fact_wf f := by
  obtain ⟨⟨h1, h2⟩, _, h4⟩ := h
  refine ⟨⟨by omega, by omega⟩, ?_⟩
  intro i hi
  have := h4 _ (List.getElem_mem hi)
  omega
theorem InstSmall.wf {n : Nat} {x : Inst} (h : InstSmall n x) : Instance_wf x := by
  refine ⟨fun i hi => ?_, fun i hi => (h.2.2 _ (List.getElem_mem hi)).wf⟩
  have := (h.1.2 _ (List.getElem_mem hi)).1
  unfold maxLen
  omega
theorem valsLen_small (l : List Fct) (h : ∀ f ∈ l, FctSmall f) : valsLen l ≤ 3 * l.length := valsLen_le3 l (fun f hf => (h f hf).2.1)
theorem relsLen_small (l : List Rel) (h : ∀ r ∈ l, RelSmall r) : relsLen l ≤ 2 * l.length := by
  induction l with
  | nil => simp [relsLen]
  | cons a t ih =>
    have h1 := (h a (by simp)).1
    have h2 := ih (fun r hr => h r (by simp [hr]))
    simp only [relsLen, List.length_cons]; omega
theorem InstSmall.sz {n : Nat} {x : Inst} (h : InstSmall n x) (hn : n ≤ 1000) : Instance_sz x ≤ 10000 := by
  have h1 := valsLen_small x.facts h.2.2
  have h2 := relsLen_small x.rels h.1.2
  have h3 := h.1.1
  have h4 := h.2.1
  unfold Instance_sz RelationS_sz FactS_sz; omega
theorem InstSmall.put {n : Nat} {x : Inst} {f : Fct} (h : InstSmall n x) (hf : FctSmall f) : InstSmall (n + 1) ⟨x.rels, putF x.facts f⟩ := by
  refine ⟨h.1, ?_, fun g hg => ?_⟩
  · have := putF_le x.facts f
    have := h.2.1
    show (putF x.facts f).length ≤ n + 1
    omega
  · rcases (putF_iff x.facts f g).1 hg with rfl | hg
    · exact hf
    · exact h.2.2 g hg
theorem putF_pos1 (l : List Fct) (f : Fct) : 0 < (putF l f).length := List.length_pos_of_mem ((putF_iff l f f).2 (.inl rfl))
/-- the row of the facts of an instance without facts is nil, or it begins its block -/
def Putable (v : Value) (x : Inst) : Prop := x.facts.length = 0 → ∃ V1 Q d, v = .agg #[V1, .slice Q 0 d] ∧ ((Q = none ∧ d = 0) ∨ ∃ g, Q = some ⟨g, 0, none⟩) ∧ d ≤ maxLen
theorem Putable.pos {v : Value} {x : Inst} (h : 0 < x.facts.length) : Putable v x := fun h0 => absurd h0 (by omega)
theorem Putable.own {B C : Nat} {v : Value} {x : Inst} {w : World} (h : Instance_own B C v x w) : Putable v x := fun h0 => by
  obtain ⟨V1, V2, rfl, _, Vs, hF⟩ := h
  have hl : (pairs x.facts Vs).length = 0 := (pairs_len hF.len).trans h0
  have hr := hF.row
  rw [hl] at hr
  obtain ⟨-, hr⟩ := hr
  rcases hr with ⟨rfl, -⟩ | ⟨g, cap, cur, rfl, -, -, -, h6, -⟩
  · exact ⟨_, _, _, rfl, .inl ⟨rfl, rfl⟩, by decide⟩
  · exact ⟨_, _, _, rfl, .inr ⟨g, rfl⟩, h6⟩
theorem specL5Put_z (A : Nat) (v u : Value) (x : Inst) (y : Fct) (w : World) (hA : A ≤ w.heap.size) (hlo : Instance_lo A w w.heap.size v x) (hP : Putable v x) (hn : x.facts.length ≤ 1048576) (h' : Fact_at w w.heap.size u y) (hyn : Fact_sz y ≤ 1048576) :
    Calls Tryz.prog 139 #[v, u] w (GivesLo A x y w) := by
  rcases Nat.eq_zero_or_pos x.facts.length with h0 | h0
  · obtain ⟨V1, Q, d, rfl, hQ, hd⟩ := hP h0
    obtain ⟨U1, U2, Vs, hv, hR, l1, -⟩ := hlo
    simp only [Value.agg.injEq, Array.mk.injEq, List.cons.injEq, and_true] at hv
    obtain ⟨rfl, -⟩ := hv
    obtain ⟨P, c, rfl, -⟩ := hR.form
    have e : x = ⟨x.rels, []⟩ := by
      cases x with
      | mk r f => simp only [Inst.mk.injEq, true_and]; exact List.eq_nil_of_length_eq_zero h0
    have := specL5Put_elo A u x.rels y P c Q d w hA l1 hR hQ hd h' hyn
    rw [← e] at this
    exact this
  · exact specL5Put_lo A v u x y w hA h0 hlo hn h' hyn
theorem row_apart {w : World} {B k n b : Nat} {e e' : TypeId} {v : Value} {xs : List Value} {cs : Array Value} (h : w.ownsRow B e k v n xs) (hb : w.heap[b]? = some (.cells cs e' (0, 0))) (hne : e ≠ e') : v.ownBlock ≠ some b := by
  rcases h.2 with ⟨rfl, _⟩ | ⟨g, cap, cur, rfl, _, hh, _⟩
  · simp [Value.ownBlock]
  · intro e1
    simp only [Value.ownBlock, Option.some.injEq] at e1
    subst e1
    rw [hh] at hb
    injection hb with h1
    injection h1 with _ h2 _
    exact hne h2
/-- a store into a row of relations leaves the facts -/
theorem FactS_own.offRel {B C B' q n cap : Nat} {v : Value} {l : List Fct} {rl : List Rel} {w w' : World} (h : FactS_own B C v l w) (hR : OwnRels B' (.slice (some ⟨q, 0, none⟩) n cap) rl w) (hc : Chg (fun k => k = q) w w') : FactS_own B C v l w' := by
  obtain ⟨Vs, h⟩ := h
  have hb : ∃ cs, w.heap[q]? = some (.cells cs 113 (0, 0)) := by
    rcases hR.2 with ⟨h0, _⟩ | ⟨g, cap', cur, h0, _, hh, _⟩
    · cases h0
    · injection h0 with h1 _ _
      injection h1 with h1
      injection h1 with h1 _ _
      subst h1
      exact ⟨_, hh⟩
  obtain ⟨cs, hb⟩ := hb
  exact ⟨Vs, h.len, hc.row h.row (fun g hg e => by have e' : g = q := e; subst e'; exact row_apart h.row hb (by decide) hg), h.ins, fun i h1 h2 => ⟨(h.el i h1 h2).1.chg hc (fun g hg e => by have e' : g = q := e; subst e'; exact row_apart (k := 1) (e := 3) (h.el i h1 h2).1 hb (by decide) hg), (h.el i h1 h2).2⟩, h.dis⟩
theorem chg_of_grown {p : Nat} {w w' : World} (hg : w.grownBy w' (some p)) : Chg (Mid p (p + 1)) w w' :=
  ⟨hg.os, hg.tape, hg.output, hg.size, fun k hk hn => hg.block k hk (by intro e; injection e with e; exact hn ⟨by omega, by omega⟩)⟩
theorem Instance_lo.less {A A' B : Nat} {w : World} {v : Value} {x : Inst} (h : Instance_lo A w B v x) (hA : A' ≤ A) : Instance_lo A' w B v x := by
  obtain ⟨V1, V2, Vs, rfl, h1, l1, l2, h2, h3, h4, l3⟩ := h
  exact ⟨V1, V2, Vs, rfl, h1, fun g hg => Nat.le_trans hA (l1 g hg), fun g hg => Nat.le_trans hA (l2 g hg), h2, h3, h4, fun V hV g hg => Nat.le_trans hA (l3 V hV g hg)⟩
theorem Instance_lo.dropRel {A B q c : Nat} {w : World} {V2 : Value} {x : Inst} (h : Instance_lo A w B (.agg #[.slice (some ⟨q, 0, none⟩) x.rels.length c, V2]) x) (j : Nat) (hj : j ≤ x.rels.length) :
    Instance_lo A w B (.agg #[.slice (some ⟨q, 0 + j * 3, none⟩) (x.rels.drop j).length (c - j), V2]) ⟨x.rels.drop j, x.facts⟩ := by
  obtain ⟨U1, U2, Vs, hv, h1, l1, l2, h2, h3, h4, l3⟩ := h
  simp only [Value.agg.injEq, Array.mk.injEq, List.cons.injEq, and_true] at hv
  obtain ⟨rfl, rfl⟩ := hv
  exact ⟨_, _, Vs, rfl, SliceAt.drop relCells_len h1 j hj, fun g hg => l1 g hg, l2, h2, h3, h4, l3⟩
theorem Inst5_form {w : World} {B : Nat} {v : Value} {L : List Fct} (h : Instance_at w B v ⟨sigs5, L⟩) : ∃ P c Q d, v = .agg #[.slice P 5 c, .slice Q L.length d] := Instance_form h

theorem DepSmall.mono {n k : Nat} {x : Dep} (h : DepSmall n x) (hk : n ≤ k) : DepSmall k x := ⟨h.1, ⟨Nat.le_trans h.2.1.1 hk, h.2.1.2⟩, h.2.2⟩
theorem dep9_vals {B C : Nat} {X : DepX} {x : Dep} {w : World} (h : DepOwn B C X x w) : ∃ Y1 y1 Y2 y2, X.1.1 = .slice Y1 x.body.length y1 ∧ X.2.1 = .slice Y2 x.head.length y2 := by
  obtain ⟨Y1, y1, h1, -, -⟩ := (h.1.at_ (Nat.le_refl _)).form
  obtain ⟨Y2, y2, h2, -, -⟩ := (h.2.1.at_ (Nat.le_refl _)).form
  exact ⟨Y1, y1, Y2, y2, h1, h2⟩
theorem dep9_one {Y1 Y2 : Option Addr} {n m y1 y2 : Nat} {q : Bool} {l r : Int} : ∀ u ∈ dCells ⟨.slice Y1 n y1, .slice Y2 m y2, q, l, r⟩, u.oneCell' = true := by
  intro u hu
  simp [dCells] at hu
  rcases hu with rfl | rfl | rfl | rfl | rfl <;> rfl
set_option maxHeartbeats 3200000 in
set_option maxRecDepth 100000 in
theorem l9Rules_c (p : Nat) (cv : Value) (code : List UInt8) (st : DrawSt) (w : World) (hC : CurS w p cv code st) :
    Calls Tryz.prog 157 #[.pointer (some ⟨p, 0, none⟩)] w fun e w' => ∃ u Xs xs, e = .returned u ∧ DependencySO 37 w.heap.size w'.heap.size u Xs xs w' ∧ xs.length ≤ 4 ∧ (∀ x ∈ xs, DepSmall 3 x) ∧ (∃ st', CurS w' p cv code st') ∧ w.grownBy w' (some p) := by
  have hp := Cur.lt hC
  have hCE : CurS (w.alloc (.cells #[] 37)) p cv code st := Cur.alloc hC _
  have hO0 := DependencySO.empty 37 w
  have hGE : w.grownBy (w.alloc (.cells #[] 37)) (some p) := World.grownBy_alloc w _ (some p)
  have hcon := l1Below_r p cv code st 4 _ hCE
  have hbd := belowR_bd code st 4
  go_enter Tryz.func157, Tryz.ntmps157
  go_wp2_with fail
  refine hcon.mono ?_
  rintro e w1 ⟨rfl, hC1, hg1⟩
  generalize belowR code st 4 = bb at *
  obtain ⟨nn, st1⟩ := bb
  dsimp only at *
  obtain ⟨n0, hn0⟩ : ∃ n0 : Nat, 1 + nn = (n0 : Int) := ⟨(1 + nn).toNat, by have := hbd.1; omega⟩
  have hnn1 := hbd.1
  have hnn2 := hbd.2 (by omega)
  have hn4 : n0 ≤ 4 := by omega
  have hz1 := hg1.size
  have HG1 := Lib.hid (hGE.trans hg1)
  have HO1 := Lib.hid ((hO0.chg (chg_of_grown hg1) (.inr (by omega))).mono (Nat.le_refl _) (show w.heap.size + 1 ≤ w1.heap.size by simpa using hz1))
  clear hcon hbd hO0 hGE hCE hg1
  go_wp2_with fail
  clear hn0 hnn1 hnn2 hz1
  go_loopw [3, 4] (fun o i wr => ∃ (m : Nat) (Xs : List DepX) (xs : List Dep) (st' : DrawSt), i = .int .i64 (m : Int) ∧ xs.length + m ≤ 4 ∧ Hid (DependencySO 37 w.heap.size wr.heap.size o Xs xs wr) ∧ Hid (∀ x ∈ xs, DepSmall 3 x) ∧ CurS wr p cv code st' ∧ Hid (w.grownBy wr (some p))) (fun _ i _ => (intOf i).toNat)
  case atStart => exact ⟨n0, [], [], st1, rfl, by simp; omega, HO1, Lib.hid (fun x hx => absurd hx (by simp)), hC1, HG1⟩
  case round =>
    clear hC1 HO1 HG1
    obtain ⟨m, Xs, xs, st', rfl, hm4, HO, HS, hCr, HG⟩ := hrel
    obtain ⟨oP, oc, rfl, -, -⟩ := (HO.out.at_ (Nat.le_refl _)).form
    have hzr := HG.out.size
    by_cases hlt : 0 < m
    · have e1 : decide ((0 : Int) < (m : Int)) = true := decide_eq_true (by omega)
      have e2 : decide (0 < m) = true := decide_eq_true hlt
      go_wp2_with fail
      refine (l9Rule_c p cv code st' wr hCr).mono ?_
      rintro e w2 ⟨X, x, rfl, hX, hs, ⟨st2, hC2⟩, hg2⟩
      obtain ⟨Y1, y1, Y2, y2, hY1, hY2⟩ := dep9_vals hX
      unfold DVal9
      rw [hY1, hY2]
      have hz2 := hg2.size
      have HX := Lib.hid hX
      have HY := Lib.hid (And.intro hY1 hY2)
      have HO2 := Lib.hid ((HO.out.chg (chg_of_grown hg2) (.inr (by omega))).mono (Nat.le_refl _) hz2)
      have HG2 := Lib.hid (HG.out.trans hg2)
      have hdl := dZip_len (l := xs) (Ps := Xs.map DepX.vals) (by rw [List.length_map, HO2.out.len])
      have hbd1 : ((dZip xs (Xs.map DepX.vals)).length + 1) * 72 ≤ 140737488355328 := by rw [hdl]; omega
      have hbd2 : (dZip xs (Xs.map DepX.vals)).length < 140737488355328 := by rw [hdl]; omega
      have hbd3 : w.heap.size ≤ w2.heap.size := HG2.out.size
      clear hdl hX hY1 hY2 hg2
      go_wp2_with (at_builtin; refine wp_own_app_one dCells 5 72 dCells_len Tryz.underlying25 infoDep rfl (by decide) HO2.out.row rfl _ _ rfl rfl ⟨.slice Y1 x.body.length y1, .slice Y2 x.head.length y2, x.egd, x.left, x.right⟩ dep9_one 1 rfl hbd1 hbd2 hbd3 ?_; intro v8 w8 hrow hB8 hg8)
      have hz8 := hg8.size
      have hre : (⟨.slice Y1 x.body.length y1, .slice Y2 x.head.length y2, x.egd, x.left, x.right⟩ : DepC) = depC x X.vals := by
        unfold depC DepX.vals
        rw [HY.out.1, HY.out.2]
      rw [hre] at hrow
      have hFS := DependencySO.snoc (e := 37) (by decide) (by decide) (x := x) (X := X) (C' := w8.heap.size) HO2.out hz8 hrow hg8 (row_inside hrow (Nat.le_refl _)) (HX.out.mono hzr hz8) (fun i hi q h1 h2 => by
        have h3 := (HX.out.foot q h2).1
        have h4 := ((HO.out.el i (by have := HO.out.len; omega) hi).foot q h1).2
        omega)
      have HFS := Lib.hid hFS
      have HB8 := Lib.hid hB8
      clear hre hrow hFS hB8
      go_roundw
      case measure => simp [intOf]; omega
      case rel =>
        refine ⟨m - 1, Xs ++ [X], xs ++ [x], st2, by go_num, by simp; omega, HFS, Lib.hid ?_, Cur.below hC hC2 HB8.out, Lib.hid (grown_of_below HG2.out HB8.out)⟩
        intro z hz
        rcases List.mem_append.1 hz with h | h
        · exact HS.out z h
        · rw [List.mem_singleton.1 h]; exact hs.mono (by decide)
    · obtain rfl : m = 0 := by omega
      go_wp2
      go_ret
      exact ⟨_, Xs, xs, rfl, HO.out, by omega, HS.out, ⟨_, hCr⟩, HG.out⟩

theorem DependencySO.two_at {e : TypeId} (he : e ≠ 3) (he2 : e ≠ 184) {B C D : Nat} {v v' : Value} {Xs : List DepX} {X1 X2 : DepX} {l : List Dep} {x1 x2 : Dep} {w w' : World} (h : DependencySO e B C v Xs l w) (hC : C ≤ D)
    (hrow : w'.ownsRow B e 5 v' (dZip l (Xs.map DepX.vals) ++ [depC x1 X1.vals, depC x2 X2.vals]).length ((dZip l (Xs.map DepX.vals) ++ [depC x1 X1.vals, depC x2 X2.vals]).flatMap dCells)) (hg : w.grownBy w' v.ownBlock) (hin : Value.inside D v')
    (hX1 : DepOwn B D X1 x1 w) (hX2 : DepOwn B D X2 x2 w) : DependencyS_at w' D v' (l ++ [x1, x2]) := by
  have keep : ∀ {U : DepX} {us : Dep}, DepOwn B D U us w → DepOwn B D U us w' := fun hU => hU.kept hg (fun q hq e1 => dFoot_ne he he2 h.row hU q e1 hq)
  have hl : (Xs.map DepX.vals).length = l.length := by rw [List.length_map, h.len]
  have hz : dZip (l ++ [x1, x2]) ((Xs ++ [X1, X2]).map DepX.vals) = dZip l (Xs.map DepX.vals) ++ [depC x1 X1.vals, depC x2 X2.vals] := by
    rw [List.map_append]; unfold dZip; rw [List.zipWith_append hl.symm]; rfl
  refine ⟨(Xs ++ [X1, X2]).map DepX.vals, by simp [h.len], ?_, fun i h1 h2 => ?_⟩
  · rw [hz]; exact SliceAt.inside (SliceAt.of_own hrow) hin
  · rw [List.getElem_map]
    rw [List.length_append] at h1
    by_cases hi : i < l.length
    · have hiv : i < Xs.length := by rw [h.len]; exact hi
      rw [List.getElem_append_left hi, List.getElem_append_left hiv]
      have := keep ((h.el i hi hiv).mono (Nat.le_refl _) hC)
      exact ⟨this.1.at_ (Nat.le_refl _), this.2.1.at_ (Nat.le_refl _)⟩
    · have hix : Xs.length ≤ i := by have := h.len; omega
      rw [List.getElem_append_right (Nat.not_lt.1 hi), List.getElem_append_right hix]
      have h3 : i - Xs.length = i - l.length := by rw [h.len]
      have h4 : i - l.length < 2 := by simp at h1; omega
      simp only [h3]
      obtain ⟨k, hk⟩ : ∃ k, k = i - l.length := ⟨_, rfl⟩
      simp only [← hk]
      rw [← hk] at h4
      rcases (show k = 0 ∨ k = 1 by omega) with rfl | rfl
      · exact ⟨(keep hX1).1.at_ (Nat.le_refl _), (keep hX1).2.1.at_ (Nat.le_refl _)⟩
      · exact ⟨(keep hX2).1.at_ (Nat.le_refl _), (keep hX2).2.1.at_ (Nat.le_refl _)⟩
set_option maxHeartbeats 3200000 in
set_option maxRecDepth 100000 in
theorem drawDeps_c (cv : Value) (code : List UInt8) (w : World) (hc : CodeAt w w.heap.size cv code) (hlen : code.length ≤ 1048576) :
    Calls Tryz.prog 73 #[cv] w fun e w' => ∃ v u xs, e = .returned (.tuple #[v, u]) ∧ (∃ B, w.heap.size < B ∧ OwnRels B v sigs5 w') ∧ DependencyS_at w' w'.heap.size u xs ∧ xs.length ≤ 6 ∧ (∀ x ∈ xs, DepSmall 3 x) ∧ Below w.heap.size w w' := by
  go_enter Tryz.func73, Tryz.ntmps73
  go_wp2_with fail
  refine (l1New_c cv code _ hc hlen).mono ?_; rintro e w1 ⟨rfl, hb1, hC1⟩
  go_wp2_with fail
  refine (l9Rules_c _ cv code _ _ hC1).mono ?_; rintro e w2 ⟨u, Xs, xs, rfl, hO, hl, hs, ⟨st2, hC2⟩, hg2⟩
  have hz1 := hb1.size
  have hz2 := hg2.size
  have hp1 := Cur.lt hC1
  obtain ⟨oP, oc, rfl, -, -⟩ := (hO.at_ (Nat.le_refl _)).form
  have HO := Lib.hid hO
  have HS := Lib.hid hs
  have HB2 := Lib.hid (below_of_draw hb1 hg2)
  clear hO hs hb1 hg2
  go_wp2_with fail
  refine (l1Once_r _ cv code _ _ _ hC2).mono ?_; rintro e w3 ⟨rfl, hC3, hg3⟩
  generalize onceR code st2 4 = o at *
  obtain ⟨ob, st3⟩ := o
  dsimp only at *
  have hz3 := hg3.size
  have HO3 := Lib.hid (HO.out.chg (chg_of_grown hg3) (.inr (by omega)))
  have HB3 := Lib.hid (below_of_draw HB2.out hg3)
  clear HO HB2 hg3 hC2
  cases ob
  · go_wp2_with fail
    refine (l3Sigs_c _).mono ?_; rintro e w4 ⟨rfl, hw4⟩
    have hO4 := sigs5_own w3
    rw [← hw4] at hO4
    have hb4 : Below w3.heap.size w3 w4 := by rw [hw4]; exact (Below.refl _ _).alloc (Nat.le_refl _) _
    clear hw4
    go_wp2_with fail
    refine bodyPost_ret (v := .tuple #[.slice (some ⟨w3.heap.size, 0, none⟩) 5 5, .slice oP xs.length oc]) (by simp [results, Tryz.results73, go_sem]) rfl ?_
    exact ⟨_, _, xs, rfl, ⟨_, by omega, hO4⟩, ((HO3.out.at_ (Nat.le_trans (Nat.le_refl _) hz3)).later hb4), by omega, HS.out, HB3.out.trans (hb4.mono HB3.out.size)⟩
  · go_wp2_with fail
    refine (l9Any_c _ cv code _ _ hC3).mono ?_; rintro e w4 ⟨X1, x1, rfl, hX1, hs1, ⟨st4, hC4⟩, hg4⟩
    have hz4 := hg4.size
    obtain ⟨Y1, y1, Y2, y2, hY1, hY2⟩ := dep9_vals hX1
    unfold DVal9
    rw [hY1, hY2]
    have HO4 := Lib.hid (HO3.out.chg (chg_of_grown hg4) (.inr (by omega)))
    have HB4 := Lib.hid (below_of_draw HB3.out hg4)
    have HX1 := Lib.hid hX1
    have HY1 := Lib.hid (And.intro hY1 hY2)
    have HS1 := Lib.hid hs1
    clear HO3 HB3 hg4 hC3 hX1 hY1 hY2 hs1
    go_wp2_with fail
    refine (l9Any_c _ cv code _ _ hC4).mono ?_; rintro e w5 ⟨X2, x2, rfl, hX2, hs2, ⟨st5, hC5⟩, hg5⟩
    have hz5 := hg5.size
    obtain ⟨Z1, z1, Z2, z2, hZ1, hZ2⟩ := dep9_vals hX2
    unfold DVal9
    rw [hZ1, hZ2]
    have HO5 := Lib.hid (HO4.out.chg (chg_of_grown hg5) (.inr (by omega)))
    have HX15 := Lib.hid (HX1.out.kept hg5 (fun q hq e => by have := (HX1.out.foot q hq).1; have e := Option.some.inj e; omega))
    have HB5 := Lib.hid (below_of_draw HB4.out hg5)
    have HX2 := Lib.hid hX2
    have HY2 := Lib.hid (And.intro hZ1 hZ2)
    have HS2 := Lib.hid hs2
    clear HO4 HB4 hg5 hC4 hX2 hZ1 hZ2 hs2 HX1
    obtain ⟨c1, hc1⟩ : ∃ c : DepC, c = ⟨.slice Y1 x1.body.length y1, .slice Y2 x1.head.length y2, x1.egd, x1.left, x1.right⟩ := ⟨_, rfl⟩
    obtain ⟨c2, hc2⟩ : ∃ c : DepC, c = ⟨.slice Z1 x2.body.length z1, .slice Z2 x2.head.length z2, x2.egd, x2.left, x2.right⟩ := ⟨_, rfl⟩
    obtain ⟨E, hE⟩ : ∃ E, E = w5.alloc (.cells #[.slice Y1 x1.body.length y1, .slice Y2 x1.head.length y2, .bool x1.egd, .int .i64 x1.left, .int .i64 x1.right, .slice Z1 x2.body.length z1, .slice Z2 x2.head.length z2, .bool x2.egd, .int .i64 x2.left, .int .i64 x2.right] 37) := ⟨_, rfl⟩
    have hr : ∀ j u, ([c1, c2].flatMap dCells)[j]? = some u → E.cell? ⟨w5.heap.size, 0 + j, none⟩ = some u := by
      intro j u hu
      rw [Nat.zero_add, hE, box_cell]
      simpa [dCells, hc1, hc2] using hu
    have hone : ∀ x ∈ [c1, c2], ∀ u ∈ dCells x, u.oneCell' = true := by
      intro x hx
      simp only [List.mem_cons, List.not_mem_nil, or_false] at hx
      rcases hx with rfl | rfl
      · rw [hc1]; exact dep9_one
      · rw [hc2]; exact dep9_one
    have hd1 : depC x1 X1.vals = c1 := by unfold depC DepX.vals; rw [HY1.out.1, HY1.out.2, hc1]
    have hd2 : depC x2 X2.vals = c2 := by unfold depC DepX.vals; rw [HY2.out.1, HY2.out.2, hc2]
    have hEB : Below w5.heap.size w5 E := by rw [hE]; exact (Below.refl _ _).alloc (Nat.le_refl _) _
    have hEz : E.heap.size = w5.heap.size + 1 := by rw [hE]; simp
    have HO6 := Lib.hid (HO5.out.below hEB (by omega))
    have HX16 := Lib.hid (HX15.out.below hEB (by omega))
    have HX26 := Lib.hid (HX2.out.below hEB (by omega))
    have HB6 := Lib.hid (HB5.out.trans (hEB.mono HB5.out.size))
    have hdl := dZip_len (l := xs) (Ps := Xs.map DepX.vals) (by rw [List.length_map, HO6.out.len])
    have hbd1 : ((dZip xs (Xs.map DepX.vals)).length + [c1, c2].length) * 72 ≤ 140737488355328 := by rw [hdl]; simp; omega
    have hbd2 : (dZip xs (Xs.map DepX.vals)).length + [c1, c2].length < 140737488355328 := by rw [hdl]; simp; omega
    have hbd3 : w1.heap.size ≤ E.heap.size := by omega
    have HR := Lib.hid hr
    have HN := Lib.hid hone
    have HD := Lib.hid (And.intro hd1 hd2)
    have HE := Lib.hid hE
    clear hdl hr hone hd1 hd2 hEB HO5 HX15 HX2 HB5 hE hc1 hc2
    go_wp2_with (at_builtin; rw [← HE.out]; refine wp_own_appsM dCells 5 72 dCells_len HN.out Tryz.underlying25 infoDep rfl (by decide) HO6.out.row rfl _ _ rfl rfl w5.heap.size 0 2 2 rfl rfl HR.out hbd1 hbd2 hbd3 ?_; intro v8 w8 hrow hB8 hg8 _)
    have hz8 := hB8.size
    have HXX := Lib.hid hrow
    have hrow2 := HXX.out
    rw [← HD.out.1, ← HD.out.2] at hrow2
    have hA := DependencySO.two_at (e := 37) (by decide) (by decide) (D := w8.heap.size) (HO6.out.mono (Nat.le_refl _) (Nat.le_refl _)) (by omega) hrow2 hg8 (row_inside hrow2 (Nat.le_refl _)) (HX16.out.mono (by omega) (by omega)) (HX26.out.mono (by omega) (by omega))
    have HA := Lib.hid hA
    have HB8 := Lib.hid (HB6.out.trans (hB8.mono hz1))
    clear hrow hrow2 HXX hA HO6 HX16 HX26 HB6 hB8 hg8 HR HN
    obtain ⟨vP, vc, rfl, -, -⟩ := HA.out.form
    go_wp2_with fail
    refine (l3Sigs_c _).mono ?_; rintro e w9 ⟨rfl, hw9⟩
    have hO9 := sigs5_own w8
    rw [← hw9] at hO9
    have hb9 : Below w8.heap.size w8 w9 := by rw [hw9]; exact (Below.refl _ _).alloc (Nat.le_refl _) _
    clear hw9
    go_wp2_with fail
    refine bodyPost_ret (v := .tuple #[.slice (some ⟨w8.heap.size, 0, none⟩) 5 5, .slice vP (xs ++ [x1, x2]).length vc]) (by simp [results, Tryz.results73, go_sem]) rfl ?_
    refine ⟨_, _, xs ++ [x1, x2], rfl, ⟨_, by omega, hO9⟩, HA.out.later hb9, by simp; omega, fun x hx => ?_, HB8.out.trans (hb9.mono HB8.out.size)⟩
    rcases List.mem_append.1 hx with h | h
    · exact HS.out x h
    · simp only [List.mem_cons, List.not_mem_nil, or_false] at h
      rcases h with rfl | rfl
      · exact HS1.out
      · exact HS2.out
set_option maxHeartbeats 400000 in
theorem drawFmtDeps_c (cv : Value) (code : List UInt8) (w : World) (hc : CodeAt w w.heap.size cv code) (hlen : code.length ≤ 1048576) :
    Calls Tryz.prog 11 #[cv] w fun e w' => ∃ v u xs, e = .returned (.tuple #[v, u]) ∧ (∃ B, w.heap.size < B ∧ OwnRels B v sigs5 w') ∧ DependencyS_at w' w'.heap.size u xs ∧ xs.length ≤ 6 ∧ (∀ x ∈ xs, DepSmall 3 x) ∧ Below w.heap.size w w' := by
  go_enter Tryz.func11, Tryz.ntmps11
  go_wp2_with fail
  refine (drawDeps_c cv code _ hc hlen).mono ?_; rintro e w1 ⟨v, u, xs, rfl, hR, hD, hl, hs, hb⟩
  go_wp2_with fail
  refine bodyPost_ret (v := .tuple #[v, u]) (by simp [results, Tryz.results11, go_sem]) rfl ?_
  exact ⟨_, _, xs, rfl, hR, hD, hl, hs, hb⟩

def depsOk (l : List Rel) (xs : List Dep) : Bool := validRels l && (decide (xs.length ≤ 5) && xs.all (depOk l))

/-- the texts of several dependencies, a semicolon between -/
def joinDeps (l : List Rel) (xs : List Dep) : List UInt8 := Lib.join (xs.map (fmtDep l)) [59]
def fmtDeps (l : List Rel) (xs : List Dep) : List UInt8 := if depsOk l xs = true then joinDeps l xs else []
theorem joinDeps_one (l : List Rel) (ts : List Dep) (h : 0 < ts.length) : joinDeps l (ts.take 1) = fmtDep l ts[0] := by
  unfold joinDeps
  cases ts with
  | nil => simp at h
  | cons r t => simp [Lib.join_one]
theorem joinDeps_succ (l : List Rel) (ts : List Dep) (k : Nat) (h0 : 0 < k) (h : k < ts.length) : joinDeps l (ts.take (k + 1)) = joinDeps l (ts.take k) ++ ([59] ++ fmtDep l ts[k]) := by
  unfold joinDeps
  cases ts with
  | nil => simp at h
  | cons r t =>
    obtain ⟨j, rfl⟩ : ∃ j, k = j + 1 := ⟨k - 1, by omega⟩
    rw [List.take_succ_cons, List.take_succ_cons, List.map_cons, List.map_cons, Lib.join_cons, Lib.join_cons, List.map_take, List.map_take]
    have hj : j < t.length := by simpa using h
    rw [Lib.joinTail_take_succ [59] (t.map (fmtDep l)) j (fmtDep l t[j]) (by simp [hj])]
    simp
theorem joinDeps_len (l : List Rel) (ts : List Dep) (k : Nat) (hk : k ≤ ts.length) : (joinDeps l (ts.take k)).length ≤ 22 * k := by
  induction k with
  | zero => exact Nat.le_of_eq rfl
  | succ k ih =>
    have h1 := fmtDep_len l ts[k]
    rcases Nat.eq_zero_or_pos k with h0 | h0
    · subst h0; rw [joinDeps_one l ts (by omega)]; omega
    · rw [joinDeps_succ l ts k h0 (by omega)]
      have := ih (by omega)
      simp only [List.length_append, List.length_cons, List.length_nil]; omega
/-- all pieces read as dependencies -/
def toDeps (l : List Rel) : List (List UInt8) → Option (List Dep)
  | [] => some []
  | t :: r => match parseDep l t with
    | some x => (toDeps l r).map (x :: ·)
    | none => none
theorem toDeps_fmt {l : List Rel} (xs : List Dep) (h : ∀ x ∈ xs, depOk l x = true) : toDeps l (xs.map (fmtDep l)) = some xs := by
  induction xs with
  | nil => rfl
  | cons v t ih => rw [List.map_cons, toDeps, (parseDep_iff l _ v).2 ⟨h v (by simp), rfl⟩, ih (fun x hx => h x (by simp [hx]))]; rfl
theorem toDeps_snoc {l : List Rel} (a : List (List UInt8)) (t : List UInt8) (xs : List Dep) (x : Dep) (h : toDeps l a = some xs) (ht : parseDep l t = some x) : toDeps l (a ++ [t]) = some (xs ++ [x]) := by
  induction a generalizing xs with
  | nil => simp [toDeps] at h; subst h; simp [toDeps, ht]
  | cons y q ih =>
    rw [toDeps] at h
    rw [List.cons_append, toDeps]
    split at h
    · rename_i z hz
      cases hq : toDeps l q with
      | none => rw [hq] at h; cases h
      | some m =>
        rw [hq] at h
        cases h
        rw [ih m hq]; rfl
    · cases h
theorem toDeps_none {l : List Rel} (a b : List (List UInt8)) (t : List UInt8) (h : parseDep l t = none) : toDeps l (a ++ t :: b) = none := by
  induction a with
  | nil => simp [toDeps, h]
  | cons x r ih =>
    rw [List.cons_append, toDeps, ih]
    split <;> rfl
theorem toDeps_back {l : List Rel} (a : List (List UInt8)) (xs : List Dep) (h : toDeps l a = some xs) : xs.map (fmtDep l) = a ∧ ∀ x ∈ xs, depOk l x = true := by
  induction a generalizing xs with
  | nil => simp [toDeps] at h; subst h; exact ⟨rfl, by simp⟩
  | cons y q ih =>
    rw [toDeps] at h
    split at h
    · rename_i z hz
      cases hq : toDeps l q with
      | none => rw [hq] at h; cases h
      | some m =>
        rw [hq] at h
        cases h
        have hs := (parseDep_iff l y z).1 hz
        refine ⟨by rw [List.map_cons, hs.2, (ih m hq).1], fun v hv => ?_⟩
        rcases List.mem_cons.1 hv with rfl | hv
        · exact hs.1
        · exact (ih m hq).2 v hv
    · cases h
/-- what ParseDependencies takes -/
def parseDeps (l : List Rel) (s : List UInt8) : Option (List Dep) := match (if s = [] then some [] else toDeps l (cutA 59 s)) with
  | some xs => if depsOk l xs = true then some xs else none
  | none => none
theorem depsOk_mem {l : List Rel} {xs : List Dep} (h : depsOk l xs = true) : validRels l = true ∧ xs.length ≤ 5 ∧ ∀ x ∈ xs, depOk l x = true := by
  unfold depsOk at h
  simp only [Bool.and_eq_true, decide_eq_true_eq, List.all_eq_true] at h
  exact ⟨h.1, h.2.1, h.2.2⟩
theorem deps_cut {l : List Rel} {xs : List Dep} (hne : xs ≠ []) : cutA 59 (joinDeps l xs) = xs.map (fmtDep l) := by
  cases xs with
  | nil => exact absurd rfl hne
  | cons f t =>
    unfold joinDeps
    rw [List.map_cons]
    refine cutA_join 59 _ _ (fun p hp => ?_)
    rw [← List.map_cons (f := fmtDep l)] at hp
    obtain ⟨g, _, rfl⟩ := List.mem_map.1 hp
    exact fmtDep_semi l g
theorem joinDeps_ne {l : List Rel} {xs : List Dep} (h : ∀ x ∈ xs, depOk l x = true) (h0 : joinDeps l xs = []) : xs = [] := by
  cases xs with
  | nil => rfl
  | cons f t =>
    unfold joinDeps at h0
    rw [List.map_cons, Lib.join_cons] at h0
    exact absurd (List.append_eq_nil_iff.1 h0).1 (fmtDep_ne.2 (h f (by simp)))
theorem parseDeps_iff (l : List Rel) (s : List UInt8) (xs : List Dep) : parseDeps l s = some xs ↔ depsOk l xs = true ∧ joinDeps l xs = s := by
  unfold parseDeps
  by_cases h0 : s = []
  · subst h0
    rw [if_pos rfl]
    simp only
    constructor
    · intro h
      split at h
      · rename_i hd; cases h; exact ⟨hd, rfl⟩
      · cases h
    · rintro ⟨h1, h2⟩
      obtain rfl := joinDeps_ne (depsOk_mem h1).2.2 h2
      rw [if_pos h1]
  · rw [if_neg h0]
    constructor
    · intro h
      split at h
      · rename_i ys hy
        split at h
        · rename_i hd
          cases h
          obtain ⟨e, _⟩ := toDeps_back _ _ hy
          refine ⟨hd, ?_⟩
          unfold joinDeps
          rw [e, join_cutA]
        · cases h
      · cases h
    · rintro ⟨h1, h2⟩
      have hne : xs ≠ [] := by rintro rfl; exact h0 h2.symm
      rw [← h2, deps_cut hne, toDeps_fmt xs (depsOk_mem h1).2.2]
      simp only
      rw [if_pos h1]
theorem fmtDeps_no {l : List Rel} {xs : List Dep} (h : depsOk l xs = false) : fmtDeps l xs = [] := if_neg (by rw [h]; simp)
theorem fmtDeps_yes {l : List Rel} {xs : List Dep} (h : depsOk l xs = true) : fmtDeps l xs = joinDeps l xs := if_pos h

def ParseDependencies_r0 (l : List Rel) (s : ByteArray) : List Dep := (parseDeps l s.data.toList).getD []
def ParseDependencies_ok (l : List Rel) (s : ByteArray) : Bool := (parseDeps l s.data.toList).isSome
theorem parseDeps_none {l : List Rel} {s : ByteArray} (h : parseDeps l s.data.toList = none) : ParseDependencies_r0 l s = [] ∧ ParseDependencies_ok l s = false := by unfold ParseDependencies_r0 ParseDependencies_ok; rw [h]; exact ⟨rfl, rfl⟩
theorem parseDeps_some {l : List Rel} {s : ByteArray} {xs : List Dep} (h : parseDeps l s.data.toList = some xs) : ParseDependencies_r0 l s = xs ∧ ParseDependencies_ok l s = true := by unfold ParseDependencies_r0 ParseDependencies_ok; rw [h]; exact ⟨rfl, rfl⟩
theorem parseDeps_stop {l : List Rel} {s : List UInt8} (h0 : s ≠ []) (k : Nat) (hk : k < (cutA 59 s).length) (h : parseDep l (cutA 59 s)[k] = none) : parseDeps l s = none := by
  have e : cutA 59 s = (cutA 59 s).take k ++ (cutA 59 s)[k] :: (cutA 59 s).drop (k + 1) := by rw [← List.drop_eq_getElem_cons hk, List.take_append_drop]
  have hn : toDeps l (cutA 59 s) = none := by rw [e]; exact toDeps_none _ _ _ h
  unfold parseDeps
  rw [if_neg h0, hn]
theorem parseDeps_end {l : List Rel} {s : List UInt8} {xs : List Dep} (h0 : s ≠ []) (h : toDeps l (cutA 59 s) = some xs) : parseDeps l s = if depsOk l xs = true then some xs else none := by
  unfold parseDeps
  rw [if_neg h0, h]
theorem parseDeps_nil {l : List Rel} {s : List UInt8} (h0 : s = []) : parseDeps l s = if depsOk l [] = true then some [] else none := by
  unfold parseDeps
  rw [if_pos h0]
theorem parseDep_ok_is {l : List Rel} {s : ByteArray} {q : Bool} (h : ParseDependency_ok l s = q) : (q = true → parseDep l s.data.toList = some (ParseDependency_r0 l s)) ∧ (q = false → parseDep l s.data.toList = none) := by
  subst h
  unfold ParseDependency_ok ParseDependency_r0
  cases parseDep l s.data.toList with
  | none => exact ⟨fun h => (by cases h), fun _ => rfl⟩
  | some x => exact ⟨fun _ => rfl, fun h => (by cases h)⟩
theorem readTgd_wf (l : List Rel) (hl : l.length ≤ 1048576) (s : List UInt8) : Dependency_wf (readTgd l s) := by
  unfold readTgd
  split
  · exact ⟨readAtoms_wf l hl _, readAtoms_wf l hl _, zero_i64, zero_i64⟩
  · exact ⟨fun i hi => absurd hi (by show ¬ i < 0; omega), fun i hi => absurd hi (by show ¬ i < 0; omega), zero_i64, zero_i64⟩
theorem readDep_wf (l : List Rel) (hl : l.length ≤ 1048576) (s : List UInt8) : Dependency_wf (readDep l s) := by
  unfold readDep
  split
  · rename_i a c d _
    have h1 := termOf_bd c
    have h2 := termOf_bd d
    exact ⟨readAtoms_wf l hl _, fun i hi => absurd hi (by show ¬ i < 0; omega), by show _ ≤ termOf c ∧ termOf c ≤ _; omega, by show _ ≤ termOf d ∧ termOf d ≤ _; omega⟩
  · exact readTgd_wf l hl s
theorem parseDep_wf (l : List Rel) (hl : l.length ≤ 1048576) (s : ByteArray) : Dependency_wf (ParseDependency_r0 l s) := by
  unfold ParseDependency_r0 parseDep
  split
  · exact readDep_wf l hl _
  · exact ⟨fun i hi => absurd hi (by show ¬ i < 0; omega), fun i hi => absurd hi (by show ¬ i < 0; omega), zero_i64, zero_i64⟩
theorem deps_wf_snoc {xs : List Dep} {x : Dep} (h : DependencyS_wf xs) (hx : Dependency_wf x) : DependencyS_wf (xs ++ [x]) := by
  intro i hi
  by_cases h1 : i < xs.length
  · rw [List.getElem_append_left h1]; exact h i h1
  · rw [List.getElem_append_right (by omega)]
    rw [List.length_append, List.length_singleton] at hi
    have : i - xs.length = 0 := by omega
    simp only [this, List.getElem_cons_zero]; exact hx

end Go.Proofs.YtmecdjincmkofaaGreatDoor
